/-
  Package message: Encode.
-/
import Derived.Test.YtmpkjjmgfakomaaDoorPmz
import Derived.Test.YtmpkjjmgfakomaaDoorPmu
namespace Go.Proofs.YtmpkjjmgfakomaaDoor
open Go.RowKit Mem Wire

set_option maxRecDepth 100000 in
set_option maxHeartbeats 4000000 in
theorem p_encode_any {w : World} (T : Tab w) {v : Value} {l : List AgV} (h : Ags w v l) (hL : Light l) (sg : ByteArray) {ob : Nat} (hob : ob < 4294967296) (oc : Int) :
    Calls Tryd.prog 12 #[.string sg, msVal ob oc v] w (GivesE (encT (sigK sg) ⟨ob, oc, agL l⟩) w) := by
  have C := fun W (hb : Below w.heap.size w W) => Lib.hid (p_check_any (T.below hb) (h.below hb) sg ob oc)
  have HA := Lib.hid h
  have HL := Lib.hid hL
  obtain ⟨A, cap, rfl, hcap, hm⟩ := h.shape
  simp only [maxLen] at hm
  have hn100 := hL.1
  have J := Lib.hid ((Held.nil w).alloc [.int .u32 (ob : Int), .int .i64 oc, .slice A l.length cap] 25)
  obtain ⟨n, hn⟩ : ∃ n, l.length = n := ⟨_, rfl⟩
  have HN := Lib.hid hn
  obtain ⟨r, hr⟩ : ∃ r, chkT (sigK sg) ⟨ob, oc, agL l⟩ = r := ⟨_, rfl⟩
  unfold encT
  dsimp only
  rw [hr] at C ⊢
  rw [hn] at hcap J HA C hn100 ⊢
  obtain ⟨y0, y1, y2, -, -⟩ := (show Held w _ ([] ++ (w.heap.size, _) :: []) from J.out).tri
  clear h hL hn T
  by_cases h0 : r = 0
  · subst h0
    rw [if_neg (by simp)]
    have hoc : 0 ≤ oc ∧ oc ≤ 65535 := by
      cases hs : sigK sg with
      | none => rw [hs] at hr; cases hr
      | some ks =>
        rw [hs] at hr
        unfold chkT at hr
        dsimp only at hr
        split at hr
        · cases hr
        split at hr
        · cases hr
        split at hr
        · cases hr
        omega
    have FP := fun (W : World) (A1 : Option Addr) (k1 c1 : Nat) (hs : Sees W (.slice A1 k1 c1) (bodT (agL l))) => Lib.hid (p_frame_put hs hob hoc.1 hoc.2 (bod_four _) (by have := HL.out.take l.length; rw [List.take_length] at this; omega))
    obtain ⟨X, hX⟩ : ∃ X, (if 4088 < (bodT (agL l)).length then ([], 5) else (enc4 ob ++ enc4 (headT (bodT (agL l)).length oc) ++ bodT (agL l), (0 : Int))) = X := ⟨_, rfl⟩
    rw [hX] at FP ⊢
    clear hr hX hoc
    go_enter Tryd.func12, Tryd.ntmps12
    go_wp2_with fail
    refine (C _ J.out.below).out.mono ?_
    rintro e w1 ⟨rfl, hb⟩
    replace J := Lib.hid (J.out.step hb)
    clear C hb y0 y1 y2
    obtain ⟨y0, y1, y2, -, -⟩ := (show Held w _ ([] ++ (w.heap.size, _) :: []) from J.out).tri
    go_wp2_with fail
    go_loopw [7, 19] (fun s7 s8 wr => ∃ (i : Nat) (A1 : Option Addr) (k1 c1 : Nat), i ≤ n ∧ s8 = .int .i64 (i : Int) ∧ s7 = .slice A1 k1 c1 ∧ Hid (Sees wr (.slice A1 k1 c1) (bodT (agL (l.take i)))) ∧ Hid (Held w wr [(w.heap.size, [.int .u32 (ob : Int), .int .i64 oc, .slice A n cap])])) (fun _ s8 _ => leftN n s8)
    case atStart => exact ⟨0, none, 0, 0, Nat.zero_le _, rfl, rfl, Lib.hid (sees_nil _), J⟩
    case round =>
      clear J y0 y1 y2
      obtain ⟨i, A1, k1, c1, hi, rfl, rfl, HS, J⟩ := hrel
      obtain ⟨y0, y1, y2, -, -⟩ := (show Held w wr ([] ++ (w.heap.size, _) :: []) from J.out).tri
      by_cases hlt : i < n
      · have q0 : (0 : Int) ≤ i := by omega
        have q1 : (i : Int) < n := by omega
        obtain ⟨p, hp⟩ : ∃ p, l[i]? = some p := ⟨_, List.getElem?_eq_getElem (by rw [HN.out]; exact hlt)⟩
        obtain ⟨b, off, rfl, hb, -, -⟩ := ags_at HA.out J.out.below hp
        obtain ⟨c0, c1', c2, c3⟩ := arg_cells HA.out hp J.out.below
        have OK := arg_ok HA.out hp J.out.below
        have hbt := bod_take hp
        have hlp := HL.out.2 p (List.mem_of_getElem? hp)
        have P := fun (W : World) (hb : Below wr.heap.size wr W) => Lib.hid (p_put_any (HS.out.below hb) (by have := HL.out.take i; omega) p (OK.below hb) hlp.1 hlp.2)
        rw [← hbt] at P
        have OKs := OK.shape
        obtain ⟨⟨kd, nn, ss, bb⟩, pv⟩ := p
        obtain ⟨A3, cap3, hv3, -, -⟩ := OKs
        dsimp only at hv3
        subst hv3
        dsimp only [agVal] at P c0 c1' c2 c3
        have JB := Lib.hid (J.out.alloc [.int .i64 kd, .int .i64 nn, .string ss, .slice A3 bb.length cap3] 43)
        have JW := Lib.hid ((Held.nil wr).alloc [.int .i64 kd, .int .i64 nn, .string ss, .slice A3 bb.length cap3] 43)
        clear OK hbt hlp hp HS FP
        generalize bb.length = bl at *
        go_wp2_with fail
        refine (P _ JW.out.below).out.mono ?_
        rintro e w2 ⟨v2, rfl, ho, hb2⟩
        obtain ⟨A2, c2, rfl, -, -⟩ := ho.sees.shape
        have HS2 := Lib.hid ho.sees
        replace JB := Lib.hid ((JB.out.step hb2).sub (List.sublist_cons_self _ _))
        clear P ho hb2 JW
        go_wp2_with fail
        go_roundw
        case rel => exact ⟨i + 1, A2, _, c2, by omega, by go_num, rfl, HS2, JB⟩
        case measure =>
          unfold leftN
          simp [intOf]
          omega
      · obtain rfl : n = i := by omega
        have hS := HS.out
        rw [List.take_of_length_le (by rw [HN.out]; omega)] at hS
        have F := FP wr A1 k1 c1 hS
        clear hS HS FP HL HA
        go_wp2_with fail
        refine F.out.mono ?_
        rintro e w2 ⟨v2, rfl, hs2, hb2⟩
        have HB2 := Lib.hid (J.out.step hb2).below
        have HS2 := Lib.hid hs2
        clear hb2 hs2 F
        obtain ⟨X1, X2⟩ := X
        go_wp2_with fail
        exact bodyPost_ret (v := .tuple #[v2, .int .i64 X2]) (by simp [results, Tryd.results12, go_sem]) rfl ⟨_, rfl, HS2.out, HB2.out⟩
  · rw [if_pos h0]
    clear hr
    go_enter Tryd.func12, Tryd.ntmps12
    go_wp2_with fail
    refine (C _ J.out.below).out.mono ?_
    rintro e w1 ⟨rfl, hb⟩
    replace J := Lib.hid (J.out.step hb)
    clear C hb y0 y1 y2
    go_wp2_with fail
    exact bodyPost_ret (v := .tuple #[.slice none 0 0, .int .i64 r]) (by simp [results, Tryd.results12, go_sem]) rfl ⟨_, rfl, sees_nil _, J.out.below⟩

end Go.Proofs.YtmpkjjmgfakomaaDoor
