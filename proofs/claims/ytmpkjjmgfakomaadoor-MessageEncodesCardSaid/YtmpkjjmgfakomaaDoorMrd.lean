/-
  The reference's Encode.
-/
import Derived.Test.YtmpkjjmgfakomaaDoorMrc
import Derived.IntWalk
namespace Go.Proofs.YtmpkjjmgfakomaaDoor
open Go.RowKit Mem Wire

/-- arguments of a size for which the laws ask -/
def Light (l : List AgV) : Prop := l.length ≤ 100 ∧ ∀ p ∈ l, p.1.ss.size ≤ 2000 ∧ p.1.bb.length ≤ 2000

theorem encA_len (b : List UInt8) : (encA b).length ≤ b.length + 7 := by
  have := up_pad b.length
  have := up_ge b.length
  simp [encA, enc4]
  omega
theorem encG_len {p : AgV} (h1 : p.1.ss.size ≤ 2000) (h2 : p.1.bb.length ≤ 2000) : (encG p.1).length ≤ 2007 := by
  unfold encG
  split
  · have := encA_len (sl p.1.ss)
    rw [sl_len] at this
    omega
  · split
    · have := encA_len p.1.bb
      omega
    · simp [enc4]
theorem bod_len : ∀ (l : List AgV), (∀ p ∈ l, p.1.ss.size ≤ 2000 ∧ p.1.bb.length ≤ 2000) → (bodT (agL l)).length ≤ l.length * 2007
  | [], _ => Nat.le_refl _
  | p :: l, h => by
    have h1 := encG_len (h p (by simp)).1 (h p (by simp)).2
    have h2 := bod_len l (fun q hq => h q (by simp [hq]))
    show (encG p.1 ++ bodT (agL l)).length ≤ _
    rw [List.length_append, List.length_cons]
    omega
theorem bod_take {l : List AgV} {i : Nat} {p : AgV} (h : l[i]? = some p) : bodT (agL (l.take (i + 1))) = bodT (agL (l.take i)) ++ encG p.1 := by
  unfold agL bodT
  rw [List.take_add_one, h, List.map_append, List.flatMap_append]
  simp
theorem Light.take {l : List AgV} (h : Light l) (i : Nat) : (bodT (agL (l.take i))).length ≤ 200700 := by
  have h1 := bod_len (l.take i) (fun p hp => h.2 p (List.mem_of_mem_take hp))
  have h2 : (l.take i).length ≤ 100 := by rw [List.length_take]; have := h.1; omega
  omega

/-- bytes and an error, with nothing older turned -/
def GivesE (x : List UInt8 × Int) (w : World) (e : Ending) (w' : World) : Prop := ∃ v, e = .returned (.tuple #[v, .int .i64 x.2]) ∧ Sees w' v x.1 ∧ Below w.heap.size w w'

set_option maxRecDepth 100000 in
set_option maxHeartbeats 4000000 in
theorem encode_any {w : World} {v : Value} {l : List AgV} (h : Ags w v l) (hL : Light l) (sg : ByteArray) {ob : Nat} (hob : ob < 4294967296) (oc : Int) :
    Calls Tryd.prog 13 #[.string sg, msVal ob oc v] w (GivesE (encT (sigK sg) ⟨ob, oc, agL l⟩) w) := by
  have C := fun W (hb : Below w.heap.size w W) => Lib.hid (check_any (h.below hb) sg ob oc (by have := hL.1; omega))
  have HA := Lib.hid h
  have HL := Lib.hid hL
  obtain ⟨A, cap, rfl, hcap, hm⟩ := h.shape
  simp only [maxLen] at hm
  have hn100 := hL.1
  have J := Lib.hid ((Held.nil w).alloc [.int .u32 (ob : Int), .int .i64 oc, .slice A l.length cap] 25)
  obtain ⟨n, hn⟩ : ∃ n, l.length = n := ⟨_, rfl⟩
  have HN := Lib.hid hn
  obtain ⟨r, hr⟩ : ∃ r, chkT (sigK sg) ⟨ob, oc, agL l⟩ = r := ⟨_, rfl⟩
  unfold encT
  dsimp only
  rw [hr] at C ⊢
  rw [hn] at hcap J HA C hn100 ⊢
  obtain ⟨y0, y1, y2, -, -⟩ := (show Held w _ ([] ++ (w.heap.size, _) :: []) from J.out).tri
  clear h hL hn
  by_cases h0 : r = 0
  · subst h0
    rw [if_neg (by simp)]
    have hoc : Hid (0 ≤ oc ∧ oc ≤ 65535) := Lib.hid (by
      cases hs : sigK sg with
      | none => rw [hs] at hr; cases hr
      | some ks =>
        rw [hs] at hr
        unfold chkT at hr
        dsimp only at hr
        split at hr
        · cases hr
        split at hr
        · cases hr
        split at hr
        · cases hr
        omega)
    clear hr
    obtain ⟨X, hX⟩ : ∃ X, (if 4088 < (bodT (agL l)).length then ([], 5) else (enc4 ob ++ enc4 (headT (bodT (agL l)).length oc) ++ bodT (agL l), (0 : Int))) = X := ⟨_, rfl⟩
    rw [hX]
    replace hX := Lib.hid hX
    go_enter Tryd.func13, Tryd.ntmps13
    go_wp2_with fail
    refine (C _ J.out.below).out.mono ?_
    rintro e w1 ⟨rfl, hb⟩
    replace J := Lib.hid (J.out.step hb)
    clear C hb y0 y1 y2
    go_wp2_with fail
    go_loopw [7, 8] (fun s7 s8 wr => ∃ (i : Nat) (A1 : Option Addr) (k1 c1 : Nat), i ≤ n ∧ s8 = .int .i64 (i : Int) ∧ s7 = .slice A1 k1 c1 ∧ Hid (Sees wr (.slice A1 k1 c1) (bodT (agL (l.take i)))) ∧ Hid (Held w wr [(w.heap.size, [.int .u32 (ob : Int), .int .i64 oc, .slice A n cap])])) (fun _ s8 _ => leftN n s8)
    case atStart => exact ⟨0, none, 0, 0, Nat.zero_le _, rfl, rfl, Lib.hid (sees_nil _), J⟩
    case round =>
      clear J
      obtain ⟨i, A1, k1, c1, hi, rfl, rfl, HS, J⟩ := hrel
      obtain ⟨y0, y1, y2, -, -⟩ := (show Held w wr ([] ++ (w.heap.size, _) :: []) from J.out).tri
      by_cases hlt : i < n
      · have q0 : (0 : Int) ≤ i := by omega
        have q1 : (i : Int) < n := by omega
        obtain ⟨p, hp⟩ : ∃ p, l[i]? = some p := ⟨_, List.getElem?_eq_getElem (by rw [HN.out]; exact hlt)⟩
        obtain ⟨b, off, rfl, hb, -, -⟩ := ags_at HA.out J.out.below hp
        obtain ⟨c0, c1', c2, c3⟩ := arg_cells HA.out hp J.out.below
        have OK := arg_ok HA.out hp J.out.below
        have hbt := bod_take hp
        have hlp := HL.out.2 p (List.mem_of_getElem? hp)
        have P := Lib.hid (put13_any HS.out (by have := HL.out.take i; omega) p OK hlp.1 hlp.2)
        rw [← hbt] at P
        obtain ⟨⟨kd, nn, ss, bb⟩, pv⟩ := p
        dsimp only [agVal] at P c0 c1' c2 c3
        clear OK hbt hlp hp HS
        go_wp2_with fail
        refine P.out.mono ?_
        rintro e w2 ⟨v2, rfl, ho, hb2⟩
        obtain ⟨A2, c2, rfl, -, -⟩ := ho.sees.shape
        have HS2 := Lib.hid ho.sees
        replace J := Lib.hid (J.out.step hb2)
        clear P ho hb2
        go_wp2_with fail
        go_roundw
        case rel => exact ⟨i + 1, A2, _, c2, by omega, by go_num, rfl, HS2, J⟩
        case measure =>
          unfold leftN
          simp [intOf]
          omega
      · obtain rfl : n = i := by omega
        have hS := HS.out
        rw [List.take_of_length_le (by rw [HN.out]; omega)] at hS
        have hk : k1 = (bodT (agL l)).length := by
          obtain ⟨_, _, e, _⟩ := hS.shape
          injection e
        have hbl := HL.out.take l.length
        rw [List.take_length] at hbl
        obtain ⟨bs, hbs⟩ : ∃ bs, bodT (agL l) = bs := ⟨_, rfl⟩
        have hx := hX.out
        rw [hbs] at hS hk hbl hx
        rw [← hk] at hbl hx
        replace HS := Lib.hid hS
        have HK := Lib.hid hk
        clear hS hk hbs HL HA hX
        by_cases hbig : 4088 < k1
        · have e1 : (4096 : Int) < (k1 : Int) + 8 := by omega
          rw [if_pos hbig] at hx
          subst hx
          go_wp2_with fail
          exact bodyPost_ret (v := .tuple #[.slice none 0 0, .int .i64 5]) (by simp [results, Tryd.results13, go_sem]) rfl ⟨_, rfl, sees_nil _, J.out.below⟩
        · have e1 : ¬ (4096 : Int) < (k1 : Int) + 8 := by omega
          rw [if_neg hbig] at hx
          subst hx
          have e2 : (k1 : Int) + 8 ≤ 4096 := by omega
          have hh := hoc.out
          obtain ⟨hd, hhd⟩ : ∃ hd, headT k1 oc = hd := ⟨_, rfl⟩
          have hhn : ((k1 : Int) + 8) * 65536 + oc = (hd : Int) := by
            rw [← hhd]
            unfold headT
            omega
          have hlt4 : hd < 4294967296 := by omega
          have HHD := Lib.hid hhd
          have HLEN := Lib.hid (show (enc4 ob ++ enc4 hd).length + bs.length ≤ 140737488355328 by rw [show (enc4 ob ++ enc4 hd).length = 8 from rfl, ← HK.out]; omega)
          have D1 : ∀ W, Hid (Calls Tryd.prog 25 #[.slice none 0 0, .int .u32 (ob : Int)] W (Puts W (enc4 ob))) := fun W => Lib.hid (by
            have := ref_uint ob hob (sees_nil W) (by simp)
            rw [List.nil_append] at this
            exact this)
          have D2 := fun (W : World) (A : Option Addr) (n c : Nat) (hs : Sees W (.slice A n c) (enc4 ob)) => Lib.hid (ref_uint hd hlt4 hs (by simp [enc4]))
          have HB1 := J.out.below
          obtain ⟨z1, hz1⟩ : ∃ z1 : Int, ((k1 : Int) + 8) * 65536 = z1 := ⟨_, rfl⟩
          rw [hz1] at hhn
          have G1 := Lib.hid (IntWalk.i64_in ((k1 : Int) + 8) (by omega))
          have G2 := Lib.hid (show IntKind.i64.wrap (((k1 : Int) + 8) * 65536) = z1 by rw [hz1]; exact IntWalk.i64_in _ (by omega))
          have G3 := Lib.hid (show IntKind.i64.wrap (z1 + oc) = (hd : Int) by rw [hhn]; exact IntWalk.i64_in _ (by omega))
          have G4 := Lib.hid (show IntKind.u32.wrap (hd : Int) = (hd : Int) by rw [IntKind.wrap_u32]; omega)
          clear hhn hz1 hhd hh hoc HB1
          go_upto_region 11 with (fail)
          replace J := Lib.hid J.out.drew
          replace HS := Lib.hid HS.out.drew
          have sk := And.intro (J.out.tri (l1 := [])).1 (J.out.tri (l1 := [])).2.1
          have g1 := G1.out
          have g2 := G2.out
          have g3 := G3.out
          have g4 := G4.out
          go_region_held3 (fun W => W.cell? ⟨w.heap.size, 0, none⟩ = some (.int .u32 (ob : Int)) ∧ W.cell? ⟨w.heap.size, 1, none⟩ = some (.int .i64 oc))
            (first
              | exact sk
              | go_keep)
            (first
              | (go_at_call 25; (with_reducible refine (D1 _).out.mono ?_); rintro e wq ⟨v1, rfl, ho, hb2⟩; obtain ⟨A4, c4, hv, -, -⟩ := ho.sees.shape; rw [show (enc4 ob).length = 4 from rfl] at hv; subst hv; have DD := D2 _ _ _ _ ho.sees; replace J := Lib.hid (J.out.step hb2); replace HS := Lib.hid (HS.out.below hb2); clear sk hb2 ho; have sk := And.intro (J.out.tri (l1 := [])).1 (J.out.tri (l1 := [])).2.1)
              | (go_at_call 25; (with_reducible refine DD.out.mono ?_); rintro e wq ⟨v1, rfl, ho, hb2⟩; obtain ⟨A5, c5, hv, -, -⟩ := ho.sees.shape; rw [show (enc4 ob ++ enc4 hd).length = 8 from rfl] at hv; subst hv; have HO := Lib.hid (ho.mono J.out.below.size); replace J := Lib.hid (J.out.step hb2); replace HS := Lib.hid (HS.out.below hb2); clear sk hb2 ho DD; have sk := And.intro (J.out.tri (l1 := [])).1 (J.out.tri (l1 := [])).2.1)
              | fail)
          all_goals
            clear g1 g2 g3 g4 sk
            go_wp2_with (at_builtin; refine wpList_app rfl (.tmp 46) (.tmp 47) rfl rfl HO.out rfl HS.out HLEN.out J.out.below.size ?_; intro v5 w5 ho5 hg5 _)
            obtain ⟨A6, c6, rfl, -, -⟩ := ho5.sees.shape
            have HB5 := Lib.hid (J.out.below.grown hg5 J.out.below.size (fun k e => (HO.out.block k e).1))
            have HS5 := Lib.hid ho5.sees
            clear ho5 hg5
            go_wp2_with fail
            exact bodyPost_ret (v := .tuple #[.slice A6 (enc4 ob ++ enc4 hd ++ bs).length c6, .int .i64 0]) (by simp [results, Tryd.results13, go_sem]) rfl ⟨_, rfl, (show Sees _ _ (enc4 ob ++ enc4 (headT k1 oc) ++ bs) by rw [HHD.out]; exact HS5.out), HB5.out⟩
  · rw [if_pos h0]
    clear hr
    go_enter Tryd.func13, Tryd.ntmps13
    go_wp2_with fail
    refine (C _ J.out.below).out.mono ?_
    rintro e w1 ⟨rfl, hb⟩
    replace J := Lib.hid (J.out.step hb)
    clear C hb y0 y1 y2
    go_wp2_with fail
    exact bodyPost_ret (v := .tuple #[.slice none 0 0, .int .i64 r]) (by simp [results, Tryd.results13, go_sem]) rfl ⟨_, rfl, sees_nil _, J.out.below⟩

end Go.Proofs.YtmpkjjmgfakomaaDoor
