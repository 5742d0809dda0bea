/-
  frame.Split.
-/
import Derived.Test.YtfmknjfhalkfhaaFeed
namespace Go.Proofs.Ytfmknjfhalkfhaa
open Go.RowKit Mem Wire

/-- what Split leaves -/
def SplitP (w : World) (tot : List UInt8) (e : Ending) (w' : World) : Prop :=
  ∃ fv l, e = .returned (.tuple #[fv, .int .i64 (taken (splitS tot).1 : Int), .int .i64 (splitS tot).2.2]) ∧ OwnF w' w.heap.size fv l ∧ fst l = (splitS tot).1 ∧ Below w.heap.size w w'

theorem OwnF.mono_sep {w : World} {base base' : Nat} {v : Value} {l : List (Fr × Value)} (h : OwnF w base v l) (hs : Sep w base l) (hb : base' ≤ base) : OwnF w base' v l := .of_sep (ownsRow_mono h.1 hb) (hs.mono hb)

theorem KeptBut.to_below {w w' : World} {g B : Nat} {row : Option Nat} (h : KeptBut w w' g row) (hB : B ≤ w.heap.size) (hg : B ≤ g) (hr : ∀ k, row = some k → B ≤ k) : Below B w w' :=
  ⟨h.os, h.tape, h.output, h.size, fun k hk => h.block k (by omega) (by omega) (fun e => by have := hr k e.symm; omega)⟩

theorem taken_take {l : List (Fr × Value)} {k : Nat} {p : Fr × Value} (h : l[k]? = some p) : taken (fst (l.take (k + 1))) = taken (fst (l.take k)) + (8 + p.1.b.length) := by
  have hk := (List.getElem?_eq_some_iff.1 h).1
  have he : l[k] = p := (List.getElem?_eq_some_iff.1 h).2
  rw [List.take_succ_eq_append_getElem hk, he, fst_append, taken_append]
  simp [fst, taken]

theorem taken_take_le (l : List (Fr × Value)) (k : Nat) : taken (fst (l.take k)) ≤ taken (fst l) := by
  have h : fst l = fst (l.take k) ++ fst (l.drop k) := by rw [← fst_append, List.take_append_drop]
  rw [h, taken_append]
  omega

/-- in the loop over the frames: k of them are counted -/
def Counting (w2 : World) (l : List (Fr × Value)) (k : Nat) (t : Nat) (wr : World) : Prop := t = taken (fst (l.take k)) ∧ Below w2.heap.size w2 wr

set_option maxHeartbeats 1000000 in
theorem split_any {w : World} {A : Option Addr} {n c : Nat} {p : List UInt8} (hp : Sees w (.slice A n c) p) (hlen : p.length ≤ 1000000) : Calls Try.prog 13 #[.slice A n c] w (SplitP w p) := by
  have HP := Lib.hid hp
  clear hp
  go_enter Try.func13, Try.ntmps13
  go_wp2_with fail
  refine (new_any w).mono ?_
  rintro e w1 ⟨g, rfl, hd, hb1⟩
  have HF := Lib.hid (feed_open (p := p) hd (HP.out.below hb1) (by simpa using hlen) hb1.size)
  have hge := hd.2.1
  have HD := Lib.hid hd
  clear hd
  go_wp2_with fail
  refine HF.out.mono ?_
  rintro e w2 ⟨fv, l, bv', rfl, hown, hsep, hfst, _, _, _, hkept⟩
  have hfs : feedS [] false p = ((splitS p).1, (splitS p).2.2, if (splitS p).2.2 = 0 then (splitS p).2.1 else [], decide ((splitS p).2.2 ≠ 0)) := by
    unfold feedS
    rw [if_neg (by decide), List.nil_append]
    by_cases he : (splitS p).2.2 = 0
    · rw [if_pos he, if_pos he, he]; rfl
    · rw [if_neg he, if_neg he, decide_eq_true he]
  rw [hfs] at hfst ⊢
  have hx : ∃ x, x = (splitS p).2.2 := ⟨_, rfl⟩
  obtain ⟨x, hx⟩ := hx
  dsimp only at hfst ⊢
  have hb2 : Below w.heap.size w w2 := hb1.trans (hkept.to_below hb1.size hge (fun k hk => by cases hk))
  have hown2 := Lib.hid (hown.mono_sep hsep hb1.size)
  have htk : taken (fst l) ≤ 1000000 := by
    have h1 := split_length p
    rw [← hfst] at h1
    omega
  have hfrs := hown.frs
  obtain ⟨A3, c3, rfl, hl3, hm3, _, hc3⟩ := hfrs
  have HFST := Lib.hid hfst
  have HX := Lib.hid hx
  rw [← hx]
  have hb2s := hb2.size
  clear hfs hown hsep hkept hfst hx HF HD
  simp only [maxLen] at hm3
  by_cases h0 : l = []
  · subst h0
    clear hc3 hl3
    go_wp2_with fail
    refine wp_loop_rounds 1 ?_
    rw [rounds_succ]
    go_wp2_with fail
    go_ret3
    refine ⟨_, [], ?_, hown2.out, HFST.out, hb2⟩
    rw [← HX.out, ← HFST.out]
    rfl
  · obtain ⟨b, off, rfl, hb, hc⟩ := hc3 (List.length_pos_iff.2 h0)
    have HC := Lib.hid hc
    have hseen : Hid (∀ q ∈ l, Sees w2 q.2 q.1.b) := fun q hq => (hown2.out.2 q hq).sees
    generalize hln : l.length = ln at *
    have HL := Lib.hid hln
    clear hc hln
    go_wp2_with fail
    go_loopw [7, 18] (fun t i wr => ∃ (k : Nat) (tk : Nat), k ≤ ln ∧ i = .int .i64 k ∧ t = .int .i64 tk ∧ Hid (Counting w2 l k tk wr)) (fun _ i _ => ln - (intOf i).toNat)
    case atStart => exact ⟨0, 0, Nat.zero_le _, rfl, rfl, by simp [fst, taken], Below.refl _ _⟩
    case round =>
      obtain ⟨k, tk, hk, rfl, rfl, hcn⟩ := hrel
      by_cases hlt : k < ln
      · obtain ⟨q, hq⟩ : ∃ q, l[k]? = some q := ⟨_, List.getElem?_eq_getElem (by rw [HL.out]; exact hlt)⟩
        obtain ⟨g0, g1, g2⟩ := HC.out k q hq
        obtain ⟨htk2, hbw⟩ := hcn.out
        rw [← hbw.cell (p := ⟨b, off + k * 3, none⟩) hb] at g0
        rw [← hbw.cell (p := ⟨b, off + k * 3 + 1, none⟩) hb] at g1
        rw [← hbw.cell (p := ⟨b, off + k * 3 + 2, none⟩) hb] at g2
        have hnew : Hid (taken (fst (l.take (k + 1))) = tk + (8 + q.1.b.length)) := by show _ = _; rw [taken_take hq, htk2]
        have hle : tk + (8 + q.1.b.length) ≤ 1000000 := by rw [← hnew.out]; have := taken_take_le l (k + 1); omega
        obtain ⟨A5, c5, hv5, hc5, hm5⟩ := (hseen.out q (List.mem_of_getElem? hq)).shape
        rw [hv5] at g2
        have hm6 : c5 ≤ 9223372036854775807 := by simpa [maxLen] using hm5
        have HBW := Lib.hid hbw
        clear hq hv5 htk2 hcn hbw hm5
        obtain ⟨⟨o, cc, bb⟩, sv⟩ := q
        dsimp only at *
        generalize bb.length = m at *
        go_wp2_with fail
        go_roundw
        case rel => exact ⟨k + 1, tk + (8 + m), by omega, by go_num, by go_num, hnew.out.symm, HBW.out.alloc HBW.out.size _⟩
        case measure => simp [intOf]; omega
      · go_wp2_with fail
        go_ret3
        have hkn : k = ln := by omega
        obtain ⟨h1, h2⟩ := hcn.out
        rw [hkn, ← HL.out, List.take_length] at h1
        refine ⟨_, l, ?_, hown2.out.below h2, HFST.out, hb2.trans (h2.mono hb2.size)⟩
        rw [← HX.out, ← HFST.out, h1]
        rfl

end Go.Proofs.Ytfmknjfhalkfhaa
