/-
  New, Union, Intersect, Subtract, IsCanonical of package region.
-/
import Derived.Test.YtclnepijbnhdfaaCanon
import Derived.Test.YtclnepijbnhdfaaRtop4
namespace Go.Proofs.Ytclnepijbnhdfaa
open Go.RowKit

theorem lim_gen {L : List R} {w w' : World} {e : Ending} (h : Lim L w e w') : ∃ (t : Value) (c : Int), e = .returned (.tuple #[t, .int .i64 c]) ∧ Lim L w (.returned (.tuple #[t, .int .i64 c])) w' := by
  obtain ⟨t, rfl, h2⟩ := h
  exact ⟨t, _, rfl, t, rfl, h2⟩

set_option maxRecDepth 100000 in
set_option maxHeartbeats 2000000 in
theorem new_any {w : World} {va : Value} {a : List R} (h : Rs w va a) (hl : a.length ≤ 1000) : Calls Try.prog 11 #[va] w (Lim (combP orB a []) w) := by
  have C := Lib.hid (canonical_any keeps_either rfl h (rs_nil w) (by simpa using hl))
  obtain ⟨A, c, rfl, _, _, jk⟩ := h
  generalize combP orB a [] = L at *
  clear jk
  go_enter Try.func11, Try.ntmps11
  go_wp2_with fail
  refine C.out.mono ?_
  rintro e w1 hL
  obtain ⟨t, c2, rfl, hL⟩ := lim_gen hL
  have HO := Lib.hid hL
  clear C hL
  go_wp2_with fail
  go_ret2
  exact HO.out

set_option maxRecDepth 100000 in
set_option maxHeartbeats 2000000 in
theorem union_any {w : World} {va vb : Value} {a b : List R} (h : Rs w va a) (hu : Rs w vb b) (hl : a.length + b.length ≤ 1000) : Calls Try.prog 22 #[va, vb] w (Lim (combP (fun x y => x || y) a b) w) := by
  have C := Lib.hid (canonical_any keeps_either rfl h hu hl)
  obtain ⟨A, c, rfl, _, _, jk⟩ := h
  obtain ⟨A', c', rfl, _, _, jk'⟩ := hu
  generalize combP (fun x y => x || y) a b = L at *
  clear jk jk'
  go_enter Try.func22, Try.ntmps22
  go_wp2_with fail
  refine C.out.mono ?_
  rintro e w1 hL
  obtain ⟨t, c2, rfl, hL⟩ := lim_gen hL
  have HO := Lib.hid hL
  clear C hL
  go_wp2_with fail
  go_ret2
  exact HO.out

set_option maxRecDepth 100000 in
set_option maxHeartbeats 2000000 in
theorem inter_any {w : World} {va vb : Value} {a b : List R} (h : Rs w va a) (hu : Rs w vb b) (hl : a.length + b.length ≤ 1000) : Calls Try.prog 24 #[va, vb] w (Lim (combP (fun x y => x && y) a b) w) := by
  have C := Lib.hid (canonical_any keeps_both rfl h hu hl)
  obtain ⟨A, c, rfl, _, _, jk⟩ := h
  obtain ⟨A', c', rfl, _, _, jk'⟩ := hu
  generalize combP (fun x y => x && y) a b = L at *
  clear jk jk'
  go_enter Try.func24, Try.ntmps24
  go_wp2_with fail
  refine C.out.mono ?_
  rintro e w1 hL
  obtain ⟨t, c2, rfl, hL⟩ := lim_gen hL
  have HO := Lib.hid hL
  clear C hL
  go_wp2_with fail
  go_ret2
  exact HO.out

set_option maxRecDepth 100000 in
set_option maxHeartbeats 2000000 in
theorem subt_any {w : World} {va vb : Value} {a b : List R} (h : Rs w va a) (hu : Rs w vb b) (hl : a.length + b.length ≤ 1000) : Calls Try.prog 26 #[va, vb] w (Lim (combP (fun x y => x && !y) a b) w) := by
  have C := Lib.hid (canonical_any keeps_first rfl h hu hl)
  obtain ⟨A, c, rfl, _, _, jk⟩ := h
  obtain ⟨A', c', rfl, _, _, jk'⟩ := hu
  generalize combP (fun x y => x && !y) a b = L at *
  clear jk jk'
  go_enter Try.func26, Try.ntmps26
  go_wp2_with fail
  refine C.out.mono ?_
  rintro e w1 hL
  obtain ⟨t, c2, rfl, hL⟩ := lim_gen hL
  have HO := Lib.hid hL
  clear C hL
  go_wp2_with fail
  go_ret2
  exact HO.out

set_option maxRecDepth 100000 in
set_option maxHeartbeats 2000000 in
theorem iscan_any {w : World} {va : Value} {a : List R} (h : Rs w va a) (hl : a.length ≤ 1000) : Calls Try.prog 14 #[va] w fun e w' => e = .returned (.bool (isCanP a)) ∧ Below w.heap.size w w' := by
  have C := Lib.hid (new_any h hl)
  have HA := Lib.hid h
  obtain ⟨r, hr⟩ : ∃ r, isCanP a = r := ⟨_, rfl⟩
  have HR := Lib.hid hr
  rw [hr]
  clear hr
  obtain ⟨A, c, rfl, hc, hm, jk⟩ := h
  obtain ⟨n, hn⟩ : ∃ n, a.length = n := ⟨_, rfl⟩
  have HN := Lib.hid hn
  rw [hn] at C HA ⊢
  obtain ⟨L, hL⟩ : ∃ L, combP orB a [] = L := ⟨_, rfl⟩
  have HL := Lib.hid hL
  rw [hL] at C
  clear jk hn hL
  by_cases h1 : L.length ≤ 256
  · have e2 : (if L.length ≤ 256 then 0 else 5 : Int) = 0 := if_pos h1
    go_enter Try.func14, Try.ntmps14
    go_wp2_with fail
    refine C.out.mono ?_
    rintro e w1 ⟨t, rfl, ho, hb⟩
    rw [e2]
    rw [if_pos h1] at ho
    have D : Hid (Calls Try.prog 37 #[t, .slice A n c] w1 fun e w' => e = .returned (.bool r) ∧ Below w1.heap.size w1 w') := Lib.hid (by
      have h2 := equal_any ho.rs (HA.out.below hb)
      have e3 : sameL L a = r := by
        rw [← HR.out]
        unfold isCanP
        rw [HL.out]
        cases h4 : sameL L a
        · cases h5 : sameL a L
          · simp
          · rw [sameL_iff.1 h5, sameL_refl] at h4; cases h4
        · have := sameL_iff.1 h4
          rw [← this, sameL_refl]
          simp [h1]
      rw [e3] at h2
      exact h2)
    have HB := Lib.hid hb
    obtain ⟨At, ct, rfl, _, _, _⟩ := id ho.rs
    clear C ho hb e2
    go_wp2_with fail
    refine D.out.mono ?_
    rintro e w2 ⟨rfl, hb2⟩
    clear D
    go_wp2_with fail
    go_ret
    exact ⟨rfl, HB.out.trans (hb2.mono HB.out.size)⟩
  · have e2 : (if L.length ≤ 256 then 0 else 5 : Int) = 5 := if_neg h1
    have e : r = false := by
      rw [← HR.out]
      unfold isCanP
      rw [HL.out]
      cases h5 : sameL a L
      · simp
      · have := sameL_iff.1 h5
        rw [this]
        simp [h1]
    subst e
    go_enter Try.func14, Try.ntmps14
    go_wp2_with fail
    refine C.out.mono ?_
    rintro e w1 ⟨t, rfl, ho, hb⟩
    rw [e2]
    have HB := Lib.hid hb
    clear C ho hb e2
    go_wp2_with fail
    (repeat (refine ⟨fun _ h => (by cases h), ?_⟩; go_wp2_with fail))
    go_ret
    exact ⟨rfl, HB.out⟩

end Go.Proofs.Ytclnepijbnhdfaa
