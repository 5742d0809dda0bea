/-
  exampleHolds: the examples of the chapter.
-/
import Derived.Test.YtclnepijbnhdfaaTop2
import Derived.Test.YtclnepijbnhdfaaTop3
namespace Go.Proofs.Ytclnepijbnhdfaa
open Go.RowKit

/-- a law's answer b, and nothing that was there has turned -/
def Says (b : Bool) (w : World) (e : Ending) (w' : World) : Prop := e = .returned (.bool b) ∧ Below w.heap.size w w'

theorem rs_two (w : World) (p q : R) : Rs (w.alloc (.cells #[.int .i64 p.x0, .int .i64 p.y0, .int .i64 p.x1, .int .i64 p.y1, .int .i64 q.x0, .int .i64 q.y0, .int .i64 q.x1, .int .i64 q.y1] 32)) (.slice (some ⟨w.heap.size, 0, none⟩) 2 2) [p, q] := by
  refine ⟨_, 2, rfl, Nat.le_refl _, by simp [maxLen], fun _ => ⟨w.heap.size, 0, rfl, by simp, fun j t hj => ?_⟩⟩
  match j, hj with
  | 0, hj => simp only [List.getElem?_cons_zero, Option.some.injEq] at hj; subst hj; refine ⟨?_, ?_, ?_, ?_⟩ <;> (rw [World.cell?_alloc_at _ _ _ _ rfl]; rfl)
  | 1, hj => simp only [List.getElem?_cons_zero, List.getElem?_cons_succ, Option.some.injEq] at hj; subst hj; refine ⟨?_, ?_, ?_, ?_⟩ <;> (rw [World.cell?_alloc_at _ _ _ _ rfl]; rfl)
  | j + 2, hj => simp at hj

theorem rs_three (w : World) (p q r : R) : Rs (w.alloc (.cells #[.int .i64 p.x0, .int .i64 p.y0, .int .i64 p.x1, .int .i64 p.y1, .int .i64 q.x0, .int .i64 q.y0, .int .i64 q.x1, .int .i64 q.y1, .int .i64 r.x0, .int .i64 r.y0, .int .i64 r.x1, .int .i64 r.y1] 32)) (.slice (some ⟨w.heap.size, 0, none⟩) 3 3) [p, q, r] := by
  refine ⟨_, 3, rfl, Nat.le_refl _, by simp [maxLen], fun _ => ⟨w.heap.size, 0, rfl, by simp, fun j t hj => ?_⟩⟩
  match j, hj with
  | 0, hj => simp only [List.getElem?_cons_zero, Option.some.injEq] at hj; subst hj; refine ⟨?_, ?_, ?_, ?_⟩ <;> (rw [World.cell?_alloc_at _ _ _ _ rfl]; rfl)
  | 1, hj => simp only [List.getElem?_cons_zero, List.getElem?_cons_succ, Option.some.injEq] at hj; subst hj; refine ⟨?_, ?_, ?_, ?_⟩ <;> (rw [World.cell?_alloc_at _ _ _ _ rfl]; rfl)
  | 2, hj => simp only [List.getElem?_cons_zero, List.getElem?_cons_succ, Option.some.injEq] at hj; subst hj; refine ⟨?_, ?_, ?_, ?_⟩ <;> (rw [World.cell?_alloc_at _ _ _ _ rfl]; rfl)
  | j + 3, hj => simp at hj

theorem ex1 : combP orB [⟨0, 0, 2, 2⟩, ⟨1, 1, 3, 3⟩] [] = [⟨0, 0, 2, 1⟩, ⟨0, 1, 3, 2⟩, ⟨1, 2, 3, 3⟩] := sameL_iff.1 (by decide +kernel)
theorem ex2 : combP orB [⟨0, 0, 1, 2⟩, ⟨1, 0, 2, 2⟩] [] = [⟨0, 0, 2, 2⟩] := sameL_iff.1 (by decide +kernel)
theorem ex3 : combP (fun x y => x && !y) [⟨0, 0, 3, 1⟩] [⟨1, 0, 2, 1⟩] = [⟨0, 0, 1, 1⟩, ⟨2, 0, 3, 1⟩] := sameL_iff.1 (by decide +kernel)
theorem ex4 : combP orB [⟨0, 0, 2, 1⟩, ⟨0, 1, 3, 2⟩, ⟨1, 2, 3, 3⟩] [] = [⟨0, 0, 2, 1⟩, ⟨0, 1, 3, 2⟩, ⟨1, 2, 3, 3⟩] := sameL_iff.1 (by decide +kernel)
theorem ex5 : sumP [⟨0, 0, 2, 1⟩, ⟨0, 1, 3, 2⟩, ⟨1, 2, 3, 3⟩] = 7 := by decide +kernel

/-- a list within the limit -/
theorem lim_ok {L : List R} {w w' : World} {e : Ending} (h : Lim L w e w') (hl : L.length ≤ 256) : ∃ t, e = .returned (.tuple #[t, .int .i64 0]) ∧ Rs w' t L ∧ Below w.heap.size w w' := by
  obtain ⟨t, rfl, ho, hb⟩ := h
  rw [if_pos hl] at ho
  rw [if_pos hl]
  exact ⟨t, rfl, ho.rs, hb⟩

set_option maxRecDepth 100000 in
set_option maxHeartbeats 4000000 in
theorem example_any (w : World) : Calls Try.prog 10 #[] w (Says true w) := by
  have K : Hid (Below w.heap.size w w) := Lib.hid (Below.refl _ _)
  go_enter Try.func10, Try.ntmps10
  go_wp2_with fail
  refine (new_any (rs_two w ⟨0, 0, 2, 2⟩ ⟨1, 1, 3, 3⟩) (by simp)).mono ?_
  rw [ex1]
  rintro e w1 hL
  obtain ⟨t1, rfl, r1, hb1⟩ := lim_ok hL (by simp)
  replace K := Lib.hid ((K.out.alloc K.out.size _).trans (hb1.mono (K.out.alloc K.out.size _).size))
  have R1 := Lib.hid r1
  clear hL hb1 r1
  go_wp2_with fail
  refine (new_any (rs_two w1 ⟨0, 0, 1, 2⟩ ⟨1, 0, 2, 2⟩) (by simp)).mono ?_
  rw [ex2]
  rintro e w2 hL
  obtain ⟨t2, rfl, r2, hb2⟩ := lim_ok hL (by simp)
  replace K := Lib.hid ((K.out.alloc K.out.size _).trans (hb2.mono (K.out.alloc K.out.size _).size))
  replace R1 := Lib.hid (R1.out.below (((Below.refl _ w1).alloc (Nat.le_refl _) _).trans (hb2.mono ((Below.refl _ w1).alloc (Nat.le_refl _) _).size)))
  have R2 := Lib.hid r2
  clear hL hb2 r2
  go_wp2_with fail
  have ra := rs_one w2 ⟨0, 0, 3, 1⟩
  have rb := rs_one (w2.alloc (.cells #[.int .i64 0, .int .i64 0, .int .i64 3, .int .i64 1] 32)) ⟨1, 0, 2, 1⟩
  rw [show (w2.alloc (.cells #[.int .i64 0, .int .i64 0, .int .i64 3, .int .i64 1] 32)).heap.size = w2.heap.size + 1 by simp] at rb
  have b1 : Below w2.heap.size w2 (w2.alloc (.cells #[.int .i64 0, .int .i64 0, .int .i64 3, .int .i64 1] 32)) := (Below.refl _ w2).alloc (Nat.le_refl _) _
  have b2 := ((Below.refl (w2.alloc (.cells #[.int .i64 0, .int .i64 0, .int .i64 3, .int .i64 1] 32)).heap.size _).alloc (Nat.le_refl _) (.cells #[.int .i64 1, .int .i64 0, .int .i64 2, .int .i64 1] 32))
  refine (subt_any (ra.below b2) rb (by simp)).mono ?_
  rw [ex3]
  rintro e w3 hL
  obtain ⟨t3, rfl, r3, hb3⟩ := lim_ok hL (by simp)
  have b3 := (b1.trans (b2.mono b1.size))
  have b4 := b3.trans (hb3.mono b3.size)
  replace K := Lib.hid (K.out.trans (b4.mono K.out.size))
  replace R1 := Lib.hid (R1.out.below b4)
  replace R2 := Lib.hid (R2.out.below b4)
  have R3 := Lib.hid r3
  clear hL hb3 r3 ra rb b1 b2 b3 b4
  go_wp2_with fail
  refine (same_true (R1.out.below ((Below.refl _ w3).alloc (Nat.le_refl _) _)) (rs_three w3 ⟨0, 0, 2, 1⟩ ⟨0, 1, 3, 2⟩ ⟨1, 2, 3, 3⟩)).mono ?_
  rintro e w4 ⟨rfl, hb4⟩
  have b4 := ((Below.refl _ w3).alloc (Nat.le_refl _) _).trans (hb4.mono ((Below.refl _ w3).alloc (Nat.le_refl _) _).size)
  replace K := Lib.hid (K.out.trans (b4.mono K.out.size))
  replace R1 := Lib.hid (R1.out.below b4)
  replace R2 := Lib.hid (R2.out.below b4)
  replace R3 := Lib.hid (R3.out.below b4)
  clear hb4 b4
  go_wp2_with fail
  refine (same_true (R2.out.below ((Below.refl _ w4).alloc (Nat.le_refl _) _)) (rs_one w4 ⟨0, 0, 2, 2⟩)).mono ?_
  rintro e w5 ⟨rfl, hb5⟩
  have b5 := ((Below.refl _ w4).alloc (Nat.le_refl _) _).trans (hb5.mono ((Below.refl _ w4).alloc (Nat.le_refl _) _).size)
  replace K := Lib.hid (K.out.trans (b5.mono K.out.size))
  replace R1 := Lib.hid (R1.out.below b5)
  replace R3 := Lib.hid (R3.out.below b5)
  clear hb5 b5
  go_wp2_with fail
  refine (same_true (R3.out.below ((Below.refl _ w5).alloc (Nat.le_refl _) _)) (rs_two w5 ⟨0, 0, 1, 1⟩ ⟨2, 0, 3, 1⟩)).mono ?_
  rintro e w6 ⟨rfl, hb6⟩
  have b6 := ((Below.refl _ w5).alloc (Nat.le_refl _) _).trans (hb6.mono ((Below.refl _ w5).alloc (Nat.le_refl _) _).size)
  replace K := Lib.hid (K.out.trans (b6.mono K.out.size))
  replace R1 := Lib.hid (R1.out.below b6)
  clear hb6 b6
  go_wp2_with fail
  have C := areas_any R1.out (by simp)
  rw [ex4, ex5] at C
  refine C.mono ?_
  rintro e w7 ⟨rfl, hb7⟩
  replace K := Lib.hid (K.out.trans (hb7.mono K.out.size))
  clear C hb7
  go_wp2_with fail
  go_ret
  exact ⟨rfl, K.out⟩

end Go.Proofs.Ytclnepijbnhdfaa
