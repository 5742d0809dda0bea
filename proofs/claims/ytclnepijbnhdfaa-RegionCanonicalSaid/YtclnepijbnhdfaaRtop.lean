/-
  New, Union, Intersect, Subtract, IsCanonical, Equal, Contains of the reference.
-/
import Derived.Test.YtclnepijbnhdfaaRcom
namespace Go.Proofs.Ytclnepijbnhdfaa
open Go.RowKit

/-- what a limited region's call returns: the list, or nothing and the error of the limit -/
def Lim (L : List R) (w : World) (e : Ending) (w' : World) : Prop :=
  ∃ t, e = .returned (.tuple #[t, .int .i64 (if L.length ≤ 256 then 0 else 5)]) ∧ OwnR w' w.heap.size t (if L.length ≤ 256 then L else []) ∧ Below w.heap.size w w'

theorem lim_mk {w w' : World} {L : List R} {t : Value} (h : OwnR w' w.heap.size t L) (hb : Below w.heap.size w w') :
    Lim L w (.returned (.tuple #[if L.length ≤ 256 then t else .slice none 0 0, .int .i64 (if L.length ≤ 256 then 0 else 5)])) w' := by
  refine ⟨_, rfl, ?_, hb⟩
  split
  · exact h
  · exact ownR_nil _ _

set_option maxRecDepth 100000 in
set_option maxHeartbeats 2000000 in
theorem rnew_any {w : World} {va : Value} {a : List R} (h : Rs w va a) (hl : a.length ≤ 500) : Calls Try.prog 12 #[va] w (Lim (combP (fun x y => x || y) a []) w) := by
  have C := Lib.hid (combined_any h (rs_nil w) (mode := 1) (op := fun x y => x || y) (.inl ⟨rfl, rfl⟩) (by simpa using hl))
  obtain ⟨A, c, rfl, _, _, _⟩ := h
  generalize combP (fun x y => x || y) a [] = L at *
  go_enter Try.func12, Try.ntmps12
  go_wp2_with fail
  refine C.out.mono ?_
  rintro e w1 ⟨t, rfl, ho, hb⟩
  obtain ⟨t2, ht2⟩ : ∃ t2, (if L.length ≤ 256 then t else .slice none 0 0) = t2 := ⟨_, rfl⟩
  obtain ⟨c2, hc2⟩ : ∃ c2 : Int, (if L.length ≤ 256 then 0 else 5) = c2 := ⟨_, rfl⟩
  have D := Lib.hid (limited_any ho.rs)
  have HO := Lib.hid (lim_mk ho hb)
  rw [ht2, hc2] at D HO
  clear C ho ht2 hc2
  go_wp2_with fail
  refine D.out.mono ?_
  rintro e w2 ⟨rfl, rfl⟩
  clear D
  go_wp2_with fail
  go_ret2
  exact HO.out

set_option maxRecDepth 100000 in
set_option maxHeartbeats 2000000 in
theorem runion_any {w : World} {va vb : Value} {a b : List R} (h : Rs w va a) (hu : Rs w vb b) (hl : a.length + b.length ≤ 500) : Calls Try.prog 23 #[va, vb] w (Lim (combP (fun x y => x || y) a b) w) := by
  have C := Lib.hid (combined_any h hu (mode := 1) (op := fun x y => x || y) (.inl ⟨rfl, rfl⟩) hl)
  obtain ⟨A, c, rfl, _, _, _⟩ := h
  obtain ⟨A', c', rfl, _, _, _⟩ := hu
  generalize combP (fun x y => x || y) a b = L at *
  go_enter Try.func23, Try.ntmps23
  go_wp2_with fail
  refine C.out.mono ?_
  rintro e w1 ⟨t, rfl, ho, hb⟩
  obtain ⟨t2, ht2⟩ : ∃ t2, (if L.length ≤ 256 then t else .slice none 0 0) = t2 := ⟨_, rfl⟩
  obtain ⟨c2, hc2⟩ : ∃ c2 : Int, (if L.length ≤ 256 then 0 else 5) = c2 := ⟨_, rfl⟩
  have D := Lib.hid (limited_any ho.rs)
  have HO := Lib.hid (lim_mk ho hb)
  rw [ht2, hc2] at D HO
  clear C ho ht2 hc2
  go_wp2_with fail
  refine D.out.mono ?_
  rintro e w2 ⟨rfl, rfl⟩
  clear D
  go_wp2_with fail
  go_ret2
  exact HO.out

set_option maxRecDepth 100000 in
set_option maxHeartbeats 2000000 in
theorem rinter_any {w : World} {va vb : Value} {a b : List R} (h : Rs w va a) (hu : Rs w vb b) (hl : a.length + b.length ≤ 500) : Calls Try.prog 25 #[va, vb] w (Lim (combP (fun x y => x && y) a b) w) := by
  have C := Lib.hid (combined_any h hu (mode := 2) (op := fun x y => x && y) (.inr (.inl ⟨rfl, rfl⟩)) hl)
  obtain ⟨A, c, rfl, _, _, _⟩ := h
  obtain ⟨A', c', rfl, _, _, _⟩ := hu
  generalize combP (fun x y => x && y) a b = L at *
  go_enter Try.func25, Try.ntmps25
  go_wp2_with fail
  refine C.out.mono ?_
  rintro e w1 ⟨t, rfl, ho, hb⟩
  obtain ⟨t2, ht2⟩ : ∃ t2, (if L.length ≤ 256 then t else .slice none 0 0) = t2 := ⟨_, rfl⟩
  obtain ⟨c2, hc2⟩ : ∃ c2 : Int, (if L.length ≤ 256 then 0 else 5) = c2 := ⟨_, rfl⟩
  have D := Lib.hid (limited_any ho.rs)
  have HO := Lib.hid (lim_mk ho hb)
  rw [ht2, hc2] at D HO
  clear C ho ht2 hc2
  go_wp2_with fail
  refine D.out.mono ?_
  rintro e w2 ⟨rfl, rfl⟩
  clear D
  go_wp2_with fail
  go_ret2
  exact HO.out

set_option maxRecDepth 100000 in
set_option maxHeartbeats 2000000 in
theorem rsubt_any {w : World} {va vb : Value} {a b : List R} (h : Rs w va a) (hu : Rs w vb b) (hl : a.length + b.length ≤ 500) : Calls Try.prog 27 #[va, vb] w (Lim (combP (fun x y => x && !y) a b) w) := by
  have C := Lib.hid (combined_any h hu (mode := 3) (op := fun x y => x && !y) (.inr (.inr ⟨rfl, rfl⟩)) hl)
  obtain ⟨A, c, rfl, _, _, _⟩ := h
  obtain ⟨A', c', rfl, _, _, _⟩ := hu
  generalize combP (fun x y => x && !y) a b = L at *
  go_enter Try.func27, Try.ntmps27
  go_wp2_with fail
  refine C.out.mono ?_
  rintro e w1 ⟨t, rfl, ho, hb⟩
  obtain ⟨t2, ht2⟩ : ∃ t2, (if L.length ≤ 256 then t else .slice none 0 0) = t2 := ⟨_, rfl⟩
  obtain ⟨c2, hc2⟩ : ∃ c2 : Int, (if L.length ≤ 256 then 0 else 5) = c2 := ⟨_, rfl⟩
  have D := Lib.hid (limited_any ho.rs)
  have HO := Lib.hid (lim_mk ho hb)
  rw [ht2, hc2] at D HO
  clear C ho ht2 hc2
  go_wp2_with fail
  refine D.out.mono ?_
  rintro e w2 ⟨rfl, rfl⟩
  clear D
  go_wp2_with fail
  go_ret2
  exact HO.out

end Go.Proofs.Ytclnepijbnhdfaa
