/-
  Package state: slices.Clone at the four types of rows that a state has.
-/
import Derived.Test.YthedglfocjljjaaGreatDoorSrb
import Derived.Lib.Walk
import Derived.Laws.MakeOwn
namespace Go.Proofs.YthedglfocjljjaaGreatDoor
open Go.RowKit

set_option maxRecDepth 100000 in
set_option maxHeartbeats 2000000 in
theorem cloneB_any {w : World} {v : Value} {n : Nat} {xs : List Value} (h : Sn w 3 v n xs) (h1 : ∀ u ∈ xs, u.oneCell' = true) (hl : n ≤ 1000000) : Calls Tryz.prog 45 #[v] w fun e w' => ∃ u, e = .returned u ∧ w'.ownsRow w.heap.size 42 3 u n xs ∧ Below w.heap.size w w' := by
  have q22 : ∀ (w : World) (a : Option Addr) (n c n' c' : Nat), (binOp .eql 22 (.slice a n c) (.slice none n' c')).run Tryz.prog w = .ok (.bool a.isNone) w := fun w a n c n' c' => Lib.run_eql_slice_nil w _ _ a n c n' c' Tryz.underlying22
  have HA := Lib.hid h
  have HO1 := Lib.hid h1
  obtain ⟨A, c, rfl, hc, hm, hxl, hcell⟩ := h
  have HX := Lib.hid hxl
  cases A with
  | none =>
    have h0 : n = 0 := by
      apply Classical.byContradiction
      intro e
      obtain ⟨b, off, hA, _⟩ := hcell (by omega)
      cases hA
    subst h0
    have hx : xs = [] := List.eq_nil_of_length_eq_zero (by simpa using hxl)
    subst hx
    clear hcell hxl h1
    have q := fun W n c => q22 W none n c 0 0
    simp only [Option.isNone_none] at q
    clear q22
    go_enter Tryz.func45, Tryz.ntmps45
    go_wp2_with fail
    go_ret
    exact ⟨_, rfl, World.ownsRow_nil w _ 42 3, Below.refl _ _⟩
  | some ad =>
    have HL := Lib.hid hl
    have q := fun W n c => q22 W (some ad) n c 0 0
    simp only [Option.isNone_some] at q
    clear q22 hcell hl hxl h1
    go_enter Tryz.func45, Tryz.ntmps45
    go_wp2_with (at_builtin; refine wpList_appO rfl rowBf _ _ rfl (base := w.heap.size) (n := 0) (xs := []) rfl (own_empty w (Nat.le_refl _) 42 3) rfl (HA.out.below ((Below.refl _ _).alloc (Nat.le_refl _) _)) HO1.out (by have := HL.out; omega) (by simp) ?_; intro v5 w5 ho5 hg5 hw5)
    go_ret
    rw [List.nil_append, Nat.zero_add] at ho5
    refine ⟨_, rfl, ho5, ((Below.refl w.heap.size w).alloc (Nat.le_refl _) _).grown hg5 (by simp) (fun k hk => ?_)⟩
    injection hk with hk
    exact Nat.le_of_eq hk
set_option maxRecDepth 100000 in
set_option maxHeartbeats 2000000 in
theorem cloneP_any {w : World} {v : Value} {n : Nat} {xs : List Value} (h : Sn w 4 v n xs) (h1 : ∀ u ∈ xs, u.oneCell' = true) (hl : n ≤ 1000000) : Calls Tryz.prog 46 #[v] w fun e w' => ∃ u, e = .returned u ∧ w'.ownsRow w.heap.size 58 4 u n xs ∧ Below w.heap.size w w' := by
  have q22 : ∀ (w : World) (a : Option Addr) (n c n' c' : Nat), (binOp .eql 40 (.slice a n c) (.slice none n' c')).run Tryz.prog w = .ok (.bool a.isNone) w := fun w a n c n' c' => Lib.run_eql_slice_nil w _ _ a n c n' c' Tryz.underlying40
  have HA := Lib.hid h
  have HO1 := Lib.hid h1
  obtain ⟨A, c, rfl, hc, hm, hxl, hcell⟩ := h
  have HX := Lib.hid hxl
  cases A with
  | none =>
    have h0 : n = 0 := by
      apply Classical.byContradiction
      intro e
      obtain ⟨b, off, hA, _⟩ := hcell (by omega)
      cases hA
    subst h0
    have hx : xs = [] := List.eq_nil_of_length_eq_zero (by simpa using hxl)
    subst hx
    clear hcell hxl h1
    have q := fun W n c => q22 W none n c 0 0
    simp only [Option.isNone_none] at q
    clear q22
    go_enter Tryz.func46, Tryz.ntmps46
    go_wp2_with fail
    go_ret
    exact ⟨_, rfl, World.ownsRow_nil w _ 58 4, Below.refl _ _⟩
  | some ad =>
    have HL := Lib.hid hl
    have q := fun W n c => q22 W (some ad) n c 0 0
    simp only [Option.isNone_some] at q
    clear q22 hcell hl hxl h1
    go_enter Tryz.func46, Tryz.ntmps46
    go_wp2_with (at_builtin; refine wpList_appO rfl rowPx _ _ rfl (base := w.heap.size) (n := 0) (xs := []) rfl (own_empty w (Nat.le_refl _) 58 4) rfl (HA.out.below ((Below.refl _ _).alloc (Nat.le_refl _) _)) HO1.out (by have := HL.out; omega) (by simp) ?_; intro v5 w5 ho5 hg5 hw5)
    go_ret
    rw [List.nil_append, Nat.zero_add] at ho5
    refine ⟨_, rfl, ho5, ((Below.refl w.heap.size w).alloc (Nat.le_refl _) _).grown hg5 (by simp) (fun k hk => ?_)⟩
    injection hk with hk
    exact Nat.le_of_eq hk
set_option maxRecDepth 100000 in
set_option maxHeartbeats 2000000 in
theorem cloneR_any {w : World} {v : Value} {n : Nat} {xs : List Value} (h : Sn w 4 v n xs) (h1 : ∀ u ∈ xs, u.oneCell' = true) (hl : n ≤ 1000000) : Calls Tryz.prog 47 #[v] w fun e w' => ∃ u, e = .returned u ∧ w'.ownsRow w.heap.size 53 4 u n xs ∧ Below w.heap.size w w' := by
  have q22 : ∀ (w : World) (a : Option Addr) (n c n' c' : Nat), (binOp .eql 23 (.slice a n c) (.slice none n' c')).run Tryz.prog w = .ok (.bool a.isNone) w := fun w a n c n' c' => Lib.run_eql_slice_nil w _ _ a n c n' c' Tryz.underlying23
  have HA := Lib.hid h
  have HO1 := Lib.hid h1
  obtain ⟨A, c, rfl, hc, hm, hxl, hcell⟩ := h
  have HX := Lib.hid hxl
  cases A with
  | none =>
    have h0 : n = 0 := by
      apply Classical.byContradiction
      intro e
      obtain ⟨b, off, hA, _⟩ := hcell (by omega)
      cases hA
    subst h0
    have hx : xs = [] := List.eq_nil_of_length_eq_zero (by simpa using hxl)
    subst hx
    clear hcell hxl h1
    have q := fun W n c => q22 W none n c 0 0
    simp only [Option.isNone_none] at q
    clear q22
    go_enter Tryz.func47, Tryz.ntmps47
    go_wp2_with fail
    go_ret
    exact ⟨_, rfl, World.ownsRow_nil w _ 53 4, Below.refl _ _⟩
  | some ad =>
    have HL := Lib.hid hl
    have q := fun W n c => q22 W (some ad) n c 0 0
    simp only [Option.isNone_some] at q
    clear q22 hcell hl hxl h1
    go_enter Tryz.func47, Tryz.ntmps47
    go_wp2_with (at_builtin; refine wpList_appO rfl rowRc _ _ rfl (base := w.heap.size) (n := 0) (xs := []) rfl (own_empty w (Nat.le_refl _) 53 4) rfl (HA.out.below ((Below.refl _ _).alloc (Nat.le_refl _) _)) HO1.out (by have := HL.out; omega) (by simp) ?_; intro v5 w5 ho5 hg5 hw5)
    go_ret
    rw [List.nil_append, Nat.zero_add] at ho5
    refine ⟨_, rfl, ho5, ((Below.refl w.heap.size w).alloc (Nat.le_refl _) _).grown hg5 (by simp) (fun k hk => ?_)⟩
    injection hk with hk
    exact Nat.le_of_eq hk
set_option maxRecDepth 100000 in
set_option maxHeartbeats 2000000 in
theorem cloneU_any {w : World} {v : Value} {n : Nat} {xs : List Value} (h : Sn w 1 v n xs) (h1 : ∀ u ∈ xs, u.oneCell' = true) (hl : n ≤ 1000000) : Calls Tryz.prog 48 #[v] w fun e w' => ∃ u, e = .returned u ∧ w'.ownsRow w.heap.size 50 1 u n xs ∧ Below w.heap.size w w' := by
  have q22 : ∀ (w : World) (a : Option Addr) (n c n' c' : Nat), (binOp .eql 26 (.slice a n c) (.slice none n' c')).run Tryz.prog w = .ok (.bool a.isNone) w := fun w a n c n' c' => Lib.run_eql_slice_nil w _ _ a n c n' c' Tryz.underlying26
  have HA := Lib.hid h
  have HO1 := Lib.hid h1
  obtain ⟨A, c, rfl, hc, hm, hxl, hcell⟩ := h
  have HX := Lib.hid hxl
  cases A with
  | none =>
    have h0 : n = 0 := by
      apply Classical.byContradiction
      intro e
      obtain ⟨b, off, hA, _⟩ := hcell (by omega)
      cases hA
    subst h0
    have hx : xs = [] := List.eq_nil_of_length_eq_zero (by simpa using hxl)
    subst hx
    clear hcell hxl h1
    have q := fun W n c => q22 W none n c 0 0
    simp only [Option.isNone_none] at q
    clear q22
    go_enter Tryz.func48, Tryz.ntmps48
    go_wp2_with fail
    go_ret
    exact ⟨_, rfl, World.ownsRow_nil w _ 50 1, Below.refl _ _⟩
  | some ad =>
    have HL := Lib.hid hl
    have q := fun W n c => q22 W (some ad) n c 0 0
    simp only [Option.isNone_some] at q
    clear q22 hcell hl hxl h1
    go_enter Tryz.func48, Tryz.ntmps48
    go_wp2_with (at_builtin; refine wpList_appO rfl rowU _ _ rfl (base := w.heap.size) (n := 0) (xs := []) rfl (own_empty w (Nat.le_refl _) 50 1) rfl (HA.out.below ((Below.refl _ _).alloc (Nat.le_refl _) _)) HO1.out (by have := HL.out; omega) (by simp) ?_; intro v5 w5 ho5 hg5 hw5)
    go_ret
    rw [List.nil_append, Nat.zero_add] at ho5
    refine ⟨_, rfl, ho5, ((Below.refl w.heap.size w).alloc (Nat.le_refl _) _).grown hg5 (by simp) (fun k hk => ?_)⟩
    injection hk with hk
    exact Nat.le_of_eq hk
end Go.Proofs.YthedglfocjljjaaGreatDoor
