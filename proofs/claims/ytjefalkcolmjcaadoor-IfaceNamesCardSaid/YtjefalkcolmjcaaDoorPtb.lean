/-
  What the two laid variables hold (the interfaces, the letters); kind of the package.
-/
import Derived.Test.YtjefalkcolmjcaaDoorIfv
import Derived.Laws.Rows
namespace Go.Proofs.YtjefalkcolmjcaaDoor
open Go.RowKit

/-- the version of the i-th interface -/
def verI (i : Nat) : Int := if i = 3 then 2 else if i = 5 then 3 else 1
def tabI : Array Value := ((List.range 15).flatMap fun i => [Value.string (nmI i), Value.int .i64 (verI i)]).toArray
def tabK : Array Value := ((List.range 118).map fun c => Value.int .i64 (kindN c : Int)).toArray

/-- the two variables lie as the text lays them -/
structure Tab (W : World) : Prop where
  ifc : ∃ t fr, W.heap[0]? = some (.cells tabI t fr)
  knd : ∃ t fr, W.heap[1]? = some (.cells tabK t fr)

theorem Tab.size {W : World} (h : Tab W) : 1 < W.heap.size := by
  obtain ⟨t, fr, h⟩ := h.knd
  rcases Nat.lt_or_ge 1 W.heap.size with hl | hl
  · exact hl
  · rw [Array.getElem?_eq_none hl] at h
    cases h
theorem Tab.below {W w1 : World} (h : Tab W) (hb : Below W.heap.size W w1) : Tab w1 := by
  have hs := h.size
  obtain ⟨t, fr, h0⟩ := h.ifc
  obtain ⟨t', fr', h1⟩ := h.knd
  exact ⟨⟨t, fr, (hb.block 0 (by omega)).trans h0⟩, ⟨t', fr', (hb.block 1 hs).trans h1⟩⟩
theorem tabK_size : tabK.size = 118 := by simp [tabK]
theorem Tab.kind {W : World} (h : Tab W) {c : Nat} (hc : c < 118) : W.cell? ⟨1, c, none⟩ = some (.int .i64 (kindN c : Int)) := by
  obtain ⟨t, fr, h1⟩ := h.knd
  have e : tabK[c]? = some (.int .i64 (kindN c : Int)) := by simp [tabK, hc]
  simpa [World.cell?, h1] using e
theorem ver_at (i : Nat) (hi : i < 15) : verT (nmI i) = verI i := by
  have e : i = 0 ∨ i = 1 ∨ i = 2 ∨ i = 3 ∨ i = 4 ∨ i = 5 ∨ i = 6 ∨ i = 7 ∨ i = 8 ∨ i = 9 ∨ i = 10 ∨ i = 11 ∨ i = 12 ∨ i = 13 ∨ i = 14 := by omega
  rcases e with rfl | rfl | rfl | rfl | rfl | rfl | rfl | rfl | rfl | rfl | rfl | rfl | rfl | rfl | rfl <;> rfl
theorem index_tabI (i : Nat) (hi : i < 15) (W : World) : (Instr.index 46 (.agg tabI) (.int .i64 (i : Int))).run Tryd.prog W = .ok (.agg #[.string (nmI i), .int .i64 (verI i)]) W := by
  have e : i = 0 ∨ i = 1 ∨ i = 2 ∨ i = 3 ∨ i = 4 ∨ i = 5 ∨ i = 6 ∨ i = 7 ∨ i = 8 ∨ i = 9 ∨ i = 10 ∨ i = 11 ∨ i = 12 ∨ i = 13 ∨ i = 14 := by omega
  have hz : tabI = #[.string (nmI 0), .int .i64 (verI 0), .string (nmI 1), .int .i64 (verI 1), .string (nmI 2), .int .i64 (verI 2), .string (nmI 3), .int .i64 (verI 3), .string (nmI 4), .int .i64 (verI 4), .string (nmI 5), .int .i64 (verI 5), .string (nmI 6), .int .i64 (verI 6), .string (nmI 7), .int .i64 (verI 7), .string (nmI 8), .int .i64 (verI 8), .string (nmI 9), .int .i64 (verI 9), .string (nmI 10), .int .i64 (verI 10), .string (nmI 11), .int .i64 (verI 11), .string (nmI 12), .int .i64 (verI 12), .string (nmI 13), .int .i64 (verI 13), .string (nmI 14), .int .i64 (verI 14)] := rfl
  rw [hz]
  rcases e with rfl | rfl | rfl | rfl | rfl | rfl | rfl | rfl | rfl | rfl | rfl | rfl | rfl | rfl | rfl
  all_goals simp [Instr.index, go_sem]

theorem kindN_far {c : Nat} (h : 118 ≤ c) : kindN c = 0 := by
  unfold kindN
  rw [if_neg (by omega), if_neg (by omega), if_neg (by omega), if_neg (by omega), if_neg (by omega), if_neg (by omega), if_neg (by omega)]

theorem p_kind_any {w : World} (T : Tab w) (c : Nat) (hc8 : c < 256) : Calls Tryd.prog 36 #[.int .u8 (c : Int)] w fun e w' => e = .returned (.int .i64 (kindN c : Int)) ∧ w = w' := by
  by_cases h : c < 118
  · have e0 : ¬ (118 : Int) ≤ c := by omega
    have e1 : (c : Int) < 118 := by omega
    have q0 : (0 : Int) ≤ c := by omega
    have hk := T.kind h
    generalize kindN c = k at *
    clear T
    go_enter Tryd.func36, Tryd.ntmps36
    go_wp2_with fail
    go_ret
    exact ⟨rfl, rfl⟩
  · have e0 : (118 : Int) ≤ c := by omega
    rw [kindN_far (by omega)]
    clear T
    go_enter Tryd.func36, Tryd.ntmps36
    go_wp2_with fail
    go_ret
    exact ⟨rfl, rfl⟩

end Go.Proofs.YtjefalkcolmjcaaDoor
