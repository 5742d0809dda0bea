/-
  The table of the kinds of arguments, as it is laid; kind of package iface.
-/
import Derived.Test.YtmpkjjmgfakomaaDoorIfz
import Derived.Laws.Rows
namespace Go.Proofs.YtmpkjjmgfakomaaDoor
open Go.RowKit

def tabK : Array Value := ((List.range 118).map fun c => Value.int .i64 (kindN c : Int)).toArray

/-- the table of the kinds lies as the text lays it -/
structure Tab (W : World) : Prop where
  knd : ∃ t fr, W.heap[0]? = some (.cells tabK t fr)

theorem Tab.size {W : World} (h : Tab W) : 0 < W.heap.size := by
  obtain ⟨t, fr, h⟩ := h.knd
  rcases Nat.lt_or_ge 0 W.heap.size with hl | hl
  · exact hl
  · rw [Array.getElem?_eq_none hl] at h
    cases h
theorem Tab.below {W w1 : World} (h : Tab W) (hb : Below W.heap.size W w1) : Tab w1 := by
  have hs := h.size
  obtain ⟨t', fr', h1⟩ := h.knd
  exact ⟨⟨t', fr', (hb.block 0 hs).trans h1⟩⟩
theorem tabK_size : tabK.size = 118 := by simp [tabK]
theorem Tab.kind {W : World} (h : Tab W) {c : Nat} (hc : c < 118) : W.cell? ⟨0, c, none⟩ = some (.int .i64 (kindN c : Int)) := by
  obtain ⟨t, fr, h1⟩ := h.knd
  have e : tabK[c]? = some (.int .i64 (kindN c : Int)) := by simp [tabK, hc]
  simpa [World.cell?, h1] using e
theorem kindN_far {c : Nat} (h : 118 ≤ c) : kindN c = 0 := by
  unfold kindN
  rw [if_neg (by omega), if_neg (by omega), if_neg (by omega), if_neg (by omega), if_neg (by omega), if_neg (by omega), if_neg (by omega)]

set_option maxRecDepth 100000 in
theorem p_kind_any {w : World} (T : Tab w) (c : Nat) (hc8 : c < 256) : Calls Tryd.prog 62 #[.int .u8 (c : Int)] w fun e w' => e = .returned (.int .i64 (kindN c : Int)) ∧ w = w' := by
  by_cases h : c < 118
  · have e0 : ¬ (118 : Int) ≤ c := by omega
    have e1 : (c : Int) < 118 := by omega
    have q0 : (0 : Int) ≤ c := by omega
    have hk := T.kind h
    generalize kindN c = k at *
    clear T
    go_enter Tryd.func62, Tryd.ntmps62
    go_wp2_with fail
    go_ret
    exact ⟨rfl, rfl⟩
  · have e0 : (118 : Int) ≤ c := by omega
    rw [kindN_far (by omega)]
    clear T
    go_enter Tryd.func62, Tryd.ntmps62
    go_wp2_with fail
    go_ret
    exact ⟨rfl, rfl⟩

end Go.Proofs.YtmpkjjmgfakomaaDoor
