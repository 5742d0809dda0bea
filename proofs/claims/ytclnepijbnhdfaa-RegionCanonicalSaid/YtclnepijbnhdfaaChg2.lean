/-
  changesByRow: the map of what changes at each row.
-/
import Derived.Test.YtclnepijbnhdfaaChg
import Derived.Carry
namespace Go.Proofs.Ytclnepijbnhdfaa
open Go.RowKit Go.Maps

/-- what changesByRow leaves -/
def Changed (a b : List R) (w : World) (e : Ending) (w' : World) : Prop :=
  e = .returned (.map (some w.heap.size)) ∧ ∃ D n, GrpE w' (w.heap.size + 2) w.heap.size n D ∧ Cont D (chg a b) (fun y => keyL a y ∨ keyL b y) ∧ n ≤ 2 * (a.length + b.length) ∧ Below w.heap.size w w'

theorem rs_blk {w : World} {v : Value} {l : List R} (h : Rs w v l) : ∀ k, blk v k → 0 < l.length → k < w.heap.size := by
  obtain ⟨A, c, rfl, _, _, hc⟩ := h
  intro k hk hl
  obtain ⟨b, off, rfl, hb, _⟩ := hc hl
  simp only [blk, Value.ownBlock, Option.some.injEq] at hk
  omega

set_option maxRecDepth 100000 in
set_option maxHeartbeats 4000000 in
theorem changes_any {w : World} {va vb : Value} {a b : List R} (ha : Rs w va a) (hb : Rs w vb b) (hl : a.length + b.length ≤ 1000) : Calls Try.prog 58 #[va, vb] w (Changed a b w) := by
  have hmm := @run_makeMap Try.prog
  have HA := Lib.hid ha
  have HB := Lib.hid hb
  clear ha hb
  unfold Changed
  go_enter Try.func58, Try.ntmps58
  go_wp2_with fail
  have HM0 : Hid (GrpE ((w.alloc (.map #[] 0)).alloc (.cells #[.map (some w.heap.size)] 62)) (w.heap.size + 2) w.heap.size 0 (.map [])) := Lib.hid ((grp_made w (by omega)).kept ((GrownIn.refl _ _).alloc _))
  have HX0 : Hid (((w.alloc (.map #[] 0)).alloc (.cells #[.map (some w.heap.size)] 62)).cell? ⟨w.heap.size + 1, 0, none⟩ = some (.map (some w.heap.size))) := Lib.hid (by
    have h := (Bx.new (w.alloc (.map #[] 0)) #[.map (some w.heap.size)] 62).cell 0
    rw [World.size_alloc] at h
    exact h)
  have HL0 : Hid (Below w.heap.size w ((w.alloc (.map #[] 0)).alloc (.cells #[.map (some w.heap.size)] 62))) := Lib.hid (((Below.refl w.heap.size w).alloc (Nat.le_refl _) _).alloc (by simp) _)
  have hz0 : ((w.alloc (.map #[] 0)).alloc (.cells #[.map (some w.heap.size)] 62)).heap.size = w.heap.size + 2 := by simp
  generalize (w.alloc (.map #[] 0)).alloc (.cells #[.map (some w.heap.size)] 62) = w1 at *
  refine (adds_any (N := 0) (HA.out.below HL0.out) (fun h k hk => by have := rs_blk HA.out k hk h; omega) HM0.out cont_start HX0.out ⟨by omega, by omega⟩ (by omega) (by decide) (fun _ => by simp) (by omega)).mono ?_
  rintro e w2 ⟨rfl, D, n, hG, hC, hn, hg⟩
  have HG := Lib.hid hG
  have HC := Lib.hid hC
  have HW := Lib.hid hg
  have HL2 : Hid (Below w.heap.size w w2) := Lib.hid (HL0.out.trans (hg.below (by omega) (fun k h => by omega)))
  have HX2 : Hid (w2.cell? ⟨w.heap.size + 1, 0, none⟩ = some (.map (some w.heap.size))) := Lib.hid ((hg.cell (a := ⟨w.heap.size + 1, 0, none⟩) (World.block_lt_of_cell? w1 _ HX0.out) (fun h => by rcases h with h | h; exact absurd (show w.heap.size + 1 = w.heap.size from h) (by omega); exact absurd (show w.heap.size + 2 ≤ w.heap.size + 1 from h) (by omega))).trans HX0.out)
  have hz2 := hg.size
  clear hG hC hg HM0 HX0 HL0
  go_wp2_with fail
  refine (adds_any (N := 2 * a.length) (HB.out.below HL2.out) (fun h k hk => by have := rs_blk HB.out k hk h; omega) HG.out HC.out HX2.out ⟨by omega, by omega⟩ (by omega) (by decide) (fun y => by have := (chgL_wt (sa := 1) (sb := 0) rfl y a).2; simpa using this) (by omega)).mono ?_
  rintro e w3 ⟨rfl, D', n', hG, hC, hn', hg⟩
  have HF : Hid (GrpE w3 (w.heap.size + 2) w.heap.size n' D' ∧ Cont D' (chg a b) (fun y => keyL a y ∨ keyL b y) ∧ n' ≤ 2 * (a.length + b.length) ∧ Below w.heap.size w w3) := Lib.hid ⟨hG, hC.congr (fun y => by simp [chg]) (fun y => by simp), by omega, HL2.out.trans (hg.below (by omega) (fun k h => by omega))⟩
  have x0 : w3.cell? ⟨w.heap.size + 1, 0, none⟩ = some (.map (some w.heap.size)) := (hg.cell (a := ⟨w.heap.size + 1, 0, none⟩) (World.block_lt_of_cell? w2 _ HX2.out) (fun h => by rcases h with h | h; exact absurd (show w.heap.size + 1 = w.heap.size from h) (by omega); exact absurd (show w.heap.size + 2 ≤ w.heap.size + 1 from h) (by omega))).trans HX2.out
  clear hG hC hg HG HC HX2 HL2
  go_wp2_with fail
  go_ret
  exact ⟨rfl, D', n', HF.out.1, HF.out.2.1, HF.out.2.2.1, HF.out.2.2.2⟩

end Go.Proofs.Ytclnepijbnhdfaa
