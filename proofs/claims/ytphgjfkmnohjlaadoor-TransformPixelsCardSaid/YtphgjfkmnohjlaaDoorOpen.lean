/-
  The table that is laid when a call begins, and a world in which it is laid; arguments opened: a point, an image's size with a point and a rectangle.
-/
import Derived.Test.YtphgjfkmnohjlaaDoorExam
import Derived.Test.YtphgjfkmnohjlaaDoorTie
import Derived.Test.YtphgjfkmnohjlaaDoorCards
import Derived.ProofKit
import Derived.OpenShut
import Derived.LaidMore
import Derived.Lay
import Derived.SevenTiedAt
import Derived.Stop.Joined
import Derived.Stop.LaidErr
namespace Go.Proofs.YtphgjfkmnohjlaaDoor
open Go.ChangeShapes Go.WideShapes Go.ChangeAt Go.RowKit

theorem own : ownKnob Tryd.prog.godebug = none := by kernel_rfl
theorem laidOut : laidOutB Tryd.prog = true := by kernel_rfl

/-- what the laws list as laid -/
def laidL : List (String × DataW Unit) := Rows.transformTellsRow.laid

/-- the rows of the table -/
def tabRow (i : Nat) : List Int := (List.range 8).map fun (j : Nat) => comp8 (i : Int) (j : Int)

theorem tab_rows : (Rows.laid_compositor_transform_products : DataW Unit) = .agg ((List.range 8).map fun i => Lib.tabData .i64 (tabRow i)) := by kernel_rfl

/-- an array of arrays of integers, row by row -/
theorem rows_of {H : Type} {enc : TypeId × Value → H} {P : Program} {w : World} {base : Nat} {sp : Nat → Bool} {held : Bool} {fuel : Nat} {t e : TypeId} {n m : Nat} {cs : List Value} {ds : List (DataW H)} {p : List MemPlace}
    (ht : P.underlying t = some (.array n e)) (hce : P.cellsOf e = m) (h : DataW.trod enc P w base sp held fuel t cs = some (.agg ds, p)) :
    ∃ f, ∀ i d, ds[i]? = some d → ∃ q, DataW.trod enc P w base sp held f e ((cs.drop (i * m)).take m) = some (d, q) := by
  cases fuel with
  | zero => simp [DataW.trod] at h
  | succ fuel =>
    simp only [DataW.trod, ht, hce] at h
    split at h
    · obtain ⟨xs, hm, hx⟩ := Option.map_eq_some_iff.1 h
      have hxs : xs.map (·.1) = ds := by
        have := congrArg Prod.fst hx
        simpa using this
      have hxl : xs.length = n := by simpa using Lib.mapM_length hm
      refine ⟨fuel, fun i d hd => ?_⟩
      rw [← hxs] at hd
      have hi : i < n := by
        have := (List.getElem?_eq_some_iff.1 hd).1
        simp at this
        omega
      obtain ⟨b, hb, hf⟩ := Lib.mapM_at hm i i (by simp [hi])
      simp [hb] at hd
      subst hd
      exact ⟨b.2, hf⟩
    · cases h

theorem gTab : Tryd.prog.globalNamed "compositor/transform.products" = some 0 := by kernel_rfl

theorem tab_of {W : World} (h : laidMetH Tryd.prog laidL W) : Tab W := by
  rw [MakeChecks.laidMetH_plain _ _ _ (by kernel_rfl)] at h
  have h1 : laidMet Tryd.prog [("compositor/transform.products", Rows.laid_compositor_transform_products)] W := h
  rw [tab_rows] at h1
  obtain ⟨ps, ⟨g', t', cs, fuel, p, q, hg', ht', hvar, hd, _, _⟩, _⟩ := h1
  obtain rfl := Option.some.inj (gTab.symm.trans hg')
  obtain rfl : (54 : TypeId) = t' := Option.some.inj ((show (Tryd.prog.globals[0]?).map (·.type) = some 54 by kernel_rfl).symm.trans ht')
  obtain ⟨f, hr⟩ := rows_of (t := 54) (e := 53) (n := 8) (m := 8) (by kernel_rfl) (by kernel_rfl) hd
  have hc : ∀ i j : Nat, i < 8 → j < 8 → cs.toList[i * 8 + j]? = some (.int .i64 (comp8 i j)) := by
    intro i j hi hj
    obtain ⟨q, hq⟩ := hr i (Lib.tabData .i64 (tabRow i)) (by simp [hi])
    have hrow := Lib.cells_of_tab (t := 53) (e := 3) (n := 8) (k := .i64) (by kernel_rfl) (by kernel_rfl) (by kernel_rfl) (by kernel_rfl) hq
    have := congrArg (·[j]?) hrow
    simp only [List.getElem?_take, List.getElem?_drop, hj, if_true] at this
    rw [this]
    simp [tabRow, hj]
  have hcell : ∀ i j : Nat, i < 8 → j < 8 → W.cell? ⟨0, i * 8 + j, none⟩ = some (.int .i64 (comp8 i j)) := by
    intro i j hi hj
    have := World.var?_cell gTab hvar (i * 8 + j)
    rw [this]
    simpa using hc i j hi hj
  exact ⟨World.block_lt_of_cell? _ _ (hcell 0 0 (by omega) (by omega)), hcell⟩

theorem world_met (os : Os) (args : Array Value) : laidMetH Tryd.prog laidL ((World.laidAll Tryd.prog os laidL).forCall (fun _ _ => 0) ⟨#[], args, []⟩).memory := by
  rw [MakeChecks.laidMetH_plain _ _ _ (by kernel_rfl)]
  exact laidMet_laidAll _ (by kernel_rfl) (by kernel_rfl)

theorem world_shaped (os : Os) : (World.laidAll Tryd.prog os laidL).Shaped Tryd.prog := World.shaped_of_ZipB (by kernel_rfl) (by kernel_rfl)

theorem cellsOf3 : Tryd.prog.cellsOf 3 = 1 := by kernel_rfl
theorem cellsOf23 : Tryd.prog.cellsOf 23 = 2 := by kernel_rfl
theorem cellsOf32 : Tryd.prog.cellsOf 32 = 4 := by kernel_rfl
theorem cellsOf34 : Tryd.prog.cellsOf 34 = 8 := by kernel_rfl

section
variable {H : Type} {enc : TypeId × Value → H} {W : World} {fuel : Nat}

/-- one cell that holds an int -/
theorem cells_int {cs : List Value} {x : DataW H × List MemPlace} (h : DataW.trod enc Tryd.prog W 0 (fun _ => true) true fuel 3 cs = some x) : ∃ m : Int, cs = [.int .i64 m] := by
  obtain ⟨m, e, _, _⟩ := DataW.trod_int Tryd.underlying3 h
  exact ⟨m, e⟩

/-- the two cells of a point -/
theorem cells_point {cs : List Value} {x : DataW H × List MemPlace} (h : DataW.trod enc Tryd.prog W 0 (fun _ => true) true fuel 23 cs = some x) :
    ∃ x y : Int, cs = [.int .i64 x, .int .i64 y] := by
  obtain ⟨xs, n, _, _, hlen, hxl, hg⟩ := DataW.trod_struct Tryd.underlying23 h
  rw [cellsOf23] at hlen
  have hc : ∀ l : List Value, l.length = 2 → ∃ a b, l = [a, b] := fun l hl => by
    match l, hl with
    | [a, b], _ => exact ⟨a, b, rfl⟩
  obtain ⟨c0, c1, rfl⟩ := hc _ hlen
  match xs, hxl with
  | [x0, x1], _ =>
    have h0 : DataW.trod enc Tryd.prog W 0 (fun _ => true) true n 3 (([c0, c1].drop 0).take (Tryd.prog.cellsOf 3)) = some x0 := hg 0 _ rfl
    have h1 : DataW.trod enc Tryd.prog W 0 (fun _ => true) true n 3 (([c0, c1].drop 1).take (Tryd.prog.cellsOf 3)) = some x1 := hg 1 _ rfl
    rw [cellsOf3] at h0 h1
    simp only [List.drop_zero, List.drop_succ_cons, List.take_succ_cons, List.take_zero] at h0 h1
    obtain ⟨m0, e0⟩ := cells_int h0
    obtain ⟨m1, e1⟩ := cells_int h1
    injection e0 with e0
    injection e1 with e1
    subst e0 e1
    exact ⟨m0, m1, rfl⟩

/-- the four cells of a rectangle -/
theorem cells_rect {cs : List Value} {x : DataW H × List MemPlace} (h : DataW.trod enc Tryd.prog W 0 (fun _ => true) true fuel 32 cs = some x) :
    ∃ r : R, cs = [.int .i64 r.x0, .int .i64 r.y0, .int .i64 r.x1, .int .i64 r.y1] := by
  obtain ⟨xs, n, _, _, hlen, hxl, hg⟩ := DataW.trod_struct Tryd.underlying32 h
  rw [cellsOf32] at hlen
  have hc : ∀ l : List Value, l.length = 4 → ∃ a b c d, l = [a, b, c, d] := fun l hl => by
    match l, hl with
    | [a, b, c, d], _ => exact ⟨a, b, c, d, rfl⟩
  obtain ⟨c0, c1, c2, c3, rfl⟩ := hc _ hlen
  match xs, hxl with
  | [x0, x1, x2, x3], _ =>
    have h0 : DataW.trod enc Tryd.prog W 0 (fun _ => true) true n 3 (([c0, c1, c2, c3].drop 0).take (Tryd.prog.cellsOf 3)) = some x0 := hg 0 _ rfl
    have h1 : DataW.trod enc Tryd.prog W 0 (fun _ => true) true n 3 (([c0, c1, c2, c3].drop 1).take (Tryd.prog.cellsOf 3)) = some x1 := hg 1 _ rfl
    have h2 : DataW.trod enc Tryd.prog W 0 (fun _ => true) true n 3 (([c0, c1, c2, c3].drop 2).take (Tryd.prog.cellsOf 3)) = some x2 := hg 2 _ rfl
    have h3 : DataW.trod enc Tryd.prog W 0 (fun _ => true) true n 3 (([c0, c1, c2, c3].drop 3).take (Tryd.prog.cellsOf 3)) = some x3 := hg 3 _ rfl
    rw [cellsOf3] at h0 h1 h2 h3
    simp only [List.drop_zero, List.drop_succ_cons, List.take_succ_cons, List.take_zero] at h0 h1 h2 h3
    obtain ⟨m0, e0⟩ := cells_int h0
    obtain ⟨m1, e1⟩ := cells_int h1
    obtain ⟨m2, e2⟩ := cells_int h2
    obtain ⟨m3, e3⟩ := cells_int h3
    injection e0 with e0
    injection e1 with e1
    injection e2 with e2
    injection e3 with e3
    subst e0 e1 e2 e3
    exact ⟨⟨m0, m1, m2, m3⟩, rfl⟩

set_option maxRecDepth 100000 in
theorem open_point {base : Nat} {v : Value} {d : DataW H} {p : List MemPlace} (hval : Value.okWide Tryd.prog W .any base 23 v) (h : DataW.Trod enc Tryd.prog W 0 (fun _ => true) true 23 v d p) :
    ∃ x y : Int, v = .agg #[.int .i64 x, .int .i64 y] := by
  obtain ⟨cs, rfl, _⟩ := okWide_struct Tryd.underlying23 hval
  obtain ⟨fuel, hf⟩ := h
  obtain ⟨x, y, e⟩ := cells_point hf
  exact ⟨x, y, congrArg Value.agg (Array.ext' e)⟩

set_option maxRecDepth 100000 in
theorem open_ask {base : Nat} {v : Value} {d : DataW H} {p : List MemPlace} (hval : Value.okWide Tryd.prog W .any base 34 v) (h : DataW.Trod enc Tryd.prog W 0 (fun _ => true) true 34 v d p) :
    ∃ (a b x y : Int) (r : R), v = .agg #[.int .i64 a, .int .i64 b, .int .i64 x, .int .i64 y, .int .i64 r.x0, .int .i64 r.y0, .int .i64 r.x1, .int .i64 r.y1] := by
  obtain ⟨cs, rfl, _⟩ := okWide_struct Tryd.underlying34 hval
  obtain ⟨fuel, hf⟩ := h
  obtain ⟨xs, n, _, _, hlen, hxl, hg⟩ := DataW.trod_struct Tryd.underlying34 hf
  rw [cellsOf34] at hlen
  have hc : ∀ l : List Value, l.length = 8 → ∃ c0 c1 c2 c3 c4 c5 c6 c7, l = [c0, c1, c2, c3, c4, c5, c6, c7] := fun l hl => by
    match l, hl with
    | [c0, c1, c2, c3, c4, c5, c6, c7], _ => exact ⟨c0, c1, c2, c3, c4, c5, c6, c7, rfl⟩
  obtain ⟨c0, c1, c2, c3, c4, c5, c6, c7, e⟩ := hc _ hlen
  match xs, hxl with
  | [x0, x1, x2, x3], _ =>
    rw [e] at hg
    have h0 : DataW.trod enc Tryd.prog W 0 (fun _ => true) true n 3 (([c0, c1, c2, c3, c4, c5, c6, c7].drop 0).take (Tryd.prog.cellsOf 3)) = some x0 := hg 0 _ rfl
    have h1 : DataW.trod enc Tryd.prog W 0 (fun _ => true) true n 3 (([c0, c1, c2, c3, c4, c5, c6, c7].drop 1).take (Tryd.prog.cellsOf 3)) = some x1 := hg 1 _ rfl
    have h2 : DataW.trod enc Tryd.prog W 0 (fun _ => true) true n 23 (([c0, c1, c2, c3, c4, c5, c6, c7].drop 2).take (Tryd.prog.cellsOf 23)) = some x2 := hg 2 _ rfl
    have h3 : DataW.trod enc Tryd.prog W 0 (fun _ => true) true n 32 (([c0, c1, c2, c3, c4, c5, c6, c7].drop 4).take (Tryd.prog.cellsOf 32)) = some x3 := hg 3 _ rfl
    rw [cellsOf3] at h0 h1
    rw [cellsOf23] at h2
    rw [cellsOf32] at h3
    simp only [List.drop_zero, List.drop_succ_cons, List.take_succ_cons, List.take_zero] at h0 h1 h2 h3
    obtain ⟨m0, e0⟩ := cells_int h0
    obtain ⟨m1, e1⟩ := cells_int h1
    obtain ⟨x, y, e2⟩ := cells_point h2
    obtain ⟨r, e3⟩ := cells_rect h3
    injection e0 with e0
    injection e1 with e1
    injection e2 with e4 e5
    injection e5 with e5
    injection e3 with f0 f1
    injection f1 with f1 f2
    injection f2 with f2 f3
    injection f3 with f3
    subst e0 e1 e4 e5 f0 f1 f2 f3
    exact ⟨m0, m1, x, y, r, congrArg Value.agg (Array.ext' e)⟩

end

theorem range_i64 {m : Int} (h : (Lit.int .i64 m).wf = true) : -9223372036854775808 ≤ m ∧ m ≤ 9223372036854775807 := by
  have g1 : IntKind.i64.min = -9223372036854775808 := rfl
  have g2 : IntKind.i64.max = 9223372036854775807 := rfl
  simpa only [Lit.wf, Bool.and_eq_true, decide_eq_true_eq, g1, g2] using h

end Go.Proofs.YtphgjfkmnohjlaaDoor
