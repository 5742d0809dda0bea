/-
  The variable that is laid when a call begins, and a world in which it is laid.
-/
import Derived.Test.YtcecicmihdcjgaaDoorPtr
import Derived.Test.YtcecicmihdcjgaaDoorOpr
import Derived.Test.YtcecicmihdcjgaaDoorWni
import Derived.Test.YtcecicmihdcjgaaDoorTie
import Derived.Test.YtcecicmihdcjgaaDoorCards
import Derived.Lib.LaidTab
import Derived.ProofKit
import Derived.OpenShut
import Derived.LaidMore
import Derived.Lay
import Derived.SevenTiedAt
import Derived.Stop.Joined
import Derived.Stop.LaidErr
namespace Go.Proofs.YtcecicmihdcjgaaDoor
open Go.ChangeShapes Go.WideShapes Go.ChangeAt Go.RowKit

set_option maxRecDepth 100000 in
theorem own : ownKnob Tryd.prog.godebug = none := by kernel_rfl
set_option maxRecDepth 100000 in
theorem laidOut : laidOutB Tryd.prog = true := by kernel_rfl

/-- what the laws list as laid -/
def laidL : List (String × DataW Unit) := Rows.registryStepsRow.laid
set_option maxRecDepth 100000 in
theorem world_met (os : Os) (args : Array Value) : laidMetH Tryd.prog laidL ((World.laidAll Tryd.prog os laidL).forCall (fun _ _ => 0) ⟨#[], args, []⟩).memory := by
  rw [MakeChecks.laidMetH_plain _ _ _ (by kernel_rfl)]
  exact laidMet_laidAll _ (by kernel_rfl) (by kernel_rfl)

set_option maxRecDepth 100000 in
theorem world_shaped (os : Os) : (World.laidAll Tryd.prog os laidL).Shaped Tryd.prog := World.shaped_of_ZipB (by kernel_rfl) (by kernel_rfl)

theorem dat_ifc : (Rows.laid_compositor_iface_interfaces : DataW Unit) = .agg ((List.range 15).map fun i => .agg [.lit (.string (nmI i).data.toList), .lit (.int .i64 (verI i))]) := by kernel_rfl
theorem gIfc : Tryd.prog.globalNamed "compositor/iface.interfaces" = some 0 := by kernel_rfl
theorem cells_of69 : Tryd.prog.cellsOf 73 = 2 := by kernel_rfl
theorem cells_of70 : Tryd.prog.cellsOf 74 = 30 := by kernel_rfl

/-- an array of structs, one by one -/
theorem rows_of {H : Type} {enc : TypeId × Value → H} {P : Program} {w : World} {base : Nat} {sp : Nat → Bool} {held : Bool} {fuel : Nat} {t e : TypeId} {n m : Nat} {cs : List Value} {ds : List (DataW H)} {p : List MemPlace}
    (ht : P.underlying t = some (.array n e)) (hce : P.cellsOf e = m) (hct : P.cellsOf t = n * m) (h : DataW.trod enc P w base sp held fuel t cs = some (.agg ds, p)) :
    cs.length = n * m ∧ ∃ f, ∀ i d, ds[i]? = some d → ∃ q, DataW.trod enc P w base sp held f e ((cs.drop (i * m)).take m) = some (d, q) := by
  cases fuel with
  | zero => simp [DataW.trod] at h
  | succ fuel =>
    simp only [DataW.trod, ht, hce, hct] at h
    split at h
    · rename_i hl
      obtain ⟨xs, hm, hx⟩ := Option.map_eq_some_iff.1 h
      have hxs : xs.map (·.1) = ds := by
        have := congrArg Prod.fst hx
        simpa using this
      have hxl : xs.length = n := by simpa using Lib.mapM_length hm
      refine ⟨by simpa using hl, fuel, fun i d hd => ?_⟩
      rw [← hxs] at hd
      have hi : i < n := by
        have := (List.getElem?_eq_some_iff.1 hd).1
        simp at this
        omega
      obtain ⟨b, hb, hf⟩ := Lib.mapM_at hm i i (by simp [hi])
      simp [hb] at hd
      subst hd
      exact ⟨b.2, hf⟩
    · cases h

/-- the two cells of an interface -/
theorem cells_ifc {H : Type} {enc : TypeId × Value → H} {W : World} {base : Nat} {sp : Nat → Bool} {held : Bool} {fuel : Nat} {cs : List Value} {q : List MemPlace} {s : ByteArray} {v : Int}
    (h : DataW.trod enc Tryd.prog W base sp held fuel 73 cs = some (.agg [.lit (.string s.data.toList), .lit (.int .i64 v)], q)) : cs = [.string s, .int .i64 v] := by
  obtain ⟨xs, n, _, hx, hlen, hxl, hg⟩ := DataW.trod_struct Tryd.underlying73 h
  rw [cells_of69] at hlen
  have hc : ∀ l : List Value, l.length = 2 → ∃ a b, l = [a, b] := fun l hl => by
    match l, hl with
    | [a, b], _ => exact ⟨a, b, rfl⟩
  obtain ⟨c0, c1, rfl⟩ := hc _ hlen
  match xs, hxl with
  | [x0, x1], _ =>
    have h0 : DataW.trod enc Tryd.prog W base sp held n 9 (([c0, c1].drop 0).take (Tryd.prog.cellsOf 9)) = some x0 := hg 0 _ rfl
    have h1 : DataW.trod enc Tryd.prog W base sp held n 3 (([c0, c1].drop 1).take (Tryd.prog.cellsOf 3)) = some x1 := hg 1 _ rfl
    rw [cells_of9] at h0
    rw [cells_of3] at h1
    simp only [List.drop_zero, List.drop_succ_cons, List.take_succ_cons, List.take_zero] at h0 h1
    obtain ⟨s', e0, y0, _⟩ := DataW.trod_string Tryd.underlying9 h0
    obtain ⟨m, e1, y1, _⟩ := DataW.trod_int Tryd.underlying3 h1
    subst y0 y1
    simp only [Prod.mk.injEq, DataW.agg.injEq, List.map_cons, List.map_nil, List.cons.injEq, DataW.lit.injEq, Lit.string.injEq, Lit.int.injEq, and_true, true_and] at hx
    obtain ⟨⟨hs, hv⟩, _⟩ := hx
    injection e0 with e0
    injection e1 with e1
    rw [e0, e1, hv]
    obtain ⟨⟨a⟩⟩ := s
    obtain ⟨⟨b⟩⟩ := s'
    simp only at hs
    rw [hs]

theorem heap_of {P : Program} {W : World} {n : String} {g : Nat} {cs : Array Value} (hg : P.globalNamed n = some g) (h : W.var? P n = some cs) : ∃ t fr, W.heap[g]? = some (.cells cs t fr) := by
  simp only [World.var?, hg, Option.bind_some] at h
  split at h
  · rename_i cs' t fr hh
    simp only [Option.some.injEq] at h
    subst h
    exact ⟨t, fr, hh⟩
  · cases h

theorem tab_of {W : World} (h : laidMetH Tryd.prog laidL W) : Tab W := by
  rw [MakeChecks.laidMetH_plain _ _ _ (by kernel_rfl)] at h
  have h1 : laidMet Tryd.prog [("compositor/iface.interfaces", Rows.laid_compositor_iface_interfaces)] W := h
  rw [dat_ifc] at h1
  obtain ⟨ps, ⟨g', t', cs, fuel, p, q, hg', ht', hvar, hd, _, _⟩, _⟩ := h1
  obtain rfl := Option.some.inj (gIfc.symm.trans hg')
  obtain rfl : (74 : TypeId) = t' := Option.some.inj ((show (Tryd.prog.globals[0]?).map (·.type) = some 74 by kernel_rfl).symm.trans ht')
  obtain ⟨hl, f, hr⟩ := rows_of (t := 74) (e := 73) (n := 15) (m := 2) (by kernel_rfl) cells_of69 cells_of70 hd
  have hc : ∀ i : Nat, i < 15 → (cs.toList.drop (i * 2)).take 2 = [.string (nmI i), .int .i64 (verI i)] := by
    intro i hi
    obtain ⟨q, hq⟩ := hr i (.agg [.lit (.string (nmI i).data.toList), .lit (.int .i64 (verI i))]) (by simp [hi])
    exact cells_ifc hq
  have hcs : cs = tabI := by
    apply Array.ext'
    apply List.ext_getElem?
    intro j
    by_cases hj : j < 30
    · have hi : j / 2 < 15 := by omega
      have h0 := hc (j / 2) hi
      have hz : ∀ i, i < 15 → tabI.toList[i * 2]? = some (.string (nmI i)) ∧ tabI.toList[i * 2 + 1]? = some (.int .i64 (verI i)) := by
        intro i hi
        have e : i = 0 ∨ i = 1 ∨ i = 2 ∨ i = 3 ∨ i = 4 ∨ i = 5 ∨ i = 6 ∨ i = 7 ∨ i = 8 ∨ i = 9 ∨ i = 10 ∨ i = 11 ∨ i = 12 ∨ i = 13 ∨ i = 14 := by omega
        rcases e with rfl | rfl | rfl | rfl | rfl | rfl | rfl | rfl | rfl | rfl | rfl | rfl | rfl | rfl | rfl <;> exact ⟨rfl, rfl⟩
      obtain ⟨z0, z1⟩ := hz (j / 2) hi
      have g0 := congrArg (·[0]?) h0
      have g1 := congrArg (·[1]?) h0
      simp only [List.getElem?_take, List.getElem?_drop, List.getElem?_cons_zero, List.getElem?_cons_succ, Nat.add_zero] at g0 g1
      rcases Nat.mod_two_eq_zero_or_one j with hm | hm
      · rw [show j = j / 2 * 2 by omega, z0]
        simpa using g0
      · rw [show j = j / 2 * 2 + 1 by omega, z1]
        simpa using g1
    · have hz : tabI.toList.length = 30 := rfl
      rw [List.getElem?_eq_none (by omega), List.getElem?_eq_none (by omega)]
  rw [hcs] at hvar
  exact ⟨heap_of gIfc hvar⟩

end Go.Proofs.YtcecicmihdcjgaaDoor
