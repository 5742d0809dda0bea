/-
  The table that is laid when a call begins, and a world in which it is laid; arguments opened: slices of calls, numbers of 32 and of 8 bits.
-/
import Derived.Test.YtnefcmikeeadhaaDoorOps
import Derived.Test.YtnefcmikeeadhaaDoorTie
import Derived.Test.YtnefcmikeeadhaaDoorCards
import Derived.ProofKit
import Derived.OpenShut
import Derived.LaidMore
import Derived.Lay
import Derived.SevenTiedAt
import Derived.Stop.Joined
import Derived.Stop.LaidErr
import Derived.Deep.Slices
namespace Go.Proofs.YtnefcmikeeadhaaDoor
open Go.ChangeShapes Go.WideShapes Go.ChangeAt Go.RowKit

theorem own : ownKnob Tryd.prog.godebug = none := by kernel_rfl
theorem laidOut : laidOutB Tryd.prog = true := by kernel_rfl

/-- what the laws list as laid -/
def laidL : List (String × DataW Unit) := Rows.identStepsRow.laid

theorem tab_data : (Rows.laid_math_bits_deBruijn64tab : DataW Unit) = Lib.tabData .u8 (Lib.deBruijn64tab.map fun (x : Nat) => (x : Int)) := by kernel_rfl
theorem gTab : Tryd.prog.globalNamed "math/bits.deBruijn64tab" = some 0 := by kernel_rfl

theorem tab_of {W : World} (h : laidMetH Tryd.prog laidL W) : Tab W := by
  rw [MakeChecks.laidMetH_plain _ _ _ (by kernel_rfl)] at h
  have h1 : laidMet Tryd.prog [("math/bits.deBruijn64tab", Rows.laid_math_bits_deBruijn64tab)] W := h
  rw [tab_data] at h1
  have hT := Lib.tabIs_of_head (t := 71) (e := 5) (n := 64) gTab (by kernel_rfl) (by kernel_rfl) (by kernel_rfl) (by kernel_rfl) (by kernel_rfl) h1
  have hcell : ∀ i : Nat, i < 64 → W.cell? ⟨0, i, none⟩ = some (.int .u8 (Lib.deBruijn64tab.getD i 0)) := by
    intro i hi
    rw [World.var?_cell gTab hT i]
    have hl : Lib.deBruijn64tab.length = 64 := rfl
    simp [hl, hi]
  exact ⟨World.block_lt_of_cell? _ _ (hcell 0 (by omega)), hcell⟩

theorem world_met (os : Os) (args : Array Value) : laidMetH Tryd.prog laidL ((World.laidAll Tryd.prog os laidL).forCall (fun _ _ => 0) ⟨#[], args, []⟩).memory := by
  rw [MakeChecks.laidMetH_plain _ _ _ (by kernel_rfl)]
  exact laidMet_laidAll _ (by kernel_rfl) (by kernel_rfl)

theorem world_shaped (os : Os) : (World.laidAll Tryd.prog os laidL).Shaped Tryd.prog := World.shaped_of_ZipB (by kernel_rfl) (by kernel_rfl)

theorem cellsOf3 : Tryd.prog.cellsOf 3 = 1 := by kernel_rfl
theorem cellsOf23 : Tryd.prog.cellsOf 23 = 1 := by kernel_rfl
theorem cellsOf35 : Tryd.prog.cellsOf 35 = 2 := by kernel_rfl

theorem range_u32 {m : Int} (h : (Lit.int .u32 m).wf = true) : 0 ≤ m ∧ m ≤ 4294967295 := by
  have g1 : IntKind.u32.min = 0 := rfl
  have g2 : IntKind.u32.max = 4294967295 := rfl
  simpa only [Lit.wf, Bool.and_eq_true, decide_eq_true_eq, g1, g2] using h
theorem range_u8 {m : Int} (h : (Lit.int .u8 m).wf = true) : 0 ≤ m ∧ m ≤ 255 := by
  have g1 : IntKind.u8.min = 0 := rfl
  have g2 : IntKind.u8.max = 255 := rfl
  simpa only [Lit.wf, Bool.and_eq_true, decide_eq_true_eq, g1, g2] using h
theorem nat_of {m : Int} {k : Int} (h : 0 ≤ m ∧ m ≤ k) : ∃ n : Nat, m = (n : Int) ∧ (n : Int) ≤ k := ⟨m.toNat, by omega, by omega⟩

theorem add_at (b off j : Nat) : (⟨b, off, none⟩ : Addr).add j = ⟨b, off + j, none⟩ := by unfold Addr.add; split <;> simp_all

theorem list_of {α : Type} {P : Nat → α → Prop} : ∀ (n : Nat), (∀ i, i < n → ∃ t, P i t) → ∃ l : List α, l.length = n ∧ ∀ i t, l[i]? = some t → P i t
  | 0, _ => ⟨[], rfl, fun i t h => by simp at h⟩
  | n + 1, h => by
    obtain ⟨l, hl, hp⟩ := list_of n (fun i hi => h i (by omega))
    obtain ⟨t, ht⟩ := h n (by omega)
    refine ⟨l ++ [t], by simp [hl], fun i u hu => ?_⟩
    rcases Nat.lt_or_ge i l.length with hi | hi
    · rw [List.getElem?_append_left hi] at hu
      exact hp i u hu
    · rw [List.getElem?_append_right hi] at hu
      have h0 : i - l.length = 0 := by
        have := (List.getElem?_eq_some_iff.1 hu).1
        simp at this
        omega
      rw [h0] at hu
      simp only [List.getElem?_cons_zero, Option.some.injEq] at hu
      subst hu
      rw [show i = n by omega]
      exact ht

section
variable {H : Type} {enc : TypeId × Value → H} {W : World} {fuel : Nat}

theorem cells_int {cs : List Value} {x : DataW H × List MemPlace} (h : DataW.trod enc Tryd.prog W 0 (fun _ => true) true fuel 3 cs = some x) : ∃ m : Int, cs = [.int .i64 m] := by
  obtain ⟨m, e, _, _⟩ := DataW.trod_int Tryd.underlying3 h
  exact ⟨m, e⟩
theorem cells_u32 {cs : List Value} {x : DataW H × List MemPlace} (h : DataW.trod enc Tryd.prog W 0 (fun _ => true) true fuel 23 cs = some x) : ∃ n : Nat, cs = [.int .u32 (n : Int)] ∧ n < 4294967296 := by
  obtain ⟨m, e, _, w⟩ := DataW.trod_int Tryd.underlying23 h
  obtain ⟨n, rfl, hn⟩ := nat_of (range_u32 w)
  exact ⟨n, e, by omega⟩

/-- the two cells of a call -/
theorem cells_op {cs : List Value} {x : DataW H × List MemPlace} (h : DataW.trod enc Tryd.prog W 0 (fun _ => true) true fuel 35 cs = some x) :
    ∃ o : Int × Nat, cs = [.int .i64 o.1, .int .u32 (o.2 : Int)] ∧ o.2 < 4294967296 := by
  obtain ⟨xs, n, _, _, hlen, hxl, hg⟩ := DataW.trod_struct Tryd.underlying35 h
  rw [cellsOf35] at hlen
  have hc : ∀ l : List Value, l.length = 2 → ∃ a b, l = [a, b] := fun l hl => by
    match l, hl with
    | [a, b], _ => exact ⟨a, b, rfl⟩
  obtain ⟨c0, c1, rfl⟩ := hc _ hlen
  match xs, hxl with
  | [x0, x1], _ =>
    have h0 : DataW.trod enc Tryd.prog W 0 (fun _ => true) true n 3 (([c0, c1].drop 0).take (Tryd.prog.cellsOf 3)) = some x0 := hg 0 _ rfl
    have h1 : DataW.trod enc Tryd.prog W 0 (fun _ => true) true n 23 (([c0, c1].drop 1).take (Tryd.prog.cellsOf 23)) = some x1 := hg 1 _ rfl
    rw [cellsOf3] at h0
    rw [cellsOf23] at h1
    simp only [List.drop_zero, List.drop_succ_cons, List.take_succ_cons, List.take_zero] at h0 h1
    obtain ⟨m0, e0⟩ := cells_int h0
    obtain ⟨m1, e1, hm⟩ := cells_u32 h1
    injection e0 with e0
    injection e1 with e1
    subst e0 e1
    exact ⟨(m0, m1), rfl, hm⟩

theorem open_ops {base : Nat} {v : Value} {d : DataW H} {p : List MemPlace} (hval : Value.okWide Tryd.prog W .any base 22 v) (h : DataW.Trod enc Tryd.prog W 0 (fun _ => true) true 22 v d p) : ∃ l, Opv W v l := by
  obtain ⟨A, n, c, rfl⟩ := okWide_slice Tryd.underlying22 hval
  obtain ⟨fuel, hf⟩ := h
  rcases Deep.open_slice Tryd.underlying22 hf with ⟨e, _⟩ | ⟨a, len, cap, m, _, D, Pl, e, _, hl, hm, hmm, _, hi⟩
  · simp only [Value.cells] at e
    have e2 : Value.slice A n c = .slice none 0 0 := by simpa using e
    rw [e2]
    exact ⟨[], opv_nil W⟩
  · simp only [Value.cells] at e
    have e2 : Value.slice A n c = .slice (some a) len cap := by simpa using e
    rw [e2]
    simp only [if_true] at hmm
    rw [cellsOf35] at hi
    obtain ⟨l, hll, hp⟩ := list_of (α := Int × Nat) (P := fun i o => (W.cell? (a.add (i * 2)) = some (.int .i64 o.1) ∧ W.cell? (a.add (i * 2 + 1)) = some (.int .u32 (o.2 : Int))) ∧ o.2 < 4294967296) len (fun i hlt => by
      obtain ⟨cs', hc, ht⟩ := hi i (by omega)
      obtain ⟨o, hcs, ho⟩ := cells_op ht
      obtain ⟨_, _, hat⟩ := World.cells?_some hc
      have h0 := hat 0 (by omega)
      have h1 := hat 1 (by omega)
      rw [Deep.add_add, hcs] at h0 h1
      exact ⟨o, ⟨by simpa using h0, by simpa using h1⟩, ho⟩)
    subst hll
    refine ⟨l, some a, cap, rfl, hl, hm, fun o ho => ?_, fun hn => ?_⟩
    · obtain ⟨i, hi2⟩ := List.getElem?_of_mem ho
      exact (hp i o hi2).2
    · obtain ⟨b, off, spot⟩ := a
      obtain ⟨t0, ht0⟩ : ∃ t, l[0]? = some t := ⟨_, List.getElem?_eq_getElem hn⟩
      have h0 := (hp 0 t0 ht0).1.1
      have hspot : spot = none := by simpa [Addr.add] using World.cell?_spot h0
      subst hspot
      refine ⟨b, off, rfl, ?_, fun j t ht => ?_⟩
      · have := World.block_lt_of_cell? W _ h0
        rw [add_at] at this
        exact this
      · obtain ⟨⟨h0, h1⟩, _⟩ := hp j t ht
        rw [add_at] at h0 h1
        exact ⟨h0, h1⟩

end

end Go.Proofs.YtnefcmikeeadhaaDoor
