/-
  Arguments opened: calls, slices of calls, an interface's index with a version.
-/
import Derived.Test.YtcecicmihdcjgaaDoorPrk
import Derived.ProofKit
import Derived.OpenShut
import Derived.Deep.Slices
namespace Go.Proofs.YtcecicmihdcjgaaDoor
open Go.ChangeShapes Go.WideShapes Go.ChangeAt Go.RowKit

theorem wf_u32 {m : Int} (h : (Lit.int .u32 m).wf = true) : 0 ≤ m ∧ m ≤ 4294967295 := by
  have g1 : IntKind.u32.min = 0 := rfl
  have g2 : IntKind.u32.max = 4294967295 := rfl
  simpa only [Lit.wf, Bool.and_eq_true, decide_eq_true_eq, g1, g2] using h
theorem wf_u8 {m : Int} (h : (Lit.int .u8 m).wf = true) : 0 ≤ m ∧ m ≤ 255 := by
  have g1 : IntKind.u8.min = 0 := rfl
  have g2 : IntKind.u8.max = 255 := rfl
  simpa only [Lit.wf, Bool.and_eq_true, decide_eq_true_eq, g1, g2] using h
set_option maxRecDepth 100000 in
theorem cells_of3 : Tryd.prog.cellsOf 3 = 1 := by kernel_rfl
set_option maxRecDepth 100000 in
theorem cells_of5 : Tryd.prog.cellsOf 5 = 1 := by kernel_rfl
set_option maxRecDepth 100000 in
theorem cells_of9 : Tryd.prog.cellsOf 9 = 1 := by kernel_rfl
set_option maxRecDepth 100000 in
theorem cells_of30 : Tryd.prog.cellsOf 30 = 1 := by kernel_rfl
set_option maxRecDepth 100000 in
theorem cells_of32 : Tryd.prog.cellsOf 32 = 4 := by kernel_rfl
set_option maxRecDepth 100000 in
theorem cells_of53 : Tryd.prog.cellsOf 53 = 2 := by kernel_rfl
theorem addO_at (b off j : Nat) : (⟨b, off, none⟩ : Addr).add j = ⟨b, off + j, none⟩ := by unfold Addr.add; split <;> simp_all
theorem list_of {α : Type} {P : Nat → α → Prop} : ∀ (n : Nat), (∀ i, i < n → ∃ t, P i t) → ∃ l : List α, l.length = n ∧ ∀ i t, l[i]? = some t → P i t
  | 0, _ => ⟨[], rfl, fun i t h => by simp at h⟩
  | n + 1, h => by
    obtain ⟨l, hl, hp⟩ := list_of n (fun i hi => h i (by omega))
    obtain ⟨t, ht⟩ := h n (by omega)
    refine ⟨l ++ [t], by simp [hl], fun i u hu => ?_⟩
    rcases Nat.lt_or_ge i l.length with hi | hi
    · rw [List.getElem?_append_left hi] at hu
      exact hp i u hu
    · rw [List.getElem?_append_right hi] at hu
      have h0 : i - l.length = 0 := by
        have := (List.getElem?_eq_some_iff.1 hu).1
        simp at this
        omega
      rw [h0] at hu
      simp only [List.getElem?_cons_zero, Option.some.injEq] at hu
      subst hu
      rw [show i = n by omega]
      exact ht

section
variable {H : Type} {enc : TypeId × Value → H} {W : World} {fuel : Nat}
def opC (o : Op4) : List Value := [.int .i64 o.kd, .int .u32 (o.nm : Int), .string o.it, .int .i64 o.vr]
set_option maxRecDepth 100000 in
theorem cells_op {cs : List Value} {x : DataW H × List MemPlace} (h : DataW.trod enc Tryd.prog W 0 (fun _ => true) true fuel 32 cs = some x) : ∃ o : Op4, cs = opC o ∧ o.nm < 4294967296 := by
  obtain ⟨xs, n, _, _, hlen, hxl, hg⟩ := DataW.trod_struct Tryd.underlying32 h
  rw [cells_of32] at hlen
  have hc : ∀ l : List Value, l.length = 4 → ∃ a b c d, l = [a, b, c, d] := fun l hl => by
    match l, hl with
    | [a, b, c, d], _ => exact ⟨a, b, c, d, rfl⟩
  obtain ⟨c0, c1, c2, c3, rfl⟩ := hc _ hlen
  match xs, hxl with
  | [x0, x1, x2, x3], _ =>
    have h0 : DataW.trod enc Tryd.prog W 0 (fun _ => true) true n 3 (([c0, c1, c2, c3].drop 0).take (Tryd.prog.cellsOf 3)) = some x0 := hg 0 _ rfl
    have h1 : DataW.trod enc Tryd.prog W 0 (fun _ => true) true n 30 (([c0, c1, c2, c3].drop 1).take (Tryd.prog.cellsOf 30)) = some x1 := hg 1 _ rfl
    have h2 : DataW.trod enc Tryd.prog W 0 (fun _ => true) true n 9 (([c0, c1, c2, c3].drop 2).take (Tryd.prog.cellsOf 9)) = some x2 := hg 2 _ rfl
    have h3 : DataW.trod enc Tryd.prog W 0 (fun _ => true) true n 3 (([c0, c1, c2, c3].drop 3).take (Tryd.prog.cellsOf 3)) = some x3 := hg 3 _ rfl
    rw [cells_of3] at h0 h3
    rw [cells_of30] at h1
    rw [cells_of9] at h2
    simp only [List.drop_zero, List.drop_succ_cons, List.take_succ_cons, List.take_zero] at h0 h1 h2 h3
    obtain ⟨m0, e0, _, _⟩ := DataW.trod_int Tryd.underlying3 h0
    obtain ⟨m1, e1, _, w1⟩ := DataW.trod_int Tryd.underlying30 h1
    obtain ⟨s2, e2, _, _⟩ := DataW.trod_string Tryd.underlying9 h2
    obtain ⟨m3, e3, _, _⟩ := DataW.trod_int Tryd.underlying3 h3
    injection e0 with e0
    injection e1 with e1
    injection e2 with e2
    injection e3 with e3
    subst e0 e1 e2 e3
    obtain ⟨r0, r1⟩ := wf_u32 w1
    obtain ⟨k, rfl⟩ : ∃ k : Nat, m1 = (k : Int) := ⟨m1.toNat, by omega⟩
    exact ⟨⟨m0, k, s2, m3⟩, rfl, by dsimp only; omega⟩
theorem open_op {base : Nat} {v : Value} {d : DataW H} {p : List MemPlace} (hval : Value.okWide Tryd.prog W .any base 32 v) (h : DataW.Trod enc Tryd.prog W 0 (fun _ => true) true 32 v d p) :
    ∃ o : Op4, v = .agg #[.int .i64 o.kd, .int .u32 (o.nm : Int), .string o.it, .int .i64 o.vr] ∧ o.nm < 4294967296 := by
  obtain ⟨cs, rfl, _⟩ := okWide_struct Tryd.underlying32 hval
  obtain ⟨fuel, hf⟩ := h
  obtain ⟨o, e, ho⟩ := cells_op hf
  exact ⟨o, congrArg Value.agg (Array.ext' e), ho⟩
set_option maxRecDepth 100000 in
theorem open_bound {base : Nat} {v : Value} {d : DataW H} {p : List MemPlace} (hval : Value.okWide Tryd.prog W .any base 53 v) (h : DataW.Trod enc Tryd.prog W 0 (fun _ => true) true 53 v d p) :
    ∃ (k : Nat) (m : Int), v = .agg #[.int .u8 (k : Int), .int .i64 m] ∧ k < 256 := by
  obtain ⟨cs, rfl, _⟩ := okWide_struct Tryd.underlying53 hval
  obtain ⟨fuel, hf⟩ := h
  obtain ⟨xs, n, _, _, hlen, hxl, hg⟩ := DataW.trod_struct Tryd.underlying53 hf
  rw [cells_of53] at hlen
  have hc : ∀ l : List Value, l.length = 2 → ∃ a b, l = [a, b] := fun l hl => by
    match l, hl with
    | [a, b], _ => exact ⟨a, b, rfl⟩
  obtain ⟨c0, c1, e⟩ := hc _ hlen
  match xs, hxl with
  | [x0, x1], _ =>
    rw [e] at hg
    have h0 : DataW.trod enc Tryd.prog W 0 (fun _ => true) true n 5 (([c0, c1].drop 0).take (Tryd.prog.cellsOf 5)) = some x0 := hg 0 _ rfl
    have h1 : DataW.trod enc Tryd.prog W 0 (fun _ => true) true n 3 (([c0, c1].drop 1).take (Tryd.prog.cellsOf 3)) = some x1 := hg 1 _ rfl
    rw [cells_of5] at h0
    rw [cells_of3] at h1
    simp only [List.drop_zero, List.drop_succ_cons, List.take_succ_cons, List.take_zero] at h0 h1
    obtain ⟨m0, e0, _, w0⟩ := DataW.trod_int Tryd.underlying5 h0
    obtain ⟨m1, e1, _, _⟩ := DataW.trod_int Tryd.underlying3 h1
    injection e0 with e0
    injection e1 with e1
    subst e0 e1
    obtain ⟨r0, r1⟩ := wf_u8 w0
    obtain ⟨k, rfl⟩ : ∃ k : Nat, m0 = (k : Int) := ⟨m0.toNat, by omega⟩
    exact ⟨k, m1, congrArg Value.agg (Array.ext' e), by omega⟩
theorem open_ops {base : Nat} {v : Value} {d : DataW H} {p : List MemPlace} (hval : Value.okWide Tryd.prog W .any base 22 v) (h : DataW.Trod enc Tryd.prog W 0 (fun _ => true) true 22 v d p) :
    ∃ (A : Option Addr) (c : Nat) (l : List Op4), v = .slice A l.length c ∧ Opl W v l := by
  obtain ⟨A, n, c, rfl⟩ := okWide_slice Tryd.underlying22 hval
  obtain ⟨fuel, hf⟩ := h
  rcases Deep.open_slice Tryd.underlying22 hf with ⟨e, _⟩ | ⟨a, len, cap, m, _, D, Pl, e, _, hl, hm, hmm, _, hi⟩
  · simp only [Value.cells] at e
    have e2 : Value.slice A n c = .slice none 0 0 := by simpa using e
    rw [e2]
    exact ⟨none, 0, [], rfl, none, 0, rfl, Nat.le_refl _, by simp [maxLen], fun p hp => by simp at hp, fun h => by simp at h⟩
  · simp only [Value.cells] at e
    have e2 : Value.slice A n c = .slice (some a) len cap := by simpa using e
    rw [e2]
    simp only [if_true] at hmm
    rw [cells_of32] at hi
    obtain ⟨l, hll, hp⟩ := list_of (α := Op4) (P := fun i o => (W.cell? (a.add (i * 4)) = some (.int .i64 o.kd) ∧ W.cell? (a.add (i * 4 + 1)) = some (.int .u32 (o.nm : Int)) ∧ W.cell? (a.add (i * 4 + 2)) = some (.string o.it) ∧ W.cell? (a.add (i * 4 + 3)) = some (.int .i64 o.vr)) ∧ o.nm < 4294967296) len (fun i hlt => by
      obtain ⟨cs', hc, ht⟩ := hi i (by omega)
      obtain ⟨o, hcs, ho⟩ := cells_op ht
      obtain ⟨_, _, hat⟩ := World.cells?_some hc
      have h0 := hat 0 (by omega)
      have h1 := hat 1 (by omega)
      have h2 := hat 2 (by omega)
      have h3 := hat 3 (by omega)
      rw [Deep.add_add, hcs] at h0 h1 h2 h3
      exact ⟨o, ⟨by simpa [opC] using h0, by simpa [opC] using h1, by simpa [opC] using h2, by simpa [opC] using h3⟩, ho⟩)
    subst hll
    refine ⟨some a, cap, l, rfl, some a, cap, rfl, hl, hm, fun o ho => ?_, fun hn => ?_⟩
    · obtain ⟨i, hi2⟩ := List.getElem?_of_mem ho
      exact (hp i o hi2).2
    · obtain ⟨b, off, spot⟩ := a
      obtain ⟨t0, ht0⟩ : ∃ t, l[0]? = some t := ⟨_, List.getElem?_eq_getElem hn⟩
      have h0 := (hp 0 t0 ht0).1.1
      have hspot : spot = none := by simpa [Addr.add] using World.cell?_spot h0
      subst hspot
      refine ⟨b, off, rfl, ?_, fun j t ht => ?_⟩
      · have := World.block_lt_of_cell? W _ h0
        rw [addO_at] at this
        exact this
      · obtain ⟨⟨h0, h1, h2, h3⟩, _⟩ := hp j t ht
        rw [addO_at] at h0 h1 h2 h3
        exact ⟨h0, h1, h2, h3⟩
end

end Go.Proofs.YtcecicmihdcjgaaDoor
