/-
  Arguments opened: lists of ints, lists of calls, two ints in an array.
-/
import Derived.Test.YtkehdaahlfkiiaaTls
import Derived.ProofKit
import Derived.OpenShut
import Derived.Deep.Slices
namespace Go.Proofs.Ytkehdaahlfkiiaa
open Go.ChangeShapes Go.WideShapes Go.ChangeAt Go.RowKit

theorem own : ownKnob Try.prog.godebug = none := by kernel_rfl
theorem laidOut : laidOutB Try.prog = true := by kernel_rfl
theorem wf_i64 {m : Int} (h : (Lit.int .i64 m).wf = true) : I64 m := by
  have g1 : IntKind.i64.min = -9223372036854775808 := rfl
  have g2 : IntKind.i64.max = 9223372036854775807 := rfl
  have h2 : -9223372036854775808 ≤ m ∧ m ≤ 9223372036854775807 := by simpa only [Lit.wf, Bool.and_eq_true, decide_eq_true_eq, g1, g2] using h
  exact h2
theorem wf_u8 {m : Int} (h : (Lit.int .u8 m).wf = true) : 0 ≤ m ∧ m ≤ 255 := by
  have g1 : IntKind.u8.min = 0 := rfl
  have g2 : IntKind.u8.max = 255 := rfl
  simpa only [Lit.wf, Bool.and_eq_true, decide_eq_true_eq, g1, g2] using h
set_option maxRecDepth 100000 in
theorem cells_int : Try.prog.cellsOf 3 = 1 := by kernel_rfl
set_option maxRecDepth 100000 in
theorem cells_bool : Try.prog.cellsOf 4 = 1 := by kernel_rfl
set_option maxRecDepth 100000 in
theorem cells_opT : Try.prog.cellsOf 31 = 3 := by kernel_rfl
set_option maxRecDepth 100000 in
theorem cells_stepT : Try.prog.cellsOf 48 = 3 := by kernel_rfl
set_option maxRecDepth 100000 in
theorem cells_arr : Try.prog.cellsOf 58 = 2 := by kernel_rfl
theorem addO_at (b off j : Nat) : (⟨b, off, none⟩ : Addr).add j = ⟨b, off + j, none⟩ := by unfold Addr.add; split <;> simp_all
theorem list_of {α : Type} {P : Nat → α → Prop} : ∀ (n : Nat), (∀ i, i < n → ∃ t, P i t) → ∃ l : List α, l.length = n ∧ ∀ i t, l[i]? = some t → P i t
  | 0, _ => ⟨[], rfl, fun i t h => by simp at h⟩
  | n + 1, h => by
    obtain ⟨l, hl, hp⟩ := list_of n (fun i hi => h i (by omega))
    obtain ⟨t, ht⟩ := h n (by omega)
    refine ⟨l ++ [t], by simp [hl], fun i u hu => ?_⟩
    rcases Nat.lt_or_ge i l.length with hi | hi
    · rw [List.getElem?_append_left hi] at hu
      exact hp i u hu
    · rw [List.getElem?_append_right hi] at hu
      have h0 : i - l.length = 0 := by
        have := (List.getElem?_eq_some_iff.1 hu).1
        simp at this
        omega
      rw [h0] at hu
      simp only [List.getElem?_cons_zero, Option.some.injEq] at hu
      subst hu
      rw [show i = n by omega]
      exact ht

section
variable {H : Type} {enc : TypeId × Value → H} {W : World} {fuel : Nat}
set_option maxRecDepth 100000 in
theorem cells_ops {cs : List Value} {x : DataW H × List MemPlace} (h : DataW.trod enc Try.prog W 0 (fun _ => true) true fuel 31 cs = some x) : ∃ o : Tr, cs = [.int .i64 o.a, .int .i64 o.b, .bool o.c] ∧ I64 o.a ∧ I64 o.b := by
  obtain ⟨xs, n, _, _, hlen, hxl, hg⟩ := DataW.trod_struct Try.underlying31 h
  rw [cells_opT] at hlen
  have hc : ∀ l : List Value, l.length = 3 → ∃ a b c, l = [a, b, c] := fun l hl => by
    match l, hl with
    | [a, b, c], _ => exact ⟨a, b, c, rfl⟩
  obtain ⟨c0, c1, c2, rfl⟩ := hc _ hlen
  match xs, hxl with
  | [x0, x1, x2], _ =>
    have h0 : DataW.trod enc Try.prog W 0 (fun _ => true) true n 3 (([c0, c1, c2].drop 0).take (Try.prog.cellsOf 3)) = some x0 := hg 0 _ rfl
    have h1 : DataW.trod enc Try.prog W 0 (fun _ => true) true n 3 (([c0, c1, c2].drop 1).take (Try.prog.cellsOf 3)) = some x1 := hg 1 _ rfl
    have h2 : DataW.trod enc Try.prog W 0 (fun _ => true) true n 4 (([c0, c1, c2].drop 2).take (Try.prog.cellsOf 4)) = some x2 := hg 2 _ rfl
    rw [cells_int] at h0 h1
    rw [cells_bool] at h2
    simp only [List.drop_zero, List.drop_succ_cons, List.take_succ_cons, List.take_zero] at h0 h1 h2
    obtain ⟨m0, e0, _, w0⟩ := DataW.trod_int Try.underlying3 h0
    obtain ⟨m1, e1, _, w1⟩ := DataW.trod_int Try.underlying3 h1
    obtain ⟨b2, e2, _⟩ := DataW.trod_bool Try.underlying4 h2
    injection e0 with e0
    injection e1 with e1
    injection e2 with e2
    subst e0 e1 e2
    exact ⟨⟨m0, m1, b2⟩, rfl, wf_i64 w0, wf_i64 w1⟩
theorem open_ops {base : Nat} {v : Value} {d : DataW H} {p : List MemPlace} (hval : Value.okWide Try.prog W .any base 23 v) (h : DataW.Trod enc Try.prog W 0 (fun _ => true) true 23 v d p) :
    ∃ (A : Option Addr) (c : Nat) (l : List Tr), v = .slice A l.length c ∧ Trs W v l := by
  obtain ⟨A, n, c, rfl⟩ := okWide_slice Try.underlying23 hval
  obtain ⟨fuel, hf⟩ := h
  rcases Deep.open_slice Try.underlying23 hf with ⟨e, _⟩ | ⟨a, len, cap, m, _, D, Pl, e, _, hl, hm, hmm, _, hi⟩
  · simp only [Value.cells] at e
    have e2 : Value.slice A n c = .slice none 0 0 := by simpa using e
    rw [e2]
    exact ⟨none, 0, [], rfl, none, 0, rfl, Nat.le_refl _, by simp [maxLen], fun p hp => by simp at hp, fun h => by simp at h⟩
  · simp only [Value.cells] at e
    have e2 : Value.slice A n c = .slice (some a) len cap := by simpa using e
    rw [e2]
    simp only [if_true] at hmm
    rw [cells_opT] at hi
    obtain ⟨l, hll, hp⟩ := list_of (α := Tr) (P := fun i o => (W.cell? (a.add (i * 3)) = some (.int .i64 o.a) ∧ W.cell? (a.add (i * 3 + 1)) = some (.int .i64 o.b) ∧ W.cell? (a.add (i * 3 + 2)) = some (.bool o.c)) ∧ I64 o.a ∧ I64 o.b) len (fun i hlt => by
      obtain ⟨cs', hc, ht⟩ := hi i (by omega)
      obtain ⟨o, hcs, ho⟩ := cells_ops ht
      obtain ⟨_, _, hat⟩ := World.cells?_some hc
      have h0 := hat 0 (by omega)
      have h1 := hat 1 (by omega)
      have h2 := hat 2 (by omega)
      rw [Deep.add_add, hcs] at h0 h1 h2
      exact ⟨o, ⟨by simpa using h0, by simpa using h1, by simpa using h2⟩, ho⟩)
    subst hll
    refine ⟨some a, cap, l, rfl, some a, cap, rfl, hl, hm, fun o ho => ?_, fun hn => ?_⟩
    · obtain ⟨i, hi2⟩ := List.getElem?_of_mem ho
      exact (hp i o hi2).2
    · obtain ⟨b, off, spot⟩ := a
      obtain ⟨t0, ht0⟩ : ∃ t, l[0]? = some t := ⟨_, List.getElem?_eq_getElem hn⟩
      have h0 := (hp 0 t0 ht0).1.1
      have hspot : spot = none := by simpa [Addr.add] using World.cell?_spot h0
      subst hspot
      refine ⟨b, off, rfl, ?_, fun j t ht => ?_⟩
      · have := World.block_lt_of_cell? W _ h0
        rw [addO_at] at this
        exact this
      · obtain ⟨⟨h0, h1, h2⟩, _⟩ := hp j t ht
        rw [addO_at] at h0 h1 h2
        exact ⟨h0, h1, h2⟩
set_option maxRecDepth 100000 in
theorem cells_steps {cs : List Value} {x : DataW H × List MemPlace} (h : DataW.trod enc Try.prog W 0 (fun _ => true) true fuel 48 cs = some x) : ∃ o : Tr, cs = [.int .i64 o.a, .int .i64 o.b, .bool o.c] ∧ I64 o.a ∧ I64 o.b := by
  obtain ⟨xs, n, _, _, hlen, hxl, hg⟩ := DataW.trod_struct Try.underlying48 h
  rw [cells_stepT] at hlen
  have hc : ∀ l : List Value, l.length = 3 → ∃ a b c, l = [a, b, c] := fun l hl => by
    match l, hl with
    | [a, b, c], _ => exact ⟨a, b, c, rfl⟩
  obtain ⟨c0, c1, c2, rfl⟩ := hc _ hlen
  match xs, hxl with
  | [x0, x1, x2], _ =>
    have h0 : DataW.trod enc Try.prog W 0 (fun _ => true) true n 3 (([c0, c1, c2].drop 0).take (Try.prog.cellsOf 3)) = some x0 := hg 0 _ rfl
    have h1 : DataW.trod enc Try.prog W 0 (fun _ => true) true n 3 (([c0, c1, c2].drop 1).take (Try.prog.cellsOf 3)) = some x1 := hg 1 _ rfl
    have h2 : DataW.trod enc Try.prog W 0 (fun _ => true) true n 4 (([c0, c1, c2].drop 2).take (Try.prog.cellsOf 4)) = some x2 := hg 2 _ rfl
    rw [cells_int] at h0 h1
    rw [cells_bool] at h2
    simp only [List.drop_zero, List.drop_succ_cons, List.take_succ_cons, List.take_zero] at h0 h1 h2
    obtain ⟨m0, e0, _, w0⟩ := DataW.trod_int Try.underlying3 h0
    obtain ⟨m1, e1, _, w1⟩ := DataW.trod_int Try.underlying3 h1
    obtain ⟨b2, e2, _⟩ := DataW.trod_bool Try.underlying4 h2
    injection e0 with e0
    injection e1 with e1
    injection e2 with e2
    subst e0 e1 e2
    exact ⟨⟨m0, m1, b2⟩, rfl, wf_i64 w0, wf_i64 w1⟩
theorem open_steps {base : Nat} {v : Value} {d : DataW H} {p : List MemPlace} (hval : Value.okWide Try.prog W .any base 41 v) (h : DataW.Trod enc Try.prog W 0 (fun _ => true) true 41 v d p) :
    ∃ (A : Option Addr) (c : Nat) (l : List Tr), v = .slice A l.length c ∧ Trs W v l := by
  obtain ⟨A, n, c, rfl⟩ := okWide_slice Try.underlying41 hval
  obtain ⟨fuel, hf⟩ := h
  rcases Deep.open_slice Try.underlying41 hf with ⟨e, _⟩ | ⟨a, len, cap, m, _, D, Pl, e, _, hl, hm, hmm, _, hi⟩
  · simp only [Value.cells] at e
    have e2 : Value.slice A n c = .slice none 0 0 := by simpa using e
    rw [e2]
    exact ⟨none, 0, [], rfl, none, 0, rfl, Nat.le_refl _, by simp [maxLen], fun p hp => by simp at hp, fun h => by simp at h⟩
  · simp only [Value.cells] at e
    have e2 : Value.slice A n c = .slice (some a) len cap := by simpa using e
    rw [e2]
    simp only [if_true] at hmm
    rw [cells_stepT] at hi
    obtain ⟨l, hll, hp⟩ := list_of (α := Tr) (P := fun i o => (W.cell? (a.add (i * 3)) = some (.int .i64 o.a) ∧ W.cell? (a.add (i * 3 + 1)) = some (.int .i64 o.b) ∧ W.cell? (a.add (i * 3 + 2)) = some (.bool o.c)) ∧ I64 o.a ∧ I64 o.b) len (fun i hlt => by
      obtain ⟨cs', hc, ht⟩ := hi i (by omega)
      obtain ⟨o, hcs, ho⟩ := cells_steps ht
      obtain ⟨_, _, hat⟩ := World.cells?_some hc
      have h0 := hat 0 (by omega)
      have h1 := hat 1 (by omega)
      have h2 := hat 2 (by omega)
      rw [Deep.add_add, hcs] at h0 h1 h2
      exact ⟨o, ⟨by simpa using h0, by simpa using h1, by simpa using h2⟩, ho⟩)
    subst hll
    refine ⟨some a, cap, l, rfl, some a, cap, rfl, hl, hm, fun o ho => ?_, fun hn => ?_⟩
    · obtain ⟨i, hi2⟩ := List.getElem?_of_mem ho
      exact (hp i o hi2).2
    · obtain ⟨b, off, spot⟩ := a
      obtain ⟨t0, ht0⟩ : ∃ t, l[0]? = some t := ⟨_, List.getElem?_eq_getElem hn⟩
      have h0 := (hp 0 t0 ht0).1.1
      have hspot : spot = none := by simpa [Addr.add] using World.cell?_spot h0
      subst hspot
      refine ⟨b, off, rfl, ?_, fun j t ht => ?_⟩
      · have := World.block_lt_of_cell? W _ h0
        rw [addO_at] at this
        exact this
      · obtain ⟨⟨h0, h1, h2⟩, _⟩ := hp j t ht
        rw [addO_at] at h0 h1 h2
        exact ⟨h0, h1, h2⟩
theorem open_ints {base : Nat} {v : Value} {d : DataW H} {p : List MemPlace} (hval : Value.okWide Try.prog W .any base 22 v) (h : DataW.Trod enc Try.prog W 0 (fun _ => true) true 22 v d p) :
    ∃ (A : Option Addr) (c : Nat) (l : List Int), v = .slice A l.length c ∧ Is W v l ∧ ∀ x ∈ l, I64 x := by
  obtain ⟨A, n, c, rfl⟩ := okWide_slice Try.underlying22 hval
  obtain ⟨fuel, hf⟩ := h
  rcases Deep.open_slice Try.underlying22 hf with ⟨e, _⟩ | ⟨a, len, cap, m, _, D, Pl, e, _, hl, hm, hmm, _, hi⟩
  · simp only [Value.cells] at e
    have e2 : Value.slice A n c = .slice none 0 0 := by simpa using e
    rw [e2]
    exact ⟨none, 0, [], rfl, is_nil W, fun p hp => by simp at hp⟩
  · simp only [Value.cells] at e
    have e2 : Value.slice A n c = .slice (some a) len cap := by simpa using e
    rw [e2]
    simp only [if_true] at hmm
    rw [cells_int] at hi
    obtain ⟨l, hll, hp⟩ := list_of (α := Int) (P := fun i x => W.cell? (a.add i) = some (.int .i64 x) ∧ I64 x) len (fun i hlt => by
      obtain ⟨cs', hc, ht⟩ := hi i (by omega)
      obtain ⟨hlen, _, hat⟩ := World.cells?_some hc
      obtain ⟨c0, rfl⟩ : ∃ c, cs' = [c] := by
        match cs', hlen with
        | [c], _ => exact ⟨c, rfl⟩
      obtain ⟨m0, e0, _, w0⟩ := DataW.trod_int Try.underlying3 ht
      injection e0 with e0
      subst e0
      have h0 := hat 0 (by omega)
      rw [Deep.add_add] at h0
      exact ⟨m0, by simpa using h0, wf_i64 w0⟩)
    subst hll
    refine ⟨some a, cap, l, rfl, ⟨some a, cap, rfl, hl, hm, fun hn => ?_⟩, fun x hx => ?_⟩
    · obtain ⟨b, off, spot⟩ := a
      obtain ⟨t0, ht0⟩ : ∃ t, l[0]? = some t := ⟨_, List.getElem?_eq_getElem hn⟩
      have h0 := (hp 0 t0 ht0).1
      have hspot : spot = none := by simpa [Addr.add] using World.cell?_spot h0
      subst hspot
      refine ⟨b, off, rfl, ?_, fun j t ht => ?_⟩
      · have := World.block_lt_of_cell? W _ h0
        rw [addO_at] at this
        exact this
      · have h1 := (hp j t ht).1
        rw [addO_at] at h1
        exact h1
    · obtain ⟨i, hi2⟩ := List.getElem?_of_mem hx
      exact (hp i x hi2).2
set_option maxRecDepth 100000 in
theorem open_arr {base : Nat} {v : Value} {d : DataW H} {p : List MemPlace} (hval : Value.okWide Try.prog W .any base 58 v) (h : DataW.Trod enc Try.prog W 0 (fun _ => true) true 58 v d p) :
    ∃ a b : Int, v = .agg #[.int .i64 a, .int .i64 b] ∧ I64 a ∧ I64 b := by
  obtain ⟨fuel, hf⟩ := h
  obtain ⟨xs, m, _, _, hlen, hxl, hg⟩ := DataW.trod_array Try.underlying58 hf
  rw [cells_arr] at hlen
  obtain ⟨cs, rfl⟩ : ∃ cs, v = .agg cs := by
    simp only [Value.okWide, Try.underlying58] at hval
    obtain ⟨cs, h1, _⟩ := hval
    exact ⟨cs, h1⟩
  have hg0 := hg 0 (by decide)
  have hg1 := hg 1 (by decide)
  simp only [Value.cells] at hlen hg0 hg1
  have hc : ∀ l : List Value, l.length = 2 → ∃ a b, l = [a, b] := fun l hl => by
    match l, hl with
    | [a, b], _ => exact ⟨a, b, rfl⟩
  obtain ⟨c0, c1, e⟩ := hc _ hlen
  rw [e, cells_int] at hg0 hg1
  match xs, hxl with
  | [x0, x1], _ =>
    simp only [Nat.zero_mul, Nat.one_mul, List.drop_zero, List.drop_succ_cons, List.take_succ_cons, List.take_zero] at hg0 hg1
    obtain ⟨m0, e0, _, w0⟩ := DataW.trod_int Try.underlying3 hg0
    obtain ⟨m1, e1, _, w1⟩ := DataW.trod_int Try.underlying3 hg1
    injection e0 with e0
    injection e1 with e1
    subst e0 e1
    exact ⟨m0, m1, congrArg Value.agg (Array.ext' e), wf_i64 w0, wf_i64 w1⟩
end

end Go.Proofs.Ytkehdaahlfkiiaa
