/-
  The arguments of the laws, opened: pixels, slices of pixels and numbers.
-/
import Derived.Test.YtkphkmcdbmphlaaExam
import Derived.ProofKit
import Derived.OpenShut
import Derived.Deep.Slices
namespace Go.Proofs.Ytkphkmcdbmphlaa
open Go.ChangeShapes Go.WideShapes Go.ChangeAt Go.RowKit

theorem own : ownKnob Try.prog.godebug = none := by kernel_rfl
theorem laidOut : laidOutB Try.prog = true := by kernel_rfl
theorem cellsOf5 : Try.prog.cellsOf 5 = 1 := by kernel_rfl
theorem cellsOf23 : Try.prog.cellsOf 23 = 4 := by kernel_rfl

theorem range_u32 {m : Int} (w : (Lit.int .u32 m).wf = true) : ∃ k : Nat, m = (k : Int) ∧ k < 4294967296 := by
  have g1 : IntKind.u32.min = 0 := rfl
  have g2 : IntKind.u32.max = 4294967295 := rfl
  simp only [Lit.wf, Bool.and_eq_true, decide_eq_true_eq, g1, g2] at w
  exact ⟨m.toNat, by omega, by omega⟩
theorem range_u8 {m : Int} (w : (Lit.int .u8 m).wf = true) : ∃ k : Nat, m = (k : Int) ∧ k < 256 := by
  have g1 : IntKind.u8.min = 0 := rfl
  have g2 : IntKind.u8.max = 255 := rfl
  simp only [Lit.wf, Bool.and_eq_true, decide_eq_true_eq, g1, g2] at w
  exact ⟨m.toNat, by omega, by omega⟩

theorem add_at (b off j : Nat) : (⟨b, off, none⟩ : Addr).add j = ⟨b, off + j, none⟩ := by unfold Addr.add; split <;> simp_all

theorem list_of {α : Type} {P : Nat → α → Prop} : ∀ (n : Nat), (∀ i, i < n → ∃ t, P i t) → ∃ l : List α, l.length = n ∧ ∀ i t, l[i]? = some t → P i t
  | 0, _ => ⟨[], rfl, fun i t h => by simp at h⟩
  | n + 1, h => by
    obtain ⟨l, hl, hp⟩ := list_of n (fun i hi => h i (by omega))
    obtain ⟨t, ht⟩ := h n (by omega)
    refine ⟨l ++ [t], by simp [hl], fun i u hu => ?_⟩
    rcases Nat.lt_or_ge i l.length with hi | hi
    · rw [List.getElem?_append_left hi] at hu
      exact hp i u hu
    · rw [List.getElem?_append_right hi] at hu
      have h0 : i - l.length = 0 := by
        have := (List.getElem?_eq_some_iff.1 hu).1
        simp at this
        omega
      rw [h0] at hu
      simp only [List.getElem?_cons_zero, Option.some.injEq] at hu
      subst hu
      rw [show i = n by omega]
      exact ht

section
variable {H : Type} {enc : TypeId × Value → H} {W : World} {fuel : Nat}

theorem cells_u8 {cs : List Value} {x : DataW H × List MemPlace} (h : DataW.trod enc Try.prog W 0 (fun _ => true) true fuel 5 cs = some x) : ∃ m : Nat, cs = [.int .u8 (m : Int)] ∧ m < 256 := by
  obtain ⟨m, e, _, hw⟩ := DataW.trod_int Try.underlying5 h
  obtain ⟨k, rfl, hk⟩ := range_u8 hw
  exact ⟨k, e, hk⟩

/-- the four cells of a pixel -/
theorem cells_px {cs : List Value} {x : DataW H × List MemPlace} (h : DataW.trod enc Try.prog W 0 (fun _ => true) true fuel 23 cs = some x) :
    ∃ p : Px, cs = [.int .u8 (p.r : Int), .int .u8 (p.g : Int), .int .u8 (p.b : Int), .int .u8 (p.a : Int)] ∧ Byt p := by
  obtain ⟨xs, n, _, _, hlen, hxl, hg⟩ := DataW.trod_struct Try.underlying23 h
  rw [cellsOf23] at hlen
  have hc : ∀ l : List Value, l.length = 4 → ∃ a b c d, l = [a, b, c, d] := fun l hl => by
    match l, hl with
    | [a, b, c, d], _ => exact ⟨a, b, c, d, rfl⟩
  obtain ⟨c0, c1, c2, c3, rfl⟩ := hc _ hlen
  match xs, hxl with
  | [x0, x1, x2, x3], _ =>
    have h0 : DataW.trod enc Try.prog W 0 (fun _ => true) true n 5 (([c0, c1, c2, c3].drop 0).take (Try.prog.cellsOf 5)) = some x0 := hg 0 _ rfl
    have h1 : DataW.trod enc Try.prog W 0 (fun _ => true) true n 5 (([c0, c1, c2, c3].drop 1).take (Try.prog.cellsOf 5)) = some x1 := hg 1 _ rfl
    have h2 : DataW.trod enc Try.prog W 0 (fun _ => true) true n 5 (([c0, c1, c2, c3].drop 2).take (Try.prog.cellsOf 5)) = some x2 := hg 2 _ rfl
    have h3 : DataW.trod enc Try.prog W 0 (fun _ => true) true n 5 (([c0, c1, c2, c3].drop 3).take (Try.prog.cellsOf 5)) = some x3 := hg 3 _ rfl
    rw [cellsOf5] at h0 h1 h2 h3
    simp only [List.drop_zero, List.drop_succ_cons, List.take_succ_cons, List.take_zero] at h0 h1 h2 h3
    obtain ⟨m0, e0, b0⟩ := cells_u8 h0
    obtain ⟨m1, e1, b1⟩ := cells_u8 h1
    obtain ⟨m2, e2, b2⟩ := cells_u8 h2
    obtain ⟨m3, e3, b3⟩ := cells_u8 h3
    injection e0 with e0
    injection e1 with e1
    injection e2 with e2
    injection e3 with e3
    subst e0 e1 e2 e3
    exact ⟨⟨m0, m1, m2, m3⟩, rfl, b0, b1, b2, b3⟩

set_option maxRecDepth 100000 in
theorem open_px {base : Nat} {v : Value} {d : DataW H} {p : List MemPlace} (hval : Value.okWide Try.prog W .any base 23 v) (h : DataW.Trod enc Try.prog W 0 (fun _ => true) true 23 v d p) :
    ∃ q : Px, v = .agg #[.int .u8 (q.r : Int), .int .u8 (q.g : Int), .int .u8 (q.b : Int), .int .u8 (q.a : Int)] ∧ Byt q := by
  obtain ⟨cs, rfl, _⟩ := okWide_struct Try.underlying23 hval
  obtain ⟨fuel, hf⟩ := h
  obtain ⟨q, e, hq⟩ := cells_px hf
  exact ⟨q, congrArg Value.agg (Array.ext' e), hq⟩

/-- the one cell of a slice of pixels -/
theorem cells_pxs {cs : List Value} {x : DataW H × List MemPlace} (hf : DataW.trod enc Try.prog W 0 (fun _ => true) true fuel 35 cs = some x) : ∃ v l, cs = [v] ∧ Pxs W v l ∧ ∀ p ∈ l, Byt p := by
  rcases Deep.open_slice Try.underlying35 hf with ⟨e, _⟩ | ⟨a, len, cap, m, _, D, Pl, e, _, hl, hm, hmm, _, hi⟩
  · exact ⟨_, [], e, pxs_nil W, fun p hp => by simp at hp⟩
  · simp only [if_true] at hmm
    rw [cellsOf23] at hi
    obtain ⟨l, hll, hp⟩ := list_of (α := Px) (P := fun i r => (W.cell? (a.add (i * 4)) = some (.int .u8 (r.r : Int)) ∧ W.cell? (a.add (i * 4 + 1)) = some (.int .u8 (r.g : Int)) ∧ W.cell? (a.add (i * 4 + 2)) = some (.int .u8 (r.b : Int)) ∧ W.cell? (a.add (i * 4 + 3)) = some (.int .u8 (r.a : Int))) ∧ Byt r) len (fun i hlt => by
      obtain ⟨cs', hc, ht⟩ := hi i (by omega)
      obtain ⟨r, hcs, hr⟩ := cells_px ht
      obtain ⟨_, _, hat⟩ := World.cells?_some hc
      have h0 := hat 0 (by omega)
      have h1 := hat 1 (by omega)
      have h2 := hat 2 (by omega)
      have h3 := hat 3 (by omega)
      rw [Deep.add_add, hcs] at h0 h1 h2 h3
      exact ⟨r, ⟨by simpa using h0, by simpa using h1, by simpa using h2, by simpa using h3⟩, hr⟩)
    subst hll
    refine ⟨_, l, e, ⟨some a, cap, rfl, hl, hm, fun hn => ?_⟩, fun p hmem => ?_⟩
    · obtain ⟨b, off, spot⟩ := a
      obtain ⟨t0, ht0⟩ : ∃ t, l[0]? = some t := ⟨_, List.getElem?_eq_getElem hn⟩
      have h0 := (hp 0 t0 ht0).1.1
      have hspot : spot = none := by simpa [Addr.add] using World.cell?_spot h0
      subst hspot
      refine ⟨b, off, rfl, ?_, fun j t ht => ?_⟩
      · have := World.block_lt_of_cell? W _ h0
        rw [add_at] at this
        exact this
      · obtain ⟨⟨h0, h1, h2, h3⟩, _⟩ := hp j t ht
        rw [add_at] at h0 h1 h2 h3
        exact ⟨h0, h1, h2, h3⟩
    · obtain ⟨i, hi, he⟩ := List.getElem_of_mem hmem
      exact (hp i p (by rw [List.getElem?_eq_getElem hi, he])).2

theorem open_pxs {base : Nat} {v : Value} {d : DataW H} {p : List MemPlace} (hval : Value.okWide Try.prog W .any base 35 v) (h : DataW.Trod enc Try.prog W 0 (fun _ => true) true 35 v d p) :
    ∃ l : List Px, Pxs W v l ∧ ∀ q ∈ l, Byt q := by
  obtain ⟨A, n, c, rfl⟩ := okWide_slice Try.underlying35 hval
  obtain ⟨fuel, hf⟩ := h
  obtain ⟨u, l, e, hp, hb⟩ := cells_pxs (by simpa [Value.cells] using hf)
  injection e with e
  subst e
  exact ⟨l, hp, hb⟩

end
end Go.Proofs.Ytkphkmcdbmphlaa
