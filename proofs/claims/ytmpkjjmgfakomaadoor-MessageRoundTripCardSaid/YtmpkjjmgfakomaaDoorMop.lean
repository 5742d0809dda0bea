/-
  Messages and frames as arguments, opened.
-/
import Derived.Test.YtmpkjjmgfakomaaDoorMta
import Derived.ProofKit
import Derived.OpenShut
import Derived.Deep.Slices
namespace Go.Proofs.YtmpkjjmgfakomaaDoor
open Go.ChangeShapes Go.WideShapes Go.ChangeAt Go.RowKit Mem Wire

theorem wf_i64 {m : Int} (h : (Lit.int .i64 m).wf = true) : In64 m := by
  have g1 : IntKind.i64.min = -9223372036854775808 := rfl
  have g2 : IntKind.i64.max = 9223372036854775807 := rfl
  unfold In64
  simpa only [Lit.wf, Bool.and_eq_true, decide_eq_true_eq, g1, g2] using h
theorem wf_u8 {m : Int} (h : (Lit.int .u8 m).wf = true) : 0 ≤ m ∧ m ≤ 255 := by
  have g1 : IntKind.u8.min = 0 := rfl
  have g2 : IntKind.u8.max = 255 := rfl
  simpa only [Lit.wf, Bool.and_eq_true, decide_eq_true_eq, g1, g2] using h
theorem wf_u32 {m : Int} (h : (Lit.int .u32 m).wf = true) : 0 ≤ m ∧ m ≤ 4294967295 := by
  have g1 : IntKind.u32.min = 0 := rfl
  have g2 : IntKind.u32.max = 4294967295 := rfl
  simpa only [Lit.wf, Bool.and_eq_true, decide_eq_true_eq, g1, g2] using h

set_option maxRecDepth 100000 in
theorem cells_of5 : Tryd.prog.cellsOf 5 = 1 := by kernel_rfl
set_option maxRecDepth 100000 in
theorem cells_of3 : Tryd.prog.cellsOf 3 = 1 := by kernel_rfl
set_option maxRecDepth 100000 in
theorem cells_of2 : Tryd.prog.cellsOf 2 = 1 := by kernel_rfl
set_option maxRecDepth 100000 in
theorem cells_of9 : Tryd.prog.cellsOf 9 = 1 := by kernel_rfl
set_option maxRecDepth 100000 in
theorem cells_of22 : Tryd.prog.cellsOf 22 = 1 := by kernel_rfl
set_option maxRecDepth 100000 in
theorem cells_of23 : Tryd.prog.cellsOf 23 = 1 := by kernel_rfl
set_option maxRecDepth 100000 in
theorem cells_of28 : Tryd.prog.cellsOf 28 = 1 := by kernel_rfl
set_option maxRecDepth 100000 in
theorem cells_of43 : Tryd.prog.cellsOf 43 = 4 := by kernel_rfl
set_option maxRecDepth 100000 in
theorem cells_of25 : Tryd.prog.cellsOf 25 = 3 := by kernel_rfl
set_option maxRecDepth 100000 in
theorem cells_of33 : Tryd.prog.cellsOf 33 = 3 := by kernel_rfl

theorem add_at (b off j : Nat) : (⟨b, off, none⟩ : Addr).add j = ⟨b, off + j, none⟩ := by unfold Addr.add; split <;> simp_all

theorem list_of {α : Type} {P : Nat → α → Prop} : ∀ (n : Nat), (∀ i, i < n → ∃ t, P i t) → ∃ l : List α, l.length = n ∧ ∀ i t, l[i]? = some t → P i t
  | 0, _ => ⟨[], rfl, fun i t h => by simp at h⟩
  | n + 1, h => by
    obtain ⟨l, hl, hp⟩ := list_of n (fun i hi => h i (by omega))
    obtain ⟨t, ht⟩ := h n (by omega)
    refine ⟨l ++ [t], by simp [hl], fun i u hu => ?_⟩
    rcases Nat.lt_or_ge i l.length with hi | hi
    · rw [List.getElem?_append_left hi] at hu
      exact hp i u hu
    · rw [List.getElem?_append_right hi] at hu
      have h0 : i - l.length = 0 := by
        have := (List.getElem?_eq_some_iff.1 hu).1
        simp at this
        omega
      rw [h0] at hu
      simp only [List.getElem?_cons_zero, Option.some.injEq] at hu
      subst hu
      rw [show i = n by omega]
      exact ht

section
variable {H : Type} {enc : TypeId × Value → H} {W : World} {fuel : Nat}

set_option maxRecDepth 100000 in
/-- the one cell of a slice of bytes -/
theorem cells_bytes {cs : List Value} {x : DataW H × List MemPlace} (hf : DataW.trod enc Tryd.prog W 0 (fun _ => true) true fuel 28 cs = some x) : ∃ v bs, cs = [v] ∧ Sees W v bs := by
  rcases Deep.open_slice1 Tryd.underlying28 cells_of5 hf with ⟨e, _⟩ | ⟨a, len, cap, m, _, V, D, Pl, e, _, hl, hm, hmm, _, hi⟩
  · exact ⟨_, [], e, sees_nil W⟩
  · simp only [if_true] at hmm
    obtain ⟨l, hll, hp⟩ := list_of (α := UInt8) (P := fun i b => W.cell? (a.add i) = some (byte b)) len (fun i hlt => by
      obtain ⟨h1, h2⟩ := hi i (by omega)
      obtain ⟨m, e0, _, wf⟩ := DataW.trod_int Tryd.underlying5 h2
      simp only [List.cons.injEq, and_true] at e0
      obtain ⟨r0, r1⟩ := wf_u8 wf
      refine ⟨UInt8.ofNat m.toNat, ?_⟩
      rw [h1, e0]
      unfold byte
      rw [UInt8.toNat_ofNat', show ((m.toNat % 2 ^ 8 : Nat) : Int) = m by omega])
    subst hll
    refine ⟨_, l, e, some a, cap, rfl, hl, hm, fun hn => ?_⟩
    obtain ⟨b, off, spot⟩ := a
    have h0 := hp 0 _ (List.getElem?_eq_getElem hn)
    have hspot : spot = none := by simpa [Addr.add] using World.cell?_spot h0
    subst hspot
    refine ⟨b, off, rfl, ?_, fun j hj => ?_⟩
    · have := World.block_lt_of_cell? W _ h0
      rw [add_at] at this
      exact this
    · have h1 := hp j _ (List.getElem?_eq_getElem hj)
      rw [add_at] at h1
      rw [h1]
      simp [List.getD, List.getElem?_eq_getElem hj]

set_option maxRecDepth 100000 in
/-- the four cells of an argument -/
theorem cells_arg {cs : List Value} {x : DataW H × List MemPlace} (h : DataW.trod enc Tryd.prog W 0 (fun _ => true) true fuel 43 cs = some x) :
    ∃ p : AgV, cs = agC p ∧ AgOk W p ∧ In64 p.1.nn := by
  obtain ⟨xs, n, _, _, hlen, hxl, hg⟩ := DataW.trod_struct Tryd.underlying43 h
  rw [cells_of43] at hlen
  have hc : ∀ l : List Value, l.length = 4 → ∃ a b c d, l = [a, b, c, d] := fun l hl => by
    match l, hl with
    | [a, b, c, d], _ => exact ⟨a, b, c, d, rfl⟩
  obtain ⟨c0, c1, c2, c3, rfl⟩ := hc _ hlen
  match xs, hxl with
  | [x0, x1, x2, x3], _ =>
    have h0 : DataW.trod enc Tryd.prog W 0 (fun _ => true) true n 3 (([c0, c1, c2, c3].drop 0).take (Tryd.prog.cellsOf 3)) = some x0 := hg 0 _ rfl
    have h1 : DataW.trod enc Tryd.prog W 0 (fun _ => true) true n 2 (([c0, c1, c2, c3].drop 1).take (Tryd.prog.cellsOf 2)) = some x1 := hg 1 _ rfl
    have h2 : DataW.trod enc Tryd.prog W 0 (fun _ => true) true n 9 (([c0, c1, c2, c3].drop 2).take (Tryd.prog.cellsOf 9)) = some x2 := hg 2 _ rfl
    have h3 : DataW.trod enc Tryd.prog W 0 (fun _ => true) true n 28 (([c0, c1, c2, c3].drop 3).take (Tryd.prog.cellsOf 28)) = some x3 := hg 3 _ rfl
    rw [cells_of3] at h0
    rw [cells_of2] at h1
    rw [cells_of9] at h2
    rw [cells_of28] at h3
    simp only [List.drop_zero, List.drop_succ_cons, List.take_succ_cons, List.take_zero] at h0 h1 h2 h3
    obtain ⟨m0, e0, _, _⟩ := DataW.trod_int Tryd.underlying3 h0
    obtain ⟨m1, e1, _, w1⟩ := DataW.trod_int Tryd.underlying2 h1
    obtain ⟨s2, e2, _, hs⟩ := DataW.trod_string Tryd.underlying9 h2
    obtain ⟨v3, bs, e3, hb⟩ := cells_bytes h3
    injection e0 with e0
    injection e1 with e1
    injection e2 with e2
    injection e3 with e3
    subst e0 e1 e2 e3
    exact ⟨(⟨m0, m1, s2, bs⟩, _), rfl, ⟨hb, hs⟩, wf_i64 w1⟩

set_option maxRecDepth 100000 in
/-- the one cell of a slice of arguments -/
theorem cells_args {cs : List Value} {x : DataW H × List MemPlace} (hf : DataW.trod enc Tryd.prog W 0 (fun _ => true) true fuel 23 cs = some x) : ∃ v l, cs = [v] ∧ Ags W v l ∧ ∀ p ∈ l, In64 p.1.nn := by
  rcases Deep.open_slice Tryd.underlying23 hf with ⟨e, _⟩ | ⟨a, len, cap, m, _, D, Pl, e, _, hl, hm, hmm, _, hi⟩
  · exact ⟨_, [], e, ags_nil W, fun p hp => by cases hp⟩
  · simp only [if_true] at hmm
    rw [cells_of43] at hi
    obtain ⟨l, hll, hp⟩ := list_of (α := AgV) (P := fun i r => (W.cell? (a.add (i * 4)) = some (.int .i64 r.1.kd) ∧ W.cell? (a.add (i * 4 + 1)) = some (.int .i64 r.1.nn) ∧ W.cell? (a.add (i * 4 + 2)) = some (.string r.1.ss) ∧ W.cell? (a.add (i * 4 + 3)) = some r.2) ∧ AgOk W r ∧ In64 r.1.nn) len (fun i hlt => by
      obtain ⟨cs', hc, ht⟩ := hi i (by omega)
      obtain ⟨r, hcs, hok, h64⟩ := cells_arg ht
      obtain ⟨_, _, hat⟩ := World.cells?_some hc
      have h0 := hat 0 (by omega)
      have h1 := hat 1 (by omega)
      have h2 := hat 2 (by omega)
      have h3 := hat 3 (by omega)
      rw [Deep.add_add, hcs] at h0 h1 h2 h3
      exact ⟨r, ⟨by simpa using h0, by simpa using h1, by simpa using h2, by simpa using h3⟩, hok, h64⟩)
    subst hll
    have hmem : ∀ p ∈ l, AgOk W p ∧ In64 p.1.nn := fun p hpm => by
      obtain ⟨i, hi2⟩ := List.mem_iff_getElem?.1 hpm
      exact (hp i p hi2).2
    refine ⟨_, l, e, ⟨⟨some a, cap, rfl, hl, hm, fun hn => ?_⟩, fun p hp2 => (hmem p hp2).1⟩, fun p hp2 => (hmem p hp2).2⟩
    obtain ⟨b, off, spot⟩ := a
    obtain ⟨t0, ht0⟩ : ∃ t, l[0]? = some t := ⟨_, List.getElem?_eq_getElem hn⟩
    have h0 := (hp 0 t0 ht0).1.1
    have hspot : spot = none := by simpa [Addr.add] using World.cell?_spot h0
    subst hspot
    refine ⟨b, off, rfl, ?_, fun j t ht => ?_⟩
    · have := World.block_lt_of_cell? W _ h0
      rw [add_at] at this
      exact this
    · obtain ⟨h0, h1, h2, h3⟩ := (hp j t ht).1
      rw [add_at] at h0 h1 h2 h3
      exact ⟨h0, h1, h2, h3⟩

set_option maxRecDepth 100000 in
theorem open_msg {base : Nat} {v : Value} {d : DataW H} {p : List MemPlace} (hval : Value.okWide Tryd.prog W .any base 25 v) (h : DataW.Trod enc Tryd.prog W 0 (fun _ => true) true 25 v d p) :
    ∃ (ob : Nat) (oc : Int) (u : Value) (l : List AgV), v = msVal ob oc u ∧ ob < 4294967296 ∧ In64 oc ∧ Ags W u l ∧ ∀ p ∈ l, In64 p.1.nn := by
  obtain ⟨cs, rfl, _⟩ := okWide_struct Tryd.underlying25 hval
  obtain ⟨fuel, hf⟩ := h
  obtain ⟨xs, n, _, _, hlen, hxl, hg⟩ := DataW.trod_struct Tryd.underlying25 hf
  rw [cells_of25] at hlen
  have hc : ∀ l : List Value, l.length = 3 → ∃ c0 c1 c2, l = [c0, c1, c2] := fun l hl => by
    match l, hl with
    | [c0, c1, c2], _ => exact ⟨c0, c1, c2, rfl⟩
  obtain ⟨c0, c1, c2, e⟩ := hc _ hlen
  match xs, hxl with
  | [x0, x1, x2], _ =>
    rw [e] at hg
    have h0 : DataW.trod enc Tryd.prog W 0 (fun _ => true) true n 22 (([c0, c1, c2].drop 0).take (Tryd.prog.cellsOf 22)) = some x0 := hg 0 _ rfl
    have h1 : DataW.trod enc Tryd.prog W 0 (fun _ => true) true n 3 (([c0, c1, c2].drop 1).take (Tryd.prog.cellsOf 3)) = some x1 := hg 1 _ rfl
    have h2 : DataW.trod enc Tryd.prog W 0 (fun _ => true) true n 23 (([c0, c1, c2].drop 2).take (Tryd.prog.cellsOf 23)) = some x2 := hg 2 _ rfl
    rw [cells_of22] at h0
    rw [cells_of3] at h1
    rw [cells_of23] at h2
    simp only [List.drop_zero, List.drop_succ_cons, List.take_succ_cons, List.take_zero] at h0 h1 h2
    obtain ⟨m0, e0, _, w0⟩ := DataW.trod_int Tryd.underlying22 h0
    obtain ⟨m1, e1, _, w1⟩ := DataW.trod_int Tryd.underlying3 h1
    obtain ⟨u, l, e2, hp, hp2⟩ := cells_args h2
    injection e0 with e0
    injection e1 with e1
    injection e2 with e2
    subst e0 e1 e2
    obtain ⟨r0, r1⟩ := wf_u32 w0
    obtain ⟨k, rfl⟩ : ∃ k : Nat, m0 = (k : Int) := ⟨m0.toNat, by omega⟩
    exact ⟨k, m1, _, l, congrArg Value.agg (Array.ext' e), by omega, wf_i64 w1, hp, hp2⟩

set_option maxRecDepth 100000 in
theorem open_frame {base : Nat} {v : Value} {d : DataW H} {p : List MemPlace} (hval : Value.okWide Tryd.prog W .any base 33 v) (h : DataW.Trod enc Tryd.prog W 0 (fun _ => true) true 33 v d p) :
    ∃ (ob : Nat) (oc : Int) (A : Option Addr) (n c : Nat) (bs : List UInt8), v = .agg #[.int .u32 (ob : Int), .int .i64 oc, .slice A n c] ∧ ob < 4294967296 ∧ In64 oc ∧ Sees W (.slice A n c) bs := by
  obtain ⟨cs, rfl, _⟩ := okWide_struct Tryd.underlying33 hval
  obtain ⟨fuel, hf⟩ := h
  obtain ⟨xs, n, _, _, hlen, hxl, hg⟩ := DataW.trod_struct Tryd.underlying33 hf
  rw [cells_of33] at hlen
  have hc : ∀ l : List Value, l.length = 3 → ∃ c0 c1 c2, l = [c0, c1, c2] := fun l hl => by
    match l, hl with
    | [c0, c1, c2], _ => exact ⟨c0, c1, c2, rfl⟩
  obtain ⟨c0, c1, c2, e⟩ := hc _ hlen
  match xs, hxl with
  | [x0, x1, x2], _ =>
    rw [e] at hg
    have h0 : DataW.trod enc Tryd.prog W 0 (fun _ => true) true n 22 (([c0, c1, c2].drop 0).take (Tryd.prog.cellsOf 22)) = some x0 := hg 0 _ rfl
    have h1 : DataW.trod enc Tryd.prog W 0 (fun _ => true) true n 3 (([c0, c1, c2].drop 1).take (Tryd.prog.cellsOf 3)) = some x1 := hg 1 _ rfl
    have h2 : DataW.trod enc Tryd.prog W 0 (fun _ => true) true n 28 (([c0, c1, c2].drop 2).take (Tryd.prog.cellsOf 28)) = some x2 := hg 2 _ rfl
    rw [cells_of22] at h0
    rw [cells_of3] at h1
    rw [cells_of28] at h2
    simp only [List.drop_zero, List.drop_succ_cons, List.take_succ_cons, List.take_zero] at h0 h1 h2
    obtain ⟨m0, e0, _, w0⟩ := DataW.trod_int Tryd.underlying22 h0
    obtain ⟨m1, e1, _, w1⟩ := DataW.trod_int Tryd.underlying3 h1
    obtain ⟨u, bs, e2, hp⟩ := cells_bytes h2
    injection e0 with e0
    injection e1 with e1
    injection e2 with e2
    subst e0 e1 e2
    obtain ⟨r0, r1⟩ := wf_u32 w0
    obtain ⟨k, rfl⟩ : ∃ k : Nat, m0 = (k : Int) := ⟨m0.toNat, by omega⟩
    obtain ⟨A, cap, rfl, _, _⟩ := hp.shape
    exact ⟨k, m1, A, _, cap, bs, congrArg Value.agg (Array.ext' e), by omega, wf_i64 w1, hp⟩

end
end Go.Proofs.YtmpkjjmgfakomaaDoor
