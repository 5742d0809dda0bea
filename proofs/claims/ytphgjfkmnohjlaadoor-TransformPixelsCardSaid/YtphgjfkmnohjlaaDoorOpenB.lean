/-
  A buffer as an argument, opened: its width, its height and its pixels.
-/
import Derived.Test.YtphgjfkmnohjlaaDoorOpen
import Derived.Test.YtphgjfkmnohjlaaDoorPxm
import Derived.Deep.Slices
namespace Go.Proofs.YtphgjfkmnohjlaaDoor
open Go.ChangeShapes Go.WideShapes Go.ChangeAt Go.RowKit

theorem cellsOf5 : Tryd.prog.cellsOf 5 = 1 := by kernel_rfl
theorem cellsOf38 : Tryd.prog.cellsOf 38 = 1 := by kernel_rfl
theorem cellsOf60 : Tryd.prog.cellsOf 60 = 4 := by kernel_rfl
theorem cellsOf40 : Tryd.prog.cellsOf 40 = 3 := by kernel_rfl

theorem add_at (b off j : Nat) : (⟨b, off, none⟩ : Addr).add j = ⟨b, off + j, none⟩ := by unfold Addr.add; split <;> simp_all

theorem list_of {α : Type} {P : Nat → α → Prop} : ∀ (n : Nat), (∀ i, i < n → ∃ t, P i t) → ∃ l : List α, l.length = n ∧ ∀ i t, l[i]? = some t → P i t
  | 0, _ => ⟨[], rfl, fun i t h => by simp at h⟩
  | n + 1, h => by
    obtain ⟨l, hl, hp⟩ := list_of n (fun i hi => h i (by omega))
    obtain ⟨t, ht⟩ := h n (by omega)
    refine ⟨l ++ [t], by simp [hl], fun i u hu => ?_⟩
    rcases Nat.lt_or_ge i l.length with hi | hi
    · rw [List.getElem?_append_left hi] at hu
      exact hp i u hu
    · rw [List.getElem?_append_right hi] at hu
      have h0 : i - l.length = 0 := by
        have := (List.getElem?_eq_some_iff.1 hu).1
        simp at this
        omega
      rw [h0] at hu
      simp only [List.getElem?_cons_zero, Option.some.injEq] at hu
      subst hu
      rw [show i = n by omega]
      exact ht

section
variable {H : Type} {enc : TypeId × Value → H} {W : World} {fuel : Nat}

theorem cells_u8 {cs : List Value} {x : DataW H × List MemPlace} (h : DataW.trod enc Tryd.prog W 0 (fun _ => true) true fuel 5 cs = some x) : ∃ m : Int, cs = [.int .u8 m] := by
  obtain ⟨m, e, _, _⟩ := DataW.trod_int Tryd.underlying5 h
  exact ⟨m, e⟩

/-- the four cells of a pixel -/
theorem cells_px {cs : List Value} {x : DataW H × List MemPlace} (h : DataW.trod enc Tryd.prog W 0 (fun _ => true) true fuel 60 cs = some x) :
    ∃ p : Px, cs = [.int .u8 p.r, .int .u8 p.g, .int .u8 p.b, .int .u8 p.a] := by
  obtain ⟨xs, n, _, _, hlen, hxl, hg⟩ := DataW.trod_struct Tryd.underlying60 h
  rw [cellsOf60] at hlen
  have hc : ∀ l : List Value, l.length = 4 → ∃ a b c d, l = [a, b, c, d] := fun l hl => by
    match l, hl with
    | [a, b, c, d], _ => exact ⟨a, b, c, d, rfl⟩
  obtain ⟨c0, c1, c2, c3, rfl⟩ := hc _ hlen
  match xs, hxl with
  | [x0, x1, x2, x3], _ =>
    have h0 : DataW.trod enc Tryd.prog W 0 (fun _ => true) true n 5 (([c0, c1, c2, c3].drop 0).take (Tryd.prog.cellsOf 5)) = some x0 := hg 0 _ rfl
    have h1 : DataW.trod enc Tryd.prog W 0 (fun _ => true) true n 5 (([c0, c1, c2, c3].drop 1).take (Tryd.prog.cellsOf 5)) = some x1 := hg 1 _ rfl
    have h2 : DataW.trod enc Tryd.prog W 0 (fun _ => true) true n 5 (([c0, c1, c2, c3].drop 2).take (Tryd.prog.cellsOf 5)) = some x2 := hg 2 _ rfl
    have h3 : DataW.trod enc Tryd.prog W 0 (fun _ => true) true n 5 (([c0, c1, c2, c3].drop 3).take (Tryd.prog.cellsOf 5)) = some x3 := hg 3 _ rfl
    rw [cellsOf5] at h0 h1 h2 h3
    simp only [List.drop_zero, List.drop_succ_cons, List.take_succ_cons, List.take_zero] at h0 h1 h2 h3
    obtain ⟨m0, e0⟩ := cells_u8 h0
    obtain ⟨m1, e1⟩ := cells_u8 h1
    obtain ⟨m2, e2⟩ := cells_u8 h2
    obtain ⟨m3, e3⟩ := cells_u8 h3
    injection e0 with e0
    injection e1 with e1
    injection e2 with e2
    injection e3 with e3
    subst e0 e1 e2 e3
    exact ⟨⟨m0, m1, m2, m3⟩, rfl⟩

/-- the one cell of a slice of pixels -/
theorem cells_pxs {cs : List Value} {x : DataW H × List MemPlace} (hf : DataW.trod enc Tryd.prog W 0 (fun _ => true) true fuel 38 cs = some x) : ∃ v l, cs = [v] ∧ Pxs W v l := by
  rcases Deep.open_slice Tryd.underlying38 hf with ⟨e, _⟩ | ⟨a, len, cap, m, _, D, Pl, e, _, hl, hm, hmm, _, hi⟩
  · exact ⟨_, [], e, pxs_nil W⟩
  · simp only [if_true] at hmm
    rw [cellsOf60] at hi
    obtain ⟨l, hll, hp⟩ := list_of (α := Px) (P := fun i r => W.cell? (a.add (i * 4)) = some (.int .u8 r.r) ∧ W.cell? (a.add (i * 4 + 1)) = some (.int .u8 r.g) ∧ W.cell? (a.add (i * 4 + 2)) = some (.int .u8 r.b) ∧ W.cell? (a.add (i * 4 + 3)) = some (.int .u8 r.a)) len (fun i hlt => by
      obtain ⟨cs', hc, ht⟩ := hi i (by omega)
      obtain ⟨r, hcs⟩ := cells_px ht
      obtain ⟨_, _, hat⟩ := World.cells?_some hc
      have h0 := hat 0 (by omega)
      have h1 := hat 1 (by omega)
      have h2 := hat 2 (by omega)
      have h3 := hat 3 (by omega)
      rw [Deep.add_add, hcs] at h0 h1 h2 h3
      exact ⟨r, by simpa using h0, by simpa using h1, by simpa using h2, by simpa using h3⟩)
    subst hll
    refine ⟨_, l, e, some a, cap, rfl, hl, hm, fun hn => ?_⟩
    obtain ⟨b, off, spot⟩ := a
    obtain ⟨t0, ht0⟩ : ∃ t, l[0]? = some t := ⟨_, List.getElem?_eq_getElem hn⟩
    have h0 := (hp 0 t0 ht0).1
    have hspot : spot = none := by simpa [Addr.add] using World.cell?_spot h0
    subst hspot
    refine ⟨b, off, rfl, ?_, fun j t ht => ?_⟩
    · have := World.block_lt_of_cell? W _ h0
      rw [add_at] at this
      exact this
    · obtain ⟨h0, h1, h2, h3⟩ := hp j t ht
      rw [add_at] at h0 h1 h2 h3
      exact ⟨h0, h1, h2, h3⟩

set_option maxRecDepth 100000 in
theorem open_buffer {base : Nat} {v : Value} {d : DataW H} {p : List MemPlace} (hval : Value.okWide Tryd.prog W .any base 40 v) (h : DataW.Trod enc Tryd.prog W 0 (fun _ => true) true 40 v d p) :
    ∃ (a b : Int) (u : Value) (l : List Px), v = .agg #[.int .i64 a, .int .i64 b, u] ∧ Pxs W u l := by
  obtain ⟨cs, rfl, _⟩ := okWide_struct Tryd.underlying40 hval
  obtain ⟨fuel, hf⟩ := h
  obtain ⟨xs, n, _, _, hlen, hxl, hg⟩ := DataW.trod_struct Tryd.underlying40 hf
  rw [cellsOf40] at hlen
  have hc : ∀ l : List Value, l.length = 3 → ∃ c0 c1 c2, l = [c0, c1, c2] := fun l hl => by
    match l, hl with
    | [c0, c1, c2], _ => exact ⟨c0, c1, c2, rfl⟩
  obtain ⟨c0, c1, c2, e⟩ := hc _ hlen
  match xs, hxl with
  | [x0, x1, x2], _ =>
    rw [e] at hg
    have h0 : DataW.trod enc Tryd.prog W 0 (fun _ => true) true n 3 (([c0, c1, c2].drop 0).take (Tryd.prog.cellsOf 3)) = some x0 := hg 0 _ rfl
    have h1 : DataW.trod enc Tryd.prog W 0 (fun _ => true) true n 3 (([c0, c1, c2].drop 1).take (Tryd.prog.cellsOf 3)) = some x1 := hg 1 _ rfl
    have h2 : DataW.trod enc Tryd.prog W 0 (fun _ => true) true n 38 (([c0, c1, c2].drop 2).take (Tryd.prog.cellsOf 38)) = some x2 := hg 2 _ rfl
    rw [cellsOf3] at h0 h1
    rw [cellsOf38] at h2
    simp only [List.drop_zero, List.drop_succ_cons, List.take_succ_cons, List.take_zero] at h0 h1 h2
    obtain ⟨m0, e0⟩ := cells_int h0
    obtain ⟨m1, e1⟩ := cells_int h1
    obtain ⟨u, l, e2, hp⟩ := cells_pxs h2
    injection e0 with e0
    injection e1 with e1
    injection e2 with e2
    subst e0 e1 e2
    exact ⟨m0, m1, _, l, congrArg Value.agg (Array.ext' e), hp⟩

end
end Go.Proofs.YtphgjfkmnohjlaaDoor
