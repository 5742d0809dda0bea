/-
  The arguments of the laws, opened: a buffer, a pixel, a point, a rectangle, an array of four ints, bytes, a number.
-/
import Derived.Test.YtnkbejbpkjkgeaaOwn
import Derived.ProofKit
import Derived.OpenShut
import Derived.Deep.Slices
namespace Go.Proofs.Ytnkbejbpkjkgeaa
open Go.ChangeShapes Go.WideShapes Go.ChangeAt Go.RowKit Mem

theorem own : ownKnob Try.prog.godebug = none := by kernel_rfl
theorem laidOut : laidOutB Try.prog = true := by kernel_rfl
theorem cellsOf3 : Try.prog.cellsOf 3 = 1 := by kernel_rfl
theorem cellsOf5 : Try.prog.cellsOf 5 = 1 := by kernel_rfl
theorem cellsOf22 : Try.prog.cellsOf 22 = 1 := by kernel_rfl
theorem cellsOf24 : Try.prog.cellsOf 24 = 3 := by kernel_rfl
theorem cellsOf43 : Try.prog.cellsOf 43 = 4 := by kernel_rfl
theorem cellsOf34 : Try.prog.cellsOf 34 = 4 := by kernel_rfl

theorem byte_of {z : Int} (h : (Lit.int .u8 z).wf = true) : byte (UInt8.ofNat z.toNat) = .int .u8 z := by
  have h1 : IntKind.u8.min = 0 := rfl
  have h2 : IntKind.u8.max = 255 := rfl
  simp only [Lit.wf, Bool.and_eq_true, decide_eq_true_eq, h1, h2] at h
  unfold byte
  rw [UInt8.toNat_ofNat', Nat.mod_eq_of_lt (by omega)]
  rw [Int.toNat_of_nonneg h.1]
theorem range_u8 {m : Int} (w : (Lit.int .u8 m).wf = true) : ∃ k : Nat, m = (k : Int) ∧ k < 256 := by
  have g1 : IntKind.u8.min = 0 := rfl
  have g2 : IntKind.u8.max = 255 := rfl
  simp only [Lit.wf, Bool.and_eq_true, decide_eq_true_eq, g1, g2] at w
  exact ⟨m.toNat, by omega, by omega⟩

theorem list_of {α : Type} {P : Nat → α → Prop} : ∀ (n : Nat), (∀ i, i < n → ∃ t, P i t) → ∃ l : List α, l.length = n ∧ ∀ i t, l[i]? = some t → P i t
  | 0, _ => ⟨[], rfl, fun i t h => by simp at h⟩
  | n + 1, h => by
    obtain ⟨l, hl, hp⟩ := list_of n (fun i hi => h i (by omega))
    obtain ⟨t, ht⟩ := h n (by omega)
    refine ⟨l ++ [t], by simp [hl], fun i u hu => ?_⟩
    rcases Nat.lt_or_ge i l.length with hi | hi
    · rw [List.getElem?_append_left hi] at hu
      exact hp i u hu
    · rw [List.getElem?_append_right hi] at hu
      have h0 : i - l.length = 0 := by
        have := (List.getElem?_eq_some_iff.1 hu).1
        simp at this
        omega
      rw [h0] at hu
      simp only [List.getElem?_cons_zero, Option.some.injEq] at hu
      subst hu
      rw [show i = n by omega]
      exact ht

section
variable {H : Type} {enc : TypeId × Value → H} {W : World} {fuel : Nat}

theorem cells_u8 {cs : List Value} {x : DataW H × List MemPlace} (h : DataW.trod enc Try.prog W 0 (fun _ => true) true fuel 5 cs = some x) : ∃ m : Nat, cs = [.int .u8 (m : Int)] ∧ m < 256 := by
  obtain ⟨m, e, _, hw⟩ := DataW.trod_int Try.underlying5 h
  obtain ⟨k, rfl, hk⟩ := range_u8 hw
  exact ⟨k, e, hk⟩

/-- the four cells of a pixel -/
theorem cells_px {cs : List Value} {x : DataW H × List MemPlace} (h : DataW.trod enc Try.prog W 0 (fun _ => true) true fuel 43 cs = some x) :
    ∃ p : Px, cs = [.int .u8 (p.r : Int), .int .u8 (p.g : Int), .int .u8 (p.b : Int), .int .u8 (p.a : Int)] ∧ Byt p := by
  obtain ⟨xs, n, _, _, hlen, hxl, hg⟩ := DataW.trod_struct Try.underlying43 h
  rw [cellsOf43] at hlen
  have hc : ∀ l : List Value, l.length = 4 → ∃ a b c d, l = [a, b, c, d] := fun l hl => by
    match l, hl with
    | [a, b, c, d], _ => exact ⟨a, b, c, d, rfl⟩
  obtain ⟨c0, c1, c2, c3, rfl⟩ := hc _ hlen
  match xs, hxl with
  | [x0, x1, x2, x3], _ =>
    have h0 : DataW.trod enc Try.prog W 0 (fun _ => true) true n 5 (([c0, c1, c2, c3].drop 0).take (Try.prog.cellsOf 5)) = some x0 := hg 0 _ rfl
    have h1 : DataW.trod enc Try.prog W 0 (fun _ => true) true n 5 (([c0, c1, c2, c3].drop 1).take (Try.prog.cellsOf 5)) = some x1 := hg 1 _ rfl
    have h2 : DataW.trod enc Try.prog W 0 (fun _ => true) true n 5 (([c0, c1, c2, c3].drop 2).take (Try.prog.cellsOf 5)) = some x2 := hg 2 _ rfl
    have h3 : DataW.trod enc Try.prog W 0 (fun _ => true) true n 5 (([c0, c1, c2, c3].drop 3).take (Try.prog.cellsOf 5)) = some x3 := hg 3 _ rfl
    rw [cellsOf5] at h0 h1 h2 h3
    simp only [List.drop_zero, List.drop_succ_cons, List.take_succ_cons, List.take_zero] at h0 h1 h2 h3
    obtain ⟨m0, e0, b0⟩ := cells_u8 h0
    obtain ⟨m1, e1, b1⟩ := cells_u8 h1
    obtain ⟨m2, e2, b2⟩ := cells_u8 h2
    obtain ⟨m3, e3, b3⟩ := cells_u8 h3
    injection e0 with e0
    injection e1 with e1
    injection e2 with e2
    injection e3 with e3
    subst e0 e1 e2 e3
    exact ⟨⟨m0, m1, m2, m3⟩, rfl, b0, b1, b2, b3⟩

set_option maxRecDepth 100000 in
theorem open_px {base : Nat} {v : Value} {d : DataW H} {p : List MemPlace} (hval : Value.okWide Try.prog W .any base 43 v) (h : DataW.Trod enc Try.prog W 0 (fun _ => true) true 43 v d p) :
    ∃ q : Px, v = .agg #[.int .u8 (q.r : Int), .int .u8 (q.g : Int), .int .u8 (q.b : Int), .int .u8 (q.a : Int)] ∧ Byt q := by
  obtain ⟨cs, rfl, _⟩ := okWide_struct Try.underlying43 hval
  obtain ⟨fuel, hf⟩ := h
  obtain ⟨q, e, hq⟩ := cells_px hf
  exact ⟨q, congrArg Value.agg (Array.ext' e), hq⟩

/-- the one cell of a slice of pixels -/
theorem cells_pxs {cs : List Value} {x : DataW H × List MemPlace} (hf : DataW.trod enc Try.prog W 0 (fun _ => true) true fuel 22 cs = some x) : ∃ v l, cs = [v] ∧ Pxs W v l ∧ ∀ p ∈ l, Byt p := by
  rcases Deep.open_slice Try.underlying22 hf with ⟨e, _⟩ | ⟨a, len, cap, m, _, D, Pl, e, _, hl, hm, hmm, _, hi⟩
  · exact ⟨_, [], e, pxs_nil W, fun p hp => by simp at hp⟩
  · simp only [if_true] at hmm
    rw [cellsOf43] at hi
    obtain ⟨l, hll, hp⟩ := list_of (α := Px) (P := fun i r => (W.cell? (a.add (i * 4)) = some (.int .u8 (r.r : Int)) ∧ W.cell? (a.add (i * 4 + 1)) = some (.int .u8 (r.g : Int)) ∧ W.cell? (a.add (i * 4 + 2)) = some (.int .u8 (r.b : Int)) ∧ W.cell? (a.add (i * 4 + 3)) = some (.int .u8 (r.a : Int))) ∧ Byt r) len (fun i hlt => by
      obtain ⟨cs', hc, ht⟩ := hi i (by omega)
      obtain ⟨r, hcs, hr⟩ := cells_px ht
      obtain ⟨_, _, hat⟩ := World.cells?_some hc
      have h0 := hat 0 (by omega)
      have h1 := hat 1 (by omega)
      have h2 := hat 2 (by omega)
      have h3 := hat 3 (by omega)
      rw [Deep.add_add, hcs] at h0 h1 h2 h3
      exact ⟨r, ⟨by simpa using h0, by simpa using h1, by simpa using h2, by simpa using h3⟩, hr⟩)
    subst hll
    refine ⟨_, l, e, ⟨some a, cap, rfl, hl, hm, fun hn => ?_⟩, fun p hmem => ?_⟩
    · obtain ⟨b, off, spot⟩ := a
      obtain ⟨t0, ht0⟩ : ∃ t, l[0]? = some t := ⟨_, List.getElem?_eq_getElem hn⟩
      have h0 := (hp 0 t0 ht0).1.1
      have hspot : spot = none := by simpa [Addr.add] using World.cell?_spot h0
      subst hspot
      refine ⟨b, off, rfl, ?_, fun j t ht => ?_⟩
      · have := World.block_lt_of_cell? W _ h0
        rw [add_at] at this
        exact this
      · obtain ⟨⟨h0, h1, h2, h3⟩, _⟩ := hp j t ht
        rw [add_at] at h0 h1 h2 h3
        exact ⟨h0, h1, h2, h3⟩
    · obtain ⟨i, hi, he⟩ := List.getElem_of_mem hmem
      exact (hp i p (by rw [List.getElem?_eq_getElem hi, he])).2

theorem cells_bytes {v : Value} {x : DataW H × List MemPlace} (h : DataW.trod enc Try.prog W 0 (fun _ => true) true fuel 62 [v] = some x) : ∃ bs, Sees W v bs := by
  rcases open_ints Try.underlying62 Try.underlying5 cellsOf5 h with ⟨hv, _⟩ | ⟨a, len, cap, zs, hv, _, hl, hm, hz, _, hcell, hwf⟩
  · injection hv with hv
    subst hv
    exact ⟨[], sees_nil W⟩
  · injection hv with hv
    subst hv
    simp only [if_true] at hz
    have hlen : ((zs.take len).map fun z => UInt8.ofNat z.toNat).length = len := by simp; omega
    refine ⟨(zs.take len).map fun z => UInt8.ofNat z.toNat, some a, cap, by rw [hlen], by rw [hlen]; exact hl, hm, fun hn => ?_⟩
    rw [hlen] at hn ⊢
    obtain ⟨b, off, spot⟩ := a
    have h0 := hcell 0 (by omega)
    have hspot : spot = none := by simpa [Addr.add] using World.cell?_spot h0
    subst hspot
    have hadd : ∀ j, (⟨b, off, none⟩ : Addr).add j = ⟨b, off + j, none⟩ := fun j => by unfold Addr.add; split <;> simp_all
    refine ⟨b, off, rfl, ?_, fun j hj => ?_⟩
    · have := World.block_lt_of_cell? W _ h0
      rw [hadd] at this
      exact this
    · rw [← hadd, hcell j (by omega)]
      have e : ((zs.take len).map fun z => UInt8.ofNat z.toNat).getD j 0 = UInt8.ofNat (zs.getD j 0).toNat := by
        simp only [List.getD, List.getElem?_map, List.getElem?_take, if_pos hj]
        rw [List.getElem?_eq_getElem (by omega)]
        rfl
      rw [e, byte_of (hwf _ ?_)]
      rw [List.getD, List.getElem?_eq_getElem (by omega)]
      exact List.getElem_mem _


/-- one cell that holds an int -/
theorem cells_int {cs : List Value} {x : DataW H × List MemPlace} (h : DataW.trod enc Try.prog W 0 (fun _ => true) true fuel 3 cs = some x) : ∃ m : Int, cs = [.int .i64 m] := by
  obtain ⟨m, e, _, _⟩ := DataW.trod_int Try.underlying3 h
  exact ⟨m, e⟩

set_option maxRecDepth 100000 in
theorem open_buf {base : Nat} {v : Value} {d : DataW H} {p : List MemPlace} (hval : Value.okWide Try.prog W .any base 24 v) (h : DataW.Trod enc Try.prog W 0 (fun _ => true) true 24 v d p) :
    ∃ (a b : Int) (u : Value) (l : List Px), v = .agg #[.int .i64 a, .int .i64 b, u] ∧ Pxs W u l ∧ ∀ q ∈ l, Byt q := by
  obtain ⟨cs, rfl, _⟩ := okWide_struct Try.underlying24 hval
  obtain ⟨fuel, hf⟩ := h
  obtain ⟨xs, n, _, _, hlen, hxl, hg⟩ := DataW.trod_struct Try.underlying24 hf
  rw [cellsOf24] at hlen
  have hc : ∀ l : List Value, l.length = 3 → ∃ c0 c1 c2, l = [c0, c1, c2] := fun l hl => by
    match l, hl with
    | [c0, c1, c2], _ => exact ⟨c0, c1, c2, rfl⟩
  obtain ⟨c0, c1, c2, e⟩ := hc _ hlen
  match xs, hxl with
  | [x0, x1, x2], _ =>
    rw [e] at hg
    have h0 : DataW.trod enc Try.prog W 0 (fun _ => true) true n 3 (([c0, c1, c2].drop 0).take (Try.prog.cellsOf 3)) = some x0 := hg 0 _ rfl
    have h1 : DataW.trod enc Try.prog W 0 (fun _ => true) true n 3 (([c0, c1, c2].drop 1).take (Try.prog.cellsOf 3)) = some x1 := hg 1 _ rfl
    have h2 : DataW.trod enc Try.prog W 0 (fun _ => true) true n 22 (([c0, c1, c2].drop 2).take (Try.prog.cellsOf 22)) = some x2 := hg 2 _ rfl
    rw [cellsOf3] at h0 h1
    rw [cellsOf22] at h2
    simp only [List.drop_zero, List.drop_succ_cons, List.take_succ_cons, List.take_zero] at h0 h1 h2
    obtain ⟨m0, e0⟩ := cells_int h0
    obtain ⟨m1, e1⟩ := cells_int h1
    obtain ⟨u, l, e2, hp, hb⟩ := cells_pxs h2
    injection e0 with e0
    injection e1 with e1
    injection e2 with e2
    subst e0 e1 e2
    exact ⟨m0, m1, _, l, congrArg Value.agg (Array.ext' e), hp, hb⟩

set_option maxRecDepth 100000 in
theorem open_rect {base : Nat} {v : Value} {d : DataW H} {p : List MemPlace} (hval : Value.okWide Try.prog W .any base 34 v) (h : DataW.Trod enc Try.prog W 0 (fun _ => true) true 34 v d p) :
    ∃ r : R, v = .agg #[.int .i64 r.x0, .int .i64 r.y0, .int .i64 r.x1, .int .i64 r.y1] := by
  obtain ⟨cs, rfl, _⟩ := okWide_struct Try.underlying34 hval
  obtain ⟨fuel, hf⟩ := h
  obtain ⟨xs, n, _, _, hlen, hxl, hg⟩ := DataW.trod_struct Try.underlying34 hf
  rw [cellsOf34] at hlen
  have hc : ∀ l : List Value, l.length = 4 → ∃ a b c d, l = [a, b, c, d] := fun l hl => by
    match l, hl with
    | [a, b, c, d], _ => exact ⟨a, b, c, d, rfl⟩
  obtain ⟨c0, c1, c2, c3, e⟩ := hc _ hlen
  match xs, hxl with
  | [x0, x1, x2, x3], _ =>
    rw [e] at hg
    have h0 : DataW.trod enc Try.prog W 0 (fun _ => true) true n 3 (([c0, c1, c2, c3].drop 0).take (Try.prog.cellsOf 3)) = some x0 := hg 0 _ rfl
    have h1 : DataW.trod enc Try.prog W 0 (fun _ => true) true n 3 (([c0, c1, c2, c3].drop 1).take (Try.prog.cellsOf 3)) = some x1 := hg 1 _ rfl
    have h2 : DataW.trod enc Try.prog W 0 (fun _ => true) true n 3 (([c0, c1, c2, c3].drop 2).take (Try.prog.cellsOf 3)) = some x2 := hg 2 _ rfl
    have h3 : DataW.trod enc Try.prog W 0 (fun _ => true) true n 3 (([c0, c1, c2, c3].drop 3).take (Try.prog.cellsOf 3)) = some x3 := hg 3 _ rfl
    rw [cellsOf3] at h0 h1 h2 h3
    simp only [List.drop_zero, List.drop_succ_cons, List.take_succ_cons, List.take_zero] at h0 h1 h2 h3
    obtain ⟨m0, e0⟩ := cells_int h0
    obtain ⟨m1, e1⟩ := cells_int h1
    obtain ⟨m2, e2⟩ := cells_int h2
    obtain ⟨m3, e3⟩ := cells_int h3
    injection e0 with e0
    injection e1 with e1
    injection e2 with e2
    injection e3 with e3
    subst e0 e1 e2 e3
    exact ⟨⟨m0, m1, m2, m3⟩, congrArg Value.agg (Array.ext' e)⟩

theorem open_bytes {base : Nat} {v : Value} {d : DataW H} {p : List MemPlace} (hval : Value.okWide Try.prog W .any base 62 v) (h : DataW.Trod enc Try.prog W 0 (fun _ => true) true 62 v d p) : ∃ bs, Sees W v bs := by
  obtain ⟨A, n, c, rfl⟩ := okWide_slice Try.underlying62 hval
  obtain ⟨fuel, hf⟩ := h
  exact cells_bytes (by simpa [Value.cells] using hf)

end
end Go.Proofs.Ytnkbejbpkjkgeaa
