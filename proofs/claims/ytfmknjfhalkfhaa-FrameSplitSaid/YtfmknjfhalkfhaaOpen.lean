/-
  The arguments of the laws, opened: bytes, a frame by value, a slice of frames, a slice of slices of bytes.
-/
import Derived.Test.YtfmknjfhalkfhaaExam
import Derived.ProofKit
import Derived.OpenShut
import Derived.Lib.SmallJoins
import Derived.Deep.Slices
namespace Go.Proofs.Ytfmknjfhalkfhaa
open Go.ChangeShapes Go.WideShapes Go.ChangeAt Go.RowKit Mem Wire

theorem own : ownKnob Try.prog.godebug = none := by kernel_rfl
theorem laidOut : laidOutB Try.prog = true := by kernel_rfl
theorem cells5 : Try.prog.cellsOf 5 = 1 := by kernel_rfl
theorem cells25 : Try.prog.cellsOf 25 = 3 := by kernel_rfl
theorem byte_of {z : Int} (h : (Lit.int .u8 z).wf = true) : byte (UInt8.ofNat z.toNat) = .int .u8 z := by
  have h1 : IntKind.u8.min = 0 := rfl
  have h2 : IntKind.u8.max = 255 := rfl
  simp only [Lit.wf, Bool.and_eq_true, decide_eq_true_eq, h1, h2] at h
  unfold byte
  rw [UInt8.toNat_ofNat', Nat.mod_eq_of_lt (by omega)]
  rw [Int.toNat_of_nonneg h.1]

section
variable {H : Type} {enc : TypeId × Value → H} {W : World} {fuel : Nat}

theorem open_bytes {v : Value} {x : DataW H × List MemPlace} (h : DataW.trod enc Try.prog W 0 (fun _ => true) true fuel 23 [v] = some x) : ∃ bs, Sees W v bs := by
  rcases open_ints Try.underlying23 Try.underlying5 cells5 h with ⟨hv, _⟩ | ⟨a, len, cap, zs, hv, _, hl, hm, hz, _, hcell, hwf⟩
  · injection hv with hv
    subst hv
    exact ⟨[], sees_nil W⟩
  · injection hv with hv
    subst hv
    simp only [if_true] at hz
    have hlen : ((zs.take len).map fun z => UInt8.ofNat z.toNat).length = len := by simp; omega
    refine ⟨(zs.take len).map fun z => UInt8.ofNat z.toNat, some a, cap, by rw [hlen], by rw [hlen]; exact hl, hm, fun hn => ?_⟩
    rw [hlen] at hn ⊢
    obtain ⟨b, off, spot⟩ := a
    have h0 := hcell 0 (by omega)
    have hspot : spot = none := by simpa [Addr.add] using World.cell?_spot h0
    subst hspot
    have hadd : ∀ j, (⟨b, off, none⟩ : Addr).add j = ⟨b, off + j, none⟩ := fun j => by unfold Addr.add; split <;> simp_all
    refine ⟨b, off, rfl, ?_, fun j hj => ?_⟩
    · have := World.block_lt_of_cell? W _ h0
      rw [hadd] at this
      exact this
    · rw [← hadd, hcell j (by omega)]
      have e : ((zs.take len).map fun z => UInt8.ofNat z.toNat).getD j 0 = UInt8.ofNat (zs.getD j 0).toNat := by
        simp only [List.getD, List.getElem?_map, List.getElem?_take, if_pos hj]
        rw [List.getElem?_eq_getElem (by omega)]
        rfl
      rw [e, byte_of (hwf _ ?_)]
      rw [List.getD, List.getElem?_eq_getElem (by omega)]
      exact List.getElem_mem _

theorem list_of {α : Type} {P : Nat → α → Prop} : ∀ (n : Nat), (∀ i, i < n → ∃ t, P i t) → ∃ l : List α, l.length = n ∧ ∀ i t, l[i]? = some t → P i t
  | 0, _ => ⟨[], rfl, fun i t h => by simp at h⟩
  | n + 1, h => by
    obtain ⟨l, hl, hp⟩ := list_of n (fun i hi => h i (by omega))
    obtain ⟨t, ht⟩ := h n (by omega)
    refine ⟨l ++ [t], by simp [hl], fun i u hu => ?_⟩
    rcases Nat.lt_or_ge i l.length with hi | hi
    · rw [List.getElem?_append_left hi] at hu
      exact hp i u hu
    · rw [List.getElem?_append_right hi] at hu
      have h0 : i - l.length = 0 := by
        have := (List.getElem?_eq_some_iff.1 hu).1
        simp at this
        omega
      rw [h0] at hu
      simp only [List.getElem?_cons_zero, Option.some.injEq] at hu
      subst hu
      rw [show i = n by omega]
      exact ht

/-- the three cells of a frame -/
theorem open_cells {cs : List Value} {x : DataW H × List MemPlace} (h : DataW.trod enc Try.prog W 0 (fun _ => true) true fuel 25 cs = some x) :
    ∃ t : Fr × Value, cs = cells3 t ∧ Sees W t.2 t.1.b ∧ t.1.o < 4294967296 := by
  obtain ⟨xs, n, _, _, hlen, hxl, hf⟩ := DataW.trod_struct Try.underlying25 h
  rw [cells25] at hlen
  match cs, hlen with
  | [c0, c1, c2], _ =>
    match xs, hxl with
    | [x0, x1, x2], _ =>
      have h0 : DataW.trod enc Try.prog W 0 (fun _ => true) true n 22 (([c0, c1, c2].drop 0).take (Try.prog.cellsOf 22)) = some x0 := hf 0 _ rfl
      have h1 : DataW.trod enc Try.prog W 0 (fun _ => true) true n 3 (([c0, c1, c2].drop 1).take (Try.prog.cellsOf 3)) = some x1 := hf 1 _ rfl
      have h2 : DataW.trod enc Try.prog W 0 (fun _ => true) true n 23 (([c0, c1, c2].drop 2).take (Try.prog.cellsOf 23)) = some x2 := hf 2 _ rfl
      have c3 : Try.prog.cellsOf 3 = 1 := by kernel_rfl
      have c23 : Try.prog.cellsOf 23 = 1 := by kernel_rfl
      have c22 : Try.prog.cellsOf 22 = 1 := by kernel_rfl
      rw [c22] at h0
      rw [c3] at h1
      rw [c23] at h2
      simp only [List.drop_zero, List.drop_succ_cons, List.take_succ_cons, List.take_zero] at h0 h1 h2
      obtain ⟨m, e0, _, w1⟩ := DataW.trod_int Try.underlying22 h0
      obtain ⟨k, e1, _, _⟩ := DataW.trod_int Try.underlying3 h1
      obtain ⟨bs, hs⟩ := open_bytes h2
      injection e0 with e0
      injection e1 with e1
      have g1 : IntKind.u32.min = 0 := rfl
      have g2 : IntKind.u32.max = 4294967295 := rfl
      simp only [Lit.wf, Bool.and_eq_true, decide_eq_true_eq, g1, g2] at w1
      refine ⟨(⟨m.toNat, k, bs⟩, c2), ?_, hs, by dsimp only; omega⟩
      rw [e0, e1]
      show _ = [Value.int .u32 ((m.toNat : Nat) : Int), .int .i64 k, c2]
      rw [Int.toNat_of_nonneg w1.1]

theorem open_frame {base : Nat} {v : Value} {d : DataW H} {p : List MemPlace} (hval : Value.okWide Try.prog W .any base 25 v) (h : DataW.Trod enc Try.prog W 0 (fun _ => true) true 25 v d p) :
    ∃ (f : Fr) (sv : Value), v = .agg #[.int .u32 (f.o : Int), .int .i64 f.c, sv] ∧ Sees W sv f.b ∧ f.o < 4294967296 := by
  obtain ⟨cs, rfl, _⟩ := okWide_struct Try.underlying25 hval
  obtain ⟨fuel, hf⟩ := h
  obtain ⟨t, ht, hok⟩ := open_cells hf
  exact ⟨t.1, t.2, congrArg Value.agg (Array.ext' ht), hok⟩

theorem open_frames {v : Value} {d : DataW H} {p : List MemPlace} (h : DataW.Trod enc Try.prog W 0 (fun _ => true) true 31 v d p) (hv : ∃ A n c, v = .slice A n c) : ∃ l, Frs W v l ∧ ∀ t ∈ l, t.1.o < 4294967296 := by
  obtain ⟨A, n, c, rfl⟩ := hv
  obtain ⟨fuel, hf⟩ := h
  rcases Deep.open_slice Try.underlying31 hf with ⟨e, _⟩ | ⟨a, len, cap, m, _, D, Pl, e, _, hl, hm, hmm, _, hi⟩
  · simp only [Value.cells] at e
    have e2 : Value.slice A n c = .slice none 0 0 := by simpa using e
    rw [e2]
    exact ⟨[], frs_nil W, by simp⟩
  · simp only [Value.cells] at e
    have e2 : Value.slice A n c = .slice (some a) len cap := by simpa using e
    rw [e2]
    simp only [if_true] at hmm
    rw [cells25] at hi
    obtain ⟨l, hll, hp⟩ := list_of (α := Fr × Value) (P := fun i t => (Sees W t.2 t.1.b ∧ t.1.o < 4294967296) ∧ W.cell? (a.add (i * 3)) = some (.int .u32 (t.1.o : Int)) ∧ W.cell? (a.add (i * 3 + 1)) = some (.int .i64 t.1.c) ∧ W.cell? (a.add (i * 3 + 2)) = some t.2) len (fun i hlt => by
      obtain ⟨cs', hc, ht⟩ := hi i (by omega)
      obtain ⟨t, hcs, hok⟩ := open_cells ht
      obtain ⟨_, _, hat⟩ := World.cells?_some hc
      have h0 := hat 0 (by omega)
      have h1 := hat 1 (by omega)
      have h2 := hat 2 (by omega)
      rw [Deep.add_add, hcs] at h0 h1 h2
      exact ⟨t, hok, by simpa [cells3] using h0, by simpa [cells3] using h1, by simpa [cells3] using h2⟩)
    subst hll
    refine ⟨l, ⟨some a, cap, rfl, hl, hm, fun t ht => ?_, fun hn => ?_⟩, fun t ht => ?_⟩
    · obtain ⟨i, hi2, he⟩ := List.getElem_of_mem ht
      exact (hp i t (by rw [List.getElem?_eq_getElem hi2, he])).1.1
    · obtain ⟨b, off, spot⟩ := a
      obtain ⟨t0, ht0⟩ : ∃ t, l[0]? = some t := ⟨_, List.getElem?_eq_getElem hn⟩
      have h0 := (hp 0 t0 ht0).2.1
      have hspot : spot = none := by simpa [Addr.add] using World.cell?_spot h0
      subst hspot
      refine ⟨b, off, rfl, ?_, fun j t ht => ?_⟩
      · have := World.block_lt_of_cell? W _ h0
        rw [add_at] at this
        exact this
      · obtain ⟨_, h1, h2, h3⟩ := hp j t ht
        rw [add_at] at h1 h2 h3
        exact ⟨h1, h2, h3⟩
    · obtain ⟨i, hi2, he⟩ := List.getElem_of_mem ht
      exact (hp i t (by rw [List.getElem?_eq_getElem hi2, he])).1.2

end
end Go.Proofs.Ytfmknjfhalkfhaa
