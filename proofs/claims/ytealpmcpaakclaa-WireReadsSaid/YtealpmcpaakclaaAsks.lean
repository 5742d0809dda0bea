/-
  WireReads: the list of calls, opened; what the loop over the calls keeps.
-/
import Derived.Test.YtealpmcpaakclaaRstr
import Derived.Test.YtealpmcpaakclaaOpen
namespace Go.Proofs.Ytealpmcpaakclaa
open Go.ChangeShapes Go.WideShapes Go.ChangeAt Go.RowKit Mem Wire

/-- a slice of calls: the kind, and the limit -/
def Asks (w : World) (v : Value) (l : List (Int × Int)) : Prop :=
  ∃ (A : Option Addr) (cap : Nat), v = .slice A l.length cap ∧ l.length ≤ cap ∧ cap ≤ maxLen ∧ (∀ t ∈ l, t.2 ≤ 9223372036854775807) ∧
    (0 < l.length → ∃ b off, A = some ⟨b, off, none⟩ ∧ b < w.heap.size ∧ ∀ (j : Nat) (t : Int × Int), l[j]? = some t →
      w.cell? ⟨b, off + j * 2, none⟩ = some (.int .i64 t.1) ∧ w.cell? ⟨b, off + j * 2 + 1, none⟩ = some (.int .i64 t.2))

theorem cells40 : Try.prog.cellsOf 40 = 2 := by kernel_rfl

section
variable {H : Type} {enc : TypeId × Value → H} {W : World} {fuel : Nat}
theorem open_ask {cs : List Value} {x : DataW H × List MemPlace} (h : DataW.trod enc Try.prog W 0 (fun _ => true) true fuel 40 cs = some x) :
    ∃ t : Int × Int, cs = [.int .i64 t.1, .int .i64 t.2] ∧ t.2 ≤ 9223372036854775807 := by
  obtain ⟨xs, n, _, _, hlen, hxl, hf⟩ := DataW.trod_struct Try.underlying40 h
  rw [cells40] at hlen
  match cs, hlen with
  | [c0, c1], _ =>
    match xs, hxl with
    | [x0, x1], _ =>
      have h0 : DataW.trod enc Try.prog W 0 (fun _ => true) true n 3 (([c0, c1].drop 0).take (Try.prog.cellsOf 3)) = some x0 := hf 0 _ rfl
      have h1 : DataW.trod enc Try.prog W 0 (fun _ => true) true n 3 (([c0, c1].drop 1).take (Try.prog.cellsOf 3)) = some x1 := hf 1 _ rfl
      have c3 : Try.prog.cellsOf 3 = 1 := by kernel_rfl
      rw [c3] at h0 h1
      simp only [List.drop_zero, List.drop_succ_cons, List.take_succ_cons, List.take_zero] at h0 h1
      obtain ⟨k, e0, _, _⟩ := DataW.trod_int Try.underlying3 h0
      obtain ⟨m, e1, _, w1⟩ := DataW.trod_int Try.underlying3 h1
      injection e0 with e0
      injection e1 with e1
      have g1 : IntKind.i64.min = -9223372036854775808 := rfl
      have g2 : IntKind.i64.max = 9223372036854775807 := rfl
      simp only [Lit.wf, Bool.and_eq_true, decide_eq_true_eq, g1, g2] at w1
      exact ⟨⟨k, m⟩, by rw [e0, e1], w1.2⟩

theorem open_asks {v : Value} {d : DataW H} {p : List MemPlace} (h : DataW.Trod enc Try.prog W 0 (fun _ => true) true 32 v d p) (hv : ∃ A n c, v = .slice A n c) : ∃ l, Asks W v l := by
  obtain ⟨A, n, c, rfl⟩ := hv
  obtain ⟨fuel, hf⟩ := h
  rcases Deep.open_slice Try.underlying32 hf with ⟨e, _⟩ | ⟨a, len, cap, m, _, D, Pl, e, _, hl, hm, hmm, _, hi⟩
  · simp only [Value.cells] at e
    have e2 : Value.slice A n c = .slice none 0 0 := by simpa using e
    rw [e2]
    exact ⟨[], none, 0, rfl, Nat.le_refl _, by simp [maxLen], fun t ht => by simp at ht, fun h => by simp at h⟩
  · simp only [Value.cells] at e
    have e2 : Value.slice A n c = .slice (some a) len cap := by simpa using e
    rw [e2]
    simp only [if_true] at hmm
    rw [cells40] at hi
    obtain ⟨l, hll, hp⟩ := list_of (α := Int × Int) (P := fun i t => t.2 ≤ 9223372036854775807 ∧ W.cell? (a.add (i * 2)) = some (.int .i64 t.1) ∧ W.cell? (a.add (i * 2 + 1)) = some (.int .i64 t.2)) len (fun i hlt => by
      obtain ⟨cs', hc, ht⟩ := hi i (by omega)
      obtain ⟨t, hcs, hok⟩ := open_ask ht
      obtain ⟨_, _, hat⟩ := World.cells?_some hc
      have h0 := hat 0 (by omega)
      have h1 := hat 1 (by omega)
      rw [Deep.add_add, hcs] at h0 h1
      exact ⟨t, hok, by simpa using h0, by simpa using h1⟩)
    subst hll
    refine ⟨l, some a, cap, rfl, hl, hm, fun t ht => ?_, fun hn => ?_⟩
    · obtain ⟨i, hi2, he⟩ := List.getElem_of_mem ht
      exact (hp i t (by rw [List.getElem?_eq_getElem hi2, he])).1
    · obtain ⟨b, off, spot⟩ := a
      obtain ⟨t0, ht0⟩ : ∃ t, l[0]? = some t := ⟨_, List.getElem?_eq_getElem hn⟩
      have h0 := (hp 0 t0 ht0).2.1
      have hspot : spot = none := by simpa [Addr.add] using World.cell?_spot h0
      subst hspot
      have hadd : ∀ j, (⟨b, off, none⟩ : Addr).add j = ⟨b, off + j, none⟩ := fun j => by unfold Addr.add; split <;> simp_all
      refine ⟨b, off, rfl, ?_, fun j t ht => ?_⟩
      · have := World.block_lt_of_cell? W _ h0
        rw [hadd] at this
        exact this
      · obtain ⟨_, h1, h2⟩ := hp j t ht
        rw [hadd] at h1 h2
        exact ⟨h1, h2⟩
end

/-- what the loop keeps: the program's reader (block g) and the reference's (block h) hold the same state -/
def RI (w : World) (g h : Nat) (wr : World) : Prop :=
  ∃ (st : St) (A : Option Addr) (c : Nat), Rdr wr g st ∧ wr.heap[h]? = some (.cells #[.slice A st.1.length c, .int .i64 st.2] 37 (0, 0)) ∧ Sees wr (.slice A st.1.length c) st.1 ∧ Below w.heap.size w wr ∧ st.1.length ≤ 2000

theorem Rdr.set_other {w : World} {g h i : Nat} {st : St} {u : Value} {A : Option Addr} {n c : Nat} {e : Int} (hr : Rdr w g st) (row : w.heap[h]? = some (.cells #[.slice A n c, .int .i64 e] 37 (0, 0))) (hne : g ≠ h) : Rdr (w.setCell ⟨h, i, none⟩ u) g st := by
  have hl := hr.lt
  obtain ⟨v, hh, hs, hgd⟩ := hr
  exact ⟨v, ((grown_set w h i u).block g hl (fun e => hne (by injection e))).trans hh, hs.grown (grown_set w h i u) (box_noByte row), hgd⟩

theorem ri_step {w w5 : World} {g h : Nat} {st : St} {A3 A : Option Addr} {c3 n c : Nat} {e : Int} (row : w5.heap[h]? = some (.cells #[.slice A n c, .int .i64 e] 37 (0, 0))) (hr : Rdr w5 g st) (hs : Sees w5 (.slice A3 st.1.length c3) st.1)
    (hb : Below w.heap.size w w5) (hH : w.heap.size ≤ h) (hne : g ≠ h) (hl : st.1.length ≤ 2000) : RI w g h ((w5.setCell ⟨h, 0, none⟩ (.slice A3 st.1.length c3)).setCell ⟨h, 1, none⟩ (.int .i64 st.2)) := by
  have row1 := block_set row 0 (.slice A3 st.1.length c3)
  have row2 := block_set row1 1 (.int .i64 st.2)
  have g1 := grown_set w5 h 0 (.slice A3 st.1.length c3)
  have g2 := grown_set (w5.setCell ⟨h, 0, none⟩ (.slice A3 st.1.length c3)) h 1 (.int .i64 st.2)
  refine ⟨st, A3, c3, (hr.set_other row hne).set_other row1 hne, row2, (hs.grown g1 (box_noByte row)).grown g2 (box_noByte row1), ?_, hl⟩
  exact (hb.grown g1 hb.size (fun k hk => by injection hk with hk; omega)).grown g2 (by have := hb.size; simpa using this) (fun k hk => by injection hk with hk; omega)

/-- from the reference's answer, in a box, over the program's own call -/
theorem step_keep {w wr w4 w5 : World} {g h p : Nat} {st : St} {v3 : Value} {R : Obj} {B : Obj} {bs : List UInt8} (hr : Rdr wr g st) (row : wr.heap[h]? = some R) (hbw : Below w.heap.size w wr) (hwg : w.heap.size ≤ g) (hne : g ≠ h)
    (hs4 : Sees w4 v3 bs) (h4 : Below wr.heap.size wr w4) (hp : w4.heap[p]? = some B) (hpw : wr.heap.size ≤ p) (hg : w4.grownBy w5 (some g)) :
    w5.heap[h]? = some R ∧ w5.heap[p]? = some B ∧ Sees w5 v3 bs ∧ Below w.heap.size w w5 := by
  have hr4 := hr.below h4
  have hgl := hr.lt
  have row4 := (h4.block h (block_lt row)).trans row
  have hb4 := hbw.trans (h4.mono hbw.size)
  refine ⟨(hg.block h (block_lt row4) (fun e => hne (by injection e with e; exact e.symm))).trans row4, (hg.block p (block_lt hp) (fun e => by injection e with e; omega)).trans hp, hs4.grown hg hr4.noByte, hb4.grown hg hb4.size (fun k hk => by injection hk with hk; omega)⟩

end Go.Proofs.Ytealpmcpaakclaa
