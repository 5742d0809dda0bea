/-
  The iterator function of Subtract: what difference returns, and the rounds that it makes.
-/
import Derived.Test.YtalklenngalfjaaInt
import Derived.RangeFuncNested
import Derived.RangeFuncBound
import Derived.RangeFuncCalls
import Derived.RangeFuncLeaves
import Derived.Shelf.Abstract
import Derived.Shelf.RegionOpen
import Derived.OwnWalkIn
import Derived.TacticsInMore
import Derived.LoopNIn
import Derived.LoopIn
namespace Go.Proofs.Ytalklenngalfjaa
open Go.RowKit Go.Shelf
attribute [local go_sem] Oper.semAt_some

/-- the rectangle r lies at the head of block k -/
def At (W : World) (k : Nat) (r : R) : Prop := Four W k (.int .i64 r.x0) (.int .i64 r.y0) (.int .i64 r.x1) (.int .i64 r.y1)

theorem Four.there {W : World} {k : Nat} {x0 x1 x2 x3 : Value} (h : Four W k x0 x1 x2 x3) : k < W.heap.size := World.block_lt_of_cell? W _ h.1

theorem Four.same {W w1 : World} {k : Nat} {x0 x1 x2 x3 : Value} (h : Four W k x0 x1 x2 x3) (hb : w1.heap[k]? = W.heap[k]?) : Four w1 k x0 x1 x2 x3 :=
  ⟨(World.cell?_of_block (a := ⟨k, 0, none⟩) hb).trans h.1, (World.cell?_of_block (a := ⟨k, 1, none⟩) hb).trans h.2.1, (World.cell?_of_block (a := ⟨k, 2, none⟩) hb).trans h.2.2.1, (World.cell?_of_block (a := ⟨k, 3, none⟩) hb).trans h.2.2.2.1, fun i => (World.frozen?_of_block (a := ⟨k, i, none⟩) hb).trans (h.2.2.2.2 i)⟩

def Diffs (a b : R) (w : World) (e : Ending) (w' : World) : Prop :=
  ∃ I A : Nat, e = .returned (.func (.func 43) #[] #[.pointer (some ⟨I, 0, none⟩), .pointer (some ⟨A, 0, none⟩)]) ∧ At w' I (intR a b) ∧ At w' A a ∧ w.heap.size ≤ I ∧ w.heap.size ≤ A ∧ Below w.heap.size w w'

set_option maxHeartbeats 1000000 in
theorem diff_any (a b : R) (w : World) : Calls Try.prog 39 #[.agg #[.int .i64 a.x0, .int .i64 a.y0, .int .i64 a.x1, .int .i64 a.y1], .agg #[.int .i64 b.x0, .int .i64 b.y0, .int .i64 b.x1, .int .i64 b.y1]] w (Diffs a b w) := by
  have H0 := Lib.hid (((Below.refl w.heap.size w).alloc (Nat.le_refl _) (.cells #[.int .i64 a.x0, .int .i64 a.y0, .int .i64 a.x1, .int .i64 a.y1] 23)).alloc (by simp) (.cells #[.int .i64 b.x0, .int .i64 b.y0, .int .i64 b.x1, .int .i64 b.y1] 23))
  have F0 : Four ((w.alloc (.cells #[.int .i64 a.x0, .int .i64 a.y0, .int .i64 a.x1, .int .i64 a.y1] 23)).alloc (.cells #[.int .i64 b.x0, .int .i64 b.y0, .int .i64 b.x1, .int .i64 b.y1] 23)) w.heap.size (.int .i64 a.x0) (.int .i64 a.y0) (.int .i64 a.x1) (.int .i64 a.y1) := (Four.new w _ _ _ _ _).alloc (by simp) _
  have C1 := fun W => Lib.hid (int_any a b W)
  have e : Diffs a b = Diffs a b := rfl
  unfold Diffs
  generalize intR a b = c at *
  clear e
  go_enter Try.func39, Try.ntmps39
  go_wp2_with fail
  refine (C1 _).out.mono ?_
  rintro e w1 ⟨rfl, hb1⟩
  have hz1 : w.heap.size + 1 < w1.heap.size := by have := hb1.size; simp at this; omega
  have K1 := Lib.hid (H0.out.trans (hb1.mono H0.out.size))
  have G0 := Lib.hid (F0.keep hb1 (by simp; omega))
  clear hb1 F0
  go_wp2_with fail
  go_ret
  exact ⟨w1.heap.size, w.heap.size, rfl, Four.new w1 _ _ _ _ _, G0.out.alloc (by omega) _, by omega, Nat.le_refl _, K1.out.alloc K1.out.size _⟩

/-- what a round keeps: the two rectangles that the iterator reads -/
def Keeps2 (I A : Nat) (W W' : World) : Prop := W'.heap[I]? = W.heap[I]? ∧ W'.heap[A]? = W.heap[A]?

theorem keeps2_t {I A : Nat} {U V W : World} (h : Keeps2 I A U V) (k : Keeps2 I A V W) : Keeps2 I A U W := ⟨k.1.trans h.1, k.2.trans h.2⟩

theorem keeps2_b {I A : Nat} {w : World} (hI : I < w.heap.size) (hA : A < w.heap.size) (W : World) (l : Nat) (o o' : Obj) (hl : w.heap.size ≤ l) (_ : W.heap[l]? = some o) (_ : o.isCells = false) (_ : o.isWalk = false) : Keeps2 I A W (W.putObj l o') :=
  ⟨World.putObj_heap_other (by omega), World.putObj_heap_other (by omega)⟩

theorem abides_below {B : Nat} {J : List R → World → Prop} (hJ : AbidesFrom B J) {s : List R} {W W' : World} (h : J s W) (hb : Below W.heap.size W W') : J s W' :=
  hJ s W W' none h ⟨hb.os, hb.tape, hb.output, hb.size, fun k hk _ => hb.block k hk⟩ (fun r e => by cases e)

set_option maxRecDepth 100000 in
set_option maxHeartbeats 2000000 in
theorem parts_in (n : Nat) (hn : 2 ≤ n) (l I A : Nat) (a i : R) (J Jx : List R → World → Prop) (W : World) (hJ : AbidesFrom W.heap.size J)
    (hY : ∀ pre x W1, J pre W1 → pre.length < 4 → YieldAt Fence.wide (n - 1) Try.prog l #[.agg #[.int .i64 x.x0, .int .i64 x.y0, .int .i64 x.x1, .int .i64 x.y1]] W1 fun e W' =>
      (e = .returned (.bool true) ∧ J (pre ++ [x]) W' ∧ Keeps2 I A W1 W') ∨ (e = .returned (.bool false) ∧ Jx (pre ++ [x]) W'))
    (hI : At W I i) (hA : At W A a) (h0 : J [] W) (P : List R)
    (hP : P = if empB i then [a] else [⟨a.x0, a.y0, a.x1, i.y0⟩, ⟨a.x0, i.y1, a.x1, a.y1⟩, ⟨a.x0, i.y0, i.x0, i.y1⟩, ⟨i.x1, i.y0, a.x1, i.y1⟩]) :
    CallsIn Fence.wide n Try.prog 43 #[.func (.yield l) #[] #[], .pointer (some ⟨I, 0, none⟩), .pointer (some ⟨A, 0, none⟩)] W fun e W' => (∃ v, e = .returned v) ∧
      ((∃ ys, ys = P ∧ J ys W') ∨ (∃ pre, pre <+: P ∧ Jx pre W')) := by
  have C1 := fun W => Lib.hid (empty_any i W)
  have hn1 : 1 ≤ n := by omega
  have hIl := hI.there
  have hAl := hA.there
  cases h : empB i
  · rw [h] at C1 hP
    simp only [Bool.false_eq_true, if_false] at hP
    have HP := Lib.hid hP
    clear hP h
    refine callsIn_of_wp Try.func43 rfl trivial ?_ rfl
    simp only [Try.ntmps43, List.size_toArray, List.length_cons, List.length_nil, Nat.reduceAdd, Nat.reduceSub, Array.replicate_succ, Array.replicate_zero, List.push_toArray, List.append_toArray, List.nil_append, List.cons_append]
    obtain ⟨i0, i1, i2, i3, i4⟩ := id hI
    gi_wp2
    refine ⟨trivial, ?_⟩
    refine (callsIn_wide.2 (C1 _).out).mono ?_
    rintro e w1 ⟨rfl, hb1⟩
    have h1 := abides_below hJ h0 hb1
    replace hI := hI.keep hb1 hIl
    replace hA := hA.keep hb1 hAl
    clear hb1 i0 i1 i2 i3 i4 hIl hAl h0
    have HI := Lib.hid hI
    have HA := Lib.hid hA
    obtain ⟨i0, i1, i2, i3, i4⟩ := id hI
    obtain ⟨a0, a1, a2, a3, a4⟩ := id hA
    clear hI hA
    obtain ⟨f1, t1, s1, b1, hy1, hR1⟩ := hY [] ⟨a.x0, a.y0, a.x1, i.y0⟩ w1 h1 (by simp)
    dsimp only at hy1
    gi_wp2
    refine hR1.mono ?_
    rintro e w2 (⟨rfl, hJ2, k2⟩ | ⟨rfl, hx2⟩)
    · replace HI := Lib.hid (HI.out.same k2.1)
      replace HA := Lib.hid (HA.out.same k2.2)
      clear i0 i1 i2 i3 i4 a0 a1 a2 a3 a4 hy1 hR1 h1 k2
      obtain ⟨i0, i1, i2, i3, i4⟩ := id HI.out
      obtain ⟨a0, a1, a2, a3, a4⟩ := id HA.out
      obtain ⟨f2, t2, s2, b2, hy2, hR2⟩ := hY _ ⟨a.x0, i.y1, a.x1, a.y1⟩ w2 hJ2 (by simp)
      dsimp only at hy2
      gi_wp2
      refine hR2.mono ?_
      rintro e w3 (⟨rfl, hJ3, k3⟩ | ⟨rfl, hx3⟩)
      · replace HI := Lib.hid (HI.out.same k3.1)
        replace HA := Lib.hid (HA.out.same k3.2)
        clear i0 i1 i2 i3 i4 a0 a1 a2 a3 a4 hy2 hR2 hJ2 k3
        obtain ⟨i0, i1, i2, i3, i4⟩ := id HI.out
        obtain ⟨a0, a1, a2, a3, a4⟩ := id HA.out
        obtain ⟨f3, t3, s3, b3, hy3, hR3⟩ := hY _ ⟨a.x0, i.y0, i.x0, i.y1⟩ w3 hJ3 (by simp)
        dsimp only at hy3
        gi_wp2
        refine hR3.mono ?_
        rintro e w4 (⟨rfl, hJ4, k4⟩ | ⟨rfl, hx4⟩)
        · replace HI := Lib.hid (HI.out.same k4.1)
          replace HA := Lib.hid (HA.out.same k4.2)
          clear i0 i1 i2 i3 i4 a0 a1 a2 a3 a4 hy3 hR3 hJ3 k4
          obtain ⟨i0, i1, i2, i3, i4⟩ := id HI.out
          obtain ⟨a0, a1, a2, a3, a4⟩ := id HA.out
          obtain ⟨f4, t4, s4, b4, hy4, hR4⟩ := hY _ ⟨i.x1, i.y0, a.x1, i.y1⟩ w4 hJ4 (by simp)
          dsimp only at hy4
          gi_wp2
          refine hR4.mono ?_
          rintro e w5 (⟨rfl, hJ5, k5⟩ | ⟨rfl, hx5⟩)
          · gi_wp2
            go_end0
            exact ⟨⟨_, rfl⟩, .inl ⟨_, by rw [HP.out]; rfl, hJ5⟩⟩
          · gi_wp2
            go_end0
            exact ⟨⟨_, rfl⟩, .inr ⟨_, by rw [HP.out]; exact List.prefix_refl _, hx5⟩⟩
        · gi_wp2
          repeat (refine ⟨fun _ h => (by cases h), ?_⟩; gi_wp2)
          go_end0
          exact ⟨⟨_, rfl⟩, .inr ⟨_, by rw [HP.out]; exact ⟨_, rfl⟩, hx4⟩⟩
      · gi_wp2
        repeat (refine ⟨fun _ h => (by cases h), ?_⟩; gi_wp2)
        go_end0
        exact ⟨⟨_, rfl⟩, .inr ⟨_, by rw [HP.out]; exact ⟨_, rfl⟩, hx3⟩⟩
    · gi_wp2
      repeat (refine ⟨fun _ h => (by cases h), ?_⟩; gi_wp2)
      go_end0
      exact ⟨⟨_, rfl⟩, .inr ⟨_, by rw [HP.out]; exact ⟨_, rfl⟩, hx2⟩⟩
  · rw [h] at C1 hP
    simp only [if_true] at hP
    have HP := Lib.hid hP
    clear hP h
    refine callsIn_of_wp Try.func43 rfl trivial ?_ rfl
    simp only [Try.ntmps43, List.size_toArray, List.length_cons, List.length_nil, Nat.reduceAdd, Nat.reduceSub, Array.replicate_succ, Array.replicate_zero, List.push_toArray, List.append_toArray, List.nil_append, List.cons_append]
    obtain ⟨i0, i1, i2, i3, i4⟩ := id hI
    gi_wp2
    refine ⟨trivial, ?_⟩
    refine (callsIn_wide.2 (C1 _).out).mono ?_
    rintro e w1 ⟨rfl, hb1⟩
    have h1 := abides_below hJ h0 hb1
    obtain ⟨a0, a1, a2, a3, a4⟩ := hA.keep hb1 hAl
    clear hb1 i0 i1 i2 i3 i4 hIl hAl h0 hI hA
    obtain ⟨f1, t1, s1, b1, hy1, hR1⟩ := hY [] a w1 h1 (by simp)
    gi_wp2
    refine hR1.mono ?_
    rintro e w2 (⟨rfl, hJ2, k2⟩ | ⟨rfl, hx2⟩)
    · gi_wp2
      refine bodyPost_ret (results_none rfl _ _ _) rfl ?_
      exact ⟨⟨_, rfl⟩, .inl ⟨_, by rw [HP.out]; rfl, hJ2⟩⟩
    · gi_wp2
      refine bodyPost_ret (results_none rfl _ _ _) rfl ?_
      exact ⟨⟨_, rfl⟩, .inr ⟨_, by rw [HP.out]; exact List.prefix_refl _, hx2⟩⟩

/-- what difference returns makes the parts of the difference, in their order -/
theorem parts_stops (n : Nat) (hn : 2 ≤ n) (I A : Nat) (a b : R) (w : World) (hI : At w I (intR a b)) (hA : At w A a) :
    SeqStopsK Fence.wide n Try.prog 43 #[.pointer (some ⟨I, 0, none⟩), .pointer (some ⟨A, 0, none⟩)] (fun r : R => #[.agg #[.int .i64 r.x0, .int .i64 r.y0, .int .i64 r.x1, .int .i64 r.y1]]) (Keeps2 I A) (fun ys => ys = partsR a b) (fun pre => pre <+: partsR a b) 4 w := fun l J Jx W hW hJ _ hY h0 =>
  parts_in n hn l I A a (intR a b) J Jx W hJ hY (hI.keep hW hI.there) (hA.keep hW hA.there) h0 (partsR a b) rfl

end Go.Proofs.Ytalklenngalfjaa
