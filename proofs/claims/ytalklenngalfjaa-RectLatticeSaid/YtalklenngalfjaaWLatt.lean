/-
  RectLattice: for all rectangles, Intersect and Union are commutative and associative, Within is the order that belongs to them, and Union is the smallest rectangle with both: the law returns true and leaves its arguments as they were. No condition.
-/
import Derived.Test.YtalklenngalfjaaHold
import Derived.Test.YtalklenngalfjaaUni
import Derived.Test.YtalklenngalfjaaInt
import Derived.Test.YtalklenngalfjaaWith
import Derived.Test.YtalklenngalfjaaLatt
import Derived.Test.YtalklenngalfjaaInv
namespace Go.Proofs.Ytalklenngalfjaa
open Go.ChangeShapes Go.WideShapes Go.ChangeAt Go.RowKit
section
variable {P : Program} {ops : Array Oper} {Q : Exit → Act → World → Prop} {md : Region.Mode} {S : World → Prop}

/-- what may come up next, of two calls, two allocs, two stores: by what has come up -/
def rdyB (f3 f7 f8 f9 f10 f11 : Bool) : List Nat :=
  (if f3 = false then [2] else []) ++ (if f3 = true ∧ f7 = false then [5] else []) ++ (if f8 = false then [6] else []) ++ (if f9 = false then [7] else []) ++
    (if f3 = true ∧ f7 = true ∧ f8 = true ∧ f9 = true ∧ f10 = false then [8] else []) ++ (if f3 = true ∧ f7 = true ∧ f8 = true ∧ f9 = true ∧ f10 = true ∧ f11 = false then [9] else [])

theorem inv_fromB {a0 : Act} {w0 : World} {listed0 : Array Bool} {fuel : Nat} {L : Bool → Bool → Bool → Bool → Bool → Bool → Array Bool}
    {St : Act → Bool → Bool → Bool → Bool → Bool → Bool → Act → World → Prop}
    (hr : ∀ f3 f7 f8 f9 f10 f11, Region.ready md ops (L f3 f7 f8 f9 f10 f11) = rdyB f3 f7 f8 f9 f10 f11)
    (h3 : ∀ f8 f9 a w, St a0 false false f8 f9 false false a w → wpOp P ops Q 2 (fun a' w' => S w' ∧ St a0 true false f8 f9 false false a' w') a w)
    (h7 : ∀ f8 f9 a w, St a0 true false f8 f9 false false a w → wpOp P ops Q 5 (fun a' w' => S w' ∧ St a0 true true f8 f9 false false a' w') a w)
    (h8 : ∀ f3 f7 f9 a w, St a0 f3 f7 false f9 false false a w → wpOp P ops Q 6 (fun a' w' => S w' ∧ St a0 f3 f7 true f9 false false a' w') a w)
    (h9 : ∀ f3 f7 f8 a w, St a0 f3 f7 f8 false false false a w → wpOp P ops Q 7 (fun a' w' => S w' ∧ St a0 f3 f7 f8 true false false a' w') a w)
    (h10 : ∀ a w, St a0 true true true true false false a w → wpOp P ops Q 8 (fun a' w' => S w' ∧ St a0 true true true true true false a' w') a w)
    (h11 : ∀ a w, St a0 true true true true true false a w → wpOp P ops Q 9 (fun a' w' => S w' ∧ St a0 true true true true true true a' w') a w)
    (fin : ∀ a w, St a0 true true true true true true a w → Q .normal a w)
    (at0 : St a0 false false false false false false a0 w0 ∧ listed0 = L false false false false false false ∧ 6 ≤ fuel ∧ (∀ f3 f7 f8 f9 f10 f11, (L f3 f7 f8 f9 f10 f11).setIfInBounds 2 true = L true f7 f8 f9 f10 f11 ∧ (L f3 f7 f8 f9 f10 f11).setIfInBounds 5 true = L f3 true f8 f9 f10 f11 ∧ (L f3 f7 f8 f9 f10 f11).setIfInBounds 6 true = L f3 f7 true f9 f10 f11 ∧ (L f3 f7 f8 f9 f10 f11).setIfInBounds 7 true = L f3 f7 f8 true f10 f11 ∧ (L f3 f7 f8 f9 f10 f11).setIfInBounds 8 true = L f3 f7 f8 f9 true f11 ∧ (L f3 f7 f8 f9 f10 f11).setIfInBounds 9 true = L f3 f7 f8 f9 f10 true)) :
    wpAnyH P md ops Q S fuel listed0 a0 w0 := by
  obtain ⟨hst, rfl, hf, hs⟩ := at0
  -- by the number of operations that are left, and the flags
  have key : ∀ (k : Nat) f3 f7 f8 f9 f10 f11 a w fuel, ((if f3 then 0 else 1) + (if f7 then 0 else 1) + (if f8 then 0 else 1) + (if f9 then 0 else 1) + (if f10 then 0 else 1) + (if f11 then 0 else 1) : Nat) = k → k ≤ fuel →
      (f7 = true → f3 = true) → (f10 = true → f3 = true ∧ f7 = true ∧ f8 = true ∧ f9 = true) → (f11 = true → f10 = true) → St a0 f3 f7 f8 f9 f10 f11 a w → wpAnyH P md ops Q S fuel (L f3 f7 f8 f9 f10 f11) a w := by
    intro k
    induction k with
    | zero =>
      intro f3 f7 f8 f9 f10 f11 a w fuel hk _ _ _ _ h
      cases f3 <;> cases f7 <;> cases f8 <;> cases f9 <;> cases f10 <;> cases f11 <;> simp at hk
      exact wpAnyH_done (by rw [hr]; rfl) (fin _ _ h) _
    | succ k ih =>
      intro f3 f7 f8 f9 f10 f11 a w fuel hk hkf c1 c2 c3 h
      obtain ⟨fuel, rfl⟩ : ∃ n, fuel = n + 1 := ⟨fuel - 1, by omega⟩
      obtain ⟨s3, s7, s8, s9, s10, s11⟩ := hs f3 f7 f8 f9 f10 f11
      refine ⟨fun h0 => ?_, fun i hi => ?_⟩
      · rw [hr] at h0
        exfalso
        cases f3 <;> cases f7 <;> cases f8 <;> cases f9 <;> cases f10 <;> cases f11 <;> simp [rdyB] at h0 hk c1 c2 c3
      · rw [hr] at hi
        cases f3 <;> cases f7 <;> cases f8 <;> cases f9 <;> cases f10 <;> cases f11 <;> simp at c1 c2 c3 <;> simp [rdyB] at hi <;> simp at hk
        all_goals (try (rcases hi with rfl | rfl | rfl))
        all_goals (try (rcases hi with rfl | rfl))
        all_goals (try subst hi)
        all_goals first
          | (simp only [s3]; exact wpOp_mono (fun a' w' ⟨hs', h'⟩ => ⟨hs', ih _ _ _ _ _ _ _ _ _ (by simp; try omega) (by omega) (by simp) (by simp) (by simp) h'⟩) (h3 _ _ _ _ h))
          | (simp only [s7]; exact wpOp_mono (fun a' w' ⟨hs', h'⟩ => ⟨hs', ih _ _ _ _ _ _ _ _ _ (by simp; try omega) (by omega) (by simp) (by simp) (by simp) h'⟩) (h7 _ _ _ _ h))
          | (simp only [s8]; exact wpOp_mono (fun a' w' ⟨hs', h'⟩ => ⟨hs', ih _ _ _ _ _ _ _ _ _ (by simp; try omega) (by omega) (by simp) (by simp) (by simp) h'⟩) (h8 _ _ _ _ _ h))
          | (simp only [s9]; exact wpOp_mono (fun a' w' ⟨hs', h'⟩ => ⟨hs', ih _ _ _ _ _ _ _ _ _ (by simp; try omega) (by omega) (by simp) (by simp) (by simp) h'⟩) (h9 _ _ _ _ _ h))
          | (simp only [s10]; exact wpOp_mono (fun a' w' ⟨hs', h'⟩ => ⟨hs', ih _ _ _ _ _ _ _ _ _ (by simp; try omega) (by omega) (by simp) (by simp) (by simp) h'⟩) (h10 _ _ h))
          | (simp only [s11]; exact wpOp_mono (fun a' w' ⟨hs', h'⟩ => ⟨hs', ih _ _ _ _ _ _ _ _ _ (by simp; try omega) (by omega) (by simp) (by simp) (by simp) h'⟩) (h11 _ _ h))
  exact key 6 false false false false false false a0 w0 fuel rfl hf (by simp) (by simp) (by simp) hst

end

theorem eight {W w1 : World} {k B : Nat} {x0 x1 x2 x3 y0 y1 y2 y3 : Value} (hb : Below B W w1) (hk : k + 1 < B) (h : World.cell? W ⟨k, 0, none⟩ = some x0 ∧ World.cell? W ⟨k, 1, none⟩ = some x1 ∧ World.cell? W ⟨k, 2, none⟩ = some x2 ∧ World.cell? W ⟨k, 3, none⟩ = some x3 ∧ World.cell? W ⟨k + 1, 0, none⟩ = some y0 ∧ World.cell? W ⟨k + 1, 1, none⟩ = some y1 ∧ World.cell? W ⟨k + 1, 2, none⟩ = some y2 ∧ World.cell? W ⟨k + 1, 3, none⟩ = some y3) : World.cell? w1 ⟨k, 0, none⟩ = some x0 ∧ World.cell? w1 ⟨k, 1, none⟩ = some x1 ∧ World.cell? w1 ⟨k, 2, none⟩ = some x2 ∧ World.cell? w1 ⟨k, 3, none⟩ = some x3 ∧ World.cell? w1 ⟨k + 1, 0, none⟩ = some y0 ∧ World.cell? w1 ⟨k + 1, 1, none⟩ = some y1 ∧ World.cell? w1 ⟨k + 1, 2, none⟩ = some y2 ∧ World.cell? w1 ⟨k + 1, 3, none⟩ = some y3 := by
  obtain ⟨h0, h1, h2, h3, h4, h5, h6, h7⟩ := h
  have e := fun i => hb.cell (p := ⟨k, i, none⟩) (by simp; omega)
  have f := fun i => hb.cell (p := ⟨k + 1, i, none⟩) hk
  exact ⟨(e 0).trans h0, (e 1).trans h1, (e 2).trans h2, (e 3).trans h3, (f 0).trans h4, (f 1).trans h5, (f 2).trans h6, (f 3).trans h7⟩

theorem s_alloc {W : World} {k : Nat} {o : Obj} {x0 x1 x2 x3 y0 y1 y2 y3 : Value} (h : (World.cell? W ⟨k, 0, none⟩ = some x0 ∧ World.cell? W ⟨k, 1, none⟩ = some x1 ∧ World.cell? W ⟨k, 2, none⟩ = some x2 ∧ World.cell? W ⟨k, 3, none⟩ = some x3 ∧ World.cell? W ⟨k + 1, 0, none⟩ = some y0 ∧ World.cell? W ⟨k + 1, 1, none⟩ = some y1 ∧ World.cell? W ⟨k + 1, 2, none⟩ = some y2 ∧ World.cell? W ⟨k + 1, 3, none⟩ = some y3) ∧ k + 1 < W.heap.size) : (World.cell? (W.alloc o) ⟨k, 0, none⟩ = some x0 ∧ World.cell? (W.alloc o) ⟨k, 1, none⟩ = some x1 ∧ World.cell? (W.alloc o) ⟨k, 2, none⟩ = some x2 ∧ World.cell? (W.alloc o) ⟨k, 3, none⟩ = some x3 ∧ World.cell? (W.alloc o) ⟨k + 1, 0, none⟩ = some y0 ∧ World.cell? (W.alloc o) ⟨k + 1, 1, none⟩ = some y1 ∧ World.cell? (W.alloc o) ⟨k + 1, 2, none⟩ = some y2 ∧ World.cell? (W.alloc o) ⟨k + 1, 3, none⟩ = some y3) ∧ k + 1 < (W.alloc o).heap.size :=
  ⟨eight ((Below.refl _ _).alloc (Nat.le_refl _) o) h.2 h.1, by have := h.2; simp; omega⟩

theorem s_set {W : World} {k q : Nat} {x0 x1 x2 x3 y0 y1 y2 y3 u0 u1 u2 u3 : Value} (hq : k + 1 < q) (h : (World.cell? W ⟨k, 0, none⟩ = some x0 ∧ World.cell? W ⟨k, 1, none⟩ = some x1 ∧ World.cell? W ⟨k, 2, none⟩ = some x2 ∧ World.cell? W ⟨k, 3, none⟩ = some x3 ∧ World.cell? W ⟨k + 1, 0, none⟩ = some y0 ∧ World.cell? W ⟨k + 1, 1, none⟩ = some y1 ∧ World.cell? W ⟨k + 1, 2, none⟩ = some y2 ∧ World.cell? W ⟨k + 1, 3, none⟩ = some y3) ∧ k + 1 < W.heap.size) : (World.cell? ((((W.setCell ⟨q, 0, none⟩ u0).setCell ⟨q, 1, none⟩ u1).setCell ⟨q, 2, none⟩ u2).setCell ⟨q, 3, none⟩ u3) ⟨k, 0, none⟩ = some x0 ∧ World.cell? ((((W.setCell ⟨q, 0, none⟩ u0).setCell ⟨q, 1, none⟩ u1).setCell ⟨q, 2, none⟩ u2).setCell ⟨q, 3, none⟩ u3) ⟨k, 1, none⟩ = some x1 ∧ World.cell? ((((W.setCell ⟨q, 0, none⟩ u0).setCell ⟨q, 1, none⟩ u1).setCell ⟨q, 2, none⟩ u2).setCell ⟨q, 3, none⟩ u3) ⟨k, 2, none⟩ = some x2 ∧ World.cell? ((((W.setCell ⟨q, 0, none⟩ u0).setCell ⟨q, 1, none⟩ u1).setCell ⟨q, 2, none⟩ u2).setCell ⟨q, 3, none⟩ u3) ⟨k, 3, none⟩ = some x3 ∧ World.cell? ((((W.setCell ⟨q, 0, none⟩ u0).setCell ⟨q, 1, none⟩ u1).setCell ⟨q, 2, none⟩ u2).setCell ⟨q, 3, none⟩ u3) ⟨k + 1, 0, none⟩ = some y0 ∧ World.cell? ((((W.setCell ⟨q, 0, none⟩ u0).setCell ⟨q, 1, none⟩ u1).setCell ⟨q, 2, none⟩ u2).setCell ⟨q, 3, none⟩ u3) ⟨k + 1, 1, none⟩ = some y1 ∧ World.cell? ((((W.setCell ⟨q, 0, none⟩ u0).setCell ⟨q, 1, none⟩ u1).setCell ⟨q, 2, none⟩ u2).setCell ⟨q, 3, none⟩ u3) ⟨k + 1, 2, none⟩ = some y2 ∧ World.cell? ((((W.setCell ⟨q, 0, none⟩ u0).setCell ⟨q, 1, none⟩ u1).setCell ⟨q, 2, none⟩ u2).setCell ⟨q, 3, none⟩ u3) ⟨k + 1, 3, none⟩ = some y3) ∧ k + 1 < ((((W.setCell ⟨q, 0, none⟩ u0).setCell ⟨q, 1, none⟩ u1).setCell ⟨q, 2, none⟩ u2).setCell ⟨q, 3, none⟩ u3).heap.size :=
  ⟨eight (B := k + 2) (below_set4 (Below.refl _ _) (by omega)) (by omega) h.1, by simpa using h.2⟩

set_option maxHeartbeats 2000000 in
theorem eql_rect (r s : R) (w : World) : (binOp .eql 23 (.agg #[.int .i64 r.x0, .int .i64 r.y0, .int .i64 r.x1, .int .i64 r.y1]) (.agg #[.int .i64 s.x0, .int .i64 s.y0, .int .i64 s.x1, .int .i64 s.y1])).run Try.prog w = .ok (.bool (sameR r s)) w := by
  have h : ∀ d : Nat, (Op.equalIn (d + 3) 23 (.agg #[.int .i64 r.x0, .int .i64 r.y0, .int .i64 r.x1, .int .i64 r.y1]) (.agg #[.int .i64 s.x0, .int .i64 s.y0, .int .i64 s.x1, .int .i64 s.y1])).run Try.prog w = .ok (sameR r s) w := fun d => by
    simp [Op.equalIn, run_underlying Try.underlying23, run_underlying Try.underlying3, go_sem]
    unfold sameR
    by_cases h0 : r.x0 = s.x0 <;> by_cases h1 : r.y0 = s.y0 <;> by_cases h2 : r.x1 = s.x1 <;> by_cases h3 : r.y1 = s.y1 <;> simp [h0, h1, h2, h3]
  simp only [binOp]
  simp [Op.equal, Op.maxDepth, h 9997]


set_option maxRecDepth 100000 in
set_option maxHeartbeats 40000000 in
theorem lattice_walk (a b c : R) (w : World) : Calls Try.prog 8 #[.agg #[.int .i64 a.x0, .int .i64 a.y0, .int .i64 a.x1, .int .i64 a.y1], .agg #[.int .i64 b.x0, .int .i64 b.y0, .int .i64 b.x1, .int .i64 b.y1], .agg #[.int .i64 c.x0, .int .i64 c.y0, .int .i64 c.x1, .int .i64 c.y1]] w (Says true w) := by
  have HK : Hid (HeldL w _ (rectC w.heap.size a ++ rectC (w.heap.size + 1) b ++ rectC (w.heap.size + 1 + 1) c)) := Lib.hid ((((HeldL.new w).rect a rfl).rect b (k := w.heap.size + 1) (by simp)).rect c (k := w.heap.size + 1 + 1) (by simp))
  have I1 := fun W => Lib.hid (int_any a b W)
  have U1 := fun W => Lib.hid (uni_any a b W)
  go_enter Try.func8, Try.ntmps8
  go_wp2_with fail
  go_upto_region 1 with fail
  generalize ((w.alloc (.cells #[.int .i64 a.x0, .int .i64 a.y0, .int .i64 a.x1, .int .i64 a.y1] 23)).alloc (.cells #[.int .i64 b.x0, .int .i64 b.y0, .int .i64 b.x1, .int .i64 b.y1] 23)).alloc (.cells #[.int .i64 c.x0, .int .i64 c.y0, .int .i64 c.x1, .int .i64 c.y1] 23) = wc at *
  go_cut [7, 8] (fun s7 s8 wx => ∃ M Nn : Nat, s7 = .pointer (some ⟨M, 0, none⟩) ∧ s8 = .pointer (some ⟨Nn, 0, none⟩) ∧ Hid (HeldL w wx (rectC w.heap.size a ++ rectC (w.heap.size + 1) b ++ rectC (w.heap.size + 1 + 1) c ++ rectC M (intR a b) ++ rectC Nn (uniR a b))))
  case first =>
    generalize intR a b = i at *
    generalize uniR a b = u at *
    have HK := HK
    have HK0 := HK.out.drew
    have low : ∀ p ∈ rectC w.heap.size a ++ rectC (w.heap.size + 1) b ++ rectC (w.heap.size + 1 + 1) c, p.1.block < wc.heap.size := fun p hp => (HK.out.there p hp).1
    have lw := HK.out.below.size
    have sk := (HK0.of (m := rectC w.heap.size a ++ rectC (w.heap.size + 1) b) (fun p hp => List.mem_append_left _ hp)).cells; simp only [rectC, List.nil_append, List.cons_append, Cells] at sk; have hlt := World.block_lt_of_cell? _ _ sk.2.2.2.2.1
    refine wp_region_held_drew (S := (fun W => (W.cell? ⟨w.heap.size, 0, none⟩ = some (.int .i64 a.x0) ∧ W.cell? ⟨w.heap.size, 1, none⟩ = some (.int .i64 a.y0) ∧ W.cell? ⟨w.heap.size, 2, none⟩ = some (.int .i64 a.x1) ∧ W.cell? ⟨w.heap.size, 3, none⟩ = some (.int .i64 a.y1) ∧ W.cell? ⟨w.heap.size + 1, 0, none⟩ = some (.int .i64 b.x0) ∧ W.cell? ⟨w.heap.size + 1, 1, none⟩ = some (.int .i64 b.y0) ∧ W.cell? ⟨w.heap.size + 1, 2, none⟩ = some (.int .i64 b.x1) ∧ W.cell? ⟨w.heap.size + 1, 3, none⟩ = some (.int .i64 b.y1)) ∧ w.heap.size + 1 < W.heap.size)) (by kernel_rfl) ⟨sk, hlt⟩ (fun hHeld => ?_)
    refine wpAnyH_take (i := 0) (oi := _) (v := ?_) rfl (by kernel_rfl) (by kernel_rfl) (by kernel_rfl) (fun _ _ _ h => h) (Or.inl ⟨by rfl, ?_⟩) hHeld ?_
    rotate_left 1
    · (intro W hSw; (try dsimp only at hSw); go_simp; try with_reducible rfl)
    try simp only [Act.put, List.setIfInBounds_toArray, List.set_cons_succ]
    refine wpAnyH_take (i := 1) (oi := _) (v := ?_) rfl (by kernel_rfl) (by kernel_rfl) (by kernel_rfl) (fun _ _ _ h => h) (Or.inl ⟨by rfl, ?_⟩) hHeld ?_
    rotate_left 1
    · (intro W hSw; (try dsimp only at hSw); go_simp; try with_reducible rfl)
    try simp only [Act.put, List.setIfInBounds_toArray, List.set_cons_succ]
    refine wpAnyH_take (i := 3) (oi := _) (v := ?_) rfl (by kernel_rfl) (by kernel_rfl) (by kernel_rfl) (fun _ _ _ h => h) (Or.inl ⟨by rfl, ?_⟩) hHeld ?_
    rotate_left 1
    · (intro W hSw; (try dsimp only at hSw); go_simp; try with_reducible rfl)
    try simp only [Act.put, List.setIfInBounds_toArray, List.set_cons_succ]
    refine wpAnyH_take (i := 4) (oi := _) (v := ?_) rfl (by kernel_rfl) (by kernel_rfl) (by kernel_rfl) (fun _ _ _ h => h) (Or.inl ⟨by rfl, ?_⟩) hHeld ?_
    rotate_left 1
    · (intro W hSw; (try dsimp only at hSw); go_simp; try with_reducible rfl)
    try simp only [Act.put, List.setIfInBounds_toArray, List.set_cons_succ]
    have hT1 := I1
    have hT2 := U1
    refine inv_fromB (L := fun f3 f7 f8 f9 f10 f11 => #[true, true, f3, true, true, f7, f8, f9, f10, f11]) (St := fun a0 f3 f7 f8 f9 f10 f11 ac W => ∃ M Nn : Nat, ac = { a0 with tmps := (((a0.tmps.setIfInBounds 11 (if f3 = true then (.agg #[.int .i64 i.x0, .int .i64 i.y0, .int .i64 i.x1, .int .i64 i.y1]) else a0.tmps.getD 11 undef)).setIfInBounds 14 (if f7 = true then (.agg #[.int .i64 u.x0, .int .i64 u.y0, .int .i64 u.x1, .int .i64 u.y1]) else a0.tmps.getD 14 undef)).setIfInBounds 7 (if f8 = true then .pointer (some ⟨M, 0, none⟩) else a0.tmps.getD 7 undef)).setIfInBounds 8 (if f9 = true then .pointer (some ⟨Nn, 0, none⟩) else a0.tmps.getD 8 undef) } ∧ Hid (Pair2 w wc.heap.size (rectC w.heap.size a ++ rectC (w.heap.size + 1) b ++ rectC (w.heap.size + 1 + 1) c) f8 f9 f10 f11 M Nn i u W)) ?rdy ?op3 ?op7 ?op8 ?op9 ?op10 ?op11 ?fin ?at0
    case rdy => intro f3 f7 f8 f9 f10 f11; cases f3 <;> cases f7 <;> cases f8 <;> cases f9 <;> cases f10 <;> cases f11 <;> kernel_rfl
    case at0 => exact ⟨⟨wc.heap.size, wc.heap.size + 1, by kernel_rfl, Lib.hid (Pair2.mk lw HK0 low (Nat.le_refl _) (Nat.le_refl _) (Nat.le_succ _) (by omega) (fun e => by cases e) (fun e => by cases e))⟩, by rfl, by decide, fun _ _ _ _ _ _ => ⟨rfl, rfl, rfl, rfl, rfl, rfl⟩⟩
    case op3 =>
      rintro f8 f9 a W ⟨M, Nn, rfl, hp⟩
      refine wpOp_step (o := _) rfl (fun K hK => ?_)
      have hK2 := Lib.hid hK
      clear hK
      go_simp
      refine (hT1 _).out.mono ?_
      rintro e wx ⟨rfl, hbq⟩
      have hq := hp.out.step hbq
      have sk := (hq.held.of (m := rectC w.heap.size a ++ rectC (w.heap.size + 1) b) (fun p hp => List.mem_append_left _ hp)).cells; simp only [rectC, List.nil_append, List.cons_append, Cells] at sk; have hlt2 := World.block_lt_of_cell? _ _ sk.2.2.2.2.1
      exact hK2.out _ _ ⟨⟨sk, hlt2⟩, M, Nn, by kernel_rfl, Lib.hid hq⟩
    case op7 =>
      rintro f8 f9 a W ⟨M, Nn, rfl, hp⟩
      refine wpOp_step (o := _) rfl (fun K hK => ?_)
      have hK2 := Lib.hid hK
      clear hK
      go_simp
      refine (hT2 _).out.mono ?_
      rintro e wx ⟨rfl, hbq⟩
      have hq := hp.out.step hbq
      have sk := (hq.held.of (m := rectC w.heap.size a ++ rectC (w.heap.size + 1) b) (fun p hp => List.mem_append_left _ hp)).cells; simp only [rectC, List.nil_append, List.cons_append, Cells] at sk; have hlt2 := World.block_lt_of_cell? _ _ sk.2.2.2.2.1
      exact hK2.out _ _ ⟨⟨sk, hlt2⟩, M, Nn, by kernel_rfl, Lib.hid hq⟩
    case op8 =>
      rintro f3 f7 f9 a W ⟨M, Nn, rfl, hp⟩
      obtain ⟨N2, hN2, hq⟩ := hp.out.newM (fun e => by have := hp.out.atN e; simp only [Bool.false_eq_true, if_false] at this; exact this.in_)
      have sk := (hq.held.of (m := rectC w.heap.size a ++ rectC (w.heap.size + 1) b) (fun p hp => List.mem_append_left _ hp)).cells; simp only [rectC, List.nil_append, List.cons_append, Cells] at sk; have hlt2 := World.block_lt_of_cell? _ _ sk.2.2.2.2.1
      refine wpOp_step (o := _) rfl (fun K hK => ?_)
      have hK2 := Lib.hid hK
      clear hK
      go_simp
      refine hK2.out _ _ ⟨⟨sk, hlt2⟩, _, N2, ?_, Lib.hid hq⟩
      cases f9
      · kernel_rfl
      · rw [hN2 rfl]; kernel_rfl
    case op9 =>
      rintro f3 f7 f8 a W ⟨M, Nn, rfl, hp⟩
      obtain ⟨M2, hM2, hq⟩ := hp.out.newN (fun e => by have := hp.out.atM e; simp only [Bool.false_eq_true, if_false] at this; exact this.in_)
      have sk := (hq.held.of (m := rectC w.heap.size a ++ rectC (w.heap.size + 1) b) (fun p hp => List.mem_append_left _ hp)).cells; simp only [rectC, List.nil_append, List.cons_append, Cells] at sk; have hlt2 := World.block_lt_of_cell? _ _ sk.2.2.2.2.1
      refine wpOp_step (o := _) rfl (fun K hK => ?_)
      have hK2 := Lib.hid hK
      clear hK
      go_simp
      refine hK2.out _ _ ⟨⟨sk, hlt2⟩, M2, _, ?_, Lib.hid hq⟩
      cases f8
      · kernel_rfl
      · rw [hM2 rfl]; kernel_rfl
    case op10 =>
      rintro a W ⟨M, Nn, rfl, hp⟩
      have hM := hp.out.atM rfl
      simp only [Bool.false_eq_true, if_false] at hM
      have hq := hp.out.setM
      have sk := (hq.held.of (m := rectC w.heap.size a ++ rectC (w.heap.size + 1) b) (fun p hp => List.mem_append_left _ hp)).cells; simp only [rectC, List.nil_append, List.cons_append, Cells] at sk; have hlt2 := World.block_lt_of_cell? _ _ sk.2.2.2.2.1
      obtain ⟨m0, m1, m2, m3, m4⟩ := hM
      refine wpOp_step (o := _) rfl (fun K hK => ?_)
      have hK2 := Lib.hid hK
      clear hK
      go_simp
      exact hK2.out _ _ ⟨⟨sk, hlt2⟩, M, Nn, by kernel_rfl, Lib.hid hq⟩
    case op11 =>
      rintro a W ⟨M, Nn, rfl, hp⟩
      have hN := hp.out.atN rfl
      simp only [Bool.false_eq_true, if_false] at hN
      have hq := hp.out.setN
      have sk := (hq.held.of (m := rectC w.heap.size a ++ rectC (w.heap.size + 1) b) (fun p hp => List.mem_append_left _ hp)).cells; simp only [rectC, List.nil_append, List.cons_append, Cells] at sk; have hlt2 := World.block_lt_of_cell? _ _ sk.2.2.2.2.1
      obtain ⟨m0, m1, m2, m3, m4⟩ := hN
      refine wpOp_step (o := _) rfl (fun K hK => ?_)
      have hK2 := Lib.hid hK
      clear hK
      go_simp
      exact hK2.out _ _ ⟨⟨sk, hlt2⟩, M, Nn, by kernel_rfl, Lib.hid hq⟩
    case fin =>
      rintro a W ⟨M, Nn, rfl, hp⟩
      have hq := hp.out.fin
      go_wp2_with fail
      go_meet
      exact ⟨M, Nn, rfl, rfl, hq⟩
  case rest =>
    obtain ⟨M, Nn, rfl, rfl, HL⟩ := hcut
    have I2 := fun W => Lib.hid (int_any b a W)
    have U2 := fun W => Lib.hid (uni_any b a W)
    have I3 := fun W => Lib.hid (int_any (intR a b) c W)
    have I4 := fun W => Lib.hid (int_any b c W)
    have I5 := fun W => Lib.hid (int_any a (intR b c) W)
    have U3 := fun W => Lib.hid (uni_any (uniR a b) c W)
    have U4 := fun W => Lib.hid (uni_any b c W)
    have U5 := fun W => Lib.hid (uni_any a (uniR b c) W)
    have W1 := fun W => Lib.hid (with_any a b W)
    have N1 := fun W => Lib.hid (canon_any a W)
    have N2 := fun W => Lib.hid (canon_any b W)
    have W2 := fun W => Lib.hid (with_any (uniR a b) c W)
    have W3 := fun W => Lib.hid (with_any a c W)
    have W4 := fun W => Lib.hid (with_any b c W)
    have W5 := fun W => Lib.hid (with_any c (intR a b) W)
    have W6 := fun W => Lib.hid (with_any c a W)
    have W7 := fun W => Lib.hid (with_any c b W)
    rw [int_comm b a] at I2
    rw [uni_comm b a] at U2
    rw [int_assoc] at I3
    rw [uni_assoc] at U3
    have e1 := with_int a b
    have e2 := can_uni_same a b
    have e3 := with_uni a b c
    have e4 := with_of_int a b c
    generalize intR a (intR b c) = iabc at *
    generalize uniR a (uniR b c) = uabc at *
    generalize intR b c = ibc at *
    generalize uniR b c = ubc at *
    generalize intR a b = i at *
    generalize uniR a b = u at *
    generalize canR a = ca at *
    generalize canR b = cb at *
    generalize withB a b = wab at *
    generalize withB u c = wuc at *
    generalize withB c i = wci at *
    generalize withB a c = wac at *
    generalize withB b c = wbc at *
    generalize withB c a = wca at *
    generalize withB c b = wcb at *
    have E1 : ∀ W, (binOp .eql 23 (.agg #[.int .i64 i.x0, .int .i64 i.y0, .int .i64 i.x1, .int .i64 i.y1]) (.agg #[.int .i64 ca.x0, .int .i64 ca.y0, .int .i64 ca.x1, .int .i64 ca.y1])).run Try.prog W = .ok (.bool wab) W := fun W => by rw [e1]; exact eql_rect i ca W
    have E2 : ∀ W, (binOp .eql 23 (.agg #[.int .i64 u.x0, .int .i64 u.y0, .int .i64 u.x1, .int .i64 u.y1]) (.agg #[.int .i64 cb.x0, .int .i64 cb.y0, .int .i64 cb.x1, .int .i64 cb.y1])).run Try.prog W = .ok (.bool wab) W := fun W => by rw [e2]; exact eql_rect u cb W
    have HE1 := Lib.hid E1
    have HE2 := Lib.hid E2
    have HE3 := Lib.hid e3
    have HE4 := Lib.hid e4
    clear I1 U1 e1 e2 e3 e4 E1 E2
    go_upto_region 2 with fail
    go_cut [48] (fun s48 wx => s48 = .bool false ∧ Hid (HeldL w wx (rectC w.heap.size a ++ rectC (w.heap.size + 1) b ++ rectC (w.heap.size + 1 + 1) c ++ rectC M i ++ rectC Nn u)))
    case first =>
      replace HL := Lib.hid HL.out.drew
      have sk := HL.out.cells; simp only [rectC, List.nil_append, List.cons_append, Cells] at sk
      go_region_held3 (fun W => W.cell? ⟨w.heap.size, 0, none⟩ = some (.int .i64 a.x0) ∧ W.cell? ⟨w.heap.size, 1, none⟩ = some (.int .i64 a.y0) ∧ W.cell? ⟨w.heap.size, 2, none⟩ = some (.int .i64 a.x1) ∧ W.cell? ⟨w.heap.size, 3, none⟩ = some (.int .i64 a.y1) ∧ W.cell? ⟨w.heap.size + 1, 0, none⟩ = some (.int .i64 b.x0) ∧ W.cell? ⟨w.heap.size + 1, 1, none⟩ = some (.int .i64 b.y0) ∧ W.cell? ⟨w.heap.size + 1, 2, none⟩ = some (.int .i64 b.x1) ∧ W.cell? ⟨w.heap.size + 1, 3, none⟩ = some (.int .i64 b.y1) ∧ W.cell? ⟨w.heap.size + 1 + 1, 0, none⟩ = some (.int .i64 c.x0) ∧ W.cell? ⟨w.heap.size + 1 + 1, 1, none⟩ = some (.int .i64 c.y0) ∧ W.cell? ⟨w.heap.size + 1 + 1, 2, none⟩ = some (.int .i64 c.x1) ∧ W.cell? ⟨w.heap.size + 1 + 1, 3, none⟩ = some (.int .i64 c.y1) ∧ W.cell? ⟨M, 0, none⟩ = some (.int .i64 i.x0) ∧ W.cell? ⟨M, 1, none⟩ = some (.int .i64 i.y0) ∧ W.cell? ⟨M, 2, none⟩ = some (.int .i64 i.x1) ∧ W.cell? ⟨M, 3, none⟩ = some (.int .i64 i.y1) ∧ W.cell? ⟨Nn, 0, none⟩ = some (.int .i64 u.x0) ∧ W.cell? ⟨Nn, 1, none⟩ = some (.int .i64 u.y0) ∧ W.cell? ⟨Nn, 2, none⟩ = some (.int .i64 u.x1) ∧ W.cell? ⟨Nn, 3, none⟩ = some (.int .i64 u.y1))
        (first
          | (with_reducible exact sk)
          | go_keep)
        (first
          | (go_at_call 24; (with_reducible refine ((I2 _).out).mono ?_); rintro e wq ⟨rfl, hbq⟩; replace HL := Lib.hid (HL.out.step hbq); (try clear sk); have sk := HL.out.cells; simp only [rectC, List.nil_append, List.cons_append, Cells] at sk; clear hbq)
          | (go_at_call 26; (with_reducible refine ((U2 _).out).mono ?_); rintro e wq ⟨rfl, hbq⟩; replace HL := Lib.hid (HL.out.step hbq); (try clear sk); have sk := HL.out.cells; simp only [rectC, List.nil_append, List.cons_append, Cells] at sk; clear hbq)
          | (go_at_call 24; (with_reducible refine ((I3 _).out).mono ?_); rintro e wq ⟨rfl, hbq⟩; replace HL := Lib.hid (HL.out.step hbq); (try clear sk); have sk := HL.out.cells; simp only [rectC, List.nil_append, List.cons_append, Cells] at sk; clear hbq)
          | (go_at_call 24; (with_reducible refine ((I4 _).out).mono ?_); rintro e wq ⟨rfl, hbq⟩; replace HL := Lib.hid (HL.out.step hbq); (try clear sk); have sk := HL.out.cells; simp only [rectC, List.nil_append, List.cons_append, Cells] at sk; clear hbq)
          | (go_at_call 24; (with_reducible refine ((I5 _).out).mono ?_); rintro e wq ⟨rfl, hbq⟩; replace HL := Lib.hid (HL.out.step hbq); (try clear sk); have sk := HL.out.cells; simp only [rectC, List.nil_append, List.cons_append, Cells] at sk; clear hbq)
          | (go_at_call 26; (with_reducible refine ((U3 _).out).mono ?_); rintro e wq ⟨rfl, hbq⟩; replace HL := Lib.hid (HL.out.step hbq); (try clear sk); have sk := HL.out.cells; simp only [rectC, List.nil_append, List.cons_append, Cells] at sk; clear hbq)
          | (go_at_call 26; (with_reducible refine ((U4 _).out).mono ?_); rintro e wq ⟨rfl, hbq⟩; replace HL := Lib.hid (HL.out.step hbq); (try clear sk); have sk := HL.out.cells; simp only [rectC, List.nil_append, List.cons_append, Cells] at sk; clear hbq)
          | (go_at_call 26; (with_reducible refine ((U5 _).out).mono ?_); rintro e wq ⟨rfl, hbq⟩; replace HL := Lib.hid (HL.out.step hbq); (try clear sk); have sk := HL.out.cells; simp only [rectC, List.nil_append, List.cons_append, Cells] at sk; clear hbq)
          | fail)
      all_goals
        go_wp2_with fail
        go_meet
        exact ⟨rfl, HL.out⟩
    case rest =>
    clear HL I2 U2 I3 I4 I5 U3 U4 U5
    obtain ⟨rfl, HL⟩ := hcut
    go_upto_region 4 with fail
    go_cut [66] (fun s66 wx => s66 = .bool false ∧ Hid (HeldL w wx (rectC w.heap.size a ++ rectC (w.heap.size + 1) b ++ rectC (w.heap.size + 1 + 1) c ++ rectC M i ++ rectC Nn u)))
    case first =>
      have E1 := HE1.out
      have E2 := HE2.out
      replace HL := Lib.hid HL.out.drew
      have sk := HL.out.cells; simp only [rectC, List.nil_append, List.cons_append, Cells] at sk
      go_region_held3 (fun W => W.cell? ⟨w.heap.size, 0, none⟩ = some (.int .i64 a.x0) ∧ W.cell? ⟨w.heap.size, 1, none⟩ = some (.int .i64 a.y0) ∧ W.cell? ⟨w.heap.size, 2, none⟩ = some (.int .i64 a.x1) ∧ W.cell? ⟨w.heap.size, 3, none⟩ = some (.int .i64 a.y1) ∧ W.cell? ⟨w.heap.size + 1, 0, none⟩ = some (.int .i64 b.x0) ∧ W.cell? ⟨w.heap.size + 1, 1, none⟩ = some (.int .i64 b.y0) ∧ W.cell? ⟨w.heap.size + 1, 2, none⟩ = some (.int .i64 b.x1) ∧ W.cell? ⟨w.heap.size + 1, 3, none⟩ = some (.int .i64 b.y1) ∧ W.cell? ⟨w.heap.size + 1 + 1, 0, none⟩ = some (.int .i64 c.x0) ∧ W.cell? ⟨w.heap.size + 1 + 1, 1, none⟩ = some (.int .i64 c.y0) ∧ W.cell? ⟨w.heap.size + 1 + 1, 2, none⟩ = some (.int .i64 c.x1) ∧ W.cell? ⟨w.heap.size + 1 + 1, 3, none⟩ = some (.int .i64 c.y1) ∧ W.cell? ⟨M, 0, none⟩ = some (.int .i64 i.x0) ∧ W.cell? ⟨M, 1, none⟩ = some (.int .i64 i.y0) ∧ W.cell? ⟨M, 2, none⟩ = some (.int .i64 i.x1) ∧ W.cell? ⟨M, 3, none⟩ = some (.int .i64 i.y1) ∧ W.cell? ⟨Nn, 0, none⟩ = some (.int .i64 u.x0) ∧ W.cell? ⟨Nn, 1, none⟩ = some (.int .i64 u.y0) ∧ W.cell? ⟨Nn, 2, none⟩ = some (.int .i64 u.x1) ∧ W.cell? ⟨Nn, 3, none⟩ = some (.int .i64 u.y1))
        (first
          | (with_reducible exact sk)
          | go_keep)
        (first
          | (go_at_call 22; (with_reducible refine ((W1 _).out).mono ?_); rintro e wq ⟨rfl, hbq⟩; replace HL := Lib.hid (HL.out.step hbq); (try clear sk); have sk := HL.out.cells; simp only [rectC, List.nil_append, List.cons_append, Cells] at sk; clear hbq)
          | (go_at_call 15; (with_reducible refine ((N1 _).out).mono ?_); rintro e wq ⟨rfl, hbq⟩; replace HL := Lib.hid (HL.out.step hbq); (try clear sk); have sk := HL.out.cells; simp only [rectC, List.nil_append, List.cons_append, Cells] at sk; clear hbq)
          | (go_at_call 15; (with_reducible refine ((N2 _).out).mono ?_); rintro e wq ⟨rfl, hbq⟩; replace HL := Lib.hid (HL.out.step hbq); (try clear sk); have sk := HL.out.cells; simp only [rectC, List.nil_append, List.cons_append, Cells] at sk; clear hbq)
          | fail)
      all_goals
        go_wp2_with fail
        go_meet
        exact ⟨rfl, HL.out⟩
    case rest =>
    clear HL
    obtain ⟨rfl, HL⟩ := hcut
    clear HE1 HE2
    go_wp2_with fail
    have d3 : (wac = false ∧ wuc = false) ∨ (wac = true ∧ wbc = false ∧ wuc = false) ∨ (wac = true ∧ wbc = true ∧ wuc = true) := by rw [HE3.out]; cases wac <;> cases wbc <;> simp
    have d4 : (wca = false ∧ wci = false) ∨ (wca = true ∧ wcb = false ∧ wci = false) ∨ (wca = true ∧ wcb = true ∧ wci = true) := by rw [HE4.out]; cases wca <;> cases wcb <;> simp
    clear HE3 HE4
    rcases d3 with ⟨rfl, rfl⟩ | ⟨rfl, rfl, rfl⟩ | ⟨rfl, rfl, rfl⟩ <;> rcases d4 with ⟨rfl, rfl⟩ | ⟨rfl, rfl, rfl⟩ | ⟨rfl, rfl, rfl⟩
    · replace HL := Lib.hid HL.out.drew
      have sk := HL.out.cells; simp only [rectC, List.nil_append, List.cons_append, Cells] at sk
      refine wp_region_held_drew (S := (fun W => W.cell? ⟨w.heap.size, 0, none⟩ = some (.int .i64 a.x0) ∧ W.cell? ⟨w.heap.size, 1, none⟩ = some (.int .i64 a.y0) ∧ W.cell? ⟨w.heap.size, 2, none⟩ = some (.int .i64 a.x1) ∧ W.cell? ⟨w.heap.size, 3, none⟩ = some (.int .i64 a.y1) ∧ W.cell? ⟨w.heap.size + 1, 0, none⟩ = some (.int .i64 b.x0) ∧ W.cell? ⟨w.heap.size + 1, 1, none⟩ = some (.int .i64 b.y0) ∧ W.cell? ⟨w.heap.size + 1, 2, none⟩ = some (.int .i64 b.x1) ∧ W.cell? ⟨w.heap.size + 1, 3, none⟩ = some (.int .i64 b.y1) ∧ W.cell? ⟨w.heap.size + 1 + 1, 0, none⟩ = some (.int .i64 c.x0) ∧ W.cell? ⟨w.heap.size + 1 + 1, 1, none⟩ = some (.int .i64 c.y0) ∧ W.cell? ⟨w.heap.size + 1 + 1, 2, none⟩ = some (.int .i64 c.x1) ∧ W.cell? ⟨w.heap.size + 1 + 1, 3, none⟩ = some (.int .i64 c.y1) ∧ W.cell? ⟨M, 0, none⟩ = some (.int .i64 i.x0) ∧ W.cell? ⟨M, 1, none⟩ = some (.int .i64 i.y0) ∧ W.cell? ⟨M, 2, none⟩ = some (.int .i64 i.x1) ∧ W.cell? ⟨M, 3, none⟩ = some (.int .i64 i.y1) ∧ W.cell? ⟨Nn, 0, none⟩ = some (.int .i64 u.x0) ∧ W.cell? ⟨Nn, 1, none⟩ = some (.int .i64 u.y0) ∧ W.cell? ⟨Nn, 2, none⟩ = some (.int .i64 u.x1) ∧ W.cell? ⟨Nn, 3, none⟩ = some (.int .i64 u.y1))) (by kernel_rfl) sk (fun hHeld => ?_)
      refine wpAnyH_take (i := 0) (oi := ({ dst := some 67, op := Op.load 23 (Operand.tmp 8), type := 23, pos := "law.go:88", after := #[], guard := none } : Oper)) (v := ?_) rfl (by kernel_rfl) (by kernel_rfl) (by kernel_rfl) (fun _ _ _ h => h) (Or.inl ⟨by kernel_rfl, ?_⟩) hHeld ?_
      rotate_left 1
      · (intro W hSw; (try dsimp only at hSw); go_simp; try with_reducible rfl)
      try simp only [Act.put, List.setIfInBounds_toArray, List.set_cons_succ]
      refine wpAnyH_take (i := 1) (oi := ({ dst := some 68, op := Op.load 23 (Operand.tmp 5), type := 23, pos := "law.go:88", after := #[], guard := none } : Oper)) (v := ?_) rfl (by kernel_rfl) (by kernel_rfl) (by kernel_rfl) (fun _ _ _ h => h) (Or.inl ⟨by kernel_rfl, ?_⟩) hHeld ?_
      rotate_left 1
      · (intro W hSw; (try dsimp only at hSw); go_simp; try with_reducible rfl)
      try simp only [Act.put, List.setIfInBounds_toArray, List.set_cons_succ]
      refine wpAnyH_take (i := 3) (oi := ({ dst := some 70, op := Op.load 23 (Operand.tmp 3), type := 23, pos := "law.go:88", after := #[], guard := none } : Oper)) (v := ?_) rfl (by kernel_rfl) (by kernel_rfl) (by kernel_rfl) (fun _ _ _ h => h) (Or.inl ⟨by kernel_rfl, ?_⟩) hHeld ?_
      rotate_left 1
      · (intro W hSw; (try dsimp only at hSw); go_simp; try with_reducible rfl)
      try simp only [Act.put, List.setIfInBounds_toArray, List.set_cons_succ]
      refine wpAnyH_take (i := 4) (oi := ({ dst := some 71, op := Op.load 23 (Operand.tmp 5), type := 23, pos := "law.go:88", after := #[], guard := none } : Oper)) (v := ?_) rfl (by kernel_rfl) (by kernel_rfl) (by kernel_rfl) (fun _ _ _ h => h) (Or.inl ⟨by kernel_rfl, ?_⟩) hHeld ?_
      rotate_left 1
      · (intro W hSw; (try dsimp only at hSw); go_simp; try with_reducible rfl)
      try simp only [Act.put, List.setIfInBounds_toArray, List.set_cons_succ]
      refine wpAnyH_ready (rs := [2]) (by kernel_rfl) (by simp) (AllReadyH.cons (o := ({ dst := some 69, op := Op.call { callee := Callee.value (Operand.func 22), args := #[Operand.tmp 67, Operand.tmp 68], argTypes := #[23, 23] }, type := 4, pos := "law.go:88", after := #[{ on := 0, ground := Ground.data }, { on := 1, ground := Ground.data }], guard := none } : Oper)) rfl (fun K hK => ?_) AllReadyH.nil)
      go_simp
      (refine ((W2 _).out).mono ?_; rintro e wq ⟨rfl, hbq⟩; replace HL := Lib.hid (HL.out.step hbq); clear sk; have sk := HL.out.cells; simp only [rectC, List.nil_append, List.cons_append, Cells] at sk; clear hbq)
      refine hK.out _ _ sk (fun hHeld2 => ?_)
      clear hK K hHeld
      have hHeld := hHeld2
      clear hHeld2
      try simp only [Act.put, List.setIfInBounds_toArray, List.set_cons_succ]
      refine wpAnyH_ready (rs := [5]) (by kernel_rfl) (by simp) (AllReadyH.cons (o := ({ dst := some 72, op := Op.call { callee := Callee.value (Operand.func 22), args := #[Operand.tmp 70, Operand.tmp 71], argTypes := #[23, 23] }, type := 4, pos := "law.go:88", after := #[{ on := 3, ground := Ground.data }, { on := 4, ground := Ground.data }, { on := 2, ground := Ground.chain }], guard := none } : Oper)) rfl (fun K hK => ?_) AllReadyH.nil)
      go_simp
      (refine ((W3 _).out).mono ?_; rintro e wq ⟨rfl, hbq⟩; replace HL := Lib.hid (HL.out.step hbq); clear sk; have sk := HL.out.cells; simp only [rectC, List.nil_append, List.cons_append, Cells] at sk; clear hbq)
      refine hK.out _ _ sk (fun hHeld2 => ?_)
      clear hK K hHeld
      have hHeld := hHeld2
      clear hHeld2
      try simp only [Act.put, List.setIfInBounds_toArray, List.set_cons_succ]
      refine wpAnyH_take (i := 6) (oi := ({ dst := some 73, op := Op.move (Operand.tmp 72), type := 4, pos := "law.go:88", after := #[{ on := 5, ground := Ground.data }, { on := 5, ground := Ground.chain }], guard := none } : Oper)) (v := ?_) rfl (by kernel_rfl) (by kernel_rfl) (by kernel_rfl) (fun _ _ _ h => h) (Or.inl ⟨by kernel_rfl, ?_⟩) hHeld ?_
      rotate_left 1
      · (intro W hSw; (try dsimp only at hSw); go_simp; try with_reducible rfl)
      try simp only [Act.put, List.setIfInBounds_toArray, List.set_cons_succ]
      refine wpAnyH_take (i := 7) (oi := ({ dst := some 74, op := Op.load 23 (Operand.tmp 4), type := 23, pos := "law.go:88", after := #[{ on := 6, ground := Ground.guard }], guard := some (6, true) } : Oper)) (v := _) rfl (by kernel_rfl) (by kernel_rfl) (by kernel_rfl) (fun _ _ _ h => h) (Or.inr ⟨by kernel_rfl, rfl⟩) hHeld ?_
      try simp only [Act.put, List.setIfInBounds_toArray, List.set_cons_succ]
      refine wpAnyH_take (i := 8) (oi := ({ dst := some 75, op := Op.load 23 (Operand.tmp 5), type := 23, pos := "law.go:88", after := #[{ on := 6, ground := Ground.guard }], guard := some (6, true) } : Oper)) (v := _) rfl (by kernel_rfl) (by kernel_rfl) (by kernel_rfl) (fun _ _ _ h => h) (Or.inr ⟨by kernel_rfl, rfl⟩) hHeld ?_
      try simp only [Act.put, List.setIfInBounds_toArray, List.set_cons_succ]
      refine wpAnyH_ready (rs := [9]) (by kernel_rfl) (by simp) (AllReadyH.cons (o := ({ dst := some 76, op := Op.call { callee := Callee.value (Operand.func 22), args := #[Operand.tmp 74, Operand.tmp 75], argTypes := #[23, 23] }, type := 4, pos := "law.go:88", after := #[{ on := 7, ground := Ground.data }, { on := 8, ground := Ground.data }, { on := 6, ground := Ground.chain }, { on := 6, ground := Ground.guard }], guard := some (6, true) } : Oper)) rfl (fun K hK => ?_) AllReadyH.nil)
      go_simp
      refine hK.out _ _ sk (fun hHeld2 => ?_)
      clear hK K hHeld
      have hHeld := hHeld2
      clear hHeld2
      try simp only [Act.put, List.setIfInBounds_toArray, List.set_cons_succ]
      refine wpAnyH_take (i := 10) (oi := ({ dst := some 77, op := Op.pick (Operand.tmp 73) (Operand.tmp 76) (Operand.const (Value.bool false)), type := 4, pos := "law.go:88", after := #[{ on := 6, ground := Ground.data }, { on := 9, ground := Ground.data }], guard := none } : Oper)) (v := ?_) rfl (by kernel_rfl) (by kernel_rfl) (by kernel_rfl) (fun _ _ _ h => h) (Or.inl ⟨by kernel_rfl, ?_⟩) hHeld ?_
      rotate_left 1
      · (intro W hSw; (try dsimp only at hSw); go_simp; try with_reducible rfl)
      try simp only [Act.put, List.setIfInBounds_toArray, List.set_cons_succ]
      refine wpAnyH_take (i := 11) (oi := ({ dst := some 78, op := Op.binOp BinOp.eql 4 (Operand.tmp 69) (Operand.tmp 77) 4, type := 4, pos := "law.go:88", after := #[{ on := 2, ground := Ground.data }, { on := 10, ground := Ground.data }], guard := none } : Oper)) (v := ?_) rfl (by kernel_rfl) (by kernel_rfl) (by kernel_rfl) (fun _ _ _ h => h) (Or.inl ⟨by kernel_rfl, ?_⟩) hHeld ?_
      rotate_left 1
      · (intro W hSw; (try dsimp only at hSw); go_simp; try with_reducible rfl)
      try simp only [Act.put, List.setIfInBounds_toArray, List.set_cons_succ]
      refine wpAnyH_take (i := 12) (oi := ({ dst := some 79, op := Op.move (Operand.tmp 78), type := 4, pos := "law.go:88", after := #[{ on := 11, ground := Ground.data }, { on := 9, ground := Ground.chain }], guard := none } : Oper)) (v := ?_) rfl (by kernel_rfl) (by kernel_rfl) (by kernel_rfl) (fun _ _ _ h => h) (Or.inl ⟨by kernel_rfl, ?_⟩) hHeld ?_
      rotate_left 1
      · (intro W hSw; (try dsimp only at hSw); go_simp; try with_reducible rfl)
      try simp only [Act.put, List.setIfInBounds_toArray, List.set_cons_succ]
      refine wpAnyH_take (i := 13) (oi := ({ dst := some 80, op := Op.load 23 (Operand.tmp 5), type := 23, pos := "law.go:88", after := #[{ on := 12, ground := Ground.guard }], guard := some (12, true) } : Oper)) (v := ?_) rfl (by kernel_rfl) (by kernel_rfl) (by kernel_rfl) (fun _ _ _ h => h) (Or.inl ⟨by kernel_rfl, ?_⟩) hHeld ?_
      rotate_left 1
      · (intro W hSw; (try dsimp only at hSw); go_simp; try with_reducible rfl)
      try simp only [Act.put, List.setIfInBounds_toArray, List.set_cons_succ]
      refine wpAnyH_take (i := 14) (oi := ({ dst := some 81, op := Op.load 23 (Operand.tmp 7), type := 23, pos := "law.go:88", after := #[{ on := 12, ground := Ground.guard }], guard := some (12, true) } : Oper)) (v := ?_) rfl (by kernel_rfl) (by kernel_rfl) (by kernel_rfl) (fun _ _ _ h => h) (Or.inl ⟨by kernel_rfl, ?_⟩) hHeld ?_
      rotate_left 1
      · (intro W hSw; (try dsimp only at hSw); go_simp; try with_reducible rfl)
      try simp only [Act.put, List.setIfInBounds_toArray, List.set_cons_succ]
      refine wpAnyH_take (i := 16) (oi := ({ dst := some 83, op := Op.load 23 (Operand.tmp 5), type := 23, pos := "law.go:88", after := #[{ on := 12, ground := Ground.guard }], guard := some (12, true) } : Oper)) (v := ?_) rfl (by kernel_rfl) (by kernel_rfl) (by kernel_rfl) (fun _ _ _ h => h) (Or.inl ⟨by kernel_rfl, ?_⟩) hHeld ?_
      rotate_left 1
      · (intro W hSw; (try dsimp only at hSw); go_simp; try with_reducible rfl)
      try simp only [Act.put, List.setIfInBounds_toArray, List.set_cons_succ]
      refine wpAnyH_take (i := 17) (oi := ({ dst := some 84, op := Op.load 23 (Operand.tmp 3), type := 23, pos := "law.go:88", after := #[{ on := 12, ground := Ground.guard }], guard := some (12, true) } : Oper)) (v := ?_) rfl (by kernel_rfl) (by kernel_rfl) (by kernel_rfl) (fun _ _ _ h => h) (Or.inl ⟨by kernel_rfl, ?_⟩) hHeld ?_
      rotate_left 1
      · (intro W hSw; (try dsimp only at hSw); go_simp; try with_reducible rfl)
      try simp only [Act.put, List.setIfInBounds_toArray, List.set_cons_succ]
      refine wpAnyH_ready (rs := [15]) (by kernel_rfl) (by simp) (AllReadyH.cons (o := ({ dst := some 82, op := Op.call { callee := Callee.value (Operand.func 22), args := #[Operand.tmp 80, Operand.tmp 81], argTypes := #[23, 23] }, type := 4, pos := "law.go:88", after := #[{ on := 13, ground := Ground.data }, { on := 14, ground := Ground.data }, { on := 12, ground := Ground.chain }, { on := 12, ground := Ground.guard }], guard := some (12, true) } : Oper)) rfl (fun K hK => ?_) AllReadyH.nil)
      go_simp
      (refine ((W5 _).out).mono ?_; rintro e wq ⟨rfl, hbq⟩; replace HL := Lib.hid (HL.out.step hbq); clear sk; have sk := HL.out.cells; simp only [rectC, List.nil_append, List.cons_append, Cells] at sk; clear hbq)
      refine hK.out _ _ sk (fun hHeld2 => ?_)
      clear hK K hHeld
      have hHeld := hHeld2
      clear hHeld2
      try simp only [Act.put, List.setIfInBounds_toArray, List.set_cons_succ]
      refine wpAnyH_ready (rs := [18]) (by kernel_rfl) (by simp) (AllReadyH.cons (o := ({ dst := some 85, op := Op.call { callee := Callee.value (Operand.func 22), args := #[Operand.tmp 83, Operand.tmp 84], argTypes := #[23, 23] }, type := 4, pos := "law.go:88", after := #[{ on := 16, ground := Ground.data }, { on := 17, ground := Ground.data }, { on := 15, ground := Ground.chain }, { on := 12, ground := Ground.guard }], guard := some (12, true) } : Oper)) rfl (fun K hK => ?_) AllReadyH.nil)
      go_simp
      (refine ((W6 _).out).mono ?_; rintro e wq ⟨rfl, hbq⟩; replace HL := Lib.hid (HL.out.step hbq); clear sk; have sk := HL.out.cells; simp only [rectC, List.nil_append, List.cons_append, Cells] at sk; clear hbq)
      refine hK.out _ _ sk (fun hHeld2 => ?_)
      clear hK K hHeld
      have hHeld := hHeld2
      clear hHeld2
      try simp only [Act.put, List.setIfInBounds_toArray, List.set_cons_succ]
      refine wpAnyH_take (i := 19) (oi := ({ dst := some 86, op := Op.move (Operand.tmp 85), type := 4, pos := "law.go:88", after := #[{ on := 18, ground := Ground.data }, { on := 18, ground := Ground.chain }, { on := 12, ground := Ground.guard }], guard := some (12, true) } : Oper)) (v := ?_) rfl (by kernel_rfl) (by kernel_rfl) (by kernel_rfl) (fun _ _ _ h => h) (Or.inl ⟨by kernel_rfl, ?_⟩) hHeld ?_
      rotate_left 1
      · (intro W hSw; (try dsimp only at hSw); go_simp; try with_reducible rfl)
      try simp only [Act.put, List.setIfInBounds_toArray, List.set_cons_succ]
      refine wpAnyH_take (i := 20) (oi := ({ dst := some 87, op := Op.load 23 (Operand.tmp 5), type := 23, pos := "law.go:88", after := #[{ on := 19, ground := Ground.guard }], guard := some (19, true) } : Oper)) (v := _) rfl (by kernel_rfl) (by kernel_rfl) (by kernel_rfl) (fun _ _ _ h => h) (Or.inr ⟨by kernel_rfl, rfl⟩) hHeld ?_
      try simp only [Act.put, List.setIfInBounds_toArray, List.set_cons_succ]
      refine wpAnyH_take (i := 21) (oi := ({ dst := some 88, op := Op.load 23 (Operand.tmp 4), type := 23, pos := "law.go:88", after := #[{ on := 19, ground := Ground.guard }], guard := some (19, true) } : Oper)) (v := _) rfl (by kernel_rfl) (by kernel_rfl) (by kernel_rfl) (fun _ _ _ h => h) (Or.inr ⟨by kernel_rfl, rfl⟩) hHeld ?_
      try simp only [Act.put, List.setIfInBounds_toArray, List.set_cons_succ]
      refine wpAnyH_ready (rs := [22]) (by kernel_rfl) (by simp) (AllReadyH.cons (o := ({ dst := some 89, op := Op.call { callee := Callee.value (Operand.func 22), args := #[Operand.tmp 87, Operand.tmp 88], argTypes := #[23, 23] }, type := 4, pos := "law.go:88", after := #[{ on := 20, ground := Ground.data }, { on := 21, ground := Ground.data }, { on := 19, ground := Ground.chain }, { on := 19, ground := Ground.guard }], guard := some (19, true) } : Oper)) rfl (fun K hK => ?_) AllReadyH.nil)
      go_simp
      refine hK.out _ _ sk (fun hHeld2 => ?_)
      clear hK K hHeld
      have hHeld := hHeld2
      clear hHeld2
      try simp only [Act.put, List.setIfInBounds_toArray, List.set_cons_succ]
      refine wpAnyH_take (i := 23) (oi := ({ dst := some 90, op := Op.pick (Operand.tmp 86) (Operand.tmp 89) (Operand.const (Value.bool false)), type := 4, pos := "law.go:88", after := #[{ on := 19, ground := Ground.data }, { on := 22, ground := Ground.data }, { on := 12, ground := Ground.guard }], guard := some (12, true) } : Oper)) (v := ?_) rfl (by kernel_rfl) (by kernel_rfl) (by kernel_rfl) (fun _ _ _ h => h) (Or.inl ⟨by kernel_rfl, ?_⟩) hHeld ?_
      rotate_left 1
      · (intro W hSw; (try dsimp only at hSw); go_simp; try with_reducible rfl)
      try simp only [Act.put, List.setIfInBounds_toArray, List.set_cons_succ]
      refine wpAnyH_take (i := 24) (oi := ({ dst := some 91, op := Op.binOp BinOp.eql 4 (Operand.tmp 82) (Operand.tmp 90) 4, type := 4, pos := "law.go:88", after := #[{ on := 15, ground := Ground.data }, { on := 23, ground := Ground.data }, { on := 12, ground := Ground.guard }], guard := some (12, true) } : Oper)) (v := ?_) rfl (by kernel_rfl) (by kernel_rfl) (by kernel_rfl) (fun _ _ _ h => h) (Or.inl ⟨by kernel_rfl, ?_⟩) hHeld ?_
      rotate_left 1
      · (intro W hSw; (try dsimp only at hSw); go_simp; try with_reducible rfl)
      try simp only [Act.put, List.setIfInBounds_toArray, List.set_cons_succ]
      refine wpAnyH_take (i := 25) (oi := ({ dst := some 92, op := Op.pick (Operand.tmp 79) (Operand.tmp 91) (Operand.const (Value.bool false)), type := 4, pos := "law.go:88", after := #[{ on := 12, ground := Ground.data }, { on := 24, ground := Ground.data }], guard := none } : Oper)) (v := ?_) rfl (by kernel_rfl) (by kernel_rfl) (by kernel_rfl) (fun _ _ _ h => h) (Or.inl ⟨by kernel_rfl, ?_⟩) hHeld ?_
      rotate_left 1
      · (intro W hSw; (try dsimp only at hSw); go_simp; try with_reducible rfl)
      try simp only [Act.put, List.setIfInBounds_toArray, List.set_cons_succ]
      refine wpAnyH_take (i := 26) (oi := ({ dst := some 93, op := Op.move (Operand.tmp 92), type := 4, pos := "law.go:88", after := #[{ on := 25, ground := Ground.data }, { on := 22, ground := Ground.chain }], guard := none } : Oper)) (v := ?_) rfl (by kernel_rfl) (by kernel_rfl) (by kernel_rfl) (fun _ _ _ h => h) (Or.inl ⟨by kernel_rfl, ?_⟩) hHeld ?_
      rotate_left 1
      · (intro W hSw; (try dsimp only at hSw); go_simp; try with_reducible rfl)
      try simp only [Act.put, List.setIfInBounds_toArray, List.set_cons_succ]
      refine wpAnyH_ready (rs := [27]) (by kernel_rfl) (by simp) (AllReadyH.cons (o := ({ dst := some 94, op := Op.call { callee := Callee.value (Operand.func 21), args := #[], argTypes := #[] }, type := 4, pos := "law.go:88", after := #[{ on := 26, ground := Ground.chain }, { on := 26, ground := Ground.guard }], guard := some (26, true) } : Oper)) rfl (fun K hK => ?_) AllReadyH.nil)
      go_simp
      (refine (example_any _).mono ?_; rintro e wq ⟨rfl, hbq⟩; replace HL := Lib.hid (HL.out.step hbq); clear sk; have sk := HL.out.cells; simp only [rectC, List.nil_append, List.cons_append, Cells] at sk; clear hbq)
      refine hK.out _ _ sk (fun hHeld2 => ?_)
      clear hK K hHeld
      have hHeld := hHeld2
      clear hHeld2
      try simp only [Act.put, List.setIfInBounds_toArray, List.set_cons_succ]
      refine wpAnyH_take (i := 28) (oi := ({ dst := some 95, op := Op.pick (Operand.tmp 93) (Operand.tmp 94) (Operand.const (Value.bool false)), type := 4, pos := "law.go:88", after := #[{ on := 26, ground := Ground.data }, { on := 27, ground := Ground.data }], guard := none } : Oper)) (v := ?_) rfl (by kernel_rfl) (by kernel_rfl) (by kernel_rfl) (fun _ _ _ h => h) (Or.inl ⟨by kernel_rfl, ?_⟩) hHeld ?_
      rotate_left 1
      · (intro W hSw; (try dsimp only at hSw); go_simp; try with_reducible rfl)
      try simp only [Act.put, List.setIfInBounds_toArray, List.set_cons_succ]
      refine wpAnyH_take (i := 29) (oi := ({ dst := some 6, op := Op.assign (Operand.tmp 95), type := 4, pos := "law.go:88", after := _, guard := none } : Oper)) (v := ?_) rfl (by kernel_rfl) (by kernel_rfl) (by kernel_rfl) (fun _ _ _ h => h) (Or.inl ⟨by kernel_rfl, ?_⟩) hHeld ?_
      rotate_left 1
      · (intro W hSw; (try dsimp only at hSw); go_simp; try with_reducible rfl)
      try simp only [Act.put, List.setIfInBounds_toArray, List.set_cons_succ]
      refine wpAnyH_done (by kernel_rfl) ?_ _
      go_wp2_with fail
      go_ret
      refine ⟨?_, HL.out.below⟩
      kernel_rfl
    · replace HL := Lib.hid HL.out.drew
      have sk := HL.out.cells; simp only [rectC, List.nil_append, List.cons_append, Cells] at sk
      refine wp_region_held_drew (S := (fun W => W.cell? ⟨w.heap.size, 0, none⟩ = some (.int .i64 a.x0) ∧ W.cell? ⟨w.heap.size, 1, none⟩ = some (.int .i64 a.y0) ∧ W.cell? ⟨w.heap.size, 2, none⟩ = some (.int .i64 a.x1) ∧ W.cell? ⟨w.heap.size, 3, none⟩ = some (.int .i64 a.y1) ∧ W.cell? ⟨w.heap.size + 1, 0, none⟩ = some (.int .i64 b.x0) ∧ W.cell? ⟨w.heap.size + 1, 1, none⟩ = some (.int .i64 b.y0) ∧ W.cell? ⟨w.heap.size + 1, 2, none⟩ = some (.int .i64 b.x1) ∧ W.cell? ⟨w.heap.size + 1, 3, none⟩ = some (.int .i64 b.y1) ∧ W.cell? ⟨w.heap.size + 1 + 1, 0, none⟩ = some (.int .i64 c.x0) ∧ W.cell? ⟨w.heap.size + 1 + 1, 1, none⟩ = some (.int .i64 c.y0) ∧ W.cell? ⟨w.heap.size + 1 + 1, 2, none⟩ = some (.int .i64 c.x1) ∧ W.cell? ⟨w.heap.size + 1 + 1, 3, none⟩ = some (.int .i64 c.y1) ∧ W.cell? ⟨M, 0, none⟩ = some (.int .i64 i.x0) ∧ W.cell? ⟨M, 1, none⟩ = some (.int .i64 i.y0) ∧ W.cell? ⟨M, 2, none⟩ = some (.int .i64 i.x1) ∧ W.cell? ⟨M, 3, none⟩ = some (.int .i64 i.y1) ∧ W.cell? ⟨Nn, 0, none⟩ = some (.int .i64 u.x0) ∧ W.cell? ⟨Nn, 1, none⟩ = some (.int .i64 u.y0) ∧ W.cell? ⟨Nn, 2, none⟩ = some (.int .i64 u.x1) ∧ W.cell? ⟨Nn, 3, none⟩ = some (.int .i64 u.y1))) (by kernel_rfl) sk (fun hHeld => ?_)
      refine wpAnyH_take (i := 0) (oi := ({ dst := some 67, op := Op.load 23 (Operand.tmp 8), type := 23, pos := "law.go:88", after := #[], guard := none } : Oper)) (v := ?_) rfl (by kernel_rfl) (by kernel_rfl) (by kernel_rfl) (fun _ _ _ h => h) (Or.inl ⟨by kernel_rfl, ?_⟩) hHeld ?_
      rotate_left 1
      · (intro W hSw; (try dsimp only at hSw); go_simp; try with_reducible rfl)
      try simp only [Act.put, List.setIfInBounds_toArray, List.set_cons_succ]
      refine wpAnyH_take (i := 1) (oi := ({ dst := some 68, op := Op.load 23 (Operand.tmp 5), type := 23, pos := "law.go:88", after := #[], guard := none } : Oper)) (v := ?_) rfl (by kernel_rfl) (by kernel_rfl) (by kernel_rfl) (fun _ _ _ h => h) (Or.inl ⟨by kernel_rfl, ?_⟩) hHeld ?_
      rotate_left 1
      · (intro W hSw; (try dsimp only at hSw); go_simp; try with_reducible rfl)
      try simp only [Act.put, List.setIfInBounds_toArray, List.set_cons_succ]
      refine wpAnyH_take (i := 3) (oi := ({ dst := some 70, op := Op.load 23 (Operand.tmp 3), type := 23, pos := "law.go:88", after := #[], guard := none } : Oper)) (v := ?_) rfl (by kernel_rfl) (by kernel_rfl) (by kernel_rfl) (fun _ _ _ h => h) (Or.inl ⟨by kernel_rfl, ?_⟩) hHeld ?_
      rotate_left 1
      · (intro W hSw; (try dsimp only at hSw); go_simp; try with_reducible rfl)
      try simp only [Act.put, List.setIfInBounds_toArray, List.set_cons_succ]
      refine wpAnyH_take (i := 4) (oi := ({ dst := some 71, op := Op.load 23 (Operand.tmp 5), type := 23, pos := "law.go:88", after := #[], guard := none } : Oper)) (v := ?_) rfl (by kernel_rfl) (by kernel_rfl) (by kernel_rfl) (fun _ _ _ h => h) (Or.inl ⟨by kernel_rfl, ?_⟩) hHeld ?_
      rotate_left 1
      · (intro W hSw; (try dsimp only at hSw); go_simp; try with_reducible rfl)
      try simp only [Act.put, List.setIfInBounds_toArray, List.set_cons_succ]
      refine wpAnyH_ready (rs := [2]) (by kernel_rfl) (by simp) (AllReadyH.cons (o := ({ dst := some 69, op := Op.call { callee := Callee.value (Operand.func 22), args := #[Operand.tmp 67, Operand.tmp 68], argTypes := #[23, 23] }, type := 4, pos := "law.go:88", after := #[{ on := 0, ground := Ground.data }, { on := 1, ground := Ground.data }], guard := none } : Oper)) rfl (fun K hK => ?_) AllReadyH.nil)
      go_simp
      (refine ((W2 _).out).mono ?_; rintro e wq ⟨rfl, hbq⟩; replace HL := Lib.hid (HL.out.step hbq); clear sk; have sk := HL.out.cells; simp only [rectC, List.nil_append, List.cons_append, Cells] at sk; clear hbq)
      refine hK.out _ _ sk (fun hHeld2 => ?_)
      clear hK K hHeld
      have hHeld := hHeld2
      clear hHeld2
      try simp only [Act.put, List.setIfInBounds_toArray, List.set_cons_succ]
      refine wpAnyH_ready (rs := [5]) (by kernel_rfl) (by simp) (AllReadyH.cons (o := ({ dst := some 72, op := Op.call { callee := Callee.value (Operand.func 22), args := #[Operand.tmp 70, Operand.tmp 71], argTypes := #[23, 23] }, type := 4, pos := "law.go:88", after := #[{ on := 3, ground := Ground.data }, { on := 4, ground := Ground.data }, { on := 2, ground := Ground.chain }], guard := none } : Oper)) rfl (fun K hK => ?_) AllReadyH.nil)
      go_simp
      (refine ((W3 _).out).mono ?_; rintro e wq ⟨rfl, hbq⟩; replace HL := Lib.hid (HL.out.step hbq); clear sk; have sk := HL.out.cells; simp only [rectC, List.nil_append, List.cons_append, Cells] at sk; clear hbq)
      refine hK.out _ _ sk (fun hHeld2 => ?_)
      clear hK K hHeld
      have hHeld := hHeld2
      clear hHeld2
      try simp only [Act.put, List.setIfInBounds_toArray, List.set_cons_succ]
      refine wpAnyH_take (i := 6) (oi := ({ dst := some 73, op := Op.move (Operand.tmp 72), type := 4, pos := "law.go:88", after := #[{ on := 5, ground := Ground.data }, { on := 5, ground := Ground.chain }], guard := none } : Oper)) (v := ?_) rfl (by kernel_rfl) (by kernel_rfl) (by kernel_rfl) (fun _ _ _ h => h) (Or.inl ⟨by kernel_rfl, ?_⟩) hHeld ?_
      rotate_left 1
      · (intro W hSw; (try dsimp only at hSw); go_simp; try with_reducible rfl)
      try simp only [Act.put, List.setIfInBounds_toArray, List.set_cons_succ]
      refine wpAnyH_take (i := 7) (oi := ({ dst := some 74, op := Op.load 23 (Operand.tmp 4), type := 23, pos := "law.go:88", after := #[{ on := 6, ground := Ground.guard }], guard := some (6, true) } : Oper)) (v := _) rfl (by kernel_rfl) (by kernel_rfl) (by kernel_rfl) (fun _ _ _ h => h) (Or.inr ⟨by kernel_rfl, rfl⟩) hHeld ?_
      try simp only [Act.put, List.setIfInBounds_toArray, List.set_cons_succ]
      refine wpAnyH_take (i := 8) (oi := ({ dst := some 75, op := Op.load 23 (Operand.tmp 5), type := 23, pos := "law.go:88", after := #[{ on := 6, ground := Ground.guard }], guard := some (6, true) } : Oper)) (v := _) rfl (by kernel_rfl) (by kernel_rfl) (by kernel_rfl) (fun _ _ _ h => h) (Or.inr ⟨by kernel_rfl, rfl⟩) hHeld ?_
      try simp only [Act.put, List.setIfInBounds_toArray, List.set_cons_succ]
      refine wpAnyH_ready (rs := [9]) (by kernel_rfl) (by simp) (AllReadyH.cons (o := ({ dst := some 76, op := Op.call { callee := Callee.value (Operand.func 22), args := #[Operand.tmp 74, Operand.tmp 75], argTypes := #[23, 23] }, type := 4, pos := "law.go:88", after := #[{ on := 7, ground := Ground.data }, { on := 8, ground := Ground.data }, { on := 6, ground := Ground.chain }, { on := 6, ground := Ground.guard }], guard := some (6, true) } : Oper)) rfl (fun K hK => ?_) AllReadyH.nil)
      go_simp
      refine hK.out _ _ sk (fun hHeld2 => ?_)
      clear hK K hHeld
      have hHeld := hHeld2
      clear hHeld2
      try simp only [Act.put, List.setIfInBounds_toArray, List.set_cons_succ]
      refine wpAnyH_take (i := 10) (oi := ({ dst := some 77, op := Op.pick (Operand.tmp 73) (Operand.tmp 76) (Operand.const (Value.bool false)), type := 4, pos := "law.go:88", after := #[{ on := 6, ground := Ground.data }, { on := 9, ground := Ground.data }], guard := none } : Oper)) (v := ?_) rfl (by kernel_rfl) (by kernel_rfl) (by kernel_rfl) (fun _ _ _ h => h) (Or.inl ⟨by kernel_rfl, ?_⟩) hHeld ?_
      rotate_left 1
      · (intro W hSw; (try dsimp only at hSw); go_simp; try with_reducible rfl)
      try simp only [Act.put, List.setIfInBounds_toArray, List.set_cons_succ]
      refine wpAnyH_take (i := 11) (oi := ({ dst := some 78, op := Op.binOp BinOp.eql 4 (Operand.tmp 69) (Operand.tmp 77) 4, type := 4, pos := "law.go:88", after := #[{ on := 2, ground := Ground.data }, { on := 10, ground := Ground.data }], guard := none } : Oper)) (v := ?_) rfl (by kernel_rfl) (by kernel_rfl) (by kernel_rfl) (fun _ _ _ h => h) (Or.inl ⟨by kernel_rfl, ?_⟩) hHeld ?_
      rotate_left 1
      · (intro W hSw; (try dsimp only at hSw); go_simp; try with_reducible rfl)
      try simp only [Act.put, List.setIfInBounds_toArray, List.set_cons_succ]
      refine wpAnyH_take (i := 12) (oi := ({ dst := some 79, op := Op.move (Operand.tmp 78), type := 4, pos := "law.go:88", after := #[{ on := 11, ground := Ground.data }, { on := 9, ground := Ground.chain }], guard := none } : Oper)) (v := ?_) rfl (by kernel_rfl) (by kernel_rfl) (by kernel_rfl) (fun _ _ _ h => h) (Or.inl ⟨by kernel_rfl, ?_⟩) hHeld ?_
      rotate_left 1
      · (intro W hSw; (try dsimp only at hSw); go_simp; try with_reducible rfl)
      try simp only [Act.put, List.setIfInBounds_toArray, List.set_cons_succ]
      refine wpAnyH_take (i := 13) (oi := ({ dst := some 80, op := Op.load 23 (Operand.tmp 5), type := 23, pos := "law.go:88", after := #[{ on := 12, ground := Ground.guard }], guard := some (12, true) } : Oper)) (v := ?_) rfl (by kernel_rfl) (by kernel_rfl) (by kernel_rfl) (fun _ _ _ h => h) (Or.inl ⟨by kernel_rfl, ?_⟩) hHeld ?_
      rotate_left 1
      · (intro W hSw; (try dsimp only at hSw); go_simp; try with_reducible rfl)
      try simp only [Act.put, List.setIfInBounds_toArray, List.set_cons_succ]
      refine wpAnyH_take (i := 14) (oi := ({ dst := some 81, op := Op.load 23 (Operand.tmp 7), type := 23, pos := "law.go:88", after := #[{ on := 12, ground := Ground.guard }], guard := some (12, true) } : Oper)) (v := ?_) rfl (by kernel_rfl) (by kernel_rfl) (by kernel_rfl) (fun _ _ _ h => h) (Or.inl ⟨by kernel_rfl, ?_⟩) hHeld ?_
      rotate_left 1
      · (intro W hSw; (try dsimp only at hSw); go_simp; try with_reducible rfl)
      try simp only [Act.put, List.setIfInBounds_toArray, List.set_cons_succ]
      refine wpAnyH_take (i := 16) (oi := ({ dst := some 83, op := Op.load 23 (Operand.tmp 5), type := 23, pos := "law.go:88", after := #[{ on := 12, ground := Ground.guard }], guard := some (12, true) } : Oper)) (v := ?_) rfl (by kernel_rfl) (by kernel_rfl) (by kernel_rfl) (fun _ _ _ h => h) (Or.inl ⟨by kernel_rfl, ?_⟩) hHeld ?_
      rotate_left 1
      · (intro W hSw; (try dsimp only at hSw); go_simp; try with_reducible rfl)
      try simp only [Act.put, List.setIfInBounds_toArray, List.set_cons_succ]
      refine wpAnyH_take (i := 17) (oi := ({ dst := some 84, op := Op.load 23 (Operand.tmp 3), type := 23, pos := "law.go:88", after := #[{ on := 12, ground := Ground.guard }], guard := some (12, true) } : Oper)) (v := ?_) rfl (by kernel_rfl) (by kernel_rfl) (by kernel_rfl) (fun _ _ _ h => h) (Or.inl ⟨by kernel_rfl, ?_⟩) hHeld ?_
      rotate_left 1
      · (intro W hSw; (try dsimp only at hSw); go_simp; try with_reducible rfl)
      try simp only [Act.put, List.setIfInBounds_toArray, List.set_cons_succ]
      refine wpAnyH_ready (rs := [15]) (by kernel_rfl) (by simp) (AllReadyH.cons (o := ({ dst := some 82, op := Op.call { callee := Callee.value (Operand.func 22), args := #[Operand.tmp 80, Operand.tmp 81], argTypes := #[23, 23] }, type := 4, pos := "law.go:88", after := #[{ on := 13, ground := Ground.data }, { on := 14, ground := Ground.data }, { on := 12, ground := Ground.chain }, { on := 12, ground := Ground.guard }], guard := some (12, true) } : Oper)) rfl (fun K hK => ?_) AllReadyH.nil)
      go_simp
      (refine ((W5 _).out).mono ?_; rintro e wq ⟨rfl, hbq⟩; replace HL := Lib.hid (HL.out.step hbq); clear sk; have sk := HL.out.cells; simp only [rectC, List.nil_append, List.cons_append, Cells] at sk; clear hbq)
      refine hK.out _ _ sk (fun hHeld2 => ?_)
      clear hK K hHeld
      have hHeld := hHeld2
      clear hHeld2
      try simp only [Act.put, List.setIfInBounds_toArray, List.set_cons_succ]
      refine wpAnyH_ready (rs := [18]) (by kernel_rfl) (by simp) (AllReadyH.cons (o := ({ dst := some 85, op := Op.call { callee := Callee.value (Operand.func 22), args := #[Operand.tmp 83, Operand.tmp 84], argTypes := #[23, 23] }, type := 4, pos := "law.go:88", after := #[{ on := 16, ground := Ground.data }, { on := 17, ground := Ground.data }, { on := 15, ground := Ground.chain }, { on := 12, ground := Ground.guard }], guard := some (12, true) } : Oper)) rfl (fun K hK => ?_) AllReadyH.nil)
      go_simp
      (refine ((W6 _).out).mono ?_; rintro e wq ⟨rfl, hbq⟩; replace HL := Lib.hid (HL.out.step hbq); clear sk; have sk := HL.out.cells; simp only [rectC, List.nil_append, List.cons_append, Cells] at sk; clear hbq)
      refine hK.out _ _ sk (fun hHeld2 => ?_)
      clear hK K hHeld
      have hHeld := hHeld2
      clear hHeld2
      try simp only [Act.put, List.setIfInBounds_toArray, List.set_cons_succ]
      refine wpAnyH_take (i := 19) (oi := ({ dst := some 86, op := Op.move (Operand.tmp 85), type := 4, pos := "law.go:88", after := #[{ on := 18, ground := Ground.data }, { on := 18, ground := Ground.chain }, { on := 12, ground := Ground.guard }], guard := some (12, true) } : Oper)) (v := ?_) rfl (by kernel_rfl) (by kernel_rfl) (by kernel_rfl) (fun _ _ _ h => h) (Or.inl ⟨by kernel_rfl, ?_⟩) hHeld ?_
      rotate_left 1
      · (intro W hSw; (try dsimp only at hSw); go_simp; try with_reducible rfl)
      try simp only [Act.put, List.setIfInBounds_toArray, List.set_cons_succ]
      refine wpAnyH_take (i := 20) (oi := ({ dst := some 87, op := Op.load 23 (Operand.tmp 5), type := 23, pos := "law.go:88", after := #[{ on := 19, ground := Ground.guard }], guard := some (19, true) } : Oper)) (v := ?_) rfl (by kernel_rfl) (by kernel_rfl) (by kernel_rfl) (fun _ _ _ h => h) (Or.inl ⟨by kernel_rfl, ?_⟩) hHeld ?_
      rotate_left 1
      · (intro W hSw; (try dsimp only at hSw); go_simp; try with_reducible rfl)
      try simp only [Act.put, List.setIfInBounds_toArray, List.set_cons_succ]
      refine wpAnyH_take (i := 21) (oi := ({ dst := some 88, op := Op.load 23 (Operand.tmp 4), type := 23, pos := "law.go:88", after := #[{ on := 19, ground := Ground.guard }], guard := some (19, true) } : Oper)) (v := ?_) rfl (by kernel_rfl) (by kernel_rfl) (by kernel_rfl) (fun _ _ _ h => h) (Or.inl ⟨by kernel_rfl, ?_⟩) hHeld ?_
      rotate_left 1
      · (intro W hSw; (try dsimp only at hSw); go_simp; try with_reducible rfl)
      try simp only [Act.put, List.setIfInBounds_toArray, List.set_cons_succ]
      refine wpAnyH_ready (rs := [22]) (by kernel_rfl) (by simp) (AllReadyH.cons (o := ({ dst := some 89, op := Op.call { callee := Callee.value (Operand.func 22), args := #[Operand.tmp 87, Operand.tmp 88], argTypes := #[23, 23] }, type := 4, pos := "law.go:88", after := #[{ on := 20, ground := Ground.data }, { on := 21, ground := Ground.data }, { on := 19, ground := Ground.chain }, { on := 19, ground := Ground.guard }], guard := some (19, true) } : Oper)) rfl (fun K hK => ?_) AllReadyH.nil)
      go_simp
      (refine ((W7 _).out).mono ?_; rintro e wq ⟨rfl, hbq⟩; replace HL := Lib.hid (HL.out.step hbq); clear sk; have sk := HL.out.cells; simp only [rectC, List.nil_append, List.cons_append, Cells] at sk; clear hbq)
      refine hK.out _ _ sk (fun hHeld2 => ?_)
      clear hK K hHeld
      have hHeld := hHeld2
      clear hHeld2
      try simp only [Act.put, List.setIfInBounds_toArray, List.set_cons_succ]
      refine wpAnyH_take (i := 23) (oi := ({ dst := some 90, op := Op.pick (Operand.tmp 86) (Operand.tmp 89) (Operand.const (Value.bool false)), type := 4, pos := "law.go:88", after := #[{ on := 19, ground := Ground.data }, { on := 22, ground := Ground.data }, { on := 12, ground := Ground.guard }], guard := some (12, true) } : Oper)) (v := ?_) rfl (by kernel_rfl) (by kernel_rfl) (by kernel_rfl) (fun _ _ _ h => h) (Or.inl ⟨by kernel_rfl, ?_⟩) hHeld ?_
      rotate_left 1
      · (intro W hSw; (try dsimp only at hSw); go_simp; try with_reducible rfl)
      try simp only [Act.put, List.setIfInBounds_toArray, List.set_cons_succ]
      refine wpAnyH_take (i := 24) (oi := ({ dst := some 91, op := Op.binOp BinOp.eql 4 (Operand.tmp 82) (Operand.tmp 90) 4, type := 4, pos := "law.go:88", after := #[{ on := 15, ground := Ground.data }, { on := 23, ground := Ground.data }, { on := 12, ground := Ground.guard }], guard := some (12, true) } : Oper)) (v := ?_) rfl (by kernel_rfl) (by kernel_rfl) (by kernel_rfl) (fun _ _ _ h => h) (Or.inl ⟨by kernel_rfl, ?_⟩) hHeld ?_
      rotate_left 1
      · (intro W hSw; (try dsimp only at hSw); go_simp; try with_reducible rfl)
      try simp only [Act.put, List.setIfInBounds_toArray, List.set_cons_succ]
      refine wpAnyH_take (i := 25) (oi := ({ dst := some 92, op := Op.pick (Operand.tmp 79) (Operand.tmp 91) (Operand.const (Value.bool false)), type := 4, pos := "law.go:88", after := #[{ on := 12, ground := Ground.data }, { on := 24, ground := Ground.data }], guard := none } : Oper)) (v := ?_) rfl (by kernel_rfl) (by kernel_rfl) (by kernel_rfl) (fun _ _ _ h => h) (Or.inl ⟨by kernel_rfl, ?_⟩) hHeld ?_
      rotate_left 1
      · (intro W hSw; (try dsimp only at hSw); go_simp; try with_reducible rfl)
      try simp only [Act.put, List.setIfInBounds_toArray, List.set_cons_succ]
      refine wpAnyH_take (i := 26) (oi := ({ dst := some 93, op := Op.move (Operand.tmp 92), type := 4, pos := "law.go:88", after := #[{ on := 25, ground := Ground.data }, { on := 22, ground := Ground.chain }], guard := none } : Oper)) (v := ?_) rfl (by kernel_rfl) (by kernel_rfl) (by kernel_rfl) (fun _ _ _ h => h) (Or.inl ⟨by kernel_rfl, ?_⟩) hHeld ?_
      rotate_left 1
      · (intro W hSw; (try dsimp only at hSw); go_simp; try with_reducible rfl)
      try simp only [Act.put, List.setIfInBounds_toArray, List.set_cons_succ]
      refine wpAnyH_ready (rs := [27]) (by kernel_rfl) (by simp) (AllReadyH.cons (o := ({ dst := some 94, op := Op.call { callee := Callee.value (Operand.func 21), args := #[], argTypes := #[] }, type := 4, pos := "law.go:88", after := #[{ on := 26, ground := Ground.chain }, { on := 26, ground := Ground.guard }], guard := some (26, true) } : Oper)) rfl (fun K hK => ?_) AllReadyH.nil)
      go_simp
      (refine (example_any _).mono ?_; rintro e wq ⟨rfl, hbq⟩; replace HL := Lib.hid (HL.out.step hbq); clear sk; have sk := HL.out.cells; simp only [rectC, List.nil_append, List.cons_append, Cells] at sk; clear hbq)
      refine hK.out _ _ sk (fun hHeld2 => ?_)
      clear hK K hHeld
      have hHeld := hHeld2
      clear hHeld2
      try simp only [Act.put, List.setIfInBounds_toArray, List.set_cons_succ]
      refine wpAnyH_take (i := 28) (oi := ({ dst := some 95, op := Op.pick (Operand.tmp 93) (Operand.tmp 94) (Operand.const (Value.bool false)), type := 4, pos := "law.go:88", after := #[{ on := 26, ground := Ground.data }, { on := 27, ground := Ground.data }], guard := none } : Oper)) (v := ?_) rfl (by kernel_rfl) (by kernel_rfl) (by kernel_rfl) (fun _ _ _ h => h) (Or.inl ⟨by kernel_rfl, ?_⟩) hHeld ?_
      rotate_left 1
      · (intro W hSw; (try dsimp only at hSw); go_simp; try with_reducible rfl)
      try simp only [Act.put, List.setIfInBounds_toArray, List.set_cons_succ]
      refine wpAnyH_take (i := 29) (oi := ({ dst := some 6, op := Op.assign (Operand.tmp 95), type := 4, pos := "law.go:88", after := _, guard := none } : Oper)) (v := ?_) rfl (by kernel_rfl) (by kernel_rfl) (by kernel_rfl) (fun _ _ _ h => h) (Or.inl ⟨by kernel_rfl, ?_⟩) hHeld ?_
      rotate_left 1
      · (intro W hSw; (try dsimp only at hSw); go_simp; try with_reducible rfl)
      try simp only [Act.put, List.setIfInBounds_toArray, List.set_cons_succ]
      refine wpAnyH_done (by kernel_rfl) ?_ _
      go_wp2_with fail
      go_ret
      refine ⟨?_, HL.out.below⟩
      kernel_rfl
    · replace HL := Lib.hid HL.out.drew
      have sk := HL.out.cells; simp only [rectC, List.nil_append, List.cons_append, Cells] at sk
      refine wp_region_held_drew (S := (fun W => W.cell? ⟨w.heap.size, 0, none⟩ = some (.int .i64 a.x0) ∧ W.cell? ⟨w.heap.size, 1, none⟩ = some (.int .i64 a.y0) ∧ W.cell? ⟨w.heap.size, 2, none⟩ = some (.int .i64 a.x1) ∧ W.cell? ⟨w.heap.size, 3, none⟩ = some (.int .i64 a.y1) ∧ W.cell? ⟨w.heap.size + 1, 0, none⟩ = some (.int .i64 b.x0) ∧ W.cell? ⟨w.heap.size + 1, 1, none⟩ = some (.int .i64 b.y0) ∧ W.cell? ⟨w.heap.size + 1, 2, none⟩ = some (.int .i64 b.x1) ∧ W.cell? ⟨w.heap.size + 1, 3, none⟩ = some (.int .i64 b.y1) ∧ W.cell? ⟨w.heap.size + 1 + 1, 0, none⟩ = some (.int .i64 c.x0) ∧ W.cell? ⟨w.heap.size + 1 + 1, 1, none⟩ = some (.int .i64 c.y0) ∧ W.cell? ⟨w.heap.size + 1 + 1, 2, none⟩ = some (.int .i64 c.x1) ∧ W.cell? ⟨w.heap.size + 1 + 1, 3, none⟩ = some (.int .i64 c.y1) ∧ W.cell? ⟨M, 0, none⟩ = some (.int .i64 i.x0) ∧ W.cell? ⟨M, 1, none⟩ = some (.int .i64 i.y0) ∧ W.cell? ⟨M, 2, none⟩ = some (.int .i64 i.x1) ∧ W.cell? ⟨M, 3, none⟩ = some (.int .i64 i.y1) ∧ W.cell? ⟨Nn, 0, none⟩ = some (.int .i64 u.x0) ∧ W.cell? ⟨Nn, 1, none⟩ = some (.int .i64 u.y0) ∧ W.cell? ⟨Nn, 2, none⟩ = some (.int .i64 u.x1) ∧ W.cell? ⟨Nn, 3, none⟩ = some (.int .i64 u.y1))) (by kernel_rfl) sk (fun hHeld => ?_)
      refine wpAnyH_take (i := 0) (oi := ({ dst := some 67, op := Op.load 23 (Operand.tmp 8), type := 23, pos := "law.go:88", after := #[], guard := none } : Oper)) (v := ?_) rfl (by kernel_rfl) (by kernel_rfl) (by kernel_rfl) (fun _ _ _ h => h) (Or.inl ⟨by kernel_rfl, ?_⟩) hHeld ?_
      rotate_left 1
      · (intro W hSw; (try dsimp only at hSw); go_simp; try with_reducible rfl)
      try simp only [Act.put, List.setIfInBounds_toArray, List.set_cons_succ]
      refine wpAnyH_take (i := 1) (oi := ({ dst := some 68, op := Op.load 23 (Operand.tmp 5), type := 23, pos := "law.go:88", after := #[], guard := none } : Oper)) (v := ?_) rfl (by kernel_rfl) (by kernel_rfl) (by kernel_rfl) (fun _ _ _ h => h) (Or.inl ⟨by kernel_rfl, ?_⟩) hHeld ?_
      rotate_left 1
      · (intro W hSw; (try dsimp only at hSw); go_simp; try with_reducible rfl)
      try simp only [Act.put, List.setIfInBounds_toArray, List.set_cons_succ]
      refine wpAnyH_take (i := 3) (oi := ({ dst := some 70, op := Op.load 23 (Operand.tmp 3), type := 23, pos := "law.go:88", after := #[], guard := none } : Oper)) (v := ?_) rfl (by kernel_rfl) (by kernel_rfl) (by kernel_rfl) (fun _ _ _ h => h) (Or.inl ⟨by kernel_rfl, ?_⟩) hHeld ?_
      rotate_left 1
      · (intro W hSw; (try dsimp only at hSw); go_simp; try with_reducible rfl)
      try simp only [Act.put, List.setIfInBounds_toArray, List.set_cons_succ]
      refine wpAnyH_take (i := 4) (oi := ({ dst := some 71, op := Op.load 23 (Operand.tmp 5), type := 23, pos := "law.go:88", after := #[], guard := none } : Oper)) (v := ?_) rfl (by kernel_rfl) (by kernel_rfl) (by kernel_rfl) (fun _ _ _ h => h) (Or.inl ⟨by kernel_rfl, ?_⟩) hHeld ?_
      rotate_left 1
      · (intro W hSw; (try dsimp only at hSw); go_simp; try with_reducible rfl)
      try simp only [Act.put, List.setIfInBounds_toArray, List.set_cons_succ]
      refine wpAnyH_ready (rs := [2]) (by kernel_rfl) (by simp) (AllReadyH.cons (o := ({ dst := some 69, op := Op.call { callee := Callee.value (Operand.func 22), args := #[Operand.tmp 67, Operand.tmp 68], argTypes := #[23, 23] }, type := 4, pos := "law.go:88", after := #[{ on := 0, ground := Ground.data }, { on := 1, ground := Ground.data }], guard := none } : Oper)) rfl (fun K hK => ?_) AllReadyH.nil)
      go_simp
      (refine ((W2 _).out).mono ?_; rintro e wq ⟨rfl, hbq⟩; replace HL := Lib.hid (HL.out.step hbq); clear sk; have sk := HL.out.cells; simp only [rectC, List.nil_append, List.cons_append, Cells] at sk; clear hbq)
      refine hK.out _ _ sk (fun hHeld2 => ?_)
      clear hK K hHeld
      have hHeld := hHeld2
      clear hHeld2
      try simp only [Act.put, List.setIfInBounds_toArray, List.set_cons_succ]
      refine wpAnyH_ready (rs := [5]) (by kernel_rfl) (by simp) (AllReadyH.cons (o := ({ dst := some 72, op := Op.call { callee := Callee.value (Operand.func 22), args := #[Operand.tmp 70, Operand.tmp 71], argTypes := #[23, 23] }, type := 4, pos := "law.go:88", after := #[{ on := 3, ground := Ground.data }, { on := 4, ground := Ground.data }, { on := 2, ground := Ground.chain }], guard := none } : Oper)) rfl (fun K hK => ?_) AllReadyH.nil)
      go_simp
      (refine ((W3 _).out).mono ?_; rintro e wq ⟨rfl, hbq⟩; replace HL := Lib.hid (HL.out.step hbq); clear sk; have sk := HL.out.cells; simp only [rectC, List.nil_append, List.cons_append, Cells] at sk; clear hbq)
      refine hK.out _ _ sk (fun hHeld2 => ?_)
      clear hK K hHeld
      have hHeld := hHeld2
      clear hHeld2
      try simp only [Act.put, List.setIfInBounds_toArray, List.set_cons_succ]
      refine wpAnyH_take (i := 6) (oi := ({ dst := some 73, op := Op.move (Operand.tmp 72), type := 4, pos := "law.go:88", after := #[{ on := 5, ground := Ground.data }, { on := 5, ground := Ground.chain }], guard := none } : Oper)) (v := ?_) rfl (by kernel_rfl) (by kernel_rfl) (by kernel_rfl) (fun _ _ _ h => h) (Or.inl ⟨by kernel_rfl, ?_⟩) hHeld ?_
      rotate_left 1
      · (intro W hSw; (try dsimp only at hSw); go_simp; try with_reducible rfl)
      try simp only [Act.put, List.setIfInBounds_toArray, List.set_cons_succ]
      refine wpAnyH_take (i := 7) (oi := ({ dst := some 74, op := Op.load 23 (Operand.tmp 4), type := 23, pos := "law.go:88", after := #[{ on := 6, ground := Ground.guard }], guard := some (6, true) } : Oper)) (v := _) rfl (by kernel_rfl) (by kernel_rfl) (by kernel_rfl) (fun _ _ _ h => h) (Or.inr ⟨by kernel_rfl, rfl⟩) hHeld ?_
      try simp only [Act.put, List.setIfInBounds_toArray, List.set_cons_succ]
      refine wpAnyH_take (i := 8) (oi := ({ dst := some 75, op := Op.load 23 (Operand.tmp 5), type := 23, pos := "law.go:88", after := #[{ on := 6, ground := Ground.guard }], guard := some (6, true) } : Oper)) (v := _) rfl (by kernel_rfl) (by kernel_rfl) (by kernel_rfl) (fun _ _ _ h => h) (Or.inr ⟨by kernel_rfl, rfl⟩) hHeld ?_
      try simp only [Act.put, List.setIfInBounds_toArray, List.set_cons_succ]
      refine wpAnyH_ready (rs := [9]) (by kernel_rfl) (by simp) (AllReadyH.cons (o := ({ dst := some 76, op := Op.call { callee := Callee.value (Operand.func 22), args := #[Operand.tmp 74, Operand.tmp 75], argTypes := #[23, 23] }, type := 4, pos := "law.go:88", after := #[{ on := 7, ground := Ground.data }, { on := 8, ground := Ground.data }, { on := 6, ground := Ground.chain }, { on := 6, ground := Ground.guard }], guard := some (6, true) } : Oper)) rfl (fun K hK => ?_) AllReadyH.nil)
      go_simp
      refine hK.out _ _ sk (fun hHeld2 => ?_)
      clear hK K hHeld
      have hHeld := hHeld2
      clear hHeld2
      try simp only [Act.put, List.setIfInBounds_toArray, List.set_cons_succ]
      refine wpAnyH_take (i := 10) (oi := ({ dst := some 77, op := Op.pick (Operand.tmp 73) (Operand.tmp 76) (Operand.const (Value.bool false)), type := 4, pos := "law.go:88", after := #[{ on := 6, ground := Ground.data }, { on := 9, ground := Ground.data }], guard := none } : Oper)) (v := ?_) rfl (by kernel_rfl) (by kernel_rfl) (by kernel_rfl) (fun _ _ _ h => h) (Or.inl ⟨by kernel_rfl, ?_⟩) hHeld ?_
      rotate_left 1
      · (intro W hSw; (try dsimp only at hSw); go_simp; try with_reducible rfl)
      try simp only [Act.put, List.setIfInBounds_toArray, List.set_cons_succ]
      refine wpAnyH_take (i := 11) (oi := ({ dst := some 78, op := Op.binOp BinOp.eql 4 (Operand.tmp 69) (Operand.tmp 77) 4, type := 4, pos := "law.go:88", after := #[{ on := 2, ground := Ground.data }, { on := 10, ground := Ground.data }], guard := none } : Oper)) (v := ?_) rfl (by kernel_rfl) (by kernel_rfl) (by kernel_rfl) (fun _ _ _ h => h) (Or.inl ⟨by kernel_rfl, ?_⟩) hHeld ?_
      rotate_left 1
      · (intro W hSw; (try dsimp only at hSw); go_simp; try with_reducible rfl)
      try simp only [Act.put, List.setIfInBounds_toArray, List.set_cons_succ]
      refine wpAnyH_take (i := 12) (oi := ({ dst := some 79, op := Op.move (Operand.tmp 78), type := 4, pos := "law.go:88", after := #[{ on := 11, ground := Ground.data }, { on := 9, ground := Ground.chain }], guard := none } : Oper)) (v := ?_) rfl (by kernel_rfl) (by kernel_rfl) (by kernel_rfl) (fun _ _ _ h => h) (Or.inl ⟨by kernel_rfl, ?_⟩) hHeld ?_
      rotate_left 1
      · (intro W hSw; (try dsimp only at hSw); go_simp; try with_reducible rfl)
      try simp only [Act.put, List.setIfInBounds_toArray, List.set_cons_succ]
      refine wpAnyH_take (i := 13) (oi := ({ dst := some 80, op := Op.load 23 (Operand.tmp 5), type := 23, pos := "law.go:88", after := #[{ on := 12, ground := Ground.guard }], guard := some (12, true) } : Oper)) (v := ?_) rfl (by kernel_rfl) (by kernel_rfl) (by kernel_rfl) (fun _ _ _ h => h) (Or.inl ⟨by kernel_rfl, ?_⟩) hHeld ?_
      rotate_left 1
      · (intro W hSw; (try dsimp only at hSw); go_simp; try with_reducible rfl)
      try simp only [Act.put, List.setIfInBounds_toArray, List.set_cons_succ]
      refine wpAnyH_take (i := 14) (oi := ({ dst := some 81, op := Op.load 23 (Operand.tmp 7), type := 23, pos := "law.go:88", after := #[{ on := 12, ground := Ground.guard }], guard := some (12, true) } : Oper)) (v := ?_) rfl (by kernel_rfl) (by kernel_rfl) (by kernel_rfl) (fun _ _ _ h => h) (Or.inl ⟨by kernel_rfl, ?_⟩) hHeld ?_
      rotate_left 1
      · (intro W hSw; (try dsimp only at hSw); go_simp; try with_reducible rfl)
      try simp only [Act.put, List.setIfInBounds_toArray, List.set_cons_succ]
      refine wpAnyH_take (i := 16) (oi := ({ dst := some 83, op := Op.load 23 (Operand.tmp 5), type := 23, pos := "law.go:88", after := #[{ on := 12, ground := Ground.guard }], guard := some (12, true) } : Oper)) (v := ?_) rfl (by kernel_rfl) (by kernel_rfl) (by kernel_rfl) (fun _ _ _ h => h) (Or.inl ⟨by kernel_rfl, ?_⟩) hHeld ?_
      rotate_left 1
      · (intro W hSw; (try dsimp only at hSw); go_simp; try with_reducible rfl)
      try simp only [Act.put, List.setIfInBounds_toArray, List.set_cons_succ]
      refine wpAnyH_take (i := 17) (oi := ({ dst := some 84, op := Op.load 23 (Operand.tmp 3), type := 23, pos := "law.go:88", after := #[{ on := 12, ground := Ground.guard }], guard := some (12, true) } : Oper)) (v := ?_) rfl (by kernel_rfl) (by kernel_rfl) (by kernel_rfl) (fun _ _ _ h => h) (Or.inl ⟨by kernel_rfl, ?_⟩) hHeld ?_
      rotate_left 1
      · (intro W hSw; (try dsimp only at hSw); go_simp; try with_reducible rfl)
      try simp only [Act.put, List.setIfInBounds_toArray, List.set_cons_succ]
      refine wpAnyH_ready (rs := [15]) (by kernel_rfl) (by simp) (AllReadyH.cons (o := ({ dst := some 82, op := Op.call { callee := Callee.value (Operand.func 22), args := #[Operand.tmp 80, Operand.tmp 81], argTypes := #[23, 23] }, type := 4, pos := "law.go:88", after := #[{ on := 13, ground := Ground.data }, { on := 14, ground := Ground.data }, { on := 12, ground := Ground.chain }, { on := 12, ground := Ground.guard }], guard := some (12, true) } : Oper)) rfl (fun K hK => ?_) AllReadyH.nil)
      go_simp
      (refine ((W5 _).out).mono ?_; rintro e wq ⟨rfl, hbq⟩; replace HL := Lib.hid (HL.out.step hbq); clear sk; have sk := HL.out.cells; simp only [rectC, List.nil_append, List.cons_append, Cells] at sk; clear hbq)
      refine hK.out _ _ sk (fun hHeld2 => ?_)
      clear hK K hHeld
      have hHeld := hHeld2
      clear hHeld2
      try simp only [Act.put, List.setIfInBounds_toArray, List.set_cons_succ]
      refine wpAnyH_ready (rs := [18]) (by kernel_rfl) (by simp) (AllReadyH.cons (o := ({ dst := some 85, op := Op.call { callee := Callee.value (Operand.func 22), args := #[Operand.tmp 83, Operand.tmp 84], argTypes := #[23, 23] }, type := 4, pos := "law.go:88", after := #[{ on := 16, ground := Ground.data }, { on := 17, ground := Ground.data }, { on := 15, ground := Ground.chain }, { on := 12, ground := Ground.guard }], guard := some (12, true) } : Oper)) rfl (fun K hK => ?_) AllReadyH.nil)
      go_simp
      (refine ((W6 _).out).mono ?_; rintro e wq ⟨rfl, hbq⟩; replace HL := Lib.hid (HL.out.step hbq); clear sk; have sk := HL.out.cells; simp only [rectC, List.nil_append, List.cons_append, Cells] at sk; clear hbq)
      refine hK.out _ _ sk (fun hHeld2 => ?_)
      clear hK K hHeld
      have hHeld := hHeld2
      clear hHeld2
      try simp only [Act.put, List.setIfInBounds_toArray, List.set_cons_succ]
      refine wpAnyH_take (i := 19) (oi := ({ dst := some 86, op := Op.move (Operand.tmp 85), type := 4, pos := "law.go:88", after := #[{ on := 18, ground := Ground.data }, { on := 18, ground := Ground.chain }, { on := 12, ground := Ground.guard }], guard := some (12, true) } : Oper)) (v := ?_) rfl (by kernel_rfl) (by kernel_rfl) (by kernel_rfl) (fun _ _ _ h => h) (Or.inl ⟨by kernel_rfl, ?_⟩) hHeld ?_
      rotate_left 1
      · (intro W hSw; (try dsimp only at hSw); go_simp; try with_reducible rfl)
      try simp only [Act.put, List.setIfInBounds_toArray, List.set_cons_succ]
      refine wpAnyH_take (i := 20) (oi := ({ dst := some 87, op := Op.load 23 (Operand.tmp 5), type := 23, pos := "law.go:88", after := #[{ on := 19, ground := Ground.guard }], guard := some (19, true) } : Oper)) (v := ?_) rfl (by kernel_rfl) (by kernel_rfl) (by kernel_rfl) (fun _ _ _ h => h) (Or.inl ⟨by kernel_rfl, ?_⟩) hHeld ?_
      rotate_left 1
      · (intro W hSw; (try dsimp only at hSw); go_simp; try with_reducible rfl)
      try simp only [Act.put, List.setIfInBounds_toArray, List.set_cons_succ]
      refine wpAnyH_take (i := 21) (oi := ({ dst := some 88, op := Op.load 23 (Operand.tmp 4), type := 23, pos := "law.go:88", after := #[{ on := 19, ground := Ground.guard }], guard := some (19, true) } : Oper)) (v := ?_) rfl (by kernel_rfl) (by kernel_rfl) (by kernel_rfl) (fun _ _ _ h => h) (Or.inl ⟨by kernel_rfl, ?_⟩) hHeld ?_
      rotate_left 1
      · (intro W hSw; (try dsimp only at hSw); go_simp; try with_reducible rfl)
      try simp only [Act.put, List.setIfInBounds_toArray, List.set_cons_succ]
      refine wpAnyH_ready (rs := [22]) (by kernel_rfl) (by simp) (AllReadyH.cons (o := ({ dst := some 89, op := Op.call { callee := Callee.value (Operand.func 22), args := #[Operand.tmp 87, Operand.tmp 88], argTypes := #[23, 23] }, type := 4, pos := "law.go:88", after := #[{ on := 20, ground := Ground.data }, { on := 21, ground := Ground.data }, { on := 19, ground := Ground.chain }, { on := 19, ground := Ground.guard }], guard := some (19, true) } : Oper)) rfl (fun K hK => ?_) AllReadyH.nil)
      go_simp
      (refine ((W7 _).out).mono ?_; rintro e wq ⟨rfl, hbq⟩; replace HL := Lib.hid (HL.out.step hbq); clear sk; have sk := HL.out.cells; simp only [rectC, List.nil_append, List.cons_append, Cells] at sk; clear hbq)
      refine hK.out _ _ sk (fun hHeld2 => ?_)
      clear hK K hHeld
      have hHeld := hHeld2
      clear hHeld2
      try simp only [Act.put, List.setIfInBounds_toArray, List.set_cons_succ]
      refine wpAnyH_take (i := 23) (oi := ({ dst := some 90, op := Op.pick (Operand.tmp 86) (Operand.tmp 89) (Operand.const (Value.bool false)), type := 4, pos := "law.go:88", after := #[{ on := 19, ground := Ground.data }, { on := 22, ground := Ground.data }, { on := 12, ground := Ground.guard }], guard := some (12, true) } : Oper)) (v := ?_) rfl (by kernel_rfl) (by kernel_rfl) (by kernel_rfl) (fun _ _ _ h => h) (Or.inl ⟨by kernel_rfl, ?_⟩) hHeld ?_
      rotate_left 1
      · (intro W hSw; (try dsimp only at hSw); go_simp; try with_reducible rfl)
      try simp only [Act.put, List.setIfInBounds_toArray, List.set_cons_succ]
      refine wpAnyH_take (i := 24) (oi := ({ dst := some 91, op := Op.binOp BinOp.eql 4 (Operand.tmp 82) (Operand.tmp 90) 4, type := 4, pos := "law.go:88", after := #[{ on := 15, ground := Ground.data }, { on := 23, ground := Ground.data }, { on := 12, ground := Ground.guard }], guard := some (12, true) } : Oper)) (v := ?_) rfl (by kernel_rfl) (by kernel_rfl) (by kernel_rfl) (fun _ _ _ h => h) (Or.inl ⟨by kernel_rfl, ?_⟩) hHeld ?_
      rotate_left 1
      · (intro W hSw; (try dsimp only at hSw); go_simp; try with_reducible rfl)
      try simp only [Act.put, List.setIfInBounds_toArray, List.set_cons_succ]
      refine wpAnyH_take (i := 25) (oi := ({ dst := some 92, op := Op.pick (Operand.tmp 79) (Operand.tmp 91) (Operand.const (Value.bool false)), type := 4, pos := "law.go:88", after := #[{ on := 12, ground := Ground.data }, { on := 24, ground := Ground.data }], guard := none } : Oper)) (v := ?_) rfl (by kernel_rfl) (by kernel_rfl) (by kernel_rfl) (fun _ _ _ h => h) (Or.inl ⟨by kernel_rfl, ?_⟩) hHeld ?_
      rotate_left 1
      · (intro W hSw; (try dsimp only at hSw); go_simp; try with_reducible rfl)
      try simp only [Act.put, List.setIfInBounds_toArray, List.set_cons_succ]
      refine wpAnyH_take (i := 26) (oi := ({ dst := some 93, op := Op.move (Operand.tmp 92), type := 4, pos := "law.go:88", after := #[{ on := 25, ground := Ground.data }, { on := 22, ground := Ground.chain }], guard := none } : Oper)) (v := ?_) rfl (by kernel_rfl) (by kernel_rfl) (by kernel_rfl) (fun _ _ _ h => h) (Or.inl ⟨by kernel_rfl, ?_⟩) hHeld ?_
      rotate_left 1
      · (intro W hSw; (try dsimp only at hSw); go_simp; try with_reducible rfl)
      try simp only [Act.put, List.setIfInBounds_toArray, List.set_cons_succ]
      refine wpAnyH_ready (rs := [27]) (by kernel_rfl) (by simp) (AllReadyH.cons (o := ({ dst := some 94, op := Op.call { callee := Callee.value (Operand.func 21), args := #[], argTypes := #[] }, type := 4, pos := "law.go:88", after := #[{ on := 26, ground := Ground.chain }, { on := 26, ground := Ground.guard }], guard := some (26, true) } : Oper)) rfl (fun K hK => ?_) AllReadyH.nil)
      go_simp
      (refine (example_any _).mono ?_; rintro e wq ⟨rfl, hbq⟩; replace HL := Lib.hid (HL.out.step hbq); clear sk; have sk := HL.out.cells; simp only [rectC, List.nil_append, List.cons_append, Cells] at sk; clear hbq)
      refine hK.out _ _ sk (fun hHeld2 => ?_)
      clear hK K hHeld
      have hHeld := hHeld2
      clear hHeld2
      try simp only [Act.put, List.setIfInBounds_toArray, List.set_cons_succ]
      refine wpAnyH_take (i := 28) (oi := ({ dst := some 95, op := Op.pick (Operand.tmp 93) (Operand.tmp 94) (Operand.const (Value.bool false)), type := 4, pos := "law.go:88", after := #[{ on := 26, ground := Ground.data }, { on := 27, ground := Ground.data }], guard := none } : Oper)) (v := ?_) rfl (by kernel_rfl) (by kernel_rfl) (by kernel_rfl) (fun _ _ _ h => h) (Or.inl ⟨by kernel_rfl, ?_⟩) hHeld ?_
      rotate_left 1
      · (intro W hSw; (try dsimp only at hSw); go_simp; try with_reducible rfl)
      try simp only [Act.put, List.setIfInBounds_toArray, List.set_cons_succ]
      refine wpAnyH_take (i := 29) (oi := ({ dst := some 6, op := Op.assign (Operand.tmp 95), type := 4, pos := "law.go:88", after := _, guard := none } : Oper)) (v := ?_) rfl (by kernel_rfl) (by kernel_rfl) (by kernel_rfl) (fun _ _ _ h => h) (Or.inl ⟨by kernel_rfl, ?_⟩) hHeld ?_
      rotate_left 1
      · (intro W hSw; (try dsimp only at hSw); go_simp; try with_reducible rfl)
      try simp only [Act.put, List.setIfInBounds_toArray, List.set_cons_succ]
      refine wpAnyH_done (by kernel_rfl) ?_ _
      go_wp2_with fail
      go_ret
      refine ⟨?_, HL.out.below⟩
      kernel_rfl
    · replace HL := Lib.hid HL.out.drew
      have sk := HL.out.cells; simp only [rectC, List.nil_append, List.cons_append, Cells] at sk
      refine wp_region_held_drew (S := (fun W => W.cell? ⟨w.heap.size, 0, none⟩ = some (.int .i64 a.x0) ∧ W.cell? ⟨w.heap.size, 1, none⟩ = some (.int .i64 a.y0) ∧ W.cell? ⟨w.heap.size, 2, none⟩ = some (.int .i64 a.x1) ∧ W.cell? ⟨w.heap.size, 3, none⟩ = some (.int .i64 a.y1) ∧ W.cell? ⟨w.heap.size + 1, 0, none⟩ = some (.int .i64 b.x0) ∧ W.cell? ⟨w.heap.size + 1, 1, none⟩ = some (.int .i64 b.y0) ∧ W.cell? ⟨w.heap.size + 1, 2, none⟩ = some (.int .i64 b.x1) ∧ W.cell? ⟨w.heap.size + 1, 3, none⟩ = some (.int .i64 b.y1) ∧ W.cell? ⟨w.heap.size + 1 + 1, 0, none⟩ = some (.int .i64 c.x0) ∧ W.cell? ⟨w.heap.size + 1 + 1, 1, none⟩ = some (.int .i64 c.y0) ∧ W.cell? ⟨w.heap.size + 1 + 1, 2, none⟩ = some (.int .i64 c.x1) ∧ W.cell? ⟨w.heap.size + 1 + 1, 3, none⟩ = some (.int .i64 c.y1) ∧ W.cell? ⟨M, 0, none⟩ = some (.int .i64 i.x0) ∧ W.cell? ⟨M, 1, none⟩ = some (.int .i64 i.y0) ∧ W.cell? ⟨M, 2, none⟩ = some (.int .i64 i.x1) ∧ W.cell? ⟨M, 3, none⟩ = some (.int .i64 i.y1) ∧ W.cell? ⟨Nn, 0, none⟩ = some (.int .i64 u.x0) ∧ W.cell? ⟨Nn, 1, none⟩ = some (.int .i64 u.y0) ∧ W.cell? ⟨Nn, 2, none⟩ = some (.int .i64 u.x1) ∧ W.cell? ⟨Nn, 3, none⟩ = some (.int .i64 u.y1))) (by kernel_rfl) sk (fun hHeld => ?_)
      refine wpAnyH_take (i := 0) (oi := ({ dst := some 67, op := Op.load 23 (Operand.tmp 8), type := 23, pos := "law.go:88", after := #[], guard := none } : Oper)) (v := ?_) rfl (by kernel_rfl) (by kernel_rfl) (by kernel_rfl) (fun _ _ _ h => h) (Or.inl ⟨by kernel_rfl, ?_⟩) hHeld ?_
      rotate_left 1
      · (intro W hSw; (try dsimp only at hSw); go_simp; try with_reducible rfl)
      try simp only [Act.put, List.setIfInBounds_toArray, List.set_cons_succ]
      refine wpAnyH_take (i := 1) (oi := ({ dst := some 68, op := Op.load 23 (Operand.tmp 5), type := 23, pos := "law.go:88", after := #[], guard := none } : Oper)) (v := ?_) rfl (by kernel_rfl) (by kernel_rfl) (by kernel_rfl) (fun _ _ _ h => h) (Or.inl ⟨by kernel_rfl, ?_⟩) hHeld ?_
      rotate_left 1
      · (intro W hSw; (try dsimp only at hSw); go_simp; try with_reducible rfl)
      try simp only [Act.put, List.setIfInBounds_toArray, List.set_cons_succ]
      refine wpAnyH_take (i := 3) (oi := ({ dst := some 70, op := Op.load 23 (Operand.tmp 3), type := 23, pos := "law.go:88", after := #[], guard := none } : Oper)) (v := ?_) rfl (by kernel_rfl) (by kernel_rfl) (by kernel_rfl) (fun _ _ _ h => h) (Or.inl ⟨by kernel_rfl, ?_⟩) hHeld ?_
      rotate_left 1
      · (intro W hSw; (try dsimp only at hSw); go_simp; try with_reducible rfl)
      try simp only [Act.put, List.setIfInBounds_toArray, List.set_cons_succ]
      refine wpAnyH_take (i := 4) (oi := ({ dst := some 71, op := Op.load 23 (Operand.tmp 5), type := 23, pos := "law.go:88", after := #[], guard := none } : Oper)) (v := ?_) rfl (by kernel_rfl) (by kernel_rfl) (by kernel_rfl) (fun _ _ _ h => h) (Or.inl ⟨by kernel_rfl, ?_⟩) hHeld ?_
      rotate_left 1
      · (intro W hSw; (try dsimp only at hSw); go_simp; try with_reducible rfl)
      try simp only [Act.put, List.setIfInBounds_toArray, List.set_cons_succ]
      refine wpAnyH_ready (rs := [2]) (by kernel_rfl) (by simp) (AllReadyH.cons (o := ({ dst := some 69, op := Op.call { callee := Callee.value (Operand.func 22), args := #[Operand.tmp 67, Operand.tmp 68], argTypes := #[23, 23] }, type := 4, pos := "law.go:88", after := #[{ on := 0, ground := Ground.data }, { on := 1, ground := Ground.data }], guard := none } : Oper)) rfl (fun K hK => ?_) AllReadyH.nil)
      go_simp
      (refine ((W2 _).out).mono ?_; rintro e wq ⟨rfl, hbq⟩; replace HL := Lib.hid (HL.out.step hbq); clear sk; have sk := HL.out.cells; simp only [rectC, List.nil_append, List.cons_append, Cells] at sk; clear hbq)
      refine hK.out _ _ sk (fun hHeld2 => ?_)
      clear hK K hHeld
      have hHeld := hHeld2
      clear hHeld2
      try simp only [Act.put, List.setIfInBounds_toArray, List.set_cons_succ]
      refine wpAnyH_ready (rs := [5]) (by kernel_rfl) (by simp) (AllReadyH.cons (o := ({ dst := some 72, op := Op.call { callee := Callee.value (Operand.func 22), args := #[Operand.tmp 70, Operand.tmp 71], argTypes := #[23, 23] }, type := 4, pos := "law.go:88", after := #[{ on := 3, ground := Ground.data }, { on := 4, ground := Ground.data }, { on := 2, ground := Ground.chain }], guard := none } : Oper)) rfl (fun K hK => ?_) AllReadyH.nil)
      go_simp
      (refine ((W3 _).out).mono ?_; rintro e wq ⟨rfl, hbq⟩; replace HL := Lib.hid (HL.out.step hbq); clear sk; have sk := HL.out.cells; simp only [rectC, List.nil_append, List.cons_append, Cells] at sk; clear hbq)
      refine hK.out _ _ sk (fun hHeld2 => ?_)
      clear hK K hHeld
      have hHeld := hHeld2
      clear hHeld2
      try simp only [Act.put, List.setIfInBounds_toArray, List.set_cons_succ]
      refine wpAnyH_take (i := 6) (oi := ({ dst := some 73, op := Op.move (Operand.tmp 72), type := 4, pos := "law.go:88", after := #[{ on := 5, ground := Ground.data }, { on := 5, ground := Ground.chain }], guard := none } : Oper)) (v := ?_) rfl (by kernel_rfl) (by kernel_rfl) (by kernel_rfl) (fun _ _ _ h => h) (Or.inl ⟨by kernel_rfl, ?_⟩) hHeld ?_
      rotate_left 1
      · (intro W hSw; (try dsimp only at hSw); go_simp; try with_reducible rfl)
      try simp only [Act.put, List.setIfInBounds_toArray, List.set_cons_succ]
      refine wpAnyH_take (i := 7) (oi := ({ dst := some 74, op := Op.load 23 (Operand.tmp 4), type := 23, pos := "law.go:88", after := #[{ on := 6, ground := Ground.guard }], guard := some (6, true) } : Oper)) (v := ?_) rfl (by kernel_rfl) (by kernel_rfl) (by kernel_rfl) (fun _ _ _ h => h) (Or.inl ⟨by kernel_rfl, ?_⟩) hHeld ?_
      rotate_left 1
      · (intro W hSw; (try dsimp only at hSw); go_simp; try with_reducible rfl)
      try simp only [Act.put, List.setIfInBounds_toArray, List.set_cons_succ]
      refine wpAnyH_take (i := 8) (oi := ({ dst := some 75, op := Op.load 23 (Operand.tmp 5), type := 23, pos := "law.go:88", after := #[{ on := 6, ground := Ground.guard }], guard := some (6, true) } : Oper)) (v := ?_) rfl (by kernel_rfl) (by kernel_rfl) (by kernel_rfl) (fun _ _ _ h => h) (Or.inl ⟨by kernel_rfl, ?_⟩) hHeld ?_
      rotate_left 1
      · (intro W hSw; (try dsimp only at hSw); go_simp; try with_reducible rfl)
      try simp only [Act.put, List.setIfInBounds_toArray, List.set_cons_succ]
      refine wpAnyH_ready (rs := [9]) (by kernel_rfl) (by simp) (AllReadyH.cons (o := ({ dst := some 76, op := Op.call { callee := Callee.value (Operand.func 22), args := #[Operand.tmp 74, Operand.tmp 75], argTypes := #[23, 23] }, type := 4, pos := "law.go:88", after := #[{ on := 7, ground := Ground.data }, { on := 8, ground := Ground.data }, { on := 6, ground := Ground.chain }, { on := 6, ground := Ground.guard }], guard := some (6, true) } : Oper)) rfl (fun K hK => ?_) AllReadyH.nil)
      go_simp
      (refine ((W4 _).out).mono ?_; rintro e wq ⟨rfl, hbq⟩; replace HL := Lib.hid (HL.out.step hbq); clear sk; have sk := HL.out.cells; simp only [rectC, List.nil_append, List.cons_append, Cells] at sk; clear hbq)
      refine hK.out _ _ sk (fun hHeld2 => ?_)
      clear hK K hHeld
      have hHeld := hHeld2
      clear hHeld2
      try simp only [Act.put, List.setIfInBounds_toArray, List.set_cons_succ]
      refine wpAnyH_take (i := 10) (oi := ({ dst := some 77, op := Op.pick (Operand.tmp 73) (Operand.tmp 76) (Operand.const (Value.bool false)), type := 4, pos := "law.go:88", after := #[{ on := 6, ground := Ground.data }, { on := 9, ground := Ground.data }], guard := none } : Oper)) (v := ?_) rfl (by kernel_rfl) (by kernel_rfl) (by kernel_rfl) (fun _ _ _ h => h) (Or.inl ⟨by kernel_rfl, ?_⟩) hHeld ?_
      rotate_left 1
      · (intro W hSw; (try dsimp only at hSw); go_simp; try with_reducible rfl)
      try simp only [Act.put, List.setIfInBounds_toArray, List.set_cons_succ]
      refine wpAnyH_take (i := 11) (oi := ({ dst := some 78, op := Op.binOp BinOp.eql 4 (Operand.tmp 69) (Operand.tmp 77) 4, type := 4, pos := "law.go:88", after := #[{ on := 2, ground := Ground.data }, { on := 10, ground := Ground.data }], guard := none } : Oper)) (v := ?_) rfl (by kernel_rfl) (by kernel_rfl) (by kernel_rfl) (fun _ _ _ h => h) (Or.inl ⟨by kernel_rfl, ?_⟩) hHeld ?_
      rotate_left 1
      · (intro W hSw; (try dsimp only at hSw); go_simp; try with_reducible rfl)
      try simp only [Act.put, List.setIfInBounds_toArray, List.set_cons_succ]
      refine wpAnyH_take (i := 12) (oi := ({ dst := some 79, op := Op.move (Operand.tmp 78), type := 4, pos := "law.go:88", after := #[{ on := 11, ground := Ground.data }, { on := 9, ground := Ground.chain }], guard := none } : Oper)) (v := ?_) rfl (by kernel_rfl) (by kernel_rfl) (by kernel_rfl) (fun _ _ _ h => h) (Or.inl ⟨by kernel_rfl, ?_⟩) hHeld ?_
      rotate_left 1
      · (intro W hSw; (try dsimp only at hSw); go_simp; try with_reducible rfl)
      try simp only [Act.put, List.setIfInBounds_toArray, List.set_cons_succ]
      refine wpAnyH_take (i := 13) (oi := ({ dst := some 80, op := Op.load 23 (Operand.tmp 5), type := 23, pos := "law.go:88", after := #[{ on := 12, ground := Ground.guard }], guard := some (12, true) } : Oper)) (v := ?_) rfl (by kernel_rfl) (by kernel_rfl) (by kernel_rfl) (fun _ _ _ h => h) (Or.inl ⟨by kernel_rfl, ?_⟩) hHeld ?_
      rotate_left 1
      · (intro W hSw; (try dsimp only at hSw); go_simp; try with_reducible rfl)
      try simp only [Act.put, List.setIfInBounds_toArray, List.set_cons_succ]
      refine wpAnyH_take (i := 14) (oi := ({ dst := some 81, op := Op.load 23 (Operand.tmp 7), type := 23, pos := "law.go:88", after := #[{ on := 12, ground := Ground.guard }], guard := some (12, true) } : Oper)) (v := ?_) rfl (by kernel_rfl) (by kernel_rfl) (by kernel_rfl) (fun _ _ _ h => h) (Or.inl ⟨by kernel_rfl, ?_⟩) hHeld ?_
      rotate_left 1
      · (intro W hSw; (try dsimp only at hSw); go_simp; try with_reducible rfl)
      try simp only [Act.put, List.setIfInBounds_toArray, List.set_cons_succ]
      refine wpAnyH_take (i := 16) (oi := ({ dst := some 83, op := Op.load 23 (Operand.tmp 5), type := 23, pos := "law.go:88", after := #[{ on := 12, ground := Ground.guard }], guard := some (12, true) } : Oper)) (v := ?_) rfl (by kernel_rfl) (by kernel_rfl) (by kernel_rfl) (fun _ _ _ h => h) (Or.inl ⟨by kernel_rfl, ?_⟩) hHeld ?_
      rotate_left 1
      · (intro W hSw; (try dsimp only at hSw); go_simp; try with_reducible rfl)
      try simp only [Act.put, List.setIfInBounds_toArray, List.set_cons_succ]
      refine wpAnyH_take (i := 17) (oi := ({ dst := some 84, op := Op.load 23 (Operand.tmp 3), type := 23, pos := "law.go:88", after := #[{ on := 12, ground := Ground.guard }], guard := some (12, true) } : Oper)) (v := ?_) rfl (by kernel_rfl) (by kernel_rfl) (by kernel_rfl) (fun _ _ _ h => h) (Or.inl ⟨by kernel_rfl, ?_⟩) hHeld ?_
      rotate_left 1
      · (intro W hSw; (try dsimp only at hSw); go_simp; try with_reducible rfl)
      try simp only [Act.put, List.setIfInBounds_toArray, List.set_cons_succ]
      refine wpAnyH_ready (rs := [15]) (by kernel_rfl) (by simp) (AllReadyH.cons (o := ({ dst := some 82, op := Op.call { callee := Callee.value (Operand.func 22), args := #[Operand.tmp 80, Operand.tmp 81], argTypes := #[23, 23] }, type := 4, pos := "law.go:88", after := #[{ on := 13, ground := Ground.data }, { on := 14, ground := Ground.data }, { on := 12, ground := Ground.chain }, { on := 12, ground := Ground.guard }], guard := some (12, true) } : Oper)) rfl (fun K hK => ?_) AllReadyH.nil)
      go_simp
      (refine ((W5 _).out).mono ?_; rintro e wq ⟨rfl, hbq⟩; replace HL := Lib.hid (HL.out.step hbq); clear sk; have sk := HL.out.cells; simp only [rectC, List.nil_append, List.cons_append, Cells] at sk; clear hbq)
      refine hK.out _ _ sk (fun hHeld2 => ?_)
      clear hK K hHeld
      have hHeld := hHeld2
      clear hHeld2
      try simp only [Act.put, List.setIfInBounds_toArray, List.set_cons_succ]
      refine wpAnyH_ready (rs := [18]) (by kernel_rfl) (by simp) (AllReadyH.cons (o := ({ dst := some 85, op := Op.call { callee := Callee.value (Operand.func 22), args := #[Operand.tmp 83, Operand.tmp 84], argTypes := #[23, 23] }, type := 4, pos := "law.go:88", after := #[{ on := 16, ground := Ground.data }, { on := 17, ground := Ground.data }, { on := 15, ground := Ground.chain }, { on := 12, ground := Ground.guard }], guard := some (12, true) } : Oper)) rfl (fun K hK => ?_) AllReadyH.nil)
      go_simp
      (refine ((W6 _).out).mono ?_; rintro e wq ⟨rfl, hbq⟩; replace HL := Lib.hid (HL.out.step hbq); clear sk; have sk := HL.out.cells; simp only [rectC, List.nil_append, List.cons_append, Cells] at sk; clear hbq)
      refine hK.out _ _ sk (fun hHeld2 => ?_)
      clear hK K hHeld
      have hHeld := hHeld2
      clear hHeld2
      try simp only [Act.put, List.setIfInBounds_toArray, List.set_cons_succ]
      refine wpAnyH_take (i := 19) (oi := ({ dst := some 86, op := Op.move (Operand.tmp 85), type := 4, pos := "law.go:88", after := #[{ on := 18, ground := Ground.data }, { on := 18, ground := Ground.chain }, { on := 12, ground := Ground.guard }], guard := some (12, true) } : Oper)) (v := ?_) rfl (by kernel_rfl) (by kernel_rfl) (by kernel_rfl) (fun _ _ _ h => h) (Or.inl ⟨by kernel_rfl, ?_⟩) hHeld ?_
      rotate_left 1
      · (intro W hSw; (try dsimp only at hSw); go_simp; try with_reducible rfl)
      try simp only [Act.put, List.setIfInBounds_toArray, List.set_cons_succ]
      refine wpAnyH_take (i := 20) (oi := ({ dst := some 87, op := Op.load 23 (Operand.tmp 5), type := 23, pos := "law.go:88", after := #[{ on := 19, ground := Ground.guard }], guard := some (19, true) } : Oper)) (v := _) rfl (by kernel_rfl) (by kernel_rfl) (by kernel_rfl) (fun _ _ _ h => h) (Or.inr ⟨by kernel_rfl, rfl⟩) hHeld ?_
      try simp only [Act.put, List.setIfInBounds_toArray, List.set_cons_succ]
      refine wpAnyH_take (i := 21) (oi := ({ dst := some 88, op := Op.load 23 (Operand.tmp 4), type := 23, pos := "law.go:88", after := #[{ on := 19, ground := Ground.guard }], guard := some (19, true) } : Oper)) (v := _) rfl (by kernel_rfl) (by kernel_rfl) (by kernel_rfl) (fun _ _ _ h => h) (Or.inr ⟨by kernel_rfl, rfl⟩) hHeld ?_
      try simp only [Act.put, List.setIfInBounds_toArray, List.set_cons_succ]
      refine wpAnyH_ready (rs := [22]) (by kernel_rfl) (by simp) (AllReadyH.cons (o := ({ dst := some 89, op := Op.call { callee := Callee.value (Operand.func 22), args := #[Operand.tmp 87, Operand.tmp 88], argTypes := #[23, 23] }, type := 4, pos := "law.go:88", after := #[{ on := 20, ground := Ground.data }, { on := 21, ground := Ground.data }, { on := 19, ground := Ground.chain }, { on := 19, ground := Ground.guard }], guard := some (19, true) } : Oper)) rfl (fun K hK => ?_) AllReadyH.nil)
      go_simp
      refine hK.out _ _ sk (fun hHeld2 => ?_)
      clear hK K hHeld
      have hHeld := hHeld2
      clear hHeld2
      try simp only [Act.put, List.setIfInBounds_toArray, List.set_cons_succ]
      refine wpAnyH_take (i := 23) (oi := ({ dst := some 90, op := Op.pick (Operand.tmp 86) (Operand.tmp 89) (Operand.const (Value.bool false)), type := 4, pos := "law.go:88", after := #[{ on := 19, ground := Ground.data }, { on := 22, ground := Ground.data }, { on := 12, ground := Ground.guard }], guard := some (12, true) } : Oper)) (v := ?_) rfl (by kernel_rfl) (by kernel_rfl) (by kernel_rfl) (fun _ _ _ h => h) (Or.inl ⟨by kernel_rfl, ?_⟩) hHeld ?_
      rotate_left 1
      · (intro W hSw; (try dsimp only at hSw); go_simp; try with_reducible rfl)
      try simp only [Act.put, List.setIfInBounds_toArray, List.set_cons_succ]
      refine wpAnyH_take (i := 24) (oi := ({ dst := some 91, op := Op.binOp BinOp.eql 4 (Operand.tmp 82) (Operand.tmp 90) 4, type := 4, pos := "law.go:88", after := #[{ on := 15, ground := Ground.data }, { on := 23, ground := Ground.data }, { on := 12, ground := Ground.guard }], guard := some (12, true) } : Oper)) (v := ?_) rfl (by kernel_rfl) (by kernel_rfl) (by kernel_rfl) (fun _ _ _ h => h) (Or.inl ⟨by kernel_rfl, ?_⟩) hHeld ?_
      rotate_left 1
      · (intro W hSw; (try dsimp only at hSw); go_simp; try with_reducible rfl)
      try simp only [Act.put, List.setIfInBounds_toArray, List.set_cons_succ]
      refine wpAnyH_take (i := 25) (oi := ({ dst := some 92, op := Op.pick (Operand.tmp 79) (Operand.tmp 91) (Operand.const (Value.bool false)), type := 4, pos := "law.go:88", after := #[{ on := 12, ground := Ground.data }, { on := 24, ground := Ground.data }], guard := none } : Oper)) (v := ?_) rfl (by kernel_rfl) (by kernel_rfl) (by kernel_rfl) (fun _ _ _ h => h) (Or.inl ⟨by kernel_rfl, ?_⟩) hHeld ?_
      rotate_left 1
      · (intro W hSw; (try dsimp only at hSw); go_simp; try with_reducible rfl)
      try simp only [Act.put, List.setIfInBounds_toArray, List.set_cons_succ]
      refine wpAnyH_take (i := 26) (oi := ({ dst := some 93, op := Op.move (Operand.tmp 92), type := 4, pos := "law.go:88", after := #[{ on := 25, ground := Ground.data }, { on := 22, ground := Ground.chain }], guard := none } : Oper)) (v := ?_) rfl (by kernel_rfl) (by kernel_rfl) (by kernel_rfl) (fun _ _ _ h => h) (Or.inl ⟨by kernel_rfl, ?_⟩) hHeld ?_
      rotate_left 1
      · (intro W hSw; (try dsimp only at hSw); go_simp; try with_reducible rfl)
      try simp only [Act.put, List.setIfInBounds_toArray, List.set_cons_succ]
      refine wpAnyH_ready (rs := [27]) (by kernel_rfl) (by simp) (AllReadyH.cons (o := ({ dst := some 94, op := Op.call { callee := Callee.value (Operand.func 21), args := #[], argTypes := #[] }, type := 4, pos := "law.go:88", after := #[{ on := 26, ground := Ground.chain }, { on := 26, ground := Ground.guard }], guard := some (26, true) } : Oper)) rfl (fun K hK => ?_) AllReadyH.nil)
      go_simp
      (refine (example_any _).mono ?_; rintro e wq ⟨rfl, hbq⟩; replace HL := Lib.hid (HL.out.step hbq); clear sk; have sk := HL.out.cells; simp only [rectC, List.nil_append, List.cons_append, Cells] at sk; clear hbq)
      refine hK.out _ _ sk (fun hHeld2 => ?_)
      clear hK K hHeld
      have hHeld := hHeld2
      clear hHeld2
      try simp only [Act.put, List.setIfInBounds_toArray, List.set_cons_succ]
      refine wpAnyH_take (i := 28) (oi := ({ dst := some 95, op := Op.pick (Operand.tmp 93) (Operand.tmp 94) (Operand.const (Value.bool false)), type := 4, pos := "law.go:88", after := #[{ on := 26, ground := Ground.data }, { on := 27, ground := Ground.data }], guard := none } : Oper)) (v := ?_) rfl (by kernel_rfl) (by kernel_rfl) (by kernel_rfl) (fun _ _ _ h => h) (Or.inl ⟨by kernel_rfl, ?_⟩) hHeld ?_
      rotate_left 1
      · (intro W hSw; (try dsimp only at hSw); go_simp; try with_reducible rfl)
      try simp only [Act.put, List.setIfInBounds_toArray, List.set_cons_succ]
      refine wpAnyH_take (i := 29) (oi := ({ dst := some 6, op := Op.assign (Operand.tmp 95), type := 4, pos := "law.go:88", after := _, guard := none } : Oper)) (v := ?_) rfl (by kernel_rfl) (by kernel_rfl) (by kernel_rfl) (fun _ _ _ h => h) (Or.inl ⟨by kernel_rfl, ?_⟩) hHeld ?_
      rotate_left 1
      · (intro W hSw; (try dsimp only at hSw); go_simp; try with_reducible rfl)
      try simp only [Act.put, List.setIfInBounds_toArray, List.set_cons_succ]
      refine wpAnyH_done (by kernel_rfl) ?_ _
      go_wp2_with fail
      go_ret
      refine ⟨?_, HL.out.below⟩
      kernel_rfl
    · replace HL := Lib.hid HL.out.drew
      have sk := HL.out.cells; simp only [rectC, List.nil_append, List.cons_append, Cells] at sk
      refine wp_region_held_drew (S := (fun W => W.cell? ⟨w.heap.size, 0, none⟩ = some (.int .i64 a.x0) ∧ W.cell? ⟨w.heap.size, 1, none⟩ = some (.int .i64 a.y0) ∧ W.cell? ⟨w.heap.size, 2, none⟩ = some (.int .i64 a.x1) ∧ W.cell? ⟨w.heap.size, 3, none⟩ = some (.int .i64 a.y1) ∧ W.cell? ⟨w.heap.size + 1, 0, none⟩ = some (.int .i64 b.x0) ∧ W.cell? ⟨w.heap.size + 1, 1, none⟩ = some (.int .i64 b.y0) ∧ W.cell? ⟨w.heap.size + 1, 2, none⟩ = some (.int .i64 b.x1) ∧ W.cell? ⟨w.heap.size + 1, 3, none⟩ = some (.int .i64 b.y1) ∧ W.cell? ⟨w.heap.size + 1 + 1, 0, none⟩ = some (.int .i64 c.x0) ∧ W.cell? ⟨w.heap.size + 1 + 1, 1, none⟩ = some (.int .i64 c.y0) ∧ W.cell? ⟨w.heap.size + 1 + 1, 2, none⟩ = some (.int .i64 c.x1) ∧ W.cell? ⟨w.heap.size + 1 + 1, 3, none⟩ = some (.int .i64 c.y1) ∧ W.cell? ⟨M, 0, none⟩ = some (.int .i64 i.x0) ∧ W.cell? ⟨M, 1, none⟩ = some (.int .i64 i.y0) ∧ W.cell? ⟨M, 2, none⟩ = some (.int .i64 i.x1) ∧ W.cell? ⟨M, 3, none⟩ = some (.int .i64 i.y1) ∧ W.cell? ⟨Nn, 0, none⟩ = some (.int .i64 u.x0) ∧ W.cell? ⟨Nn, 1, none⟩ = some (.int .i64 u.y0) ∧ W.cell? ⟨Nn, 2, none⟩ = some (.int .i64 u.x1) ∧ W.cell? ⟨Nn, 3, none⟩ = some (.int .i64 u.y1))) (by kernel_rfl) sk (fun hHeld => ?_)
      refine wpAnyH_take (i := 0) (oi := ({ dst := some 67, op := Op.load 23 (Operand.tmp 8), type := 23, pos := "law.go:88", after := #[], guard := none } : Oper)) (v := ?_) rfl (by kernel_rfl) (by kernel_rfl) (by kernel_rfl) (fun _ _ _ h => h) (Or.inl ⟨by kernel_rfl, ?_⟩) hHeld ?_
      rotate_left 1
      · (intro W hSw; (try dsimp only at hSw); go_simp; try with_reducible rfl)
      try simp only [Act.put, List.setIfInBounds_toArray, List.set_cons_succ]
      refine wpAnyH_take (i := 1) (oi := ({ dst := some 68, op := Op.load 23 (Operand.tmp 5), type := 23, pos := "law.go:88", after := #[], guard := none } : Oper)) (v := ?_) rfl (by kernel_rfl) (by kernel_rfl) (by kernel_rfl) (fun _ _ _ h => h) (Or.inl ⟨by kernel_rfl, ?_⟩) hHeld ?_
      rotate_left 1
      · (intro W hSw; (try dsimp only at hSw); go_simp; try with_reducible rfl)
      try simp only [Act.put, List.setIfInBounds_toArray, List.set_cons_succ]
      refine wpAnyH_take (i := 3) (oi := ({ dst := some 70, op := Op.load 23 (Operand.tmp 3), type := 23, pos := "law.go:88", after := #[], guard := none } : Oper)) (v := ?_) rfl (by kernel_rfl) (by kernel_rfl) (by kernel_rfl) (fun _ _ _ h => h) (Or.inl ⟨by kernel_rfl, ?_⟩) hHeld ?_
      rotate_left 1
      · (intro W hSw; (try dsimp only at hSw); go_simp; try with_reducible rfl)
      try simp only [Act.put, List.setIfInBounds_toArray, List.set_cons_succ]
      refine wpAnyH_take (i := 4) (oi := ({ dst := some 71, op := Op.load 23 (Operand.tmp 5), type := 23, pos := "law.go:88", after := #[], guard := none } : Oper)) (v := ?_) rfl (by kernel_rfl) (by kernel_rfl) (by kernel_rfl) (fun _ _ _ h => h) (Or.inl ⟨by kernel_rfl, ?_⟩) hHeld ?_
      rotate_left 1
      · (intro W hSw; (try dsimp only at hSw); go_simp; try with_reducible rfl)
      try simp only [Act.put, List.setIfInBounds_toArray, List.set_cons_succ]
      refine wpAnyH_ready (rs := [2]) (by kernel_rfl) (by simp) (AllReadyH.cons (o := ({ dst := some 69, op := Op.call { callee := Callee.value (Operand.func 22), args := #[Operand.tmp 67, Operand.tmp 68], argTypes := #[23, 23] }, type := 4, pos := "law.go:88", after := #[{ on := 0, ground := Ground.data }, { on := 1, ground := Ground.data }], guard := none } : Oper)) rfl (fun K hK => ?_) AllReadyH.nil)
      go_simp
      (refine ((W2 _).out).mono ?_; rintro e wq ⟨rfl, hbq⟩; replace HL := Lib.hid (HL.out.step hbq); clear sk; have sk := HL.out.cells; simp only [rectC, List.nil_append, List.cons_append, Cells] at sk; clear hbq)
      refine hK.out _ _ sk (fun hHeld2 => ?_)
      clear hK K hHeld
      have hHeld := hHeld2
      clear hHeld2
      try simp only [Act.put, List.setIfInBounds_toArray, List.set_cons_succ]
      refine wpAnyH_ready (rs := [5]) (by kernel_rfl) (by simp) (AllReadyH.cons (o := ({ dst := some 72, op := Op.call { callee := Callee.value (Operand.func 22), args := #[Operand.tmp 70, Operand.tmp 71], argTypes := #[23, 23] }, type := 4, pos := "law.go:88", after := #[{ on := 3, ground := Ground.data }, { on := 4, ground := Ground.data }, { on := 2, ground := Ground.chain }], guard := none } : Oper)) rfl (fun K hK => ?_) AllReadyH.nil)
      go_simp
      (refine ((W3 _).out).mono ?_; rintro e wq ⟨rfl, hbq⟩; replace HL := Lib.hid (HL.out.step hbq); clear sk; have sk := HL.out.cells; simp only [rectC, List.nil_append, List.cons_append, Cells] at sk; clear hbq)
      refine hK.out _ _ sk (fun hHeld2 => ?_)
      clear hK K hHeld
      have hHeld := hHeld2
      clear hHeld2
      try simp only [Act.put, List.setIfInBounds_toArray, List.set_cons_succ]
      refine wpAnyH_take (i := 6) (oi := ({ dst := some 73, op := Op.move (Operand.tmp 72), type := 4, pos := "law.go:88", after := #[{ on := 5, ground := Ground.data }, { on := 5, ground := Ground.chain }], guard := none } : Oper)) (v := ?_) rfl (by kernel_rfl) (by kernel_rfl) (by kernel_rfl) (fun _ _ _ h => h) (Or.inl ⟨by kernel_rfl, ?_⟩) hHeld ?_
      rotate_left 1
      · (intro W hSw; (try dsimp only at hSw); go_simp; try with_reducible rfl)
      try simp only [Act.put, List.setIfInBounds_toArray, List.set_cons_succ]
      refine wpAnyH_take (i := 7) (oi := ({ dst := some 74, op := Op.load 23 (Operand.tmp 4), type := 23, pos := "law.go:88", after := #[{ on := 6, ground := Ground.guard }], guard := some (6, true) } : Oper)) (v := ?_) rfl (by kernel_rfl) (by kernel_rfl) (by kernel_rfl) (fun _ _ _ h => h) (Or.inl ⟨by kernel_rfl, ?_⟩) hHeld ?_
      rotate_left 1
      · (intro W hSw; (try dsimp only at hSw); go_simp; try with_reducible rfl)
      try simp only [Act.put, List.setIfInBounds_toArray, List.set_cons_succ]
      refine wpAnyH_take (i := 8) (oi := ({ dst := some 75, op := Op.load 23 (Operand.tmp 5), type := 23, pos := "law.go:88", after := #[{ on := 6, ground := Ground.guard }], guard := some (6, true) } : Oper)) (v := ?_) rfl (by kernel_rfl) (by kernel_rfl) (by kernel_rfl) (fun _ _ _ h => h) (Or.inl ⟨by kernel_rfl, ?_⟩) hHeld ?_
      rotate_left 1
      · (intro W hSw; (try dsimp only at hSw); go_simp; try with_reducible rfl)
      try simp only [Act.put, List.setIfInBounds_toArray, List.set_cons_succ]
      refine wpAnyH_ready (rs := [9]) (by kernel_rfl) (by simp) (AllReadyH.cons (o := ({ dst := some 76, op := Op.call { callee := Callee.value (Operand.func 22), args := #[Operand.tmp 74, Operand.tmp 75], argTypes := #[23, 23] }, type := 4, pos := "law.go:88", after := #[{ on := 7, ground := Ground.data }, { on := 8, ground := Ground.data }, { on := 6, ground := Ground.chain }, { on := 6, ground := Ground.guard }], guard := some (6, true) } : Oper)) rfl (fun K hK => ?_) AllReadyH.nil)
      go_simp
      (refine ((W4 _).out).mono ?_; rintro e wq ⟨rfl, hbq⟩; replace HL := Lib.hid (HL.out.step hbq); clear sk; have sk := HL.out.cells; simp only [rectC, List.nil_append, List.cons_append, Cells] at sk; clear hbq)
      refine hK.out _ _ sk (fun hHeld2 => ?_)
      clear hK K hHeld
      have hHeld := hHeld2
      clear hHeld2
      try simp only [Act.put, List.setIfInBounds_toArray, List.set_cons_succ]
      refine wpAnyH_take (i := 10) (oi := ({ dst := some 77, op := Op.pick (Operand.tmp 73) (Operand.tmp 76) (Operand.const (Value.bool false)), type := 4, pos := "law.go:88", after := #[{ on := 6, ground := Ground.data }, { on := 9, ground := Ground.data }], guard := none } : Oper)) (v := ?_) rfl (by kernel_rfl) (by kernel_rfl) (by kernel_rfl) (fun _ _ _ h => h) (Or.inl ⟨by kernel_rfl, ?_⟩) hHeld ?_
      rotate_left 1
      · (intro W hSw; (try dsimp only at hSw); go_simp; try with_reducible rfl)
      try simp only [Act.put, List.setIfInBounds_toArray, List.set_cons_succ]
      refine wpAnyH_take (i := 11) (oi := ({ dst := some 78, op := Op.binOp BinOp.eql 4 (Operand.tmp 69) (Operand.tmp 77) 4, type := 4, pos := "law.go:88", after := #[{ on := 2, ground := Ground.data }, { on := 10, ground := Ground.data }], guard := none } : Oper)) (v := ?_) rfl (by kernel_rfl) (by kernel_rfl) (by kernel_rfl) (fun _ _ _ h => h) (Or.inl ⟨by kernel_rfl, ?_⟩) hHeld ?_
      rotate_left 1
      · (intro W hSw; (try dsimp only at hSw); go_simp; try with_reducible rfl)
      try simp only [Act.put, List.setIfInBounds_toArray, List.set_cons_succ]
      refine wpAnyH_take (i := 12) (oi := ({ dst := some 79, op := Op.move (Operand.tmp 78), type := 4, pos := "law.go:88", after := #[{ on := 11, ground := Ground.data }, { on := 9, ground := Ground.chain }], guard := none } : Oper)) (v := ?_) rfl (by kernel_rfl) (by kernel_rfl) (by kernel_rfl) (fun _ _ _ h => h) (Or.inl ⟨by kernel_rfl, ?_⟩) hHeld ?_
      rotate_left 1
      · (intro W hSw; (try dsimp only at hSw); go_simp; try with_reducible rfl)
      try simp only [Act.put, List.setIfInBounds_toArray, List.set_cons_succ]
      refine wpAnyH_take (i := 13) (oi := ({ dst := some 80, op := Op.load 23 (Operand.tmp 5), type := 23, pos := "law.go:88", after := #[{ on := 12, ground := Ground.guard }], guard := some (12, true) } : Oper)) (v := ?_) rfl (by kernel_rfl) (by kernel_rfl) (by kernel_rfl) (fun _ _ _ h => h) (Or.inl ⟨by kernel_rfl, ?_⟩) hHeld ?_
      rotate_left 1
      · (intro W hSw; (try dsimp only at hSw); go_simp; try with_reducible rfl)
      try simp only [Act.put, List.setIfInBounds_toArray, List.set_cons_succ]
      refine wpAnyH_take (i := 14) (oi := ({ dst := some 81, op := Op.load 23 (Operand.tmp 7), type := 23, pos := "law.go:88", after := #[{ on := 12, ground := Ground.guard }], guard := some (12, true) } : Oper)) (v := ?_) rfl (by kernel_rfl) (by kernel_rfl) (by kernel_rfl) (fun _ _ _ h => h) (Or.inl ⟨by kernel_rfl, ?_⟩) hHeld ?_
      rotate_left 1
      · (intro W hSw; (try dsimp only at hSw); go_simp; try with_reducible rfl)
      try simp only [Act.put, List.setIfInBounds_toArray, List.set_cons_succ]
      refine wpAnyH_take (i := 16) (oi := ({ dst := some 83, op := Op.load 23 (Operand.tmp 5), type := 23, pos := "law.go:88", after := #[{ on := 12, ground := Ground.guard }], guard := some (12, true) } : Oper)) (v := ?_) rfl (by kernel_rfl) (by kernel_rfl) (by kernel_rfl) (fun _ _ _ h => h) (Or.inl ⟨by kernel_rfl, ?_⟩) hHeld ?_
      rotate_left 1
      · (intro W hSw; (try dsimp only at hSw); go_simp; try with_reducible rfl)
      try simp only [Act.put, List.setIfInBounds_toArray, List.set_cons_succ]
      refine wpAnyH_take (i := 17) (oi := ({ dst := some 84, op := Op.load 23 (Operand.tmp 3), type := 23, pos := "law.go:88", after := #[{ on := 12, ground := Ground.guard }], guard := some (12, true) } : Oper)) (v := ?_) rfl (by kernel_rfl) (by kernel_rfl) (by kernel_rfl) (fun _ _ _ h => h) (Or.inl ⟨by kernel_rfl, ?_⟩) hHeld ?_
      rotate_left 1
      · (intro W hSw; (try dsimp only at hSw); go_simp; try with_reducible rfl)
      try simp only [Act.put, List.setIfInBounds_toArray, List.set_cons_succ]
      refine wpAnyH_ready (rs := [15]) (by kernel_rfl) (by simp) (AllReadyH.cons (o := ({ dst := some 82, op := Op.call { callee := Callee.value (Operand.func 22), args := #[Operand.tmp 80, Operand.tmp 81], argTypes := #[23, 23] }, type := 4, pos := "law.go:88", after := #[{ on := 13, ground := Ground.data }, { on := 14, ground := Ground.data }, { on := 12, ground := Ground.chain }, { on := 12, ground := Ground.guard }], guard := some (12, true) } : Oper)) rfl (fun K hK => ?_) AllReadyH.nil)
      go_simp
      (refine ((W5 _).out).mono ?_; rintro e wq ⟨rfl, hbq⟩; replace HL := Lib.hid (HL.out.step hbq); clear sk; have sk := HL.out.cells; simp only [rectC, List.nil_append, List.cons_append, Cells] at sk; clear hbq)
      refine hK.out _ _ sk (fun hHeld2 => ?_)
      clear hK K hHeld
      have hHeld := hHeld2
      clear hHeld2
      try simp only [Act.put, List.setIfInBounds_toArray, List.set_cons_succ]
      refine wpAnyH_ready (rs := [18]) (by kernel_rfl) (by simp) (AllReadyH.cons (o := ({ dst := some 85, op := Op.call { callee := Callee.value (Operand.func 22), args := #[Operand.tmp 83, Operand.tmp 84], argTypes := #[23, 23] }, type := 4, pos := "law.go:88", after := #[{ on := 16, ground := Ground.data }, { on := 17, ground := Ground.data }, { on := 15, ground := Ground.chain }, { on := 12, ground := Ground.guard }], guard := some (12, true) } : Oper)) rfl (fun K hK => ?_) AllReadyH.nil)
      go_simp
      (refine ((W6 _).out).mono ?_; rintro e wq ⟨rfl, hbq⟩; replace HL := Lib.hid (HL.out.step hbq); clear sk; have sk := HL.out.cells; simp only [rectC, List.nil_append, List.cons_append, Cells] at sk; clear hbq)
      refine hK.out _ _ sk (fun hHeld2 => ?_)
      clear hK K hHeld
      have hHeld := hHeld2
      clear hHeld2
      try simp only [Act.put, List.setIfInBounds_toArray, List.set_cons_succ]
      refine wpAnyH_take (i := 19) (oi := ({ dst := some 86, op := Op.move (Operand.tmp 85), type := 4, pos := "law.go:88", after := #[{ on := 18, ground := Ground.data }, { on := 18, ground := Ground.chain }, { on := 12, ground := Ground.guard }], guard := some (12, true) } : Oper)) (v := ?_) rfl (by kernel_rfl) (by kernel_rfl) (by kernel_rfl) (fun _ _ _ h => h) (Or.inl ⟨by kernel_rfl, ?_⟩) hHeld ?_
      rotate_left 1
      · (intro W hSw; (try dsimp only at hSw); go_simp; try with_reducible rfl)
      try simp only [Act.put, List.setIfInBounds_toArray, List.set_cons_succ]
      refine wpAnyH_take (i := 20) (oi := ({ dst := some 87, op := Op.load 23 (Operand.tmp 5), type := 23, pos := "law.go:88", after := #[{ on := 19, ground := Ground.guard }], guard := some (19, true) } : Oper)) (v := ?_) rfl (by kernel_rfl) (by kernel_rfl) (by kernel_rfl) (fun _ _ _ h => h) (Or.inl ⟨by kernel_rfl, ?_⟩) hHeld ?_
      rotate_left 1
      · (intro W hSw; (try dsimp only at hSw); go_simp; try with_reducible rfl)
      try simp only [Act.put, List.setIfInBounds_toArray, List.set_cons_succ]
      refine wpAnyH_take (i := 21) (oi := ({ dst := some 88, op := Op.load 23 (Operand.tmp 4), type := 23, pos := "law.go:88", after := #[{ on := 19, ground := Ground.guard }], guard := some (19, true) } : Oper)) (v := ?_) rfl (by kernel_rfl) (by kernel_rfl) (by kernel_rfl) (fun _ _ _ h => h) (Or.inl ⟨by kernel_rfl, ?_⟩) hHeld ?_
      rotate_left 1
      · (intro W hSw; (try dsimp only at hSw); go_simp; try with_reducible rfl)
      try simp only [Act.put, List.setIfInBounds_toArray, List.set_cons_succ]
      refine wpAnyH_ready (rs := [22]) (by kernel_rfl) (by simp) (AllReadyH.cons (o := ({ dst := some 89, op := Op.call { callee := Callee.value (Operand.func 22), args := #[Operand.tmp 87, Operand.tmp 88], argTypes := #[23, 23] }, type := 4, pos := "law.go:88", after := #[{ on := 20, ground := Ground.data }, { on := 21, ground := Ground.data }, { on := 19, ground := Ground.chain }, { on := 19, ground := Ground.guard }], guard := some (19, true) } : Oper)) rfl (fun K hK => ?_) AllReadyH.nil)
      go_simp
      (refine ((W7 _).out).mono ?_; rintro e wq ⟨rfl, hbq⟩; replace HL := Lib.hid (HL.out.step hbq); clear sk; have sk := HL.out.cells; simp only [rectC, List.nil_append, List.cons_append, Cells] at sk; clear hbq)
      refine hK.out _ _ sk (fun hHeld2 => ?_)
      clear hK K hHeld
      have hHeld := hHeld2
      clear hHeld2
      try simp only [Act.put, List.setIfInBounds_toArray, List.set_cons_succ]
      refine wpAnyH_take (i := 23) (oi := ({ dst := some 90, op := Op.pick (Operand.tmp 86) (Operand.tmp 89) (Operand.const (Value.bool false)), type := 4, pos := "law.go:88", after := #[{ on := 19, ground := Ground.data }, { on := 22, ground := Ground.data }, { on := 12, ground := Ground.guard }], guard := some (12, true) } : Oper)) (v := ?_) rfl (by kernel_rfl) (by kernel_rfl) (by kernel_rfl) (fun _ _ _ h => h) (Or.inl ⟨by kernel_rfl, ?_⟩) hHeld ?_
      rotate_left 1
      · (intro W hSw; (try dsimp only at hSw); go_simp; try with_reducible rfl)
      try simp only [Act.put, List.setIfInBounds_toArray, List.set_cons_succ]
      refine wpAnyH_take (i := 24) (oi := ({ dst := some 91, op := Op.binOp BinOp.eql 4 (Operand.tmp 82) (Operand.tmp 90) 4, type := 4, pos := "law.go:88", after := #[{ on := 15, ground := Ground.data }, { on := 23, ground := Ground.data }, { on := 12, ground := Ground.guard }], guard := some (12, true) } : Oper)) (v := ?_) rfl (by kernel_rfl) (by kernel_rfl) (by kernel_rfl) (fun _ _ _ h => h) (Or.inl ⟨by kernel_rfl, ?_⟩) hHeld ?_
      rotate_left 1
      · (intro W hSw; (try dsimp only at hSw); go_simp; try with_reducible rfl)
      try simp only [Act.put, List.setIfInBounds_toArray, List.set_cons_succ]
      refine wpAnyH_take (i := 25) (oi := ({ dst := some 92, op := Op.pick (Operand.tmp 79) (Operand.tmp 91) (Operand.const (Value.bool false)), type := 4, pos := "law.go:88", after := #[{ on := 12, ground := Ground.data }, { on := 24, ground := Ground.data }], guard := none } : Oper)) (v := ?_) rfl (by kernel_rfl) (by kernel_rfl) (by kernel_rfl) (fun _ _ _ h => h) (Or.inl ⟨by kernel_rfl, ?_⟩) hHeld ?_
      rotate_left 1
      · (intro W hSw; (try dsimp only at hSw); go_simp; try with_reducible rfl)
      try simp only [Act.put, List.setIfInBounds_toArray, List.set_cons_succ]
      refine wpAnyH_take (i := 26) (oi := ({ dst := some 93, op := Op.move (Operand.tmp 92), type := 4, pos := "law.go:88", after := #[{ on := 25, ground := Ground.data }, { on := 22, ground := Ground.chain }], guard := none } : Oper)) (v := ?_) rfl (by kernel_rfl) (by kernel_rfl) (by kernel_rfl) (fun _ _ _ h => h) (Or.inl ⟨by kernel_rfl, ?_⟩) hHeld ?_
      rotate_left 1
      · (intro W hSw; (try dsimp only at hSw); go_simp; try with_reducible rfl)
      try simp only [Act.put, List.setIfInBounds_toArray, List.set_cons_succ]
      refine wpAnyH_ready (rs := [27]) (by kernel_rfl) (by simp) (AllReadyH.cons (o := ({ dst := some 94, op := Op.call { callee := Callee.value (Operand.func 21), args := #[], argTypes := #[] }, type := 4, pos := "law.go:88", after := #[{ on := 26, ground := Ground.chain }, { on := 26, ground := Ground.guard }], guard := some (26, true) } : Oper)) rfl (fun K hK => ?_) AllReadyH.nil)
      go_simp
      (refine (example_any _).mono ?_; rintro e wq ⟨rfl, hbq⟩; replace HL := Lib.hid (HL.out.step hbq); clear sk; have sk := HL.out.cells; simp only [rectC, List.nil_append, List.cons_append, Cells] at sk; clear hbq)
      refine hK.out _ _ sk (fun hHeld2 => ?_)
      clear hK K hHeld
      have hHeld := hHeld2
      clear hHeld2
      try simp only [Act.put, List.setIfInBounds_toArray, List.set_cons_succ]
      refine wpAnyH_take (i := 28) (oi := ({ dst := some 95, op := Op.pick (Operand.tmp 93) (Operand.tmp 94) (Operand.const (Value.bool false)), type := 4, pos := "law.go:88", after := #[{ on := 26, ground := Ground.data }, { on := 27, ground := Ground.data }], guard := none } : Oper)) (v := ?_) rfl (by kernel_rfl) (by kernel_rfl) (by kernel_rfl) (fun _ _ _ h => h) (Or.inl ⟨by kernel_rfl, ?_⟩) hHeld ?_
      rotate_left 1
      · (intro W hSw; (try dsimp only at hSw); go_simp; try with_reducible rfl)
      try simp only [Act.put, List.setIfInBounds_toArray, List.set_cons_succ]
      refine wpAnyH_take (i := 29) (oi := ({ dst := some 6, op := Op.assign (Operand.tmp 95), type := 4, pos := "law.go:88", after := _, guard := none } : Oper)) (v := ?_) rfl (by kernel_rfl) (by kernel_rfl) (by kernel_rfl) (fun _ _ _ h => h) (Or.inl ⟨by kernel_rfl, ?_⟩) hHeld ?_
      rotate_left 1
      · (intro W hSw; (try dsimp only at hSw); go_simp; try with_reducible rfl)
      try simp only [Act.put, List.setIfInBounds_toArray, List.set_cons_succ]
      refine wpAnyH_done (by kernel_rfl) ?_ _
      go_wp2_with fail
      go_ret
      refine ⟨?_, HL.out.below⟩
      kernel_rfl
    · replace HL := Lib.hid HL.out.drew
      have sk := HL.out.cells; simp only [rectC, List.nil_append, List.cons_append, Cells] at sk
      refine wp_region_held_drew (S := (fun W => W.cell? ⟨w.heap.size, 0, none⟩ = some (.int .i64 a.x0) ∧ W.cell? ⟨w.heap.size, 1, none⟩ = some (.int .i64 a.y0) ∧ W.cell? ⟨w.heap.size, 2, none⟩ = some (.int .i64 a.x1) ∧ W.cell? ⟨w.heap.size, 3, none⟩ = some (.int .i64 a.y1) ∧ W.cell? ⟨w.heap.size + 1, 0, none⟩ = some (.int .i64 b.x0) ∧ W.cell? ⟨w.heap.size + 1, 1, none⟩ = some (.int .i64 b.y0) ∧ W.cell? ⟨w.heap.size + 1, 2, none⟩ = some (.int .i64 b.x1) ∧ W.cell? ⟨w.heap.size + 1, 3, none⟩ = some (.int .i64 b.y1) ∧ W.cell? ⟨w.heap.size + 1 + 1, 0, none⟩ = some (.int .i64 c.x0) ∧ W.cell? ⟨w.heap.size + 1 + 1, 1, none⟩ = some (.int .i64 c.y0) ∧ W.cell? ⟨w.heap.size + 1 + 1, 2, none⟩ = some (.int .i64 c.x1) ∧ W.cell? ⟨w.heap.size + 1 + 1, 3, none⟩ = some (.int .i64 c.y1) ∧ W.cell? ⟨M, 0, none⟩ = some (.int .i64 i.x0) ∧ W.cell? ⟨M, 1, none⟩ = some (.int .i64 i.y0) ∧ W.cell? ⟨M, 2, none⟩ = some (.int .i64 i.x1) ∧ W.cell? ⟨M, 3, none⟩ = some (.int .i64 i.y1) ∧ W.cell? ⟨Nn, 0, none⟩ = some (.int .i64 u.x0) ∧ W.cell? ⟨Nn, 1, none⟩ = some (.int .i64 u.y0) ∧ W.cell? ⟨Nn, 2, none⟩ = some (.int .i64 u.x1) ∧ W.cell? ⟨Nn, 3, none⟩ = some (.int .i64 u.y1))) (by kernel_rfl) sk (fun hHeld => ?_)
      refine wpAnyH_take (i := 0) (oi := ({ dst := some 67, op := Op.load 23 (Operand.tmp 8), type := 23, pos := "law.go:88", after := #[], guard := none } : Oper)) (v := ?_) rfl (by kernel_rfl) (by kernel_rfl) (by kernel_rfl) (fun _ _ _ h => h) (Or.inl ⟨by kernel_rfl, ?_⟩) hHeld ?_
      rotate_left 1
      · (intro W hSw; (try dsimp only at hSw); go_simp; try with_reducible rfl)
      try simp only [Act.put, List.setIfInBounds_toArray, List.set_cons_succ]
      refine wpAnyH_take (i := 1) (oi := ({ dst := some 68, op := Op.load 23 (Operand.tmp 5), type := 23, pos := "law.go:88", after := #[], guard := none } : Oper)) (v := ?_) rfl (by kernel_rfl) (by kernel_rfl) (by kernel_rfl) (fun _ _ _ h => h) (Or.inl ⟨by kernel_rfl, ?_⟩) hHeld ?_
      rotate_left 1
      · (intro W hSw; (try dsimp only at hSw); go_simp; try with_reducible rfl)
      try simp only [Act.put, List.setIfInBounds_toArray, List.set_cons_succ]
      refine wpAnyH_take (i := 3) (oi := ({ dst := some 70, op := Op.load 23 (Operand.tmp 3), type := 23, pos := "law.go:88", after := #[], guard := none } : Oper)) (v := ?_) rfl (by kernel_rfl) (by kernel_rfl) (by kernel_rfl) (fun _ _ _ h => h) (Or.inl ⟨by kernel_rfl, ?_⟩) hHeld ?_
      rotate_left 1
      · (intro W hSw; (try dsimp only at hSw); go_simp; try with_reducible rfl)
      try simp only [Act.put, List.setIfInBounds_toArray, List.set_cons_succ]
      refine wpAnyH_take (i := 4) (oi := ({ dst := some 71, op := Op.load 23 (Operand.tmp 5), type := 23, pos := "law.go:88", after := #[], guard := none } : Oper)) (v := ?_) rfl (by kernel_rfl) (by kernel_rfl) (by kernel_rfl) (fun _ _ _ h => h) (Or.inl ⟨by kernel_rfl, ?_⟩) hHeld ?_
      rotate_left 1
      · (intro W hSw; (try dsimp only at hSw); go_simp; try with_reducible rfl)
      try simp only [Act.put, List.setIfInBounds_toArray, List.set_cons_succ]
      refine wpAnyH_ready (rs := [2]) (by kernel_rfl) (by simp) (AllReadyH.cons (o := ({ dst := some 69, op := Op.call { callee := Callee.value (Operand.func 22), args := #[Operand.tmp 67, Operand.tmp 68], argTypes := #[23, 23] }, type := 4, pos := "law.go:88", after := #[{ on := 0, ground := Ground.data }, { on := 1, ground := Ground.data }], guard := none } : Oper)) rfl (fun K hK => ?_) AllReadyH.nil)
      go_simp
      (refine ((W2 _).out).mono ?_; rintro e wq ⟨rfl, hbq⟩; replace HL := Lib.hid (HL.out.step hbq); clear sk; have sk := HL.out.cells; simp only [rectC, List.nil_append, List.cons_append, Cells] at sk; clear hbq)
      refine hK.out _ _ sk (fun hHeld2 => ?_)
      clear hK K hHeld
      have hHeld := hHeld2
      clear hHeld2
      try simp only [Act.put, List.setIfInBounds_toArray, List.set_cons_succ]
      refine wpAnyH_ready (rs := [5]) (by kernel_rfl) (by simp) (AllReadyH.cons (o := ({ dst := some 72, op := Op.call { callee := Callee.value (Operand.func 22), args := #[Operand.tmp 70, Operand.tmp 71], argTypes := #[23, 23] }, type := 4, pos := "law.go:88", after := #[{ on := 3, ground := Ground.data }, { on := 4, ground := Ground.data }, { on := 2, ground := Ground.chain }], guard := none } : Oper)) rfl (fun K hK => ?_) AllReadyH.nil)
      go_simp
      (refine ((W3 _).out).mono ?_; rintro e wq ⟨rfl, hbq⟩; replace HL := Lib.hid (HL.out.step hbq); clear sk; have sk := HL.out.cells; simp only [rectC, List.nil_append, List.cons_append, Cells] at sk; clear hbq)
      refine hK.out _ _ sk (fun hHeld2 => ?_)
      clear hK K hHeld
      have hHeld := hHeld2
      clear hHeld2
      try simp only [Act.put, List.setIfInBounds_toArray, List.set_cons_succ]
      refine wpAnyH_take (i := 6) (oi := ({ dst := some 73, op := Op.move (Operand.tmp 72), type := 4, pos := "law.go:88", after := #[{ on := 5, ground := Ground.data }, { on := 5, ground := Ground.chain }], guard := none } : Oper)) (v := ?_) rfl (by kernel_rfl) (by kernel_rfl) (by kernel_rfl) (fun _ _ _ h => h) (Or.inl ⟨by kernel_rfl, ?_⟩) hHeld ?_
      rotate_left 1
      · (intro W hSw; (try dsimp only at hSw); go_simp; try with_reducible rfl)
      try simp only [Act.put, List.setIfInBounds_toArray, List.set_cons_succ]
      refine wpAnyH_take (i := 7) (oi := ({ dst := some 74, op := Op.load 23 (Operand.tmp 4), type := 23, pos := "law.go:88", after := #[{ on := 6, ground := Ground.guard }], guard := some (6, true) } : Oper)) (v := ?_) rfl (by kernel_rfl) (by kernel_rfl) (by kernel_rfl) (fun _ _ _ h => h) (Or.inl ⟨by kernel_rfl, ?_⟩) hHeld ?_
      rotate_left 1
      · (intro W hSw; (try dsimp only at hSw); go_simp; try with_reducible rfl)
      try simp only [Act.put, List.setIfInBounds_toArray, List.set_cons_succ]
      refine wpAnyH_take (i := 8) (oi := ({ dst := some 75, op := Op.load 23 (Operand.tmp 5), type := 23, pos := "law.go:88", after := #[{ on := 6, ground := Ground.guard }], guard := some (6, true) } : Oper)) (v := ?_) rfl (by kernel_rfl) (by kernel_rfl) (by kernel_rfl) (fun _ _ _ h => h) (Or.inl ⟨by kernel_rfl, ?_⟩) hHeld ?_
      rotate_left 1
      · (intro W hSw; (try dsimp only at hSw); go_simp; try with_reducible rfl)
      try simp only [Act.put, List.setIfInBounds_toArray, List.set_cons_succ]
      refine wpAnyH_ready (rs := [9]) (by kernel_rfl) (by simp) (AllReadyH.cons (o := ({ dst := some 76, op := Op.call { callee := Callee.value (Operand.func 22), args := #[Operand.tmp 74, Operand.tmp 75], argTypes := #[23, 23] }, type := 4, pos := "law.go:88", after := #[{ on := 7, ground := Ground.data }, { on := 8, ground := Ground.data }, { on := 6, ground := Ground.chain }, { on := 6, ground := Ground.guard }], guard := some (6, true) } : Oper)) rfl (fun K hK => ?_) AllReadyH.nil)
      go_simp
      (refine ((W4 _).out).mono ?_; rintro e wq ⟨rfl, hbq⟩; replace HL := Lib.hid (HL.out.step hbq); clear sk; have sk := HL.out.cells; simp only [rectC, List.nil_append, List.cons_append, Cells] at sk; clear hbq)
      refine hK.out _ _ sk (fun hHeld2 => ?_)
      clear hK K hHeld
      have hHeld := hHeld2
      clear hHeld2
      try simp only [Act.put, List.setIfInBounds_toArray, List.set_cons_succ]
      refine wpAnyH_take (i := 10) (oi := ({ dst := some 77, op := Op.pick (Operand.tmp 73) (Operand.tmp 76) (Operand.const (Value.bool false)), type := 4, pos := "law.go:88", after := #[{ on := 6, ground := Ground.data }, { on := 9, ground := Ground.data }], guard := none } : Oper)) (v := ?_) rfl (by kernel_rfl) (by kernel_rfl) (by kernel_rfl) (fun _ _ _ h => h) (Or.inl ⟨by kernel_rfl, ?_⟩) hHeld ?_
      rotate_left 1
      · (intro W hSw; (try dsimp only at hSw); go_simp; try with_reducible rfl)
      try simp only [Act.put, List.setIfInBounds_toArray, List.set_cons_succ]
      refine wpAnyH_take (i := 11) (oi := ({ dst := some 78, op := Op.binOp BinOp.eql 4 (Operand.tmp 69) (Operand.tmp 77) 4, type := 4, pos := "law.go:88", after := #[{ on := 2, ground := Ground.data }, { on := 10, ground := Ground.data }], guard := none } : Oper)) (v := ?_) rfl (by kernel_rfl) (by kernel_rfl) (by kernel_rfl) (fun _ _ _ h => h) (Or.inl ⟨by kernel_rfl, ?_⟩) hHeld ?_
      rotate_left 1
      · (intro W hSw; (try dsimp only at hSw); go_simp; try with_reducible rfl)
      try simp only [Act.put, List.setIfInBounds_toArray, List.set_cons_succ]
      refine wpAnyH_take (i := 12) (oi := ({ dst := some 79, op := Op.move (Operand.tmp 78), type := 4, pos := "law.go:88", after := #[{ on := 11, ground := Ground.data }, { on := 9, ground := Ground.chain }], guard := none } : Oper)) (v := ?_) rfl (by kernel_rfl) (by kernel_rfl) (by kernel_rfl) (fun _ _ _ h => h) (Or.inl ⟨by kernel_rfl, ?_⟩) hHeld ?_
      rotate_left 1
      · (intro W hSw; (try dsimp only at hSw); go_simp; try with_reducible rfl)
      try simp only [Act.put, List.setIfInBounds_toArray, List.set_cons_succ]
      refine wpAnyH_take (i := 13) (oi := ({ dst := some 80, op := Op.load 23 (Operand.tmp 5), type := 23, pos := "law.go:88", after := #[{ on := 12, ground := Ground.guard }], guard := some (12, true) } : Oper)) (v := ?_) rfl (by kernel_rfl) (by kernel_rfl) (by kernel_rfl) (fun _ _ _ h => h) (Or.inl ⟨by kernel_rfl, ?_⟩) hHeld ?_
      rotate_left 1
      · (intro W hSw; (try dsimp only at hSw); go_simp; try with_reducible rfl)
      try simp only [Act.put, List.setIfInBounds_toArray, List.set_cons_succ]
      refine wpAnyH_take (i := 14) (oi := ({ dst := some 81, op := Op.load 23 (Operand.tmp 7), type := 23, pos := "law.go:88", after := #[{ on := 12, ground := Ground.guard }], guard := some (12, true) } : Oper)) (v := ?_) rfl (by kernel_rfl) (by kernel_rfl) (by kernel_rfl) (fun _ _ _ h => h) (Or.inl ⟨by kernel_rfl, ?_⟩) hHeld ?_
      rotate_left 1
      · (intro W hSw; (try dsimp only at hSw); go_simp; try with_reducible rfl)
      try simp only [Act.put, List.setIfInBounds_toArray, List.set_cons_succ]
      refine wpAnyH_take (i := 16) (oi := ({ dst := some 83, op := Op.load 23 (Operand.tmp 5), type := 23, pos := "law.go:88", after := #[{ on := 12, ground := Ground.guard }], guard := some (12, true) } : Oper)) (v := ?_) rfl (by kernel_rfl) (by kernel_rfl) (by kernel_rfl) (fun _ _ _ h => h) (Or.inl ⟨by kernel_rfl, ?_⟩) hHeld ?_
      rotate_left 1
      · (intro W hSw; (try dsimp only at hSw); go_simp; try with_reducible rfl)
      try simp only [Act.put, List.setIfInBounds_toArray, List.set_cons_succ]
      refine wpAnyH_take (i := 17) (oi := ({ dst := some 84, op := Op.load 23 (Operand.tmp 3), type := 23, pos := "law.go:88", after := #[{ on := 12, ground := Ground.guard }], guard := some (12, true) } : Oper)) (v := ?_) rfl (by kernel_rfl) (by kernel_rfl) (by kernel_rfl) (fun _ _ _ h => h) (Or.inl ⟨by kernel_rfl, ?_⟩) hHeld ?_
      rotate_left 1
      · (intro W hSw; (try dsimp only at hSw); go_simp; try with_reducible rfl)
      try simp only [Act.put, List.setIfInBounds_toArray, List.set_cons_succ]
      refine wpAnyH_ready (rs := [15]) (by kernel_rfl) (by simp) (AllReadyH.cons (o := ({ dst := some 82, op := Op.call { callee := Callee.value (Operand.func 22), args := #[Operand.tmp 80, Operand.tmp 81], argTypes := #[23, 23] }, type := 4, pos := "law.go:88", after := #[{ on := 13, ground := Ground.data }, { on := 14, ground := Ground.data }, { on := 12, ground := Ground.chain }, { on := 12, ground := Ground.guard }], guard := some (12, true) } : Oper)) rfl (fun K hK => ?_) AllReadyH.nil)
      go_simp
      (refine ((W5 _).out).mono ?_; rintro e wq ⟨rfl, hbq⟩; replace HL := Lib.hid (HL.out.step hbq); clear sk; have sk := HL.out.cells; simp only [rectC, List.nil_append, List.cons_append, Cells] at sk; clear hbq)
      refine hK.out _ _ sk (fun hHeld2 => ?_)
      clear hK K hHeld
      have hHeld := hHeld2
      clear hHeld2
      try simp only [Act.put, List.setIfInBounds_toArray, List.set_cons_succ]
      refine wpAnyH_ready (rs := [18]) (by kernel_rfl) (by simp) (AllReadyH.cons (o := ({ dst := some 85, op := Op.call { callee := Callee.value (Operand.func 22), args := #[Operand.tmp 83, Operand.tmp 84], argTypes := #[23, 23] }, type := 4, pos := "law.go:88", after := #[{ on := 16, ground := Ground.data }, { on := 17, ground := Ground.data }, { on := 15, ground := Ground.chain }, { on := 12, ground := Ground.guard }], guard := some (12, true) } : Oper)) rfl (fun K hK => ?_) AllReadyH.nil)
      go_simp
      (refine ((W6 _).out).mono ?_; rintro e wq ⟨rfl, hbq⟩; replace HL := Lib.hid (HL.out.step hbq); clear sk; have sk := HL.out.cells; simp only [rectC, List.nil_append, List.cons_append, Cells] at sk; clear hbq)
      refine hK.out _ _ sk (fun hHeld2 => ?_)
      clear hK K hHeld
      have hHeld := hHeld2
      clear hHeld2
      try simp only [Act.put, List.setIfInBounds_toArray, List.set_cons_succ]
      refine wpAnyH_take (i := 19) (oi := ({ dst := some 86, op := Op.move (Operand.tmp 85), type := 4, pos := "law.go:88", after := #[{ on := 18, ground := Ground.data }, { on := 18, ground := Ground.chain }, { on := 12, ground := Ground.guard }], guard := some (12, true) } : Oper)) (v := ?_) rfl (by kernel_rfl) (by kernel_rfl) (by kernel_rfl) (fun _ _ _ h => h) (Or.inl ⟨by kernel_rfl, ?_⟩) hHeld ?_
      rotate_left 1
      · (intro W hSw; (try dsimp only at hSw); go_simp; try with_reducible rfl)
      try simp only [Act.put, List.setIfInBounds_toArray, List.set_cons_succ]
      refine wpAnyH_take (i := 20) (oi := ({ dst := some 87, op := Op.load 23 (Operand.tmp 5), type := 23, pos := "law.go:88", after := #[{ on := 19, ground := Ground.guard }], guard := some (19, true) } : Oper)) (v := ?_) rfl (by kernel_rfl) (by kernel_rfl) (by kernel_rfl) (fun _ _ _ h => h) (Or.inl ⟨by kernel_rfl, ?_⟩) hHeld ?_
      rotate_left 1
      · (intro W hSw; (try dsimp only at hSw); go_simp; try with_reducible rfl)
      try simp only [Act.put, List.setIfInBounds_toArray, List.set_cons_succ]
      refine wpAnyH_take (i := 21) (oi := ({ dst := some 88, op := Op.load 23 (Operand.tmp 4), type := 23, pos := "law.go:88", after := #[{ on := 19, ground := Ground.guard }], guard := some (19, true) } : Oper)) (v := ?_) rfl (by kernel_rfl) (by kernel_rfl) (by kernel_rfl) (fun _ _ _ h => h) (Or.inl ⟨by kernel_rfl, ?_⟩) hHeld ?_
      rotate_left 1
      · (intro W hSw; (try dsimp only at hSw); go_simp; try with_reducible rfl)
      try simp only [Act.put, List.setIfInBounds_toArray, List.set_cons_succ]
      refine wpAnyH_ready (rs := [22]) (by kernel_rfl) (by simp) (AllReadyH.cons (o := ({ dst := some 89, op := Op.call { callee := Callee.value (Operand.func 22), args := #[Operand.tmp 87, Operand.tmp 88], argTypes := #[23, 23] }, type := 4, pos := "law.go:88", after := #[{ on := 20, ground := Ground.data }, { on := 21, ground := Ground.data }, { on := 19, ground := Ground.chain }, { on := 19, ground := Ground.guard }], guard := some (19, true) } : Oper)) rfl (fun K hK => ?_) AllReadyH.nil)
      go_simp
      (refine ((W7 _).out).mono ?_; rintro e wq ⟨rfl, hbq⟩; replace HL := Lib.hid (HL.out.step hbq); clear sk; have sk := HL.out.cells; simp only [rectC, List.nil_append, List.cons_append, Cells] at sk; clear hbq)
      refine hK.out _ _ sk (fun hHeld2 => ?_)
      clear hK K hHeld
      have hHeld := hHeld2
      clear hHeld2
      try simp only [Act.put, List.setIfInBounds_toArray, List.set_cons_succ]
      refine wpAnyH_take (i := 23) (oi := ({ dst := some 90, op := Op.pick (Operand.tmp 86) (Operand.tmp 89) (Operand.const (Value.bool false)), type := 4, pos := "law.go:88", after := #[{ on := 19, ground := Ground.data }, { on := 22, ground := Ground.data }, { on := 12, ground := Ground.guard }], guard := some (12, true) } : Oper)) (v := ?_) rfl (by kernel_rfl) (by kernel_rfl) (by kernel_rfl) (fun _ _ _ h => h) (Or.inl ⟨by kernel_rfl, ?_⟩) hHeld ?_
      rotate_left 1
      · (intro W hSw; (try dsimp only at hSw); go_simp; try with_reducible rfl)
      try simp only [Act.put, List.setIfInBounds_toArray, List.set_cons_succ]
      refine wpAnyH_take (i := 24) (oi := ({ dst := some 91, op := Op.binOp BinOp.eql 4 (Operand.tmp 82) (Operand.tmp 90) 4, type := 4, pos := "law.go:88", after := #[{ on := 15, ground := Ground.data }, { on := 23, ground := Ground.data }, { on := 12, ground := Ground.guard }], guard := some (12, true) } : Oper)) (v := ?_) rfl (by kernel_rfl) (by kernel_rfl) (by kernel_rfl) (fun _ _ _ h => h) (Or.inl ⟨by kernel_rfl, ?_⟩) hHeld ?_
      rotate_left 1
      · (intro W hSw; (try dsimp only at hSw); go_simp; try with_reducible rfl)
      try simp only [Act.put, List.setIfInBounds_toArray, List.set_cons_succ]
      refine wpAnyH_take (i := 25) (oi := ({ dst := some 92, op := Op.pick (Operand.tmp 79) (Operand.tmp 91) (Operand.const (Value.bool false)), type := 4, pos := "law.go:88", after := #[{ on := 12, ground := Ground.data }, { on := 24, ground := Ground.data }], guard := none } : Oper)) (v := ?_) rfl (by kernel_rfl) (by kernel_rfl) (by kernel_rfl) (fun _ _ _ h => h) (Or.inl ⟨by kernel_rfl, ?_⟩) hHeld ?_
      rotate_left 1
      · (intro W hSw; (try dsimp only at hSw); go_simp; try with_reducible rfl)
      try simp only [Act.put, List.setIfInBounds_toArray, List.set_cons_succ]
      refine wpAnyH_take (i := 26) (oi := ({ dst := some 93, op := Op.move (Operand.tmp 92), type := 4, pos := "law.go:88", after := #[{ on := 25, ground := Ground.data }, { on := 22, ground := Ground.chain }], guard := none } : Oper)) (v := ?_) rfl (by kernel_rfl) (by kernel_rfl) (by kernel_rfl) (fun _ _ _ h => h) (Or.inl ⟨by kernel_rfl, ?_⟩) hHeld ?_
      rotate_left 1
      · (intro W hSw; (try dsimp only at hSw); go_simp; try with_reducible rfl)
      try simp only [Act.put, List.setIfInBounds_toArray, List.set_cons_succ]
      refine wpAnyH_ready (rs := [27]) (by kernel_rfl) (by simp) (AllReadyH.cons (o := ({ dst := some 94, op := Op.call { callee := Callee.value (Operand.func 21), args := #[], argTypes := #[] }, type := 4, pos := "law.go:88", after := #[{ on := 26, ground := Ground.chain }, { on := 26, ground := Ground.guard }], guard := some (26, true) } : Oper)) rfl (fun K hK => ?_) AllReadyH.nil)
      go_simp
      (refine (example_any _).mono ?_; rintro e wq ⟨rfl, hbq⟩; replace HL := Lib.hid (HL.out.step hbq); clear sk; have sk := HL.out.cells; simp only [rectC, List.nil_append, List.cons_append, Cells] at sk; clear hbq)
      refine hK.out _ _ sk (fun hHeld2 => ?_)
      clear hK K hHeld
      have hHeld := hHeld2
      clear hHeld2
      try simp only [Act.put, List.setIfInBounds_toArray, List.set_cons_succ]
      refine wpAnyH_take (i := 28) (oi := ({ dst := some 95, op := Op.pick (Operand.tmp 93) (Operand.tmp 94) (Operand.const (Value.bool false)), type := 4, pos := "law.go:88", after := #[{ on := 26, ground := Ground.data }, { on := 27, ground := Ground.data }], guard := none } : Oper)) (v := ?_) rfl (by kernel_rfl) (by kernel_rfl) (by kernel_rfl) (fun _ _ _ h => h) (Or.inl ⟨by kernel_rfl, ?_⟩) hHeld ?_
      rotate_left 1
      · (intro W hSw; (try dsimp only at hSw); go_simp; try with_reducible rfl)
      try simp only [Act.put, List.setIfInBounds_toArray, List.set_cons_succ]
      refine wpAnyH_take (i := 29) (oi := ({ dst := some 6, op := Op.assign (Operand.tmp 95), type := 4, pos := "law.go:88", after := _, guard := none } : Oper)) (v := ?_) rfl (by kernel_rfl) (by kernel_rfl) (by kernel_rfl) (fun _ _ _ h => h) (Or.inl ⟨by kernel_rfl, ?_⟩) hHeld ?_
      rotate_left 1
      · (intro W hSw; (try dsimp only at hSw); go_simp; try with_reducible rfl)
      try simp only [Act.put, List.setIfInBounds_toArray, List.set_cons_succ]
      refine wpAnyH_done (by kernel_rfl) ?_ _
      go_wp2_with fail
      go_ret
      refine ⟨?_, HL.out.below⟩
      kernel_rfl
    · replace HL := Lib.hid HL.out.drew
      have sk := HL.out.cells; simp only [rectC, List.nil_append, List.cons_append, Cells] at sk
      refine wp_region_held_drew (S := (fun W => W.cell? ⟨w.heap.size, 0, none⟩ = some (.int .i64 a.x0) ∧ W.cell? ⟨w.heap.size, 1, none⟩ = some (.int .i64 a.y0) ∧ W.cell? ⟨w.heap.size, 2, none⟩ = some (.int .i64 a.x1) ∧ W.cell? ⟨w.heap.size, 3, none⟩ = some (.int .i64 a.y1) ∧ W.cell? ⟨w.heap.size + 1, 0, none⟩ = some (.int .i64 b.x0) ∧ W.cell? ⟨w.heap.size + 1, 1, none⟩ = some (.int .i64 b.y0) ∧ W.cell? ⟨w.heap.size + 1, 2, none⟩ = some (.int .i64 b.x1) ∧ W.cell? ⟨w.heap.size + 1, 3, none⟩ = some (.int .i64 b.y1) ∧ W.cell? ⟨w.heap.size + 1 + 1, 0, none⟩ = some (.int .i64 c.x0) ∧ W.cell? ⟨w.heap.size + 1 + 1, 1, none⟩ = some (.int .i64 c.y0) ∧ W.cell? ⟨w.heap.size + 1 + 1, 2, none⟩ = some (.int .i64 c.x1) ∧ W.cell? ⟨w.heap.size + 1 + 1, 3, none⟩ = some (.int .i64 c.y1) ∧ W.cell? ⟨M, 0, none⟩ = some (.int .i64 i.x0) ∧ W.cell? ⟨M, 1, none⟩ = some (.int .i64 i.y0) ∧ W.cell? ⟨M, 2, none⟩ = some (.int .i64 i.x1) ∧ W.cell? ⟨M, 3, none⟩ = some (.int .i64 i.y1) ∧ W.cell? ⟨Nn, 0, none⟩ = some (.int .i64 u.x0) ∧ W.cell? ⟨Nn, 1, none⟩ = some (.int .i64 u.y0) ∧ W.cell? ⟨Nn, 2, none⟩ = some (.int .i64 u.x1) ∧ W.cell? ⟨Nn, 3, none⟩ = some (.int .i64 u.y1))) (by kernel_rfl) sk (fun hHeld => ?_)
      refine wpAnyH_take (i := 0) (oi := ({ dst := some 67, op := Op.load 23 (Operand.tmp 8), type := 23, pos := "law.go:88", after := #[], guard := none } : Oper)) (v := ?_) rfl (by kernel_rfl) (by kernel_rfl) (by kernel_rfl) (fun _ _ _ h => h) (Or.inl ⟨by kernel_rfl, ?_⟩) hHeld ?_
      rotate_left 1
      · (intro W hSw; (try dsimp only at hSw); go_simp; try with_reducible rfl)
      try simp only [Act.put, List.setIfInBounds_toArray, List.set_cons_succ]
      refine wpAnyH_take (i := 1) (oi := ({ dst := some 68, op := Op.load 23 (Operand.tmp 5), type := 23, pos := "law.go:88", after := #[], guard := none } : Oper)) (v := ?_) rfl (by kernel_rfl) (by kernel_rfl) (by kernel_rfl) (fun _ _ _ h => h) (Or.inl ⟨by kernel_rfl, ?_⟩) hHeld ?_
      rotate_left 1
      · (intro W hSw; (try dsimp only at hSw); go_simp; try with_reducible rfl)
      try simp only [Act.put, List.setIfInBounds_toArray, List.set_cons_succ]
      refine wpAnyH_take (i := 3) (oi := ({ dst := some 70, op := Op.load 23 (Operand.tmp 3), type := 23, pos := "law.go:88", after := #[], guard := none } : Oper)) (v := ?_) rfl (by kernel_rfl) (by kernel_rfl) (by kernel_rfl) (fun _ _ _ h => h) (Or.inl ⟨by kernel_rfl, ?_⟩) hHeld ?_
      rotate_left 1
      · (intro W hSw; (try dsimp only at hSw); go_simp; try with_reducible rfl)
      try simp only [Act.put, List.setIfInBounds_toArray, List.set_cons_succ]
      refine wpAnyH_take (i := 4) (oi := ({ dst := some 71, op := Op.load 23 (Operand.tmp 5), type := 23, pos := "law.go:88", after := #[], guard := none } : Oper)) (v := ?_) rfl (by kernel_rfl) (by kernel_rfl) (by kernel_rfl) (fun _ _ _ h => h) (Or.inl ⟨by kernel_rfl, ?_⟩) hHeld ?_
      rotate_left 1
      · (intro W hSw; (try dsimp only at hSw); go_simp; try with_reducible rfl)
      try simp only [Act.put, List.setIfInBounds_toArray, List.set_cons_succ]
      refine wpAnyH_ready (rs := [2]) (by kernel_rfl) (by simp) (AllReadyH.cons (o := ({ dst := some 69, op := Op.call { callee := Callee.value (Operand.func 22), args := #[Operand.tmp 67, Operand.tmp 68], argTypes := #[23, 23] }, type := 4, pos := "law.go:88", after := #[{ on := 0, ground := Ground.data }, { on := 1, ground := Ground.data }], guard := none } : Oper)) rfl (fun K hK => ?_) AllReadyH.nil)
      go_simp
      (refine ((W2 _).out).mono ?_; rintro e wq ⟨rfl, hbq⟩; replace HL := Lib.hid (HL.out.step hbq); clear sk; have sk := HL.out.cells; simp only [rectC, List.nil_append, List.cons_append, Cells] at sk; clear hbq)
      refine hK.out _ _ sk (fun hHeld2 => ?_)
      clear hK K hHeld
      have hHeld := hHeld2
      clear hHeld2
      try simp only [Act.put, List.setIfInBounds_toArray, List.set_cons_succ]
      refine wpAnyH_ready (rs := [5]) (by kernel_rfl) (by simp) (AllReadyH.cons (o := ({ dst := some 72, op := Op.call { callee := Callee.value (Operand.func 22), args := #[Operand.tmp 70, Operand.tmp 71], argTypes := #[23, 23] }, type := 4, pos := "law.go:88", after := #[{ on := 3, ground := Ground.data }, { on := 4, ground := Ground.data }, { on := 2, ground := Ground.chain }], guard := none } : Oper)) rfl (fun K hK => ?_) AllReadyH.nil)
      go_simp
      (refine ((W3 _).out).mono ?_; rintro e wq ⟨rfl, hbq⟩; replace HL := Lib.hid (HL.out.step hbq); clear sk; have sk := HL.out.cells; simp only [rectC, List.nil_append, List.cons_append, Cells] at sk; clear hbq)
      refine hK.out _ _ sk (fun hHeld2 => ?_)
      clear hK K hHeld
      have hHeld := hHeld2
      clear hHeld2
      try simp only [Act.put, List.setIfInBounds_toArray, List.set_cons_succ]
      refine wpAnyH_take (i := 6) (oi := ({ dst := some 73, op := Op.move (Operand.tmp 72), type := 4, pos := "law.go:88", after := #[{ on := 5, ground := Ground.data }, { on := 5, ground := Ground.chain }], guard := none } : Oper)) (v := ?_) rfl (by kernel_rfl) (by kernel_rfl) (by kernel_rfl) (fun _ _ _ h => h) (Or.inl ⟨by kernel_rfl, ?_⟩) hHeld ?_
      rotate_left 1
      · (intro W hSw; (try dsimp only at hSw); go_simp; try with_reducible rfl)
      try simp only [Act.put, List.setIfInBounds_toArray, List.set_cons_succ]
      refine wpAnyH_take (i := 7) (oi := ({ dst := some 74, op := Op.load 23 (Operand.tmp 4), type := 23, pos := "law.go:88", after := #[{ on := 6, ground := Ground.guard }], guard := some (6, true) } : Oper)) (v := ?_) rfl (by kernel_rfl) (by kernel_rfl) (by kernel_rfl) (fun _ _ _ h => h) (Or.inl ⟨by kernel_rfl, ?_⟩) hHeld ?_
      rotate_left 1
      · (intro W hSw; (try dsimp only at hSw); go_simp; try with_reducible rfl)
      try simp only [Act.put, List.setIfInBounds_toArray, List.set_cons_succ]
      refine wpAnyH_take (i := 8) (oi := ({ dst := some 75, op := Op.load 23 (Operand.tmp 5), type := 23, pos := "law.go:88", after := #[{ on := 6, ground := Ground.guard }], guard := some (6, true) } : Oper)) (v := ?_) rfl (by kernel_rfl) (by kernel_rfl) (by kernel_rfl) (fun _ _ _ h => h) (Or.inl ⟨by kernel_rfl, ?_⟩) hHeld ?_
      rotate_left 1
      · (intro W hSw; (try dsimp only at hSw); go_simp; try with_reducible rfl)
      try simp only [Act.put, List.setIfInBounds_toArray, List.set_cons_succ]
      refine wpAnyH_ready (rs := [9]) (by kernel_rfl) (by simp) (AllReadyH.cons (o := ({ dst := some 76, op := Op.call { callee := Callee.value (Operand.func 22), args := #[Operand.tmp 74, Operand.tmp 75], argTypes := #[23, 23] }, type := 4, pos := "law.go:88", after := #[{ on := 7, ground := Ground.data }, { on := 8, ground := Ground.data }, { on := 6, ground := Ground.chain }, { on := 6, ground := Ground.guard }], guard := some (6, true) } : Oper)) rfl (fun K hK => ?_) AllReadyH.nil)
      go_simp
      (refine ((W4 _).out).mono ?_; rintro e wq ⟨rfl, hbq⟩; replace HL := Lib.hid (HL.out.step hbq); clear sk; have sk := HL.out.cells; simp only [rectC, List.nil_append, List.cons_append, Cells] at sk; clear hbq)
      refine hK.out _ _ sk (fun hHeld2 => ?_)
      clear hK K hHeld
      have hHeld := hHeld2
      clear hHeld2
      try simp only [Act.put, List.setIfInBounds_toArray, List.set_cons_succ]
      refine wpAnyH_take (i := 10) (oi := ({ dst := some 77, op := Op.pick (Operand.tmp 73) (Operand.tmp 76) (Operand.const (Value.bool false)), type := 4, pos := "law.go:88", after := #[{ on := 6, ground := Ground.data }, { on := 9, ground := Ground.data }], guard := none } : Oper)) (v := ?_) rfl (by kernel_rfl) (by kernel_rfl) (by kernel_rfl) (fun _ _ _ h => h) (Or.inl ⟨by kernel_rfl, ?_⟩) hHeld ?_
      rotate_left 1
      · (intro W hSw; (try dsimp only at hSw); go_simp; try with_reducible rfl)
      try simp only [Act.put, List.setIfInBounds_toArray, List.set_cons_succ]
      refine wpAnyH_take (i := 11) (oi := ({ dst := some 78, op := Op.binOp BinOp.eql 4 (Operand.tmp 69) (Operand.tmp 77) 4, type := 4, pos := "law.go:88", after := #[{ on := 2, ground := Ground.data }, { on := 10, ground := Ground.data }], guard := none } : Oper)) (v := ?_) rfl (by kernel_rfl) (by kernel_rfl) (by kernel_rfl) (fun _ _ _ h => h) (Or.inl ⟨by kernel_rfl, ?_⟩) hHeld ?_
      rotate_left 1
      · (intro W hSw; (try dsimp only at hSw); go_simp; try with_reducible rfl)
      try simp only [Act.put, List.setIfInBounds_toArray, List.set_cons_succ]
      refine wpAnyH_take (i := 12) (oi := ({ dst := some 79, op := Op.move (Operand.tmp 78), type := 4, pos := "law.go:88", after := #[{ on := 11, ground := Ground.data }, { on := 9, ground := Ground.chain }], guard := none } : Oper)) (v := ?_) rfl (by kernel_rfl) (by kernel_rfl) (by kernel_rfl) (fun _ _ _ h => h) (Or.inl ⟨by kernel_rfl, ?_⟩) hHeld ?_
      rotate_left 1
      · (intro W hSw; (try dsimp only at hSw); go_simp; try with_reducible rfl)
      try simp only [Act.put, List.setIfInBounds_toArray, List.set_cons_succ]
      refine wpAnyH_take (i := 13) (oi := ({ dst := some 80, op := Op.load 23 (Operand.tmp 5), type := 23, pos := "law.go:88", after := #[{ on := 12, ground := Ground.guard }], guard := some (12, true) } : Oper)) (v := ?_) rfl (by kernel_rfl) (by kernel_rfl) (by kernel_rfl) (fun _ _ _ h => h) (Or.inl ⟨by kernel_rfl, ?_⟩) hHeld ?_
      rotate_left 1
      · (intro W hSw; (try dsimp only at hSw); go_simp; try with_reducible rfl)
      try simp only [Act.put, List.setIfInBounds_toArray, List.set_cons_succ]
      refine wpAnyH_take (i := 14) (oi := ({ dst := some 81, op := Op.load 23 (Operand.tmp 7), type := 23, pos := "law.go:88", after := #[{ on := 12, ground := Ground.guard }], guard := some (12, true) } : Oper)) (v := ?_) rfl (by kernel_rfl) (by kernel_rfl) (by kernel_rfl) (fun _ _ _ h => h) (Or.inl ⟨by kernel_rfl, ?_⟩) hHeld ?_
      rotate_left 1
      · (intro W hSw; (try dsimp only at hSw); go_simp; try with_reducible rfl)
      try simp only [Act.put, List.setIfInBounds_toArray, List.set_cons_succ]
      refine wpAnyH_take (i := 16) (oi := ({ dst := some 83, op := Op.load 23 (Operand.tmp 5), type := 23, pos := "law.go:88", after := #[{ on := 12, ground := Ground.guard }], guard := some (12, true) } : Oper)) (v := ?_) rfl (by kernel_rfl) (by kernel_rfl) (by kernel_rfl) (fun _ _ _ h => h) (Or.inl ⟨by kernel_rfl, ?_⟩) hHeld ?_
      rotate_left 1
      · (intro W hSw; (try dsimp only at hSw); go_simp; try with_reducible rfl)
      try simp only [Act.put, List.setIfInBounds_toArray, List.set_cons_succ]
      refine wpAnyH_take (i := 17) (oi := ({ dst := some 84, op := Op.load 23 (Operand.tmp 3), type := 23, pos := "law.go:88", after := #[{ on := 12, ground := Ground.guard }], guard := some (12, true) } : Oper)) (v := ?_) rfl (by kernel_rfl) (by kernel_rfl) (by kernel_rfl) (fun _ _ _ h => h) (Or.inl ⟨by kernel_rfl, ?_⟩) hHeld ?_
      rotate_left 1
      · (intro W hSw; (try dsimp only at hSw); go_simp; try with_reducible rfl)
      try simp only [Act.put, List.setIfInBounds_toArray, List.set_cons_succ]
      refine wpAnyH_ready (rs := [15]) (by kernel_rfl) (by simp) (AllReadyH.cons (o := ({ dst := some 82, op := Op.call { callee := Callee.value (Operand.func 22), args := #[Operand.tmp 80, Operand.tmp 81], argTypes := #[23, 23] }, type := 4, pos := "law.go:88", after := #[{ on := 13, ground := Ground.data }, { on := 14, ground := Ground.data }, { on := 12, ground := Ground.chain }, { on := 12, ground := Ground.guard }], guard := some (12, true) } : Oper)) rfl (fun K hK => ?_) AllReadyH.nil)
      go_simp
      (refine ((W5 _).out).mono ?_; rintro e wq ⟨rfl, hbq⟩; replace HL := Lib.hid (HL.out.step hbq); clear sk; have sk := HL.out.cells; simp only [rectC, List.nil_append, List.cons_append, Cells] at sk; clear hbq)
      refine hK.out _ _ sk (fun hHeld2 => ?_)
      clear hK K hHeld
      have hHeld := hHeld2
      clear hHeld2
      try simp only [Act.put, List.setIfInBounds_toArray, List.set_cons_succ]
      refine wpAnyH_ready (rs := [18]) (by kernel_rfl) (by simp) (AllReadyH.cons (o := ({ dst := some 85, op := Op.call { callee := Callee.value (Operand.func 22), args := #[Operand.tmp 83, Operand.tmp 84], argTypes := #[23, 23] }, type := 4, pos := "law.go:88", after := #[{ on := 16, ground := Ground.data }, { on := 17, ground := Ground.data }, { on := 15, ground := Ground.chain }, { on := 12, ground := Ground.guard }], guard := some (12, true) } : Oper)) rfl (fun K hK => ?_) AllReadyH.nil)
      go_simp
      (refine ((W6 _).out).mono ?_; rintro e wq ⟨rfl, hbq⟩; replace HL := Lib.hid (HL.out.step hbq); clear sk; have sk := HL.out.cells; simp only [rectC, List.nil_append, List.cons_append, Cells] at sk; clear hbq)
      refine hK.out _ _ sk (fun hHeld2 => ?_)
      clear hK K hHeld
      have hHeld := hHeld2
      clear hHeld2
      try simp only [Act.put, List.setIfInBounds_toArray, List.set_cons_succ]
      refine wpAnyH_take (i := 19) (oi := ({ dst := some 86, op := Op.move (Operand.tmp 85), type := 4, pos := "law.go:88", after := #[{ on := 18, ground := Ground.data }, { on := 18, ground := Ground.chain }, { on := 12, ground := Ground.guard }], guard := some (12, true) } : Oper)) (v := ?_) rfl (by kernel_rfl) (by kernel_rfl) (by kernel_rfl) (fun _ _ _ h => h) (Or.inl ⟨by kernel_rfl, ?_⟩) hHeld ?_
      rotate_left 1
      · (intro W hSw; (try dsimp only at hSw); go_simp; try with_reducible rfl)
      try simp only [Act.put, List.setIfInBounds_toArray, List.set_cons_succ]
      refine wpAnyH_take (i := 20) (oi := ({ dst := some 87, op := Op.load 23 (Operand.tmp 5), type := 23, pos := "law.go:88", after := #[{ on := 19, ground := Ground.guard }], guard := some (19, true) } : Oper)) (v := _) rfl (by kernel_rfl) (by kernel_rfl) (by kernel_rfl) (fun _ _ _ h => h) (Or.inr ⟨by kernel_rfl, rfl⟩) hHeld ?_
      try simp only [Act.put, List.setIfInBounds_toArray, List.set_cons_succ]
      refine wpAnyH_take (i := 21) (oi := ({ dst := some 88, op := Op.load 23 (Operand.tmp 4), type := 23, pos := "law.go:88", after := #[{ on := 19, ground := Ground.guard }], guard := some (19, true) } : Oper)) (v := _) rfl (by kernel_rfl) (by kernel_rfl) (by kernel_rfl) (fun _ _ _ h => h) (Or.inr ⟨by kernel_rfl, rfl⟩) hHeld ?_
      try simp only [Act.put, List.setIfInBounds_toArray, List.set_cons_succ]
      refine wpAnyH_ready (rs := [22]) (by kernel_rfl) (by simp) (AllReadyH.cons (o := ({ dst := some 89, op := Op.call { callee := Callee.value (Operand.func 22), args := #[Operand.tmp 87, Operand.tmp 88], argTypes := #[23, 23] }, type := 4, pos := "law.go:88", after := #[{ on := 20, ground := Ground.data }, { on := 21, ground := Ground.data }, { on := 19, ground := Ground.chain }, { on := 19, ground := Ground.guard }], guard := some (19, true) } : Oper)) rfl (fun K hK => ?_) AllReadyH.nil)
      go_simp
      refine hK.out _ _ sk (fun hHeld2 => ?_)
      clear hK K hHeld
      have hHeld := hHeld2
      clear hHeld2
      try simp only [Act.put, List.setIfInBounds_toArray, List.set_cons_succ]
      refine wpAnyH_take (i := 23) (oi := ({ dst := some 90, op := Op.pick (Operand.tmp 86) (Operand.tmp 89) (Operand.const (Value.bool false)), type := 4, pos := "law.go:88", after := #[{ on := 19, ground := Ground.data }, { on := 22, ground := Ground.data }, { on := 12, ground := Ground.guard }], guard := some (12, true) } : Oper)) (v := ?_) rfl (by kernel_rfl) (by kernel_rfl) (by kernel_rfl) (fun _ _ _ h => h) (Or.inl ⟨by kernel_rfl, ?_⟩) hHeld ?_
      rotate_left 1
      · (intro W hSw; (try dsimp only at hSw); go_simp; try with_reducible rfl)
      try simp only [Act.put, List.setIfInBounds_toArray, List.set_cons_succ]
      refine wpAnyH_take (i := 24) (oi := ({ dst := some 91, op := Op.binOp BinOp.eql 4 (Operand.tmp 82) (Operand.tmp 90) 4, type := 4, pos := "law.go:88", after := #[{ on := 15, ground := Ground.data }, { on := 23, ground := Ground.data }, { on := 12, ground := Ground.guard }], guard := some (12, true) } : Oper)) (v := ?_) rfl (by kernel_rfl) (by kernel_rfl) (by kernel_rfl) (fun _ _ _ h => h) (Or.inl ⟨by kernel_rfl, ?_⟩) hHeld ?_
      rotate_left 1
      · (intro W hSw; (try dsimp only at hSw); go_simp; try with_reducible rfl)
      try simp only [Act.put, List.setIfInBounds_toArray, List.set_cons_succ]
      refine wpAnyH_take (i := 25) (oi := ({ dst := some 92, op := Op.pick (Operand.tmp 79) (Operand.tmp 91) (Operand.const (Value.bool false)), type := 4, pos := "law.go:88", after := #[{ on := 12, ground := Ground.data }, { on := 24, ground := Ground.data }], guard := none } : Oper)) (v := ?_) rfl (by kernel_rfl) (by kernel_rfl) (by kernel_rfl) (fun _ _ _ h => h) (Or.inl ⟨by kernel_rfl, ?_⟩) hHeld ?_
      rotate_left 1
      · (intro W hSw; (try dsimp only at hSw); go_simp; try with_reducible rfl)
      try simp only [Act.put, List.setIfInBounds_toArray, List.set_cons_succ]
      refine wpAnyH_take (i := 26) (oi := ({ dst := some 93, op := Op.move (Operand.tmp 92), type := 4, pos := "law.go:88", after := #[{ on := 25, ground := Ground.data }, { on := 22, ground := Ground.chain }], guard := none } : Oper)) (v := ?_) rfl (by kernel_rfl) (by kernel_rfl) (by kernel_rfl) (fun _ _ _ h => h) (Or.inl ⟨by kernel_rfl, ?_⟩) hHeld ?_
      rotate_left 1
      · (intro W hSw; (try dsimp only at hSw); go_simp; try with_reducible rfl)
      try simp only [Act.put, List.setIfInBounds_toArray, List.set_cons_succ]
      refine wpAnyH_ready (rs := [27]) (by kernel_rfl) (by simp) (AllReadyH.cons (o := ({ dst := some 94, op := Op.call { callee := Callee.value (Operand.func 21), args := #[], argTypes := #[] }, type := 4, pos := "law.go:88", after := #[{ on := 26, ground := Ground.chain }, { on := 26, ground := Ground.guard }], guard := some (26, true) } : Oper)) rfl (fun K hK => ?_) AllReadyH.nil)
      go_simp
      (refine (example_any _).mono ?_; rintro e wq ⟨rfl, hbq⟩; replace HL := Lib.hid (HL.out.step hbq); clear sk; have sk := HL.out.cells; simp only [rectC, List.nil_append, List.cons_append, Cells] at sk; clear hbq)
      refine hK.out _ _ sk (fun hHeld2 => ?_)
      clear hK K hHeld
      have hHeld := hHeld2
      clear hHeld2
      try simp only [Act.put, List.setIfInBounds_toArray, List.set_cons_succ]
      refine wpAnyH_take (i := 28) (oi := ({ dst := some 95, op := Op.pick (Operand.tmp 93) (Operand.tmp 94) (Operand.const (Value.bool false)), type := 4, pos := "law.go:88", after := #[{ on := 26, ground := Ground.data }, { on := 27, ground := Ground.data }], guard := none } : Oper)) (v := ?_) rfl (by kernel_rfl) (by kernel_rfl) (by kernel_rfl) (fun _ _ _ h => h) (Or.inl ⟨by kernel_rfl, ?_⟩) hHeld ?_
      rotate_left 1
      · (intro W hSw; (try dsimp only at hSw); go_simp; try with_reducible rfl)
      try simp only [Act.put, List.setIfInBounds_toArray, List.set_cons_succ]
      refine wpAnyH_take (i := 29) (oi := ({ dst := some 6, op := Op.assign (Operand.tmp 95), type := 4, pos := "law.go:88", after := _, guard := none } : Oper)) (v := ?_) rfl (by kernel_rfl) (by kernel_rfl) (by kernel_rfl) (fun _ _ _ h => h) (Or.inl ⟨by kernel_rfl, ?_⟩) hHeld ?_
      rotate_left 1
      · (intro W hSw; (try dsimp only at hSw); go_simp; try with_reducible rfl)
      try simp only [Act.put, List.setIfInBounds_toArray, List.set_cons_succ]
      refine wpAnyH_done (by kernel_rfl) ?_ _
      go_wp2_with fail
      go_ret
      refine ⟨?_, HL.out.below⟩
      kernel_rfl
    · replace HL := Lib.hid HL.out.drew
      have sk := HL.out.cells; simp only [rectC, List.nil_append, List.cons_append, Cells] at sk
      refine wp_region_held_drew (S := (fun W => W.cell? ⟨w.heap.size, 0, none⟩ = some (.int .i64 a.x0) ∧ W.cell? ⟨w.heap.size, 1, none⟩ = some (.int .i64 a.y0) ∧ W.cell? ⟨w.heap.size, 2, none⟩ = some (.int .i64 a.x1) ∧ W.cell? ⟨w.heap.size, 3, none⟩ = some (.int .i64 a.y1) ∧ W.cell? ⟨w.heap.size + 1, 0, none⟩ = some (.int .i64 b.x0) ∧ W.cell? ⟨w.heap.size + 1, 1, none⟩ = some (.int .i64 b.y0) ∧ W.cell? ⟨w.heap.size + 1, 2, none⟩ = some (.int .i64 b.x1) ∧ W.cell? ⟨w.heap.size + 1, 3, none⟩ = some (.int .i64 b.y1) ∧ W.cell? ⟨w.heap.size + 1 + 1, 0, none⟩ = some (.int .i64 c.x0) ∧ W.cell? ⟨w.heap.size + 1 + 1, 1, none⟩ = some (.int .i64 c.y0) ∧ W.cell? ⟨w.heap.size + 1 + 1, 2, none⟩ = some (.int .i64 c.x1) ∧ W.cell? ⟨w.heap.size + 1 + 1, 3, none⟩ = some (.int .i64 c.y1) ∧ W.cell? ⟨M, 0, none⟩ = some (.int .i64 i.x0) ∧ W.cell? ⟨M, 1, none⟩ = some (.int .i64 i.y0) ∧ W.cell? ⟨M, 2, none⟩ = some (.int .i64 i.x1) ∧ W.cell? ⟨M, 3, none⟩ = some (.int .i64 i.y1) ∧ W.cell? ⟨Nn, 0, none⟩ = some (.int .i64 u.x0) ∧ W.cell? ⟨Nn, 1, none⟩ = some (.int .i64 u.y0) ∧ W.cell? ⟨Nn, 2, none⟩ = some (.int .i64 u.x1) ∧ W.cell? ⟨Nn, 3, none⟩ = some (.int .i64 u.y1))) (by kernel_rfl) sk (fun hHeld => ?_)
      refine wpAnyH_take (i := 0) (oi := ({ dst := some 67, op := Op.load 23 (Operand.tmp 8), type := 23, pos := "law.go:88", after := #[], guard := none } : Oper)) (v := ?_) rfl (by kernel_rfl) (by kernel_rfl) (by kernel_rfl) (fun _ _ _ h => h) (Or.inl ⟨by kernel_rfl, ?_⟩) hHeld ?_
      rotate_left 1
      · (intro W hSw; (try dsimp only at hSw); go_simp; try with_reducible rfl)
      try simp only [Act.put, List.setIfInBounds_toArray, List.set_cons_succ]
      refine wpAnyH_take (i := 1) (oi := ({ dst := some 68, op := Op.load 23 (Operand.tmp 5), type := 23, pos := "law.go:88", after := #[], guard := none } : Oper)) (v := ?_) rfl (by kernel_rfl) (by kernel_rfl) (by kernel_rfl) (fun _ _ _ h => h) (Or.inl ⟨by kernel_rfl, ?_⟩) hHeld ?_
      rotate_left 1
      · (intro W hSw; (try dsimp only at hSw); go_simp; try with_reducible rfl)
      try simp only [Act.put, List.setIfInBounds_toArray, List.set_cons_succ]
      refine wpAnyH_take (i := 3) (oi := ({ dst := some 70, op := Op.load 23 (Operand.tmp 3), type := 23, pos := "law.go:88", after := #[], guard := none } : Oper)) (v := ?_) rfl (by kernel_rfl) (by kernel_rfl) (by kernel_rfl) (fun _ _ _ h => h) (Or.inl ⟨by kernel_rfl, ?_⟩) hHeld ?_
      rotate_left 1
      · (intro W hSw; (try dsimp only at hSw); go_simp; try with_reducible rfl)
      try simp only [Act.put, List.setIfInBounds_toArray, List.set_cons_succ]
      refine wpAnyH_take (i := 4) (oi := ({ dst := some 71, op := Op.load 23 (Operand.tmp 5), type := 23, pos := "law.go:88", after := #[], guard := none } : Oper)) (v := ?_) rfl (by kernel_rfl) (by kernel_rfl) (by kernel_rfl) (fun _ _ _ h => h) (Or.inl ⟨by kernel_rfl, ?_⟩) hHeld ?_
      rotate_left 1
      · (intro W hSw; (try dsimp only at hSw); go_simp; try with_reducible rfl)
      try simp only [Act.put, List.setIfInBounds_toArray, List.set_cons_succ]
      refine wpAnyH_ready (rs := [2]) (by kernel_rfl) (by simp) (AllReadyH.cons (o := ({ dst := some 69, op := Op.call { callee := Callee.value (Operand.func 22), args := #[Operand.tmp 67, Operand.tmp 68], argTypes := #[23, 23] }, type := 4, pos := "law.go:88", after := #[{ on := 0, ground := Ground.data }, { on := 1, ground := Ground.data }], guard := none } : Oper)) rfl (fun K hK => ?_) AllReadyH.nil)
      go_simp
      (refine ((W2 _).out).mono ?_; rintro e wq ⟨rfl, hbq⟩; replace HL := Lib.hid (HL.out.step hbq); clear sk; have sk := HL.out.cells; simp only [rectC, List.nil_append, List.cons_append, Cells] at sk; clear hbq)
      refine hK.out _ _ sk (fun hHeld2 => ?_)
      clear hK K hHeld
      have hHeld := hHeld2
      clear hHeld2
      try simp only [Act.put, List.setIfInBounds_toArray, List.set_cons_succ]
      refine wpAnyH_ready (rs := [5]) (by kernel_rfl) (by simp) (AllReadyH.cons (o := ({ dst := some 72, op := Op.call { callee := Callee.value (Operand.func 22), args := #[Operand.tmp 70, Operand.tmp 71], argTypes := #[23, 23] }, type := 4, pos := "law.go:88", after := #[{ on := 3, ground := Ground.data }, { on := 4, ground := Ground.data }, { on := 2, ground := Ground.chain }], guard := none } : Oper)) rfl (fun K hK => ?_) AllReadyH.nil)
      go_simp
      (refine ((W3 _).out).mono ?_; rintro e wq ⟨rfl, hbq⟩; replace HL := Lib.hid (HL.out.step hbq); clear sk; have sk := HL.out.cells; simp only [rectC, List.nil_append, List.cons_append, Cells] at sk; clear hbq)
      refine hK.out _ _ sk (fun hHeld2 => ?_)
      clear hK K hHeld
      have hHeld := hHeld2
      clear hHeld2
      try simp only [Act.put, List.setIfInBounds_toArray, List.set_cons_succ]
      refine wpAnyH_take (i := 6) (oi := ({ dst := some 73, op := Op.move (Operand.tmp 72), type := 4, pos := "law.go:88", after := #[{ on := 5, ground := Ground.data }, { on := 5, ground := Ground.chain }], guard := none } : Oper)) (v := ?_) rfl (by kernel_rfl) (by kernel_rfl) (by kernel_rfl) (fun _ _ _ h => h) (Or.inl ⟨by kernel_rfl, ?_⟩) hHeld ?_
      rotate_left 1
      · (intro W hSw; (try dsimp only at hSw); go_simp; try with_reducible rfl)
      try simp only [Act.put, List.setIfInBounds_toArray, List.set_cons_succ]
      refine wpAnyH_take (i := 7) (oi := ({ dst := some 74, op := Op.load 23 (Operand.tmp 4), type := 23, pos := "law.go:88", after := #[{ on := 6, ground := Ground.guard }], guard := some (6, true) } : Oper)) (v := ?_) rfl (by kernel_rfl) (by kernel_rfl) (by kernel_rfl) (fun _ _ _ h => h) (Or.inl ⟨by kernel_rfl, ?_⟩) hHeld ?_
      rotate_left 1
      · (intro W hSw; (try dsimp only at hSw); go_simp; try with_reducible rfl)
      try simp only [Act.put, List.setIfInBounds_toArray, List.set_cons_succ]
      refine wpAnyH_take (i := 8) (oi := ({ dst := some 75, op := Op.load 23 (Operand.tmp 5), type := 23, pos := "law.go:88", after := #[{ on := 6, ground := Ground.guard }], guard := some (6, true) } : Oper)) (v := ?_) rfl (by kernel_rfl) (by kernel_rfl) (by kernel_rfl) (fun _ _ _ h => h) (Or.inl ⟨by kernel_rfl, ?_⟩) hHeld ?_
      rotate_left 1
      · (intro W hSw; (try dsimp only at hSw); go_simp; try with_reducible rfl)
      try simp only [Act.put, List.setIfInBounds_toArray, List.set_cons_succ]
      refine wpAnyH_ready (rs := [9]) (by kernel_rfl) (by simp) (AllReadyH.cons (o := ({ dst := some 76, op := Op.call { callee := Callee.value (Operand.func 22), args := #[Operand.tmp 74, Operand.tmp 75], argTypes := #[23, 23] }, type := 4, pos := "law.go:88", after := #[{ on := 7, ground := Ground.data }, { on := 8, ground := Ground.data }, { on := 6, ground := Ground.chain }, { on := 6, ground := Ground.guard }], guard := some (6, true) } : Oper)) rfl (fun K hK => ?_) AllReadyH.nil)
      go_simp
      (refine ((W4 _).out).mono ?_; rintro e wq ⟨rfl, hbq⟩; replace HL := Lib.hid (HL.out.step hbq); clear sk; have sk := HL.out.cells; simp only [rectC, List.nil_append, List.cons_append, Cells] at sk; clear hbq)
      refine hK.out _ _ sk (fun hHeld2 => ?_)
      clear hK K hHeld
      have hHeld := hHeld2
      clear hHeld2
      try simp only [Act.put, List.setIfInBounds_toArray, List.set_cons_succ]
      refine wpAnyH_take (i := 10) (oi := ({ dst := some 77, op := Op.pick (Operand.tmp 73) (Operand.tmp 76) (Operand.const (Value.bool false)), type := 4, pos := "law.go:88", after := #[{ on := 6, ground := Ground.data }, { on := 9, ground := Ground.data }], guard := none } : Oper)) (v := ?_) rfl (by kernel_rfl) (by kernel_rfl) (by kernel_rfl) (fun _ _ _ h => h) (Or.inl ⟨by kernel_rfl, ?_⟩) hHeld ?_
      rotate_left 1
      · (intro W hSw; (try dsimp only at hSw); go_simp; try with_reducible rfl)
      try simp only [Act.put, List.setIfInBounds_toArray, List.set_cons_succ]
      refine wpAnyH_take (i := 11) (oi := ({ dst := some 78, op := Op.binOp BinOp.eql 4 (Operand.tmp 69) (Operand.tmp 77) 4, type := 4, pos := "law.go:88", after := #[{ on := 2, ground := Ground.data }, { on := 10, ground := Ground.data }], guard := none } : Oper)) (v := ?_) rfl (by kernel_rfl) (by kernel_rfl) (by kernel_rfl) (fun _ _ _ h => h) (Or.inl ⟨by kernel_rfl, ?_⟩) hHeld ?_
      rotate_left 1
      · (intro W hSw; (try dsimp only at hSw); go_simp; try with_reducible rfl)
      try simp only [Act.put, List.setIfInBounds_toArray, List.set_cons_succ]
      refine wpAnyH_take (i := 12) (oi := ({ dst := some 79, op := Op.move (Operand.tmp 78), type := 4, pos := "law.go:88", after := #[{ on := 11, ground := Ground.data }, { on := 9, ground := Ground.chain }], guard := none } : Oper)) (v := ?_) rfl (by kernel_rfl) (by kernel_rfl) (by kernel_rfl) (fun _ _ _ h => h) (Or.inl ⟨by kernel_rfl, ?_⟩) hHeld ?_
      rotate_left 1
      · (intro W hSw; (try dsimp only at hSw); go_simp; try with_reducible rfl)
      try simp only [Act.put, List.setIfInBounds_toArray, List.set_cons_succ]
      refine wpAnyH_take (i := 13) (oi := ({ dst := some 80, op := Op.load 23 (Operand.tmp 5), type := 23, pos := "law.go:88", after := #[{ on := 12, ground := Ground.guard }], guard := some (12, true) } : Oper)) (v := ?_) rfl (by kernel_rfl) (by kernel_rfl) (by kernel_rfl) (fun _ _ _ h => h) (Or.inl ⟨by kernel_rfl, ?_⟩) hHeld ?_
      rotate_left 1
      · (intro W hSw; (try dsimp only at hSw); go_simp; try with_reducible rfl)
      try simp only [Act.put, List.setIfInBounds_toArray, List.set_cons_succ]
      refine wpAnyH_take (i := 14) (oi := ({ dst := some 81, op := Op.load 23 (Operand.tmp 7), type := 23, pos := "law.go:88", after := #[{ on := 12, ground := Ground.guard }], guard := some (12, true) } : Oper)) (v := ?_) rfl (by kernel_rfl) (by kernel_rfl) (by kernel_rfl) (fun _ _ _ h => h) (Or.inl ⟨by kernel_rfl, ?_⟩) hHeld ?_
      rotate_left 1
      · (intro W hSw; (try dsimp only at hSw); go_simp; try with_reducible rfl)
      try simp only [Act.put, List.setIfInBounds_toArray, List.set_cons_succ]
      refine wpAnyH_take (i := 16) (oi := ({ dst := some 83, op := Op.load 23 (Operand.tmp 5), type := 23, pos := "law.go:88", after := #[{ on := 12, ground := Ground.guard }], guard := some (12, true) } : Oper)) (v := ?_) rfl (by kernel_rfl) (by kernel_rfl) (by kernel_rfl) (fun _ _ _ h => h) (Or.inl ⟨by kernel_rfl, ?_⟩) hHeld ?_
      rotate_left 1
      · (intro W hSw; (try dsimp only at hSw); go_simp; try with_reducible rfl)
      try simp only [Act.put, List.setIfInBounds_toArray, List.set_cons_succ]
      refine wpAnyH_take (i := 17) (oi := ({ dst := some 84, op := Op.load 23 (Operand.tmp 3), type := 23, pos := "law.go:88", after := #[{ on := 12, ground := Ground.guard }], guard := some (12, true) } : Oper)) (v := ?_) rfl (by kernel_rfl) (by kernel_rfl) (by kernel_rfl) (fun _ _ _ h => h) (Or.inl ⟨by kernel_rfl, ?_⟩) hHeld ?_
      rotate_left 1
      · (intro W hSw; (try dsimp only at hSw); go_simp; try with_reducible rfl)
      try simp only [Act.put, List.setIfInBounds_toArray, List.set_cons_succ]
      refine wpAnyH_ready (rs := [15]) (by kernel_rfl) (by simp) (AllReadyH.cons (o := ({ dst := some 82, op := Op.call { callee := Callee.value (Operand.func 22), args := #[Operand.tmp 80, Operand.tmp 81], argTypes := #[23, 23] }, type := 4, pos := "law.go:88", after := #[{ on := 13, ground := Ground.data }, { on := 14, ground := Ground.data }, { on := 12, ground := Ground.chain }, { on := 12, ground := Ground.guard }], guard := some (12, true) } : Oper)) rfl (fun K hK => ?_) AllReadyH.nil)
      go_simp
      (refine ((W5 _).out).mono ?_; rintro e wq ⟨rfl, hbq⟩; replace HL := Lib.hid (HL.out.step hbq); clear sk; have sk := HL.out.cells; simp only [rectC, List.nil_append, List.cons_append, Cells] at sk; clear hbq)
      refine hK.out _ _ sk (fun hHeld2 => ?_)
      clear hK K hHeld
      have hHeld := hHeld2
      clear hHeld2
      try simp only [Act.put, List.setIfInBounds_toArray, List.set_cons_succ]
      refine wpAnyH_ready (rs := [18]) (by kernel_rfl) (by simp) (AllReadyH.cons (o := ({ dst := some 85, op := Op.call { callee := Callee.value (Operand.func 22), args := #[Operand.tmp 83, Operand.tmp 84], argTypes := #[23, 23] }, type := 4, pos := "law.go:88", after := #[{ on := 16, ground := Ground.data }, { on := 17, ground := Ground.data }, { on := 15, ground := Ground.chain }, { on := 12, ground := Ground.guard }], guard := some (12, true) } : Oper)) rfl (fun K hK => ?_) AllReadyH.nil)
      go_simp
      (refine ((W6 _).out).mono ?_; rintro e wq ⟨rfl, hbq⟩; replace HL := Lib.hid (HL.out.step hbq); clear sk; have sk := HL.out.cells; simp only [rectC, List.nil_append, List.cons_append, Cells] at sk; clear hbq)
      refine hK.out _ _ sk (fun hHeld2 => ?_)
      clear hK K hHeld
      have hHeld := hHeld2
      clear hHeld2
      try simp only [Act.put, List.setIfInBounds_toArray, List.set_cons_succ]
      refine wpAnyH_take (i := 19) (oi := ({ dst := some 86, op := Op.move (Operand.tmp 85), type := 4, pos := "law.go:88", after := #[{ on := 18, ground := Ground.data }, { on := 18, ground := Ground.chain }, { on := 12, ground := Ground.guard }], guard := some (12, true) } : Oper)) (v := ?_) rfl (by kernel_rfl) (by kernel_rfl) (by kernel_rfl) (fun _ _ _ h => h) (Or.inl ⟨by kernel_rfl, ?_⟩) hHeld ?_
      rotate_left 1
      · (intro W hSw; (try dsimp only at hSw); go_simp; try with_reducible rfl)
      try simp only [Act.put, List.setIfInBounds_toArray, List.set_cons_succ]
      refine wpAnyH_take (i := 20) (oi := ({ dst := some 87, op := Op.load 23 (Operand.tmp 5), type := 23, pos := "law.go:88", after := #[{ on := 19, ground := Ground.guard }], guard := some (19, true) } : Oper)) (v := ?_) rfl (by kernel_rfl) (by kernel_rfl) (by kernel_rfl) (fun _ _ _ h => h) (Or.inl ⟨by kernel_rfl, ?_⟩) hHeld ?_
      rotate_left 1
      · (intro W hSw; (try dsimp only at hSw); go_simp; try with_reducible rfl)
      try simp only [Act.put, List.setIfInBounds_toArray, List.set_cons_succ]
      refine wpAnyH_take (i := 21) (oi := ({ dst := some 88, op := Op.load 23 (Operand.tmp 4), type := 23, pos := "law.go:88", after := #[{ on := 19, ground := Ground.guard }], guard := some (19, true) } : Oper)) (v := ?_) rfl (by kernel_rfl) (by kernel_rfl) (by kernel_rfl) (fun _ _ _ h => h) (Or.inl ⟨by kernel_rfl, ?_⟩) hHeld ?_
      rotate_left 1
      · (intro W hSw; (try dsimp only at hSw); go_simp; try with_reducible rfl)
      try simp only [Act.put, List.setIfInBounds_toArray, List.set_cons_succ]
      refine wpAnyH_ready (rs := [22]) (by kernel_rfl) (by simp) (AllReadyH.cons (o := ({ dst := some 89, op := Op.call { callee := Callee.value (Operand.func 22), args := #[Operand.tmp 87, Operand.tmp 88], argTypes := #[23, 23] }, type := 4, pos := "law.go:88", after := #[{ on := 20, ground := Ground.data }, { on := 21, ground := Ground.data }, { on := 19, ground := Ground.chain }, { on := 19, ground := Ground.guard }], guard := some (19, true) } : Oper)) rfl (fun K hK => ?_) AllReadyH.nil)
      go_simp
      (refine ((W7 _).out).mono ?_; rintro e wq ⟨rfl, hbq⟩; replace HL := Lib.hid (HL.out.step hbq); clear sk; have sk := HL.out.cells; simp only [rectC, List.nil_append, List.cons_append, Cells] at sk; clear hbq)
      refine hK.out _ _ sk (fun hHeld2 => ?_)
      clear hK K hHeld
      have hHeld := hHeld2
      clear hHeld2
      try simp only [Act.put, List.setIfInBounds_toArray, List.set_cons_succ]
      refine wpAnyH_take (i := 23) (oi := ({ dst := some 90, op := Op.pick (Operand.tmp 86) (Operand.tmp 89) (Operand.const (Value.bool false)), type := 4, pos := "law.go:88", after := #[{ on := 19, ground := Ground.data }, { on := 22, ground := Ground.data }, { on := 12, ground := Ground.guard }], guard := some (12, true) } : Oper)) (v := ?_) rfl (by kernel_rfl) (by kernel_rfl) (by kernel_rfl) (fun _ _ _ h => h) (Or.inl ⟨by kernel_rfl, ?_⟩) hHeld ?_
      rotate_left 1
      · (intro W hSw; (try dsimp only at hSw); go_simp; try with_reducible rfl)
      try simp only [Act.put, List.setIfInBounds_toArray, List.set_cons_succ]
      refine wpAnyH_take (i := 24) (oi := ({ dst := some 91, op := Op.binOp BinOp.eql 4 (Operand.tmp 82) (Operand.tmp 90) 4, type := 4, pos := "law.go:88", after := #[{ on := 15, ground := Ground.data }, { on := 23, ground := Ground.data }, { on := 12, ground := Ground.guard }], guard := some (12, true) } : Oper)) (v := ?_) rfl (by kernel_rfl) (by kernel_rfl) (by kernel_rfl) (fun _ _ _ h => h) (Or.inl ⟨by kernel_rfl, ?_⟩) hHeld ?_
      rotate_left 1
      · (intro W hSw; (try dsimp only at hSw); go_simp; try with_reducible rfl)
      try simp only [Act.put, List.setIfInBounds_toArray, List.set_cons_succ]
      refine wpAnyH_take (i := 25) (oi := ({ dst := some 92, op := Op.pick (Operand.tmp 79) (Operand.tmp 91) (Operand.const (Value.bool false)), type := 4, pos := "law.go:88", after := #[{ on := 12, ground := Ground.data }, { on := 24, ground := Ground.data }], guard := none } : Oper)) (v := ?_) rfl (by kernel_rfl) (by kernel_rfl) (by kernel_rfl) (fun _ _ _ h => h) (Or.inl ⟨by kernel_rfl, ?_⟩) hHeld ?_
      rotate_left 1
      · (intro W hSw; (try dsimp only at hSw); go_simp; try with_reducible rfl)
      try simp only [Act.put, List.setIfInBounds_toArray, List.set_cons_succ]
      refine wpAnyH_take (i := 26) (oi := ({ dst := some 93, op := Op.move (Operand.tmp 92), type := 4, pos := "law.go:88", after := #[{ on := 25, ground := Ground.data }, { on := 22, ground := Ground.chain }], guard := none } : Oper)) (v := ?_) rfl (by kernel_rfl) (by kernel_rfl) (by kernel_rfl) (fun _ _ _ h => h) (Or.inl ⟨by kernel_rfl, ?_⟩) hHeld ?_
      rotate_left 1
      · (intro W hSw; (try dsimp only at hSw); go_simp; try with_reducible rfl)
      try simp only [Act.put, List.setIfInBounds_toArray, List.set_cons_succ]
      refine wpAnyH_ready (rs := [27]) (by kernel_rfl) (by simp) (AllReadyH.cons (o := ({ dst := some 94, op := Op.call { callee := Callee.value (Operand.func 21), args := #[], argTypes := #[] }, type := 4, pos := "law.go:88", after := #[{ on := 26, ground := Ground.chain }, { on := 26, ground := Ground.guard }], guard := some (26, true) } : Oper)) rfl (fun K hK => ?_) AllReadyH.nil)
      go_simp
      (refine (example_any _).mono ?_; rintro e wq ⟨rfl, hbq⟩; replace HL := Lib.hid (HL.out.step hbq); clear sk; have sk := HL.out.cells; simp only [rectC, List.nil_append, List.cons_append, Cells] at sk; clear hbq)
      refine hK.out _ _ sk (fun hHeld2 => ?_)
      clear hK K hHeld
      have hHeld := hHeld2
      clear hHeld2
      try simp only [Act.put, List.setIfInBounds_toArray, List.set_cons_succ]
      refine wpAnyH_take (i := 28) (oi := ({ dst := some 95, op := Op.pick (Operand.tmp 93) (Operand.tmp 94) (Operand.const (Value.bool false)), type := 4, pos := "law.go:88", after := #[{ on := 26, ground := Ground.data }, { on := 27, ground := Ground.data }], guard := none } : Oper)) (v := ?_) rfl (by kernel_rfl) (by kernel_rfl) (by kernel_rfl) (fun _ _ _ h => h) (Or.inl ⟨by kernel_rfl, ?_⟩) hHeld ?_
      rotate_left 1
      · (intro W hSw; (try dsimp only at hSw); go_simp; try with_reducible rfl)
      try simp only [Act.put, List.setIfInBounds_toArray, List.set_cons_succ]
      refine wpAnyH_take (i := 29) (oi := ({ dst := some 6, op := Op.assign (Operand.tmp 95), type := 4, pos := "law.go:88", after := _, guard := none } : Oper)) (v := ?_) rfl (by kernel_rfl) (by kernel_rfl) (by kernel_rfl) (fun _ _ _ h => h) (Or.inl ⟨by kernel_rfl, ?_⟩) hHeld ?_
      rotate_left 1
      · (intro W hSw; (try dsimp only at hSw); go_simp; try with_reducible rfl)
      try simp only [Act.put, List.setIfInBounds_toArray, List.set_cons_succ]
      refine wpAnyH_done (by kernel_rfl) ?_ _
      go_wp2_with fail
      go_ret
      refine ⟨?_, HL.out.below⟩
      kernel_rfl
    · replace HL := Lib.hid HL.out.drew
      have sk := HL.out.cells; simp only [rectC, List.nil_append, List.cons_append, Cells] at sk
      refine wp_region_held_drew (S := (fun W => W.cell? ⟨w.heap.size, 0, none⟩ = some (.int .i64 a.x0) ∧ W.cell? ⟨w.heap.size, 1, none⟩ = some (.int .i64 a.y0) ∧ W.cell? ⟨w.heap.size, 2, none⟩ = some (.int .i64 a.x1) ∧ W.cell? ⟨w.heap.size, 3, none⟩ = some (.int .i64 a.y1) ∧ W.cell? ⟨w.heap.size + 1, 0, none⟩ = some (.int .i64 b.x0) ∧ W.cell? ⟨w.heap.size + 1, 1, none⟩ = some (.int .i64 b.y0) ∧ W.cell? ⟨w.heap.size + 1, 2, none⟩ = some (.int .i64 b.x1) ∧ W.cell? ⟨w.heap.size + 1, 3, none⟩ = some (.int .i64 b.y1) ∧ W.cell? ⟨w.heap.size + 1 + 1, 0, none⟩ = some (.int .i64 c.x0) ∧ W.cell? ⟨w.heap.size + 1 + 1, 1, none⟩ = some (.int .i64 c.y0) ∧ W.cell? ⟨w.heap.size + 1 + 1, 2, none⟩ = some (.int .i64 c.x1) ∧ W.cell? ⟨w.heap.size + 1 + 1, 3, none⟩ = some (.int .i64 c.y1) ∧ W.cell? ⟨M, 0, none⟩ = some (.int .i64 i.x0) ∧ W.cell? ⟨M, 1, none⟩ = some (.int .i64 i.y0) ∧ W.cell? ⟨M, 2, none⟩ = some (.int .i64 i.x1) ∧ W.cell? ⟨M, 3, none⟩ = some (.int .i64 i.y1) ∧ W.cell? ⟨Nn, 0, none⟩ = some (.int .i64 u.x0) ∧ W.cell? ⟨Nn, 1, none⟩ = some (.int .i64 u.y0) ∧ W.cell? ⟨Nn, 2, none⟩ = some (.int .i64 u.x1) ∧ W.cell? ⟨Nn, 3, none⟩ = some (.int .i64 u.y1))) (by kernel_rfl) sk (fun hHeld => ?_)
      refine wpAnyH_take (i := 0) (oi := ({ dst := some 67, op := Op.load 23 (Operand.tmp 8), type := 23, pos := "law.go:88", after := #[], guard := none } : Oper)) (v := ?_) rfl (by kernel_rfl) (by kernel_rfl) (by kernel_rfl) (fun _ _ _ h => h) (Or.inl ⟨by kernel_rfl, ?_⟩) hHeld ?_
      rotate_left 1
      · (intro W hSw; (try dsimp only at hSw); go_simp; try with_reducible rfl)
      try simp only [Act.put, List.setIfInBounds_toArray, List.set_cons_succ]
      refine wpAnyH_take (i := 1) (oi := ({ dst := some 68, op := Op.load 23 (Operand.tmp 5), type := 23, pos := "law.go:88", after := #[], guard := none } : Oper)) (v := ?_) rfl (by kernel_rfl) (by kernel_rfl) (by kernel_rfl) (fun _ _ _ h => h) (Or.inl ⟨by kernel_rfl, ?_⟩) hHeld ?_
      rotate_left 1
      · (intro W hSw; (try dsimp only at hSw); go_simp; try with_reducible rfl)
      try simp only [Act.put, List.setIfInBounds_toArray, List.set_cons_succ]
      refine wpAnyH_take (i := 3) (oi := ({ dst := some 70, op := Op.load 23 (Operand.tmp 3), type := 23, pos := "law.go:88", after := #[], guard := none } : Oper)) (v := ?_) rfl (by kernel_rfl) (by kernel_rfl) (by kernel_rfl) (fun _ _ _ h => h) (Or.inl ⟨by kernel_rfl, ?_⟩) hHeld ?_
      rotate_left 1
      · (intro W hSw; (try dsimp only at hSw); go_simp; try with_reducible rfl)
      try simp only [Act.put, List.setIfInBounds_toArray, List.set_cons_succ]
      refine wpAnyH_take (i := 4) (oi := ({ dst := some 71, op := Op.load 23 (Operand.tmp 5), type := 23, pos := "law.go:88", after := #[], guard := none } : Oper)) (v := ?_) rfl (by kernel_rfl) (by kernel_rfl) (by kernel_rfl) (fun _ _ _ h => h) (Or.inl ⟨by kernel_rfl, ?_⟩) hHeld ?_
      rotate_left 1
      · (intro W hSw; (try dsimp only at hSw); go_simp; try with_reducible rfl)
      try simp only [Act.put, List.setIfInBounds_toArray, List.set_cons_succ]
      refine wpAnyH_ready (rs := [2]) (by kernel_rfl) (by simp) (AllReadyH.cons (o := ({ dst := some 69, op := Op.call { callee := Callee.value (Operand.func 22), args := #[Operand.tmp 67, Operand.tmp 68], argTypes := #[23, 23] }, type := 4, pos := "law.go:88", after := #[{ on := 0, ground := Ground.data }, { on := 1, ground := Ground.data }], guard := none } : Oper)) rfl (fun K hK => ?_) AllReadyH.nil)
      go_simp
      (refine ((W2 _).out).mono ?_; rintro e wq ⟨rfl, hbq⟩; replace HL := Lib.hid (HL.out.step hbq); clear sk; have sk := HL.out.cells; simp only [rectC, List.nil_append, List.cons_append, Cells] at sk; clear hbq)
      refine hK.out _ _ sk (fun hHeld2 => ?_)
      clear hK K hHeld
      have hHeld := hHeld2
      clear hHeld2
      try simp only [Act.put, List.setIfInBounds_toArray, List.set_cons_succ]
      refine wpAnyH_ready (rs := [5]) (by kernel_rfl) (by simp) (AllReadyH.cons (o := ({ dst := some 72, op := Op.call { callee := Callee.value (Operand.func 22), args := #[Operand.tmp 70, Operand.tmp 71], argTypes := #[23, 23] }, type := 4, pos := "law.go:88", after := #[{ on := 3, ground := Ground.data }, { on := 4, ground := Ground.data }, { on := 2, ground := Ground.chain }], guard := none } : Oper)) rfl (fun K hK => ?_) AllReadyH.nil)
      go_simp
      (refine ((W3 _).out).mono ?_; rintro e wq ⟨rfl, hbq⟩; replace HL := Lib.hid (HL.out.step hbq); clear sk; have sk := HL.out.cells; simp only [rectC, List.nil_append, List.cons_append, Cells] at sk; clear hbq)
      refine hK.out _ _ sk (fun hHeld2 => ?_)
      clear hK K hHeld
      have hHeld := hHeld2
      clear hHeld2
      try simp only [Act.put, List.setIfInBounds_toArray, List.set_cons_succ]
      refine wpAnyH_take (i := 6) (oi := ({ dst := some 73, op := Op.move (Operand.tmp 72), type := 4, pos := "law.go:88", after := #[{ on := 5, ground := Ground.data }, { on := 5, ground := Ground.chain }], guard := none } : Oper)) (v := ?_) rfl (by kernel_rfl) (by kernel_rfl) (by kernel_rfl) (fun _ _ _ h => h) (Or.inl ⟨by kernel_rfl, ?_⟩) hHeld ?_
      rotate_left 1
      · (intro W hSw; (try dsimp only at hSw); go_simp; try with_reducible rfl)
      try simp only [Act.put, List.setIfInBounds_toArray, List.set_cons_succ]
      refine wpAnyH_take (i := 7) (oi := ({ dst := some 74, op := Op.load 23 (Operand.tmp 4), type := 23, pos := "law.go:88", after := #[{ on := 6, ground := Ground.guard }], guard := some (6, true) } : Oper)) (v := ?_) rfl (by kernel_rfl) (by kernel_rfl) (by kernel_rfl) (fun _ _ _ h => h) (Or.inl ⟨by kernel_rfl, ?_⟩) hHeld ?_
      rotate_left 1
      · (intro W hSw; (try dsimp only at hSw); go_simp; try with_reducible rfl)
      try simp only [Act.put, List.setIfInBounds_toArray, List.set_cons_succ]
      refine wpAnyH_take (i := 8) (oi := ({ dst := some 75, op := Op.load 23 (Operand.tmp 5), type := 23, pos := "law.go:88", after := #[{ on := 6, ground := Ground.guard }], guard := some (6, true) } : Oper)) (v := ?_) rfl (by kernel_rfl) (by kernel_rfl) (by kernel_rfl) (fun _ _ _ h => h) (Or.inl ⟨by kernel_rfl, ?_⟩) hHeld ?_
      rotate_left 1
      · (intro W hSw; (try dsimp only at hSw); go_simp; try with_reducible rfl)
      try simp only [Act.put, List.setIfInBounds_toArray, List.set_cons_succ]
      refine wpAnyH_ready (rs := [9]) (by kernel_rfl) (by simp) (AllReadyH.cons (o := ({ dst := some 76, op := Op.call { callee := Callee.value (Operand.func 22), args := #[Operand.tmp 74, Operand.tmp 75], argTypes := #[23, 23] }, type := 4, pos := "law.go:88", after := #[{ on := 7, ground := Ground.data }, { on := 8, ground := Ground.data }, { on := 6, ground := Ground.chain }, { on := 6, ground := Ground.guard }], guard := some (6, true) } : Oper)) rfl (fun K hK => ?_) AllReadyH.nil)
      go_simp
      (refine ((W4 _).out).mono ?_; rintro e wq ⟨rfl, hbq⟩; replace HL := Lib.hid (HL.out.step hbq); clear sk; have sk := HL.out.cells; simp only [rectC, List.nil_append, List.cons_append, Cells] at sk; clear hbq)
      refine hK.out _ _ sk (fun hHeld2 => ?_)
      clear hK K hHeld
      have hHeld := hHeld2
      clear hHeld2
      try simp only [Act.put, List.setIfInBounds_toArray, List.set_cons_succ]
      refine wpAnyH_take (i := 10) (oi := ({ dst := some 77, op := Op.pick (Operand.tmp 73) (Operand.tmp 76) (Operand.const (Value.bool false)), type := 4, pos := "law.go:88", after := #[{ on := 6, ground := Ground.data }, { on := 9, ground := Ground.data }], guard := none } : Oper)) (v := ?_) rfl (by kernel_rfl) (by kernel_rfl) (by kernel_rfl) (fun _ _ _ h => h) (Or.inl ⟨by kernel_rfl, ?_⟩) hHeld ?_
      rotate_left 1
      · (intro W hSw; (try dsimp only at hSw); go_simp; try with_reducible rfl)
      try simp only [Act.put, List.setIfInBounds_toArray, List.set_cons_succ]
      refine wpAnyH_take (i := 11) (oi := ({ dst := some 78, op := Op.binOp BinOp.eql 4 (Operand.tmp 69) (Operand.tmp 77) 4, type := 4, pos := "law.go:88", after := #[{ on := 2, ground := Ground.data }, { on := 10, ground := Ground.data }], guard := none } : Oper)) (v := ?_) rfl (by kernel_rfl) (by kernel_rfl) (by kernel_rfl) (fun _ _ _ h => h) (Or.inl ⟨by kernel_rfl, ?_⟩) hHeld ?_
      rotate_left 1
      · (intro W hSw; (try dsimp only at hSw); go_simp; try with_reducible rfl)
      try simp only [Act.put, List.setIfInBounds_toArray, List.set_cons_succ]
      refine wpAnyH_take (i := 12) (oi := ({ dst := some 79, op := Op.move (Operand.tmp 78), type := 4, pos := "law.go:88", after := #[{ on := 11, ground := Ground.data }, { on := 9, ground := Ground.chain }], guard := none } : Oper)) (v := ?_) rfl (by kernel_rfl) (by kernel_rfl) (by kernel_rfl) (fun _ _ _ h => h) (Or.inl ⟨by kernel_rfl, ?_⟩) hHeld ?_
      rotate_left 1
      · (intro W hSw; (try dsimp only at hSw); go_simp; try with_reducible rfl)
      try simp only [Act.put, List.setIfInBounds_toArray, List.set_cons_succ]
      refine wpAnyH_take (i := 13) (oi := ({ dst := some 80, op := Op.load 23 (Operand.tmp 5), type := 23, pos := "law.go:88", after := #[{ on := 12, ground := Ground.guard }], guard := some (12, true) } : Oper)) (v := ?_) rfl (by kernel_rfl) (by kernel_rfl) (by kernel_rfl) (fun _ _ _ h => h) (Or.inl ⟨by kernel_rfl, ?_⟩) hHeld ?_
      rotate_left 1
      · (intro W hSw; (try dsimp only at hSw); go_simp; try with_reducible rfl)
      try simp only [Act.put, List.setIfInBounds_toArray, List.set_cons_succ]
      refine wpAnyH_take (i := 14) (oi := ({ dst := some 81, op := Op.load 23 (Operand.tmp 7), type := 23, pos := "law.go:88", after := #[{ on := 12, ground := Ground.guard }], guard := some (12, true) } : Oper)) (v := ?_) rfl (by kernel_rfl) (by kernel_rfl) (by kernel_rfl) (fun _ _ _ h => h) (Or.inl ⟨by kernel_rfl, ?_⟩) hHeld ?_
      rotate_left 1
      · (intro W hSw; (try dsimp only at hSw); go_simp; try with_reducible rfl)
      try simp only [Act.put, List.setIfInBounds_toArray, List.set_cons_succ]
      refine wpAnyH_take (i := 16) (oi := ({ dst := some 83, op := Op.load 23 (Operand.tmp 5), type := 23, pos := "law.go:88", after := #[{ on := 12, ground := Ground.guard }], guard := some (12, true) } : Oper)) (v := ?_) rfl (by kernel_rfl) (by kernel_rfl) (by kernel_rfl) (fun _ _ _ h => h) (Or.inl ⟨by kernel_rfl, ?_⟩) hHeld ?_
      rotate_left 1
      · (intro W hSw; (try dsimp only at hSw); go_simp; try with_reducible rfl)
      try simp only [Act.put, List.setIfInBounds_toArray, List.set_cons_succ]
      refine wpAnyH_take (i := 17) (oi := ({ dst := some 84, op := Op.load 23 (Operand.tmp 3), type := 23, pos := "law.go:88", after := #[{ on := 12, ground := Ground.guard }], guard := some (12, true) } : Oper)) (v := ?_) rfl (by kernel_rfl) (by kernel_rfl) (by kernel_rfl) (fun _ _ _ h => h) (Or.inl ⟨by kernel_rfl, ?_⟩) hHeld ?_
      rotate_left 1
      · (intro W hSw; (try dsimp only at hSw); go_simp; try with_reducible rfl)
      try simp only [Act.put, List.setIfInBounds_toArray, List.set_cons_succ]
      refine wpAnyH_ready (rs := [15]) (by kernel_rfl) (by simp) (AllReadyH.cons (o := ({ dst := some 82, op := Op.call { callee := Callee.value (Operand.func 22), args := #[Operand.tmp 80, Operand.tmp 81], argTypes := #[23, 23] }, type := 4, pos := "law.go:88", after := #[{ on := 13, ground := Ground.data }, { on := 14, ground := Ground.data }, { on := 12, ground := Ground.chain }, { on := 12, ground := Ground.guard }], guard := some (12, true) } : Oper)) rfl (fun K hK => ?_) AllReadyH.nil)
      go_simp
      (refine ((W5 _).out).mono ?_; rintro e wq ⟨rfl, hbq⟩; replace HL := Lib.hid (HL.out.step hbq); clear sk; have sk := HL.out.cells; simp only [rectC, List.nil_append, List.cons_append, Cells] at sk; clear hbq)
      refine hK.out _ _ sk (fun hHeld2 => ?_)
      clear hK K hHeld
      have hHeld := hHeld2
      clear hHeld2
      try simp only [Act.put, List.setIfInBounds_toArray, List.set_cons_succ]
      refine wpAnyH_ready (rs := [18]) (by kernel_rfl) (by simp) (AllReadyH.cons (o := ({ dst := some 85, op := Op.call { callee := Callee.value (Operand.func 22), args := #[Operand.tmp 83, Operand.tmp 84], argTypes := #[23, 23] }, type := 4, pos := "law.go:88", after := #[{ on := 16, ground := Ground.data }, { on := 17, ground := Ground.data }, { on := 15, ground := Ground.chain }, { on := 12, ground := Ground.guard }], guard := some (12, true) } : Oper)) rfl (fun K hK => ?_) AllReadyH.nil)
      go_simp
      (refine ((W6 _).out).mono ?_; rintro e wq ⟨rfl, hbq⟩; replace HL := Lib.hid (HL.out.step hbq); clear sk; have sk := HL.out.cells; simp only [rectC, List.nil_append, List.cons_append, Cells] at sk; clear hbq)
      refine hK.out _ _ sk (fun hHeld2 => ?_)
      clear hK K hHeld
      have hHeld := hHeld2
      clear hHeld2
      try simp only [Act.put, List.setIfInBounds_toArray, List.set_cons_succ]
      refine wpAnyH_take (i := 19) (oi := ({ dst := some 86, op := Op.move (Operand.tmp 85), type := 4, pos := "law.go:88", after := #[{ on := 18, ground := Ground.data }, { on := 18, ground := Ground.chain }, { on := 12, ground := Ground.guard }], guard := some (12, true) } : Oper)) (v := ?_) rfl (by kernel_rfl) (by kernel_rfl) (by kernel_rfl) (fun _ _ _ h => h) (Or.inl ⟨by kernel_rfl, ?_⟩) hHeld ?_
      rotate_left 1
      · (intro W hSw; (try dsimp only at hSw); go_simp; try with_reducible rfl)
      try simp only [Act.put, List.setIfInBounds_toArray, List.set_cons_succ]
      refine wpAnyH_take (i := 20) (oi := ({ dst := some 87, op := Op.load 23 (Operand.tmp 5), type := 23, pos := "law.go:88", after := #[{ on := 19, ground := Ground.guard }], guard := some (19, true) } : Oper)) (v := ?_) rfl (by kernel_rfl) (by kernel_rfl) (by kernel_rfl) (fun _ _ _ h => h) (Or.inl ⟨by kernel_rfl, ?_⟩) hHeld ?_
      rotate_left 1
      · (intro W hSw; (try dsimp only at hSw); go_simp; try with_reducible rfl)
      try simp only [Act.put, List.setIfInBounds_toArray, List.set_cons_succ]
      refine wpAnyH_take (i := 21) (oi := ({ dst := some 88, op := Op.load 23 (Operand.tmp 4), type := 23, pos := "law.go:88", after := #[{ on := 19, ground := Ground.guard }], guard := some (19, true) } : Oper)) (v := ?_) rfl (by kernel_rfl) (by kernel_rfl) (by kernel_rfl) (fun _ _ _ h => h) (Or.inl ⟨by kernel_rfl, ?_⟩) hHeld ?_
      rotate_left 1
      · (intro W hSw; (try dsimp only at hSw); go_simp; try with_reducible rfl)
      try simp only [Act.put, List.setIfInBounds_toArray, List.set_cons_succ]
      refine wpAnyH_ready (rs := [22]) (by kernel_rfl) (by simp) (AllReadyH.cons (o := ({ dst := some 89, op := Op.call { callee := Callee.value (Operand.func 22), args := #[Operand.tmp 87, Operand.tmp 88], argTypes := #[23, 23] }, type := 4, pos := "law.go:88", after := #[{ on := 20, ground := Ground.data }, { on := 21, ground := Ground.data }, { on := 19, ground := Ground.chain }, { on := 19, ground := Ground.guard }], guard := some (19, true) } : Oper)) rfl (fun K hK => ?_) AllReadyH.nil)
      go_simp
      (refine ((W7 _).out).mono ?_; rintro e wq ⟨rfl, hbq⟩; replace HL := Lib.hid (HL.out.step hbq); clear sk; have sk := HL.out.cells; simp only [rectC, List.nil_append, List.cons_append, Cells] at sk; clear hbq)
      refine hK.out _ _ sk (fun hHeld2 => ?_)
      clear hK K hHeld
      have hHeld := hHeld2
      clear hHeld2
      try simp only [Act.put, List.setIfInBounds_toArray, List.set_cons_succ]
      refine wpAnyH_take (i := 23) (oi := ({ dst := some 90, op := Op.pick (Operand.tmp 86) (Operand.tmp 89) (Operand.const (Value.bool false)), type := 4, pos := "law.go:88", after := #[{ on := 19, ground := Ground.data }, { on := 22, ground := Ground.data }, { on := 12, ground := Ground.guard }], guard := some (12, true) } : Oper)) (v := ?_) rfl (by kernel_rfl) (by kernel_rfl) (by kernel_rfl) (fun _ _ _ h => h) (Or.inl ⟨by kernel_rfl, ?_⟩) hHeld ?_
      rotate_left 1
      · (intro W hSw; (try dsimp only at hSw); go_simp; try with_reducible rfl)
      try simp only [Act.put, List.setIfInBounds_toArray, List.set_cons_succ]
      refine wpAnyH_take (i := 24) (oi := ({ dst := some 91, op := Op.binOp BinOp.eql 4 (Operand.tmp 82) (Operand.tmp 90) 4, type := 4, pos := "law.go:88", after := #[{ on := 15, ground := Ground.data }, { on := 23, ground := Ground.data }, { on := 12, ground := Ground.guard }], guard := some (12, true) } : Oper)) (v := ?_) rfl (by kernel_rfl) (by kernel_rfl) (by kernel_rfl) (fun _ _ _ h => h) (Or.inl ⟨by kernel_rfl, ?_⟩) hHeld ?_
      rotate_left 1
      · (intro W hSw; (try dsimp only at hSw); go_simp; try with_reducible rfl)
      try simp only [Act.put, List.setIfInBounds_toArray, List.set_cons_succ]
      refine wpAnyH_take (i := 25) (oi := ({ dst := some 92, op := Op.pick (Operand.tmp 79) (Operand.tmp 91) (Operand.const (Value.bool false)), type := 4, pos := "law.go:88", after := #[{ on := 12, ground := Ground.data }, { on := 24, ground := Ground.data }], guard := none } : Oper)) (v := ?_) rfl (by kernel_rfl) (by kernel_rfl) (by kernel_rfl) (fun _ _ _ h => h) (Or.inl ⟨by kernel_rfl, ?_⟩) hHeld ?_
      rotate_left 1
      · (intro W hSw; (try dsimp only at hSw); go_simp; try with_reducible rfl)
      try simp only [Act.put, List.setIfInBounds_toArray, List.set_cons_succ]
      refine wpAnyH_take (i := 26) (oi := ({ dst := some 93, op := Op.move (Operand.tmp 92), type := 4, pos := "law.go:88", after := #[{ on := 25, ground := Ground.data }, { on := 22, ground := Ground.chain }], guard := none } : Oper)) (v := ?_) rfl (by kernel_rfl) (by kernel_rfl) (by kernel_rfl) (fun _ _ _ h => h) (Or.inl ⟨by kernel_rfl, ?_⟩) hHeld ?_
      rotate_left 1
      · (intro W hSw; (try dsimp only at hSw); go_simp; try with_reducible rfl)
      try simp only [Act.put, List.setIfInBounds_toArray, List.set_cons_succ]
      refine wpAnyH_ready (rs := [27]) (by kernel_rfl) (by simp) (AllReadyH.cons (o := ({ dst := some 94, op := Op.call { callee := Callee.value (Operand.func 21), args := #[], argTypes := #[] }, type := 4, pos := "law.go:88", after := #[{ on := 26, ground := Ground.chain }, { on := 26, ground := Ground.guard }], guard := some (26, true) } : Oper)) rfl (fun K hK => ?_) AllReadyH.nil)
      go_simp
      (refine (example_any _).mono ?_; rintro e wq ⟨rfl, hbq⟩; replace HL := Lib.hid (HL.out.step hbq); clear sk; have sk := HL.out.cells; simp only [rectC, List.nil_append, List.cons_append, Cells] at sk; clear hbq)
      refine hK.out _ _ sk (fun hHeld2 => ?_)
      clear hK K hHeld
      have hHeld := hHeld2
      clear hHeld2
      try simp only [Act.put, List.setIfInBounds_toArray, List.set_cons_succ]
      refine wpAnyH_take (i := 28) (oi := ({ dst := some 95, op := Op.pick (Operand.tmp 93) (Operand.tmp 94) (Operand.const (Value.bool false)), type := 4, pos := "law.go:88", after := #[{ on := 26, ground := Ground.data }, { on := 27, ground := Ground.data }], guard := none } : Oper)) (v := ?_) rfl (by kernel_rfl) (by kernel_rfl) (by kernel_rfl) (fun _ _ _ h => h) (Or.inl ⟨by kernel_rfl, ?_⟩) hHeld ?_
      rotate_left 1
      · (intro W hSw; (try dsimp only at hSw); go_simp; try with_reducible rfl)
      try simp only [Act.put, List.setIfInBounds_toArray, List.set_cons_succ]
      refine wpAnyH_take (i := 29) (oi := ({ dst := some 6, op := Op.assign (Operand.tmp 95), type := 4, pos := "law.go:88", after := _, guard := none } : Oper)) (v := ?_) rfl (by kernel_rfl) (by kernel_rfl) (by kernel_rfl) (fun _ _ _ h => h) (Or.inl ⟨by kernel_rfl, ?_⟩) hHeld ?_
      rotate_left 1
      · (intro W hSw; (try dsimp only at hSw); go_simp; try with_reducible rfl)
      try simp only [Act.put, List.setIfInBounds_toArray, List.set_cons_succ]
      refine wpAnyH_done (by kernel_rfl) ?_ _
      go_wp2_with fail
      go_ret
      refine ⟨?_, HL.out.below⟩
      kernel_rfl

set_option maxRecDepth 100000 in
theorem lattice_lifted (os : Os) (started : os.Started) (H : Type) (enc : TypeId × Value → H) :
    ReturnsInHanded {} Try.checked os 8 .any (Rows.rectLatticeSpec.pre6 enc Try.prog Try.f8 Rows.rectLatticeRow.domain false) (Rows.rectLatticeSpec.post enc Try.prog Try.f8 false true false false) := by
  refine returnsInHanded_of_change (C := Try.checked) own started (by kernel_rfl) Try.func8
    (ChangeSpec.witness6 (enc := enc) (C := Try.checked) false ⟨#[], #[.agg #[.int .i64 0, .int .i64 0, .int .i64 0, .int .i64 0], .agg #[.int .i64 0, .int .i64 0, .int .i64 0, .int .i64 0], .agg #[.int .i64 0, .int .i64 0, .int .i64 0, .int .i64 0]], []⟩ 8 (by kernel_rfl) (by kernel_rfl) (by kernel_rfl) (by kernel_rfl)) ?_
  intro W base args ds gs before hval0 hW _ _
  have hval : ∀ (j : Nat) t v, Try.f8.params[j]? = some t → args[j]? = some v → Value.okWide Try.prog W .any base t v := hval0
  have hW' := hW
  obtain ⟨p, q, hA0, hV, rfl, _, _⟩ := hW
  have hA : DataW.TrodAll enc Try.prog W 0 (fun _ => true) true Try.f8.params.toList args.toList ds p := hA0
  rw [Try.params8] at hA hval
  obtain ⟨v0, vs0, d0, ds0, p0, q0, hargs, rfl, rfl, h0, r0⟩ := trodAll_cons hA
  obtain ⟨v1, vs1, d1, ds1, p1, q1, rfl, rfl, rfl, h1, r1⟩ := trodAll_cons r0
  obtain ⟨v2, vs2, d2, ds2, p2, q2, rfl, rfl, rfl, h2, r2⟩ := trodAll_cons r1
  obtain ⟨rfl, rfl, rfl⟩ := trodAll_nil r2
  obtain rfl : args = #[v0, v1, v2] := by cases args; simp_all
  obtain ⟨rfl, rfl⟩ := trodVars_none hV
  clear hA0 hval0
  simp only [List.append_nil] at hW'
  have hlt0 : ∀ x ∈ p0, x.block < W.heap.size := fun x hx => hW'.lt x (by simp [hx])
  have k0 := h0
  have hlt1 : ∀ x ∈ p1, x.block < W.heap.size := fun x hx => hW'.lt x (by simp [hx])
  have k1 := h1
  have hlt2 : ∀ x ∈ p2, x.block < W.heap.size := fun x hx => hW'.lt x (by simp [hx])
  have k2 := h2
  obtain ⟨a0, rfl⟩ := open_rect (hval 0 23 v0 rfl rfl) h0
  obtain ⟨a1, rfl⟩ := open_rect (hval 1 23 v1 rfl rfl) h1
  obtain ⟨a2, rfl⟩ := open_rect (hval 2 23 v2 rfl rfl) h2
  refine (lattice_walk a0 a1 a2 _).mono fun e W' ⟨he, hg⟩ => ?_
  subst he
  exact ⟨_, rfl, _, _, _, [], _, [], hW', trodAll_cons_mk (shut_bool Try.underlying4 _) trodAll_mk0,
    (trodAll_cons_mk (Below.trod laidOut (by kernel_rfl) (of_decide_eq_true (by kernel_rfl)) k0 hg hlt0) (trodAll_cons_mk (Below.trod laidOut (by kernel_rfl) (of_decide_eq_true (by kernel_rfl)) k1 hg hlt1) (trodAll_cons_mk (Below.trod laidOut (by kernel_rfl) (of_decide_eq_true (by kernel_rfl)) k2 hg hlt2) trodAll_mk0))), rfl, hg.frame _, fun h => by cases h⟩

theorem lattice_holds : Rows.RectLatticeSaid :=
  OpenClaim.holds_of_wide 8 Try.f8 rfl rfl rfl rfl rfl rfl rfl ⟨rfl, rfl, rfl, rfl, rfl⟩ rfl rfl rfl rfl rfl (by kernel_rfl) Try.func8 (by kernel_rfl)
    (of_decide_eq_true (by kernel_rfl)) (by unfold Func.isWrapper; first | (rw [if_pos (by decide +kernel)]; kernel_rfl) | (rw [if_neg (by decide +kernel)]; exact ⟨rfl, rfl⟩))
    (fun os started H enc _ => lattice_lifted os started H enc)

end Go.Proofs.Ytalklenngalfjaa
