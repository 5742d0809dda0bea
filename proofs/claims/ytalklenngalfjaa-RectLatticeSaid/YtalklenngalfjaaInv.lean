/-
  A region that draws its order, by an invariant over what has come up: each operation is walked once, not once an order.
-/
import Derived.Test.YtalklenngalfjaaPair
import Derived.OrdersHeld
namespace Go.Proofs.Ytalklenngalfjaa
open Go.RowKit

section
variable {P : Program} {ops : Array Oper} {Q : Exit → Act → World → Prop} {md : Region.Mode} {S : World → Prop}

theorem wpAnyH_inv (Inv : Array Bool → Act → World → Prop) (left : Array Bool → Nat)
    (step : ∀ listed a w, Inv listed a w → ∀ i ∈ Region.ready md ops listed, left (listed.setIfInBounds i true) < left listed ∧ wpOp P ops Q i (fun a' w' => S w' ∧ Inv (listed.setIfInBounds i true) a' w') a w)
    (done : ∀ listed a w, Inv listed a w → Region.ready md ops listed = [] → Q .normal a w) :
    ∀ (fuel : Nat) (listed : Array Bool) (a : Act) (w : World), left listed ≤ fuel → Inv listed a w → wpAnyH P md ops Q S fuel listed a w
  | 0, listed, a, w, hl, hi => by
    have hr : Region.ready md ops listed = [] := by
      cases h : Region.ready md ops listed with
      | nil => rfl
      | cons i rs =>
        have := (step listed a w hi i (by rw [h]; simp)).1
        omega
    exact ⟨hr, done listed a w hi hr⟩
  | fuel + 1, listed, a, w, hl, hi => by
    refine ⟨fun hr => done listed a w hi hr, fun i hir => ?_⟩
    obtain ⟨h1, h2⟩ := step listed a w hi i hir
    exact wpOp_mono (fun a' w' ⟨hs, hi'⟩ => ⟨hs, wpAnyH_inv Inv left step done fuel _ a' w' (by omega) hi'⟩) h2

/-- what may come up next, of two calls, two allocs, two stores: by what has come up -/
def rdy (f3 f7 f8 f9 f10 f11 : Bool) : List Nat :=
  (if f3 = false then [3] else []) ++ (if f3 = true ∧ f7 = false then [7] else []) ++ (if f8 = false then [8] else []) ++ (if f9 = false then [9] else []) ++
    (if f3 = true ∧ f7 = true ∧ f8 = true ∧ f9 = true ∧ f10 = false then [10] else []) ++ (if f3 = true ∧ f7 = true ∧ f8 = true ∧ f9 = true ∧ f10 = true ∧ f11 = false then [11] else [])

theorem inv_from {a0 : Act} {w0 : World} {listed0 : Array Bool} {fuel : Nat} {L : Bool → Bool → Bool → Bool → Bool → Bool → Array Bool}
    {St : Act → Bool → Bool → Bool → Bool → Bool → Bool → Act → World → Prop}
    (hr : ∀ f3 f7 f8 f9 f10 f11, Region.ready md ops (L f3 f7 f8 f9 f10 f11) = rdy f3 f7 f8 f9 f10 f11)
    (h3 : ∀ f8 f9 a w, St a0 false false f8 f9 false false a w → wpOp P ops Q 3 (fun a' w' => S w' ∧ St a0 true false f8 f9 false false a' w') a w)
    (h7 : ∀ f8 f9 a w, St a0 true false f8 f9 false false a w → wpOp P ops Q 7 (fun a' w' => S w' ∧ St a0 true true f8 f9 false false a' w') a w)
    (h8 : ∀ f3 f7 f9 a w, St a0 f3 f7 false f9 false false a w → wpOp P ops Q 8 (fun a' w' => S w' ∧ St a0 f3 f7 true f9 false false a' w') a w)
    (h9 : ∀ f3 f7 f8 a w, St a0 f3 f7 f8 false false false a w → wpOp P ops Q 9 (fun a' w' => S w' ∧ St a0 f3 f7 f8 true false false a' w') a w)
    (h10 : ∀ a w, St a0 true true true true false false a w → wpOp P ops Q 10 (fun a' w' => S w' ∧ St a0 true true true true true false a' w') a w)
    (h11 : ∀ a w, St a0 true true true true true false a w → wpOp P ops Q 11 (fun a' w' => S w' ∧ St a0 true true true true true true a' w') a w)
    (fin : ∀ a w, St a0 true true true true true true a w → Q .normal a w)
    (at0 : St a0 false false false false false false a0 w0 ∧ listed0 = L false false false false false false ∧ 6 ≤ fuel ∧ (∀ f3 f7 f8 f9 f10 f11, (L f3 f7 f8 f9 f10 f11).setIfInBounds 3 true = L true f7 f8 f9 f10 f11 ∧ (L f3 f7 f8 f9 f10 f11).setIfInBounds 7 true = L f3 true f8 f9 f10 f11 ∧ (L f3 f7 f8 f9 f10 f11).setIfInBounds 8 true = L f3 f7 true f9 f10 f11 ∧ (L f3 f7 f8 f9 f10 f11).setIfInBounds 9 true = L f3 f7 f8 true f10 f11 ∧ (L f3 f7 f8 f9 f10 f11).setIfInBounds 10 true = L f3 f7 f8 f9 true f11 ∧ (L f3 f7 f8 f9 f10 f11).setIfInBounds 11 true = L f3 f7 f8 f9 f10 true)) :
    wpAnyH P md ops Q S fuel listed0 a0 w0 := by
  obtain ⟨hst, rfl, hf, hs⟩ := at0
  -- by the number of operations that are left, and the flags
  have key : ∀ (k : Nat) f3 f7 f8 f9 f10 f11 a w fuel, ((if f3 then 0 else 1) + (if f7 then 0 else 1) + (if f8 then 0 else 1) + (if f9 then 0 else 1) + (if f10 then 0 else 1) + (if f11 then 0 else 1) : Nat) = k → k ≤ fuel →
      (f7 = true → f3 = true) → (f10 = true → f3 = true ∧ f7 = true ∧ f8 = true ∧ f9 = true) → (f11 = true → f10 = true) → St a0 f3 f7 f8 f9 f10 f11 a w → wpAnyH P md ops Q S fuel (L f3 f7 f8 f9 f10 f11) a w := by
    intro k
    induction k with
    | zero =>
      intro f3 f7 f8 f9 f10 f11 a w fuel hk _ _ _ _ h
      cases f3 <;> cases f7 <;> cases f8 <;> cases f9 <;> cases f10 <;> cases f11 <;> simp at hk
      exact wpAnyH_done (by rw [hr]; rfl) (fin _ _ h) _
    | succ k ih =>
      intro f3 f7 f8 f9 f10 f11 a w fuel hk hkf c1 c2 c3 h
      obtain ⟨fuel, rfl⟩ : ∃ n, fuel = n + 1 := ⟨fuel - 1, by omega⟩
      obtain ⟨s3, s7, s8, s9, s10, s11⟩ := hs f3 f7 f8 f9 f10 f11
      refine ⟨fun h0 => ?_, fun i hi => ?_⟩
      · rw [hr] at h0
        exfalso
        cases f3 <;> cases f7 <;> cases f8 <;> cases f9 <;> cases f10 <;> cases f11 <;> simp [rdy] at h0 hk c1 c2 c3
      · rw [hr] at hi
        cases f3 <;> cases f7 <;> cases f8 <;> cases f9 <;> cases f10 <;> cases f11 <;> simp at c1 c2 c3 <;> simp [rdy] at hi <;> simp at hk
        all_goals (try (rcases hi with rfl | rfl | rfl))
        all_goals (try (rcases hi with rfl | rfl))
        all_goals (try subst hi)
        all_goals first
          | (simp only [s3]; exact wpOp_mono (fun a' w' ⟨hs', h'⟩ => ⟨hs', ih _ _ _ _ _ _ _ _ _ (by simp; try omega) (by omega) (by simp) (by simp) (by simp) h'⟩) (h3 _ _ _ _ h))
          | (simp only [s7]; exact wpOp_mono (fun a' w' ⟨hs', h'⟩ => ⟨hs', ih _ _ _ _ _ _ _ _ _ (by simp; try omega) (by omega) (by simp) (by simp) (by simp) h'⟩) (h7 _ _ _ _ h))
          | (simp only [s8]; exact wpOp_mono (fun a' w' ⟨hs', h'⟩ => ⟨hs', ih _ _ _ _ _ _ _ _ _ (by simp; try omega) (by omega) (by simp) (by simp) (by simp) h'⟩) (h8 _ _ _ _ _ h))
          | (simp only [s9]; exact wpOp_mono (fun a' w' ⟨hs', h'⟩ => ⟨hs', ih _ _ _ _ _ _ _ _ _ (by simp; try omega) (by omega) (by simp) (by simp) (by simp) h'⟩) (h9 _ _ _ _ _ h))
          | (simp only [s10]; exact wpOp_mono (fun a' w' ⟨hs', h'⟩ => ⟨hs', ih _ _ _ _ _ _ _ _ _ (by simp; try omega) (by omega) (by simp) (by simp) (by simp) h'⟩) (h10 _ _ h))
          | (simp only [s11]; exact wpOp_mono (fun a' w' ⟨hs', h'⟩ => ⟨hs', ih _ _ _ _ _ _ _ _ _ (by simp; try omega) (by omega) (by simp) (by simp) (by simp) h'⟩) (h11 _ _ h))
  exact key 6 false false false false false false a0 w0 fuel rfl hf (by simp) (by simp) (by simp) hst

end

/-- the two new boxes, by what has come up: made, stored into -/
structure Pair2 (w0 : World) (B : Nat) (l : List (Addr × Value)) (f8 f9 f10 f11 : Bool) (M Nn : Nat) (m n : R) (w : World) : Prop where
  old : w0.heap.size ≤ B
  held : HeldL w0 w l
  low : ∀ p ∈ l, p.1.block < B
  size : B ≤ w.heap.size
  m0 : B ≤ M
  n0 : B ≤ Nn
  ne : M ≠ Nn
  atM : f8 = true → if f10 = true then Four w M (.int .i64 m.x0) (.int .i64 m.y0) (.int .i64 m.x1) (.int .i64 m.y1) else Four w M (.int .i64 0) (.int .i64 0) (.int .i64 0) (.int .i64 0)
  atN : f9 = true → if f11 = true then Four w Nn (.int .i64 n.x0) (.int .i64 n.y0) (.int .i64 n.x1) (.int .i64 n.y1) else Four w Nn (.int .i64 0) (.int .i64 0) (.int .i64 0) (.int .i64 0)

section
variable {w0 w w' : World} {B : Nat} {l : List (Addr × Value)} {f8 f9 f10 f11 : Bool} {M Nn : Nat} {m n : R}

theorem Pair2.step (h : Pair2 w0 B l f8 f9 f10 f11 M Nn m n w) (hb : Below w.heap.size w w') : Pair2 w0 B l f8 f9 f10 f11 M Nn m n w' :=
  ⟨h.old, h.held.step hb, h.low, Nat.le_trans h.size hb.size, h.m0, h.n0, h.ne, fun e => by
    have := h.atM e
    split <;> split at this <;> first | exact this.keep hb this.in_ | contradiction, fun e => by
    have := h.atN e
    split <;> split at this <;> first | exact this.keep hb this.in_ | contradiction⟩

theorem Pair2.newM (h : Pair2 w0 B l false f9 false false M Nn m n w) (hN : f9 = true → Nn < w.heap.size) : ∃ Nn', (f9 = true → Nn' = Nn) ∧ Pair2 w0 B l true f9 false false w.heap.size Nn' m n (w.alloc (.cells #[.int .i64 0, .int .i64 0, .int .i64 0, .int .i64 0] 23)) := by
  have h1 := h.held.alloc (.cells #[.int .i64 0, .int .i64 0, .int .i64 0, .int .i64 0] 23)
  refine ⟨if f9 = true then Nn else w.heap.size + 1, fun e => by simp [e], h.old, h1, h.low, by have := h.size; simp; omega, h.size, ?_, ?_, fun _ => ?_, fun e => ?_⟩
  · split
    · exact h.n0
    · have := h.size
      omega
  · split
    · rename_i e
      have := hN e
      omega
    · omega
  · simp only [Bool.false_eq_true, if_false]
    exact Four.new w _ _ _ _ _
  · have := h.atN e
    simp only [Bool.false_eq_true, if_false] at this ⊢
    simp only [e, if_true]
    exact this.alloc this.in_ _

theorem Pair2.newN (h : Pair2 w0 B l f8 false false false M Nn m n w) (hM : f8 = true → M < w.heap.size) : ∃ M', (f8 = true → M' = M) ∧ Pair2 w0 B l f8 true false false M' w.heap.size m n (w.alloc (.cells #[.int .i64 0, .int .i64 0, .int .i64 0, .int .i64 0] 23)) := by
  have h1 := h.held.alloc (.cells #[.int .i64 0, .int .i64 0, .int .i64 0, .int .i64 0] 23)
  refine ⟨if f8 = true then M else w.heap.size + 1, fun e => by simp [e], h.old, h1, h.low, by have := h.size; simp; omega, ?_, h.size, ?_, fun e => ?_, fun _ => ?_⟩
  · split
    · exact h.m0
    · have := h.size
      omega
  · split
    · rename_i e
      have := hM e
      omega
    · omega
  · have := h.atM e
    simp only [Bool.false_eq_true, if_false] at this ⊢
    simp only [e, if_true]
    exact this.alloc this.in_ _
  · simp only [Bool.false_eq_true, if_false]
    exact Four.new w _ _ _ _ _

theorem Pair2.setM (h : Pair2 w0 B l true true false false M Nn m n w) : Pair2 w0 B l true true true false M Nn m n (set4 w M (.int .i64 m.x0) (.int .i64 m.y0) (.int .i64 m.x1) (.int .i64 m.y1)) := by
  have hM := h.atM rfl
  have hN := h.atN rfl
  simp only [Bool.false_eq_true, if_false] at hM hN
  exact ⟨h.old, (h.held.set (ne_low h.low h.m0) (Nat.le_trans h.old h.m0) hM m).of (fun p hp => List.mem_append_left _ hp), h.low, by rw [set4_size]; exact h.size, h.m0, h.n0, h.ne, fun _ => by simp only [if_true]; exact hM.set,
    fun _ => by simp only [Bool.false_eq_true, if_false]; exact hN.far h.ne.symm⟩

theorem Pair2.setN (h : Pair2 w0 B l true true true false M Nn m n w) : Pair2 w0 B l true true true true M Nn m n (set4 w Nn (.int .i64 n.x0) (.int .i64 n.y0) (.int .i64 n.x1) (.int .i64 n.y1)) := by
  have hM := h.atM rfl
  have hN := h.atN rfl
  simp only [Bool.false_eq_true, if_false, if_true] at hM hN
  exact ⟨h.old, (h.held.set (ne_low h.low h.n0) (Nat.le_trans h.old h.n0) hN n).of (fun p hp => List.mem_append_left _ hp), h.low, by rw [set4_size]; exact h.size, h.m0, h.n0, h.ne, fun _ => by simp only [if_true]; exact hM.far h.ne,
    fun _ => by simp only [if_true]; exact hN.set⟩

theorem HeldL.add4 {g : Nat} {r : R} (h : HeldL w0 w l) (F : Four w g (.int .i64 r.x0) (.int .i64 r.y0) (.int .i64 r.x1) (.int .i64 r.y1)) : HeldL w0 w (l ++ rectC g r) := by
  refine ⟨fun p hp => ?_, h.below⟩
  rcases List.mem_append.1 hp with hp | hp
  · exact h.there p hp
  · have hl := F.in_
    simp only [rectC, List.mem_cons, List.not_mem_nil, or_false] at hp
    rcases hp with rfl | rfl | rfl | rfl
    · exact ⟨hl, F.1, F.2.2.2.2 _⟩
    · exact ⟨hl, F.2.1, F.2.2.2.2 _⟩
    · exact ⟨hl, F.2.2.1, F.2.2.2.2 _⟩
    · exact ⟨hl, F.2.2.2.1, F.2.2.2.2 _⟩

theorem Pair2.fin (h : Pair2 w0 B l true true true true M Nn m n w) : HeldL w0 w (l ++ rectC M m ++ rectC Nn n) := by
  have hM := h.atM rfl
  have hN := h.atN rfl
  simp only [if_true] at hM hN
  exact (h.held.add4 hM).add4 hN
end

end Go.Proofs.Ytalklenngalfjaa
