/-
  Subtract of package rect: a row of its own with the parts of the difference that are not empty.
-/
import Derived.Test.YtalklenngalfjaaDiff
import Derived.Test.YtalklenngalfjaaRs
namespace Go.Proofs.Ytalklenngalfjaa
open Go.RowKit Go.Shelf
attribute [local go_sem] Oper.semAt_some

def Subs (a b : R) (w : World) (e : Ending) (w' : World) : Prop := ∃ v, e = .returned v ∧ OwnR w' w.heap.size v (subR a b) ∧ Below w.heap.size w w'

theorem full_hit {r : R} (l : List R) (h : empB r = false) : fullR (l ++ [r]) = fullR l ++ [r] := by simp [fullR, h]
theorem full_miss {r : R} (l : List R) (h : empB r = true) : fullR (l ++ [r]) = fullR l := by simp [fullR, h]

/-- a block that holds the rectangle r alone -/
def Box4 (W : World) (B : Nat) (r : R) : Prop := W.heap[B]? = some (.cells #[.int .i64 r.x0, .int .i64 r.y0, .int .i64 r.x1, .int .i64 r.y1] 23 (0, 0))

theorem box4_at {W : World} {B : Nat} {r : R} (h : Box4 W B r) : At W B r := by
  have h' : W.heap[B]? = some (.cells #[.int .i64 r.x0, .int .i64 r.y0, .int .i64 r.x1, .int .i64 r.y1] 23 (0, 0)) := h
  refine ⟨?_, ?_, ?_, ?_, fun i => ?_⟩
  all_goals simp [World.cell?, World.frozen?, h']

theorem box4_own (B : Nat) (r : R) (n : Nat) : OwnFrom n (fun (_ : Unit) W => Box4 W B r) := fun _ X Y row hs hg hr => by
  have hs' : X.heap[B]? = some (.cells #[.int .i64 r.x0, .int .i64 r.y0, .int .i64 r.x1, .int .i64 r.y1] 23 (0, 0)) := hs
  refine (hg.block B (Array.getElem?_eq_some_iff.1 hs').1 (fun e => ?_)).trans hs'
  obtain ⟨_, o, ho, hc⟩ := hr B e.symm
  rw [hs'] at ho
  cases ho
  cases hc

theorem own_weaken {W : World} {base base' : Nat} {e : TypeId} {size : Nat} {v : Value} {n : Nat} {xs : List Value} (h : W.ownsRow base e size v n xs) (hb : base' ≤ base) : W.ownsRow base' e size v n xs := by
  obtain ⟨h1, h2⟩ := h
  refine ⟨h1, ?_⟩
  rcases h2 with h | ⟨g, cap, cur, h3, h4, h5⟩
  · exact .inl h
  · exact .inr ⟨g, cap, cur, h3, Nat.le_trans hb h4, h5⟩

theorem keeps_below {B : Nat} {W W' : World} (h : Below W.heap.size W W') : KeepsFrom B W W' :=
  ⟨h.size, fun k _ _ h0 _ => (h.block k (Array.getElem?_eq_some_iff.1 h0).1).trans h0⟩

theorem grown_below {W W' : World} (hb : Below W.heap.size W W') : W.grownBy W' none := ⟨hb.os, hb.tape, hb.output, hb.size, fun k hk _ => hb.block k hk⟩

/-- what the walk owes behind an append onto the boxed row -/
theorem appended2 {W w1 : World} {n₀ n1 O I A : Nat} {v v' : Value} {k m : Nat} {xs ys : List Value} {tmp : Obj} (hv : Boxed W O 32 v) (hrow : W.ownsRow n1 23 4 v k xs) (hn1 : n1 ≤ W.heap.size) (hn0 : n₀ ≤ O) (hI : I < n1) (hA : A < n1) (hOI : O < I) (hOA : O < A)
    (hown' : w1.ownsRow n1 23 4 v' m ys) (hgrow : (W.alloc tmp).grownBy w1 v.ownBlock) :
    Boxed w1 O 32 v ∧ (Boxed (w1.setCell ⟨O, 0, none⟩ v') O 32 v' ∧ (w1.setCell ⟨O, 0, none⟩ v').ownsRow n1 23 4 v' m ys) ∧ KeepsFrom n1 W (w1.setCell ⟨O, 0, none⟩ v') ∧ Below n₀ W (w1.setCell ⟨O, 0, none⟩ v') ∧ Keeps2 I A W (w1.setCell ⟨O, 0, none⟩ v') := by
  obtain ⟨h1, h2, _, h4, h5⟩ := hv.appended (n₀ := n₀) (by decide) (own_weaken hrow (by omega)) (by omega) hn0 (own_weaken hown' (by omega)) hgrow
  have hlt := fun q h => (World.ownsRow.lt hrow q h).1
  have same : ∀ q, q < n1 → O < q → (w1.setCell ⟨O, 0, none⟩ v').heap[q]? = W.heap[q]? := fun q hq hoq => by
    rw [Below.heap_setCell _ _ _ q (fun e => by simp at e; omega), hgrow.block q (by simp; omega) (fun e => by have := hlt q e.symm; omega)]
    exact Below.heap_alloc W tmp q (by omega)
  exact ⟨h1, ⟨h2, hown'.kept (grownBy_setCell' w1 O v') (.inr (h1.not_row (by decide) hown').symm)⟩, h4.from _, h5, same I hI hOI, same A hA hOA⟩

theorem flat_snoc (l : List R) (x : R) : flat (l ++ [x]) = flat l ++ cells4 x := by
  rw [flat_append]
  simp [flat]

theorem fullR_le (l : List R) : (fullR l).length ≤ l.length := List.length_filter_le _ _

set_option maxRecDepth 100000 in
set_option maxHeartbeats 2000000 in
theorem sub_any (a b : R) (w : World) : Calls Try.prog 29 #[.agg #[.int .i64 a.x0, .int .i64 a.y0, .int .i64 a.x1, .int .i64 a.y1], .agg #[.int .i64 b.x0, .int .i64 b.y0, .int .i64 b.x1, .int .i64 b.y1]] w (Subs a b w) := by
  obtain ⟨i0, hi, hz0, hz1, hz2⟩ := info_parts rect_info
  refine (callsIn_wide (n := 9)).1 ?_
  refine callsIn_of_wp_marks Try.func29 rfl trivial ?_ rfl
  simp only [Try.ntmps29, List.size_toArray, List.length_cons, List.length_nil, Nat.reduceAdd, Nat.reduceSub, Array.replicate_succ, Array.replicate_zero, List.push_toArray, List.append_toArray, List.nil_append, List.cons_append]
  gi_wp2
  refine ⟨trivial, ?_⟩
  refine (callsIn_wide.2 (diff_any a b _)).mono ?_
  rintro e w1 ⟨I, A, rfl, hI, hA, hIl, hAl, hb1⟩
  have bO0 : Boxed (((w.alloc (.cells #[.int .i64 a.x0, .int .i64 a.y0, .int .i64 a.x1, .int .i64 a.y1] 23)).alloc (.cells #[.int .i64 b.x0, .int .i64 b.y0, .int .i64 b.x1, .int .i64 b.y1] 23)).alloc (.cells #[.slice none 0 0] 32)) (w.heap.size + 1 + 1) 32 (.slice none 0 0) := by
    have := Boxed.new ((w.alloc (.cells #[.int .i64 a.x0, .int .i64 a.y0, .int .i64 a.x1, .int .i64 a.y1] 23)).alloc (.cells #[.int .i64 b.x0, .int .i64 b.y0, .int .i64 b.x1, .int .i64 b.y1] 23)) 32 (.slice none 0 0)
    rwa [World.size_alloc, World.size_alloc] at this
  have bO := bO0.kept (grown_below hb1) (by simp)
  have hB0 : Below w.heap.size w w1 := ((((Below.refl w.heap.size w).alloc (Nat.le_refl _) _).alloc (by simp) _).alloc (by simp; omega) _).trans (hb1.mono (by simp; omega))
  have hIl' : w.heap.size + 1 + 1 < I := by simp at hIl; omega
  have hAl' : w.heap.size + 1 + 1 < A := by simp at hAl; omega
  have hIt := hI.there
  have hAt := hA.there
  clear bO0 hb1 hIl hAl
  gi_wp2
  refine wpIn_rangeFunc_ownH rfl (by omega) (gf := 43) (lb := #[.pointer (some ⟨I, 0, none⟩), .pointer (some ⟨A, 0, none⟩)]) rfl trivial (enters_of Try.func43 (by kernel_rfl) rfl)
    (parts_stops _ (by omega) I A a b w1 hI hA) keeps2_t (keeps2_b hIt hAt) (Below.refl _ _) (fun _ => rfl)
    (fun pre W => (∃ v, Boxed W (w.heap.size + 1 + 1) 32 v ∧ W.ownsRow w1.heap.size 23 4 v (fullR pre).length (flat (fullR pre)) ∧ True) ∧ (Below w.heap.size w W ∧ KeepsFrom w1.heap.size w1 W))
    (fun _ _ _ => False)
    (OwnFrom.and (Own.from (holdsRow_own w1.heap.size (w.heap.size + 1 + 1) 32 23 4 (fun pre => (fullR pre).length) (fun pre => flat (fullR pre)) (fun _ _ => True)) _) (OwnFrom.and (ownFrom_below (Nat.le_refl _) (by omega)) (ownFrom_keepsFrom (Nat.le_refl _))))
    (fun _ _ _ _ _ hs _ _ => hs)
    ⟨⟨_, bO, World.ownsRow_nil _ _ _ _, trivial⟩, hB0, KeepsFrom.refl _ _⟩
    (fun x a' W => ∃ Bx, w1.heap.size ≤ Bx ∧ Box4 W Bx x ∧ a' = { tmps := #[.agg #[.int .i64 a.x0, .int .i64 a.y0, .int .i64 a.x1, .int .i64 a.y1], .agg #[.int .i64 b.x0, .int .i64 b.y0, .int .i64 b.x1, .int .i64 b.y1], .pointer (some ⟨w.heap.size, 0, none⟩), .pointer (some ⟨w.heap.size + 1, 0, none⟩), .slice none 0 0, .pointer (some ⟨w.heap.size + 1 + 1, 0, none⟩), .pointer (some ⟨Bx, 0, none⟩), .agg #[.int .i64 a.x0, .int .i64 a.y0, .int .i64 a.x1, .int .i64 a.y1], .agg #[.int .i64 b.x0, .int .i64 b.y0, .int .i64 b.x1, .int .i64 b.y1], .func (.func 43) #[] #[.pointer (some ⟨I, 0, none⟩), .pointer (some ⟨A, 0, none⟩)], .agg #[.int .i64 x.x0, .int .i64 x.y0, .int .i64 x.x1, .int .i64 x.y1], undef, undef, undef, undef, undef, undef, undef, undef], defers := [] })
    (fun x a' _ X Y row hs hg hr => by obtain ⟨Bx, h1, h2, h3⟩ := hs; exact ⟨Bx, h1, box4_own Bx x _ () X Y row h2 hg hr, h3⟩)
    ?assign ?body ?done ?stop
  case assign =>
    rintro l pre x W K ⟨⟨v, bS1, hr1, _⟩, hB1, hKF⟩ hK
    have hz := bS1.lt
    have hs := hKF.size
    gi_wp2
    exact hK _ _ ((KeepsOthers.alloc _ _).from _) ⟨Below.heap_alloc _ _ _ (by omega), Below.heap_alloc _ _ _ (by omega)⟩ ⟨⟨v, bS1.alloc _, hr1.alloc _, trivial⟩, hB1.alloc hB1.size _, hKF.trans ((KeepsOthers.alloc _ _).from _)⟩ ⟨W.heap.size, hs, World.alloc_heap_new W _, rfl⟩
  case body =>
    rintro l pre x a' W hl ⟨r, hr⟩ ⟨⟨v, bS1, hr1, _⟩, hB1, hKF⟩ ⟨Bx, hBx, bX, rfl⟩ hlt
    have hs := hKF.size
    have X := box4_at bX
    have hXt := X.there
    have C1 := fun W => Lib.hid (empty_any x W)
    have hle := fullR_le pre
    have hd : 1 ≤ 9 - 1 - 1 := by omega
    cases h : empB x
    · rw [h] at C1
      have HH := Lib.hid (full_hit pre h)
      clear h
      obtain ⟨x0, x1, x2, x3, xf⟩ := id X
      gi_wp2
      refine ⟨trivial, ?_⟩
      refine (CallsIn.inRound l (callsIn_wide.2 (C1 _).out)).mono ?_
      rintro e w2 ⟨rfl, hb2⟩
      replace X := X.keep hb2 hXt
      clear x0 x1 x2 x3 xf
      obtain ⟨x0, x1, x2, x3, xf⟩ := id X
      have bS2 := bS1.kept (grown_below hb2) (by simp)
      have hr2 := hr1.kept (grown_below hb2) (by cases v.ownBlock <;> simp)
      have hB2 := hB1.trans (hb2.mono hB1.size)
      have hKF2 := hKF.trans (keeps_below hb2)
      have hs2 := hKF2.size
      have hc2 := bS2.cell
      have hf2 := bS2.frozen
      clear X hc2 hf2
      have hc2 := bS2.cell
      have hn := World.news_of_block (cs := #[.int .i64 x.x0, .int .i64 x.y0, .int .i64 x.x1, .int .i64 x.y1]) (t := 23) (fr := (0, 0)) (World.alloc_heap_new w2 _)
      gi_wp2_with (gi_at_builtin; refine wpListIn_append_own _ rfl _ _ 32 rfl w1.heap.size 23 i0 _ 4 32 Try.underlying32 hi hz0 hz1 hz2 rfl (by decide) _ _ _ rfl (hr2.alloc _) ⟨w2.heap.size, 0, none⟩ 1 1 (cells4 x) rfl rfl hn (by simp [cells4, Value.oneCell']) (by unfold maxLen; omega) (by omega) (by simp; omega) ?_; intro v' w3 hown' hgrow _; obtain ⟨g', cap', rfl⟩ := ownsRow_succ hown'; obtain ⟨hv1, ⟨hv2, hr3⟩, k3, hb3, kk3⟩ := appended2 (n₀ := w.heap.size) bS2 hr2 hs2 (by omega) hIt hAt hIl' hAl' hown' hgrow; have hc3 := hv1.cell; have hf3 := hv1.frozen)
      have e1 : w2.heap[I]? = W.heap[I]? := hb2.block I (by omega)
      have e2 : w2.heap[A]? = W.heap[A]? := hb2.block A (by omega)
      exact ⟨(keeps_below hb2).trans k3, ⟨kk3.1.trans e1, kk3.2.trans e2⟩, ⟨⟨_, hv2, by rw [HH.out, flat_snoc, List.length_append]; exact hr3, trivial⟩, hB2.trans hb3, hKF2.trans k3⟩⟩
    · rw [h] at C1
      have HH := Lib.hid (full_miss pre h)
      clear h
      obtain ⟨x0, x1, x2, x3, xf⟩ := id X
      gi_wp2
      refine ⟨trivial, ?_⟩
      refine (CallsIn.inRound l (callsIn_wide.2 (C1 _).out)).mono ?_
      rintro e w2 ⟨rfl, hb2⟩
      have bS2 := bS1.kept (grown_below hb2) (by simp)
      have hr2 := hr1.kept (grown_below hb2) (by cases v.ownBlock <;> simp)
      have hB2 := hB1.trans (hb2.mono hB1.size)
      have k2 := keeps_below (B := w1.heap.size) hb2
      have e1 : w2.heap[I]? = W.heap[I]? := hb2.block I (by omega)
      have e2 : w2.heap[A]? = W.heap[A]? := hb2.block A (by omega)
      clear x0 x1 x2 x3 xf hb2
      gi_wp2
      exact ⟨k2, ⟨e1, e2⟩, ⟨⟨v, bS2, by rw [HH.out]; exact hr2, trivial⟩, hB2, hKF.trans k2⟩⟩
  case done =>
    rintro D zs W hD rfl ⟨⟨v, bS1, hr1, _⟩, hB1, _⟩ hK
    have cS := bS1.cell
    gi_wp2
    refine ⟨by simp, .inl ⟨_, _, rfl, run_takeDeferred hK, ?_⟩⟩
    exact ⟨_, results_tmp rfl _ _ _, v, rfl, ownsRow_putObj (own_weaken hr1 hB0.size) _ hK rfl, hB1.trans (belowK_b (w := w) (Nat.le_refl _) W D _ _ (by have := hB0.size; omega) hK rfl rfl)⟩
  case stop =>
    rintro D c pre W _ _ h _
    exact h.elim

end Go.Proofs.Ytalklenngalfjaa
