/-
  A loop over strips: the word of an iterator that keeps rows of its own between two rounds, and the law of a loop over it.
-/
import Derived.Test.YtclnepijbnhdfaaGro
import Derived.Test.YtclnepijbnhdfaaComb
import Derived.RangeFuncNested
namespace Go.Proofs.Ytclnepijbnhdfaa
open Go.RowKit

/-- J lets the iterator turn its own blocks X and make new ones -/
def AbX (J : (Nat → Prop) → List Band → World → Prop) : Prop :=
  ∀ X X' pre U V, J X pre U → GrownIn X U V → (∀ k, X' k → X k ∨ U.heap.size ≤ k) → J X' pre V

/-- an iterator that yields the strips L, one row of rectangles each, in blocks of its own -/
def SeqX (n : Nat) (g : Nat) (lb : Array Value) (L : List Band) (X0 : Nat → Prop) (w : World) : Prop :=
  ∀ (l : Nat) (J : (Nat → Prop) → List Band → World → Prop) (Jx : List Band → World → Prop) (W : World), Below w.heap.size w W → AbX J →
    (∀ X pre b v U, J X pre U → pre ++ [b] <+: L → Rs U v (bandR b) → (∀ k, blk v k → X k) → (∀ k, X k → k < U.heap.size) → YieldAt Fence.wide (n - 1) Try.prog l #[v] U fun e U' =>
      (e = .returned (.bool true) ∧ J X (pre ++ [b]) U' ∧ GrownIn (fun k => ¬ X k) U U') ∨ (e = .returned (.bool false) ∧ Jx (pre ++ [b]) U')) →
    J X0 [] W →
    CallsIn Fence.wide n Try.prog g (#[.func (.yield l) #[] #[]] ++ lb) W fun e W' => (∃ v, e = .returned v) ∧ ((∃ X, J X L W') ∨ (∃ pre, pre <+: L ∧ Jx pre W'))

/-- how a round of the loop may be left -/
def postX (B : Nat) (X : Nat → Prop) (I : (Nat → Prop) → List Band → World → Prop) (Ix : List Band → World → Prop) (pre : List Band) (W : World) : Exit → Act → World → Prop
  | .normal, _, W' => KeepsFrom B W W' ∧ GrownIn (fun k => ¬ X k) W W' ∧ I X pre W'
  | .ret, _, W' => KeepsFrom B W W' ∧ Ix pre W'
  | _, _, _ => False

/-- the blocks that the loop itself turns -/
def Own' (B : Nat) (U : World) (k : Nat) : Prop := B ≤ k ∧ ∃ o : Obj, U.heap[k]? = some o ∧ o.isCells = false

theorem grown_put_obj {B l : Nat} {U : World} {o : Obj} (o' : Obj) (hB : B ≤ l) (h : U.heap[l]? = some o) (hc : o.isCells = false) : GrownIn (Own' B U) U (U.putObj l o') :=
  (GrownIn.of_grown (grownBy_putObj' U l o')).mono (fun k _ e => by cases e; exact ⟨hB, o, h, hc⟩)

set_option maxHeartbeats 1000000 in
theorem wpIn_rangeX {n : Nat} {g : Operand} {ps : Array Tmp} {assign body : Code} {Q : Exit → Act → World → Prop} {a : Act} {w : World} (h1 : 1 ≤ n) {gf : Nat} {lb : Array Value} (hg : a.eval g = .func (.func gf) #[] lb)
    (eg : ∀ args w, (callFunc gf args).run Try.prog w = .ok (.enter gf args) w) {L : List Band} {X0 : Nat → Prop} {w0 : World} (hseq : SeqX (n - 1) gf lb L X0 w0) (hb0 : Below w0.heap.size w0 w) (hps : ps.size = 1) (hX0 : ∀ k, X0 k → k < w.heap.size)
    (I : (Nat → Prop) → List Band → World → Prop) (Ix : List Band → World → Prop)
    (hI : ∀ X X' pre U V, I X pre U → GrownIn (fun k => X k ∨ Own' w.heap.size U k) U V → (∀ k, X' k → X k ∨ U.heap.size ≤ k) → I X' pre V)
    (hIx : ∀ pre U V, Ix pre U → GrownIn (Own' w.heap.size U) U V → Ix pre V) (h0 : I X0 [] w) (a₁ : Value → Act)
    (hassign : ∀ (l : Nat) (v : Value) (W : World) (K : Act → World → Prop), K (a₁ v) W →
      assign.wpIn (Fence.wide.inRound l) (n - 1 - 1) Try.prog (Exit.then K (fun _ _ _ => False)) { tmps := (ps.zip #[v]).foldl (fun t (p, v) => t.setIfInBounds p v) a.tmps, defers := [] } W)
    (hbody : ∀ (l : Nat) (X : Nat → Prop) (pre : List Band) (b : Band) (v : Value) (W : World), I X pre W → pre ++ [b] <+: L → Rs W v (bandR b) → (∀ k, blk v k → X k) → (∀ k, X k → k < W.heap.size) → body.wpIn (Fence.wide.inRound l) (n - 1 - 1) Try.prog (postX w.heap.size X I Ix (pre ++ [b]) W) (a₁ v) W)
    (hdone : ∀ (D : Nat) (X : Nat → Prop) (W : World), w.heap.size ≤ D → I X L W → W.heap[D]? = some (.deferred (some [])) → Q .normal { a with defers := { target := .collected D, args := #[] } :: a.defers } W)
    (hstop : ∀ (D : Nat) (pre : List Band) (W : World), w.heap.size ≤ D → pre <+: L → Ix pre W → W.heap[D]? = some (.deferred (some [])) → Code.ret.wpIn Fence.wide n Try.prog Q { a with defers := { target := .collected D, args := #[] } :: a.defers } W) :
    (Code.rangeFunc g ps assign body).wpIn Fence.wide n Try.prog Q a w := by
  refine wpIn_rangeFunc fun fn hfn => ?_
  obtain ⟨d, hd⟩ : ∃ d, w.heap.size = d := ⟨_, rfl⟩
  let rc : LoopState → Option Code → Loop := fun st pe => { state := st, pending := pe, fn, tmps := a.tmps, params := ps, assign, body, defers := d }
  obtain ⟨V, hV⟩ : ∃ V, (w.alloc (.deferred (some []))).alloc (.loop (rc .ready none)) = V := ⟨_, rfl⟩
  have gV : GrownIn (fun _ => False) w V := by rw [← hV]; exact ((GrownIn.refl _ w).alloc _).alloc _
  have hVl : V.heap[d + 1]? = some (.loop (rc .ready none)) := by
    rw [← hV, ← hd]
    have := World.alloc_heap_new (w.alloc (.deferred (some []))) (.loop (rc .ready none))
    rwa [World.size_alloc] at this
  have hVd : V.heap[d]? = some (.deferred (some [])) := by
    rw [← hV, ← hd]
    exact (Below.heap_alloc _ _ _ (by simp)).trans (World.alloc_heap_new w _)
  have hIV : I X0 [] V := hI X0 X0 [] w V h0 (gV.mono (fun _ _ h => h.elim)) (fun k h => .inl h)
  refine ⟨d + 1, [{ target := .collected d, args := #[] }], V, { target := .fn (.func gf) lb, args := #[.func (.yield (d + 1)) #[] #[]] }, V, gf, #[.func (.yield (d + 1)) #[] #[]] ++ lb, V, ?_, ?_, ?_, ?_, fun _ => h1, ?_⟩
  · rw [← hV, ← hd]
    have h := run_enterLoop_outer (P := Try.prog) (w := w) fn a.tmps ps assign body
    simpa [rc, hd] using h
  · simp only [resolve, hg]
    simp [go_sem]
  · intro f' _
    trivial
  · simp [invoke, go_sem, eg]
  · -- the record and the block for deferred calls are none of the iterator's
    refine (hseq (d + 1)
      (fun X pre U => I X pre U ∧ U.heap[d + 1]? = some (.loop (rc .ready none)) ∧ U.heap[d]? = some (.deferred (some [])) ∧ ¬ X d ∧ ¬ X (d + 1))
      (fun pre U => Ix pre U ∧ U.heap[d + 1]? = some (.loop (rc .done (some .ret))) ∧ U.heap[d]? = some (.deferred (some []))) V
      (hb0.trans ((gV.below (Nat.le_refl _) (fun _ h => h.elim)).mono hb0.size)) ?_ ?_ ⟨hIV, hVl, hVd, fun h => by have := hX0 _ h; omega, fun h => by have := hX0 _ h; omega⟩).mono ?_
    · rintro X X' pre U U' ⟨hi, hl, hk, n0, n1⟩ hg' hX
      have l1 := (Array.getElem?_eq_some_iff.1 hl).1
      exact ⟨hI X X' pre U U' hi (hg'.mono (fun k _ h => .inl h)) hX, (hg'.block _ l1 n1).trans hl, (hg'.block _ (by omega) n0).trans hk, fun h => by rcases hX _ h with h | h; exact n0 h; omega, fun h => by rcases hX _ h with h | h; exact n1 h; omega⟩
    · rintro X pre b v U ⟨hi, hl, hk, n0, n1⟩ hpre hrs hvX hXU
      have l1 := (Array.getElem?_eq_some_iff.1 hl).1
      have hy := run_yield (P := Try.prog) (args := #[v]) hl (by simp only [rc, hps]; rfl)
      refine ⟨fn, _, assign, body, hy, roundIn_of_wpIn hfn (hassign _ v U _ ⟨_, run_beginRound hl rfl, ?_⟩)⟩
      have gb := grown_put_obj (B := d) (.loop { rc .ready none with state := .busy }) (by omega) hl rfl
      have hl2 : (U.putObj (d + 1) (.loop { rc .ready none with state := .busy })).heap[d + 1]? = some (.loop { rc .ready none with state := .busy }) := World.putObj_heap_same l1
      have hk2 : (U.putObj (d + 1) (.loop { rc .ready none with state := .busy })).heap[d]? = some (.deferred (some [])) := (World.putObj_heap_other (by omega)).trans hk
      have gx : GrownIn (fun k => ¬ X k) U (U.putObj (d + 1) (.loop { rc .ready none with state := .busy })) := (GrownIn.of_grown (grownBy_putObj' U (d + 1) _)).mono (fun k _ e => by cases e; exact n1)
      refine wpIn_mono (hbody _ X pre b v _ (hI X X pre _ _ hi (gb.mono (fun k _ h => by rw [hd]; exact .inr h)) (fun k h => .inl h)) hpre (gx.rs hrs (fun k h h' => h' (hvX k h))) hvX (fun k h => Nat.lt_of_lt_of_le (hXU k h) gx.size)) ?_
      rintro e a3 W3 hp
      cases e with
      | normal =>
        obtain ⟨hk3, hg3, hi3⟩ := hp
        have hl3 := hk3.same _ _ (by omega) hl2 rfl
        have hd3 := hk3.same _ _ (by omega) hk2 rfl
        have l3 := (Array.getElem?_eq_some_iff.1 hl3).1
        have gb3 := grown_put_obj (B := d) (.loop (rc .ready none)) (by omega) hl3 rfl
        refine ⟨_, _, run_endRound none hl3, .inl ⟨rfl, ⟨hI X X _ _ _ hi3 (gb3.mono (fun k _ h => by rw [hd]; exact .inr h)) (fun k h => .inl h), World.putObj_heap_same l3, (World.putObj_heap_other (by omega)).trans hd3, n0, n1⟩, ?_⟩⟩
        exact (gx.trans hg3).trans ((GrownIn.of_grown (grownBy_putObj' W3 (d + 1) _)).mono (fun k _ e => by cases e; exact n1))
      | ret =>
        obtain ⟨hk3, hi3⟩ := hp
        have hl3 := hk3.same _ _ (by omega) hl2 rfl
        have hd3 := hk3.same _ _ (by omega) hk2 rfl
        have l3 := (Array.getElem?_eq_some_iff.1 hl3).1
        have gb3 := grown_put_obj (B := d) (.loop (rc .done (some .ret))) (by omega) hl3 rfl
        exact ⟨_, _, run_endRound (some .ret) hl3, .inr ⟨rfl, hIx _ _ _ hi3 (by rw [hd]; exact gb3), World.putObj_heap_same l3, (World.putObj_heap_other (by omega)).trans hd3⟩⟩
      | exit id => exact hp.elim
      | goto t => exact hp.elim
      | panic ch => exact hp.elim
      | outgrown => exact hp.elim
    · rintro e W2 ⟨⟨v, rfl⟩, (⟨X, hi, hl, hk, _, _⟩ | ⟨pre, hpre, hi, hl, hk⟩)⟩
      · exact ⟨none, _, run_endLoop hl (by simp [rc]), hdone d X _ (by omega) (hI X X _ _ _ hi ((grown_put_obj (B := d) _ (by omega) hl rfl).mono (fun k _ h => by rw [hd]; exact .inr h)) (fun k h => .inl h)) ((World.putObj_heap_other (by omega)).trans hk)⟩
      · exact ⟨some .ret, _, run_endLoop hl (by simp [rc]), hstop d pre _ (by omega) hpre (hIx _ _ _ hi (by rw [hd]; exact grown_put_obj (B := d) _ (by omega) hl rfl)) ((World.putObj_heap_other (by omega)).trans hk)⟩

end Go.Proofs.Ytclnepijbnhdfaa
