/-
  A registry in memory: its struct, the announced ones and the log as rows of its own, the removed ones as a slice that is never written again.
-/
import Derived.Test.YtcecicmihdcjgaaDoorPdl
import Derived.ArgAppend
namespace Go.Proofs.YtcecicmihdcjgaaDoor
open Go.RowKit

/-- the removed ones: a slice without room behind it -/
def GsT (W : World) (base : Nat) (v : Value) (T : List Gl) : Prop :=
  T.length ≤ 17 ∧ ((T = [] ∧ v = .slice none 0 0) ∨ (0 < T.length ∧ ∃ b off, v = .slice (some ⟨b, off, none⟩) T.length T.length ∧ base ≤ b ∧ b < W.heap.size ∧ ∀ (j : Nat) (r : Gl), T[j]? = some r → GlAt W b (off + j * 3) r))
theorem gsT_nil (W : World) (base : Nat) : GsT W base (.slice none 0 0) [] := ⟨by simp, .inl ⟨rfl, rfl⟩⟩
theorem GsT.gs {W : World} {base : Nat} {v : Value} {T : List Gl} (h : GsT W base v T) : Gs W v T := by
  obtain ⟨hl, ⟨rfl, rfl⟩ | ⟨h0, b, off, rfl, hb, hlt, hc⟩⟩ := h
  · exact gs_nil W
  · exact ⟨_, _, rfl, Nat.le_refl _, by simp only [maxLen]; omega, fun _ => ⟨b, off, rfl, hlt, hc⟩⟩
theorem GsT.kept {W W' : World} {base : Nat} {v : Value} {T : List Gl} {row : Option Nat} (h : GsT W base v T) (hg : W.grownBy W' row) (hne : v.ownBlock = none ∨ v.ownBlock ≠ row) : GsT W' base v T := by
  obtain ⟨hl, ⟨rfl, rfl⟩ | ⟨h0, b, off, rfl, hb, hlt, hc⟩⟩ := h
  · exact gsT_nil W' base
  · have hk : W'.heap[b]? = W.heap[b]? := hg.block b hlt (by simpa [Value.ownBlock] using hne)
    refine ⟨hl, .inr ⟨h0, b, off, rfl, hb, Nat.lt_of_lt_of_le hlt hg.size, fun j r hj => ?_⟩⟩
    obtain ⟨c0, c1, c2⟩ := hc j r hj
    exact ⟨(cell_of_block hk _).trans c0, (cell_of_block hk _).trans c1, (cell_of_block hk _).trans c2⟩
theorem GsT.block {W : World} {base : Nat} {v : Value} {T : List Gl} (h : GsT W base v T) : ∀ k, v.ownBlock = some k → base ≤ k ∧ k < W.heap.size := by
  obtain ⟨hl, ⟨rfl, rfl⟩ | ⟨h0, b, off, rfl, hb, hlt, hc⟩⟩ := h
  · intro k hk
    cases hk
  · intro k hk
    injection hk with hk
    subst hk
    exact ⟨hb, hlt⟩

/-- boxes, two rows and the removed ones, all apart, none older than base -/
structure RB (base : Nat) (W : World) (bx : List (Nat × List Value)) (va vr vl : Value) (A T l : List Gl) : Prop where
  cells : ∀ q ∈ bx, ∀ (i : Nat) v, q.2[i]? = some v → W.cell? ⟨q.1, i, none⟩ = some v
  free : ∀ q ∈ bx, ∀ i, W.frozen? ⟨q.1, i, none⟩ = false
  there : ∀ q ∈ bx, base ≤ q.1 ∧ q.1 < W.heap.size
  nd : (bx.map Prod.fst).Nodup
  oa : OwnG W base va A
  ol : OwnG W base vl l
  tr : GsT W base vr T
  na : ∀ q ∈ bx, va.ownBlock ≠ some q.1
  nl : ∀ q ∈ bx, vl.ownBlock ≠ some q.1
  nr : ∀ q ∈ bx, vr.ownBlock ≠ some q.1
  al : ∀ k, va.ownBlock = some k → vl.ownBlock ≠ some k
  ar : ∀ k, va.ownBlock = some k → vr.ownBlock ≠ some k
  lr : ∀ k, vl.ownBlock = some k → vr.ownBlock ≠ some k

/-- the same within a call that began in W0, of whose blocks S alone may have turned -/
structure RM (W0 : World) (S : Nat → Prop) (base : Nat) (W : World) (bx : List (Nat × List Value)) (va vr vl : Value) (A T l : List Gl) : Prop where
  rb : RB base W bx va vr vl A T l
  turn : Turns S W0 W
  bs : ∀ q ∈ bx, q.1 < W0.heap.size → S q.1
  sa : ∀ k, va.ownBlock = some k → k < W0.heap.size → S k
  sr : ∀ k, vr.ownBlock = some k → k < W0.heap.size → S k
  sl : ∀ k, vl.ownBlock = some k → k < W0.heap.size → S k

theorem Turns.grown {S : Nat → Prop} {W0 W W' : World} {row : Option Nat} (h : Turns S W0 W) (hg : W.grownBy W' row) (hs : ∀ k, row = some k → k < W0.heap.size → S k) : Turns S W0 W' :=
  ⟨hg.os.trans h.os, hg.tape.trans h.tape, hg.output.trans h.output, Nat.le_trans h.size hg.size, fun k hk hS =>
    (hg.block k (Nat.lt_of_lt_of_le hk h.size) (fun e => hS (hs k e.symm hk))).trans (h.block k hk hS)⟩
theorem Turns.refl (S : Nat → Prop) (W : World) : Turns S W W := ⟨rfl, rfl, rfl, Nat.le_refl _, fun _ _ _ => rfl⟩
theorem ne_cases (v : Value) {row : Option Nat} (h : ∀ k, v.ownBlock = some k → row ≠ some k) : v.ownBlock = none ∨ v.ownBlock ≠ row := by
  cases hv : v.ownBlock with
  | none => exact .inl rfl
  | some k => exact .inr (fun e => h k hv e.symm)
section
variable {base : Nat} {W W' : World} {bx : List (Nat × List Value)} {va vr vl : Value} {A T l : List Gl}
theorem RB.boxes (h : RB base W bx va vr vl A T l) {row : Option Nat} (hg : W.grownBy W' row) (hne : ∀ q ∈ bx, row ≠ some q.1) :
    (∀ q ∈ bx, ∀ (i : Nat) v, q.2[i]? = some v → W'.cell? ⟨q.1, i, none⟩ = some v) ∧ (∀ q ∈ bx, ∀ i, W'.frozen? ⟨q.1, i, none⟩ = false) ∧ (∀ q ∈ bx, base ≤ q.1 ∧ q.1 < W'.heap.size) :=
  ⟨fun q hq i v hv => (cell_of_block (hg.block q.1 (h.there q hq).2 (fun e => hne q hq e.symm)) i).trans (h.cells q hq i v hv), fun q hq i => (frozen_of_block (hg.block q.1 (h.there q hq).2 (fun e => hne q hq e.symm)) i).trans (h.free q hq i),
    fun q hq => ⟨(h.there q hq).1, Nat.lt_of_lt_of_le (h.there q hq).2 hg.size⟩⟩
theorem RB.step (h : RB base W bx va vr vl A T l) (hb : Below W.heap.size W W') : RB base W' bx va vr vl A T l := by
  have hg := grown_below hb none
  obtain ⟨h1, h2, h3⟩ := h.boxes hg (fun _ _ e => by cases e)
  exact ⟨h1, h2, h3, h.nd, h.oa.below hb, h.ol.below hb, h.tr.kept hg (ne_cases _ (fun _ _ e => by cases e)), h.na, h.nl, h.nr, h.al, h.ar, h.lr⟩
/-- what keeps the blocks keeps the registry -/
theorem RB.keep (h : RB base W bx va vr vl A T l) (hz : W.heap.size ≤ W'.heap.size) (hk : ∀ k, ((∃ q ∈ bx, q.1 = k) ∨ va.ownBlock = some k ∨ vr.ownBlock = some k ∨ vl.ownBlock = some k) → W'.heap[k]? = W.heap[k]?) : RB base W' bx va vr vl A T l := by
  have own : ∀ (v : Value) (L : List Gl), OwnG W base v L → (∀ k, v.ownBlock = some k → W'.heap[k]? = W.heap[k]?) → OwnG W' base v L := by
    intro v L ho hh
    refine ⟨ho.1, ?_⟩
    rcases ho.2 with h2 | ⟨g, cap, cur, hv, hg, hc, r⟩
    · exact .inl h2
    · exact .inr ⟨g, cap, cur, hv, hg, (hh g (by rw [hv]; rfl)).trans hc, r⟩
  refine ⟨fun q hq i v hv => (cell_of_block (hk q.1 (.inl ⟨q, hq, rfl⟩)) i).trans (h.cells q hq i v hv), fun q hq i => (frozen_of_block (hk q.1 (.inl ⟨q, hq, rfl⟩)) i).trans (h.free q hq i), fun q hq => ⟨(h.there q hq).1, Nat.lt_of_lt_of_le (h.there q hq).2 hz⟩, h.nd,
    own va A h.oa (fun k e => hk k (.inr (.inl e))), own vl l h.ol (fun k e => hk k (.inr (.inr (.inr e)))), ?_, h.na, h.nl, h.nr, h.al, h.ar, h.lr⟩
  obtain ⟨hl, ⟨rfl, rfl⟩ | ⟨h0, b, off, rfl, hb, hlt, hc⟩⟩ := h.tr
  · exact gsT_nil W' base
  · have hh : W'.heap[b]? = W.heap[b]? := hk b (.inr (.inr (.inl rfl)))
    refine ⟨hl, .inr ⟨h0, b, off, rfl, hb, Nat.lt_of_lt_of_le hlt hz, fun j r hj => ?_⟩⟩
    obtain ⟨c0, c1, c2⟩ := hc j r hj
    exact ⟨(cell_of_block hh _).trans c0, (cell_of_block hh _).trans c1, (cell_of_block hh _).trans c2⟩
end
section
variable {W0 : World} {S : Nat → Prop} {base : Nat} {W W' : World} {bx : List (Nat × List Value)} {va vr vl : Value} {A T l : List Gl}
theorem RM.step (h : RM W0 S base W bx va vr vl A T l) (hb : Below W.heap.size W W') : RM W0 S base W' bx va vr vl A T l :=
  ⟨h.rb.step hb, h.turn.grown (grown_below hb none) (fun _ e => by cases e), h.bs, h.sa, h.sr, h.sl⟩
theorem RM.drew (h : RM W0 S base W bx va vr vl A T l) : RM W0 S base W.drew bx va vr vl A T l := h.step (Below.refl _ _).drew
theorem RM.made (h : RM W0 S base W bx va vr vl A T l) (o : Obj) : RM W0 S base (W.alloc o) bx va vr vl A T l := h.step ((Below.refl _ _).alloc (Nat.le_refl _) o)
theorem RM.alloc (h : RM W0 S base W bx va vr vl A T l) (hb0 : base ≤ W0.heap.size) (vs : List Value) (t : TypeId) : RM W0 S base (W.alloc (.cells vs.toArray t)) ((W.heap.size, vs) :: bx) va vr vl A T l := by
  have hs := h.made (.cells vs.toArray t)
  have hz := h.turn.size
  have hne : ∀ (v : Value), (∀ k, v.ownBlock = some k → base ≤ k ∧ k < W.heap.size) → v.ownBlock ≠ some W.heap.size := fun v hv e => by
    have := (hv _ e).2
    omega
  refine ⟨⟨fun q hq i v hv => ?_, fun q hq i => ?_, fun q hq => ?_, ?_, hs.rb.oa, hs.rb.ol, hs.rb.tr, fun q hq => ?_, fun q hq => ?_, fun q hq => ?_, h.rb.al, h.rb.ar, h.rb.lr⟩, hs.turn, fun q hq hlt => ?_, h.sa, h.sr, h.sl⟩
  · rcases List.mem_cons.1 hq with rfl | hq
    · simpa [go_sem] using hv
    · exact hs.rb.cells q hq i v hv
  · rcases List.mem_cons.1 hq with rfl | hq
    · simp [go_sem]
    · exact hs.rb.free q hq i
  · rcases List.mem_cons.1 hq with rfl | hq
    · rw [World.size_alloc]
      exact ⟨Nat.le_trans hb0 hz, Nat.lt_succ_self _⟩
    · exact hs.rb.there q hq
  · rw [List.map_cons, List.nodup_cons]
    refine ⟨fun hm => ?_, h.rb.nd⟩
    obtain ⟨q, hq, e⟩ := List.mem_map.1 hm
    have := (h.rb.there q hq).2
    dsimp only at e
    omega
  · rcases List.mem_cons.1 hq with rfl | hq
    · exact hne _ h.rb.oa.block
    · exact h.rb.na q hq
  · rcases List.mem_cons.1 hq with rfl | hq
    · exact hne _ h.rb.ol.block
    · exact h.rb.nl q hq
  · rcases List.mem_cons.1 hq with rfl | hq
    · exact hne _ h.rb.tr.block
    · exact h.rb.nr q hq
  · rcases List.mem_cons.1 hq with rfl | hq
    · dsimp only at hlt
      omega
    · exact h.bs q hq hlt
theorem RM.sub (h : RM W0 S base W bx va vr vl A T l) {by' : List (Nat × List Value)} (hs : by'.Sublist bx) : RM W0 S base W by' va vr vl A T l :=
  ⟨⟨fun q hq => h.rb.cells q (hs.subset hq), fun q hq => h.rb.free q (hs.subset hq), fun q hq => h.rb.there q (hs.subset hq), h.rb.nd.sublist (hs.map _), h.rb.oa, h.rb.ol, h.rb.tr, fun q hq => h.rb.na q (hs.subset hq), fun q hq => h.rb.nl q (hs.subset hq), fun q hq => h.rb.nr q (hs.subset hq), h.rb.al, h.rb.ar, h.rb.lr⟩,
    h.turn, fun q hq => h.bs q (hs.subset hq), h.sa, h.sr, h.sl⟩
/-- one cell of a box written -/
theorem RM.cell {l1 l2 : List (Nat × List Value)} {k : Nat} {vs : List Value} (h : RM W0 S base W (l1 ++ (k, vs) :: l2) va vr vl A T l) {i : Nat} (hi : i < vs.length) (u : Value) :
    RM W0 S base (W.setCell ⟨k, i, none⟩ u) (l1 ++ (k, vs.set i u) :: l2) va vr vl A T l := by
  have hm : (k, vs) ∈ l1 ++ (k, vs) :: l2 := by simp
  have hg := grown_setCell W k i u
  have hsub : ∀ q ∈ l1 ++ l2, q ∈ l1 ++ (k, vs) :: l2 := fun q hq => by
    rcases List.mem_append.1 hq with hq | hq <;> simp [hq]
  have hne : ∀ q ∈ l1 ++ l2, q.1 ≠ k := by
    intro q hq
    have hn := h.rb.nd
    rw [List.map_append, List.map_cons, List.nodup_append] at hn
    obtain ⟨_, h2, h3⟩ := hn
    rw [List.nodup_cons] at h2
    rcases List.mem_append.1 hq with hq | hq
    · exact h3 q.1 (List.mem_map.2 ⟨q, hq, rfl⟩) k (List.mem_cons_self ..)
    · intro e
      exact h2.1 (List.mem_map.2 ⟨q, hq, e⟩)
  have hway : ∀ q ∈ l1 ++ (k, vs.set i u) :: l2, q ∈ l1 ++ l2 ∨ q = (k, vs.set i u) := fun q hq => by
    rcases List.mem_append.1 hq with hq | hq
    · exact .inl (List.mem_append_left _ hq)
    · rcases List.mem_cons.1 hq with rfl | hq
      · exact .inr rfl
      · exact .inl (List.mem_append_right _ hq)
  have hz : (W.setCell ⟨k, i, none⟩ u).heap.size = W.heap.size := by simp
  refine ⟨⟨fun q hq j v hv => ?_, fun q hq j => ?_, fun q hq => ?_, ?_, World.ownsRow.kept h.rb.oa hg (.inr (h.rb.na _ hm)), World.ownsRow.kept h.rb.ol hg (.inr (h.rb.nl _ hm)), h.rb.tr.kept hg (.inr (h.rb.nr _ hm)), fun q hq => ?_, fun q hq => ?_, fun q hq => ?_, h.rb.al, h.rb.ar, h.rb.lr⟩,
    h.turn.grown hg (fun j e hj => by injection e with e; subst e; exact h.bs _ hm hj), fun q hq hlt => ?_, h.sa, h.sr, h.sl⟩
  · rcases hway q hq with hq | rfl
    · rw [World.cell?_setCell_other _ _ _ _ (fun e => hne q hq (by have := congrArg Addr.block e; simpa using this.symm))]
      exact h.rb.cells q (hsub q hq) j v hv
    · dsimp only at hv ⊢
      by_cases e : i = j
      · subst e
        rw [List.getElem?_set_self hi] at hv
        injection hv with hv
        subst hv
        exact World.cell?_setCell_same _ _ _ (h.rb.cells _ hm i _ (List.getElem?_eq_getElem hi))
      · rw [List.getElem?_set_ne e] at hv
        rw [World.cell?_setCell_other _ _ _ _ (fun q => e (by have := congrArg Addr.off q; simpa using this))]
        exact h.rb.cells _ hm j v hv
  · rw [World.frozen?_setCell]
    rcases hway q hq with hq | rfl
    · exact h.rb.free q (hsub q hq) j
    · exact h.rb.free (k, vs) hm j
  · rw [hz]
    rcases hway q hq with hq | rfl
    · exact h.rb.there q (hsub q hq)
    · exact h.rb.there (k, vs) hm
  · have := h.rb.nd
    rw [List.map_append, List.map_cons] at this ⊢
    exact this
  · rcases hway q hq with hq | rfl
    · exact h.rb.na q (hsub q hq)
    · exact h.rb.na (k, vs) hm
  · rcases hway q hq with hq | rfl
    · exact h.rb.nl q (hsub q hq)
    · exact h.rb.nl (k, vs) hm
  · rcases hway q hq with hq | rfl
    · exact h.rb.nr q (hsub q hq)
    · exact h.rb.nr (k, vs) hm
  · rcases hway q hq with hq | rfl
    · exact h.bs q (hsub q hq) hlt
    · exact h.bs (k, vs) hm hlt
/-- the row of the announced ones was written -/
theorem RM.setA (h : RM W0 S base W bx va vr vl A T l) {va' : Value} {A' : List Gl} (ho : OwnG W' base va' A') (hg : W.grownBy W' va.ownBlock) (hw : va'.ownBlock = va.ownBlock ∨ va'.ownBlock = some W.heap.size) : RM W0 S base W' bx va' vr vl A' T l := by
  obtain ⟨h1, h2, h3⟩ := h.rb.boxes hg (fun q hq => h.rb.na q hq)
  have hz := h.turn.size
  have hnew : ∀ k, va'.ownBlock = some k → va.ownBlock = some k ∨ k = W.heap.size := fun k e => by
    rcases hw with hw | hw
    · exact .inl (hw.symm.trans e)
    · rw [hw] at e
      injection e with e
      exact .inr e.symm
  refine ⟨⟨h1, h2, h3, h.rb.nd, ho, World.ownsRow.kept h.rb.ol hg (ne_cases _ (fun k e e2 => h.rb.al k e2 e)), h.rb.tr.kept hg (ne_cases _ (fun k e e2 => h.rb.ar k e2 e)), fun q hq e => ?_, h.rb.nl, h.rb.nr, fun k e e2 => ?_, fun k e e2 => ?_, h.rb.lr⟩,
    h.turn.grown hg h.sa, h.bs, fun k e hk => ?_, h.sr, h.sl⟩
  · rcases hnew _ e with e2 | e2
    · exact h.rb.na q hq e2
    · have := (h.rb.there q hq).2
      omega
  · rcases hnew _ e with e3 | e3
    · exact h.rb.al k e3 e2
    · have := (h.rb.ol.block k e2).2
      omega
  · rcases hnew _ e with e3 | e3
    · exact h.rb.ar k e3 e2
    · have := (h.rb.tr.block k e2).2
      omega
  · rcases hnew _ e with e3 | e3
    · exact h.sa k e3 hk
    · omega
/-- the log was written -/
theorem RM.setL (h : RM W0 S base W bx va vr vl A T l) {vl' : Value} {l' : List Gl} (ho : OwnG W' base vl' l') (hg : W.grownBy W' vl.ownBlock) (hw : vl'.ownBlock = vl.ownBlock ∨ vl'.ownBlock = some W.heap.size) : RM W0 S base W' bx va vr vl' A T l' := by
  obtain ⟨h1, h2, h3⟩ := h.rb.boxes hg (fun q hq => h.rb.nl q hq)
  have hz := h.turn.size
  have hnew : ∀ k, vl'.ownBlock = some k → vl.ownBlock = some k ∨ k = W.heap.size := fun k e => by
    rcases hw with hw | hw
    · exact .inl (hw.symm.trans e)
    · rw [hw] at e
      injection e with e
      exact .inr e.symm
  refine ⟨⟨h1, h2, h3, h.rb.nd, World.ownsRow.kept h.rb.oa hg (ne_cases _ (fun k e e2 => h.rb.al k e e2)), ho, h.rb.tr.kept hg (ne_cases _ (fun k e e2 => h.rb.lr k e2 e)), h.rb.na, fun q hq e => ?_, h.rb.nr, fun k e e2 => ?_, h.rb.ar, fun k e e2 => ?_⟩,
    h.turn.grown hg h.sl, h.bs, h.sa, h.sr, fun k e hk => ?_⟩
  · rcases hnew _ e with e2 | e2
    · exact h.rb.nl q hq e2
    · have := (h.rb.there q hq).2
      omega
  · rcases hnew _ e2 with e3 | e3
    · exact h.rb.al k e e3
    · have := (h.rb.oa.block k e).2
      omega
  · rcases hnew _ e with e3 | e3
    · exact h.rb.lr k e3 e2
    · have := (h.rb.tr.block k e2).2
      omega
  · rcases hnew _ e with e3 | e3
    · exact h.sl k e3 hk
    · omega
/-- the removed ones lie in new memory -/
theorem RM.setR (h : RM W0 S base W bx va vr vl A T l) (hb : Below W.heap.size W W') {vr' : Value} {T' : List Gl} (ho : GsT W' base vr' T') (hw : ∀ k, vr'.ownBlock = some k → W.heap.size ≤ k) : RM W0 S base W' bx va vr' vl A T' l := by
  have hs := h.step hb
  have hz := h.turn.size
  refine ⟨⟨hs.rb.cells, hs.rb.free, hs.rb.there, hs.rb.nd, hs.rb.oa, hs.rb.ol, ho, h.rb.na, h.rb.nl, fun q hq e => ?_, h.rb.al, fun k e e2 => ?_, fun k e e2 => ?_⟩, hs.turn, h.bs, h.sa, fun k e hk => ?_, h.sl⟩
  · have := (h.rb.there q hq).2
    have := hw _ e
    omega
  · have := (h.rb.oa.block k e).2
    have := hw _ e2
    omega
  · have := (h.rb.ol.block k e).2
    have := hw _ e2
    omega
  · have := hw _ e
    omega
theorem RM.at {l1 l2 : List (Nat × List Value)} {k : Nat} {vs : List Value} (h : RM W0 S base W (l1 ++ (k, vs) :: l2) va vr vl A T l) : (∀ (i : Nat) v, vs[i]? = some v → W.cell? ⟨k, i, none⟩ = some v) ∧ (∀ i, W.frozen? ⟨k, i, none⟩ = false) ∧ k < W.heap.size := by
  have hm : (k, vs) ∈ l1 ++ (k, vs) :: l2 := by simp
  exact ⟨h.rb.cells _ hm, h.rb.free _ hm, (h.rb.there _ hm).2⟩
theorem RM.five {l1 l2 : List (Nat × List Value)} {k : Nat} {x0 x1 x2 x3 x4 : Value} (h : RM W0 S base W (l1 ++ (k, [x0, x1, x2, x3, x4]) :: l2) va vr vl A T l) :
    W.cell? ⟨k, 0, none⟩ = some x0 ∧ W.cell? ⟨k, 1, none⟩ = some x1 ∧ W.cell? ⟨k, 2, none⟩ = some x2 ∧ W.cell? ⟨k, 3, none⟩ = some x3 ∧ W.cell? ⟨k, 4, none⟩ = some x4 ∧ (∀ i, W.frozen? ⟨k, i, none⟩ = false) ∧ k < W.heap.size :=
  ⟨h.at.1 0 _ rfl, h.at.1 1 _ rfl, h.at.1 2 _ rfl, h.at.1 3 _ rfl, h.at.1 4 _ rfl, h.at.2.1, h.at.2.2⟩
theorem RM.tri {l1 l2 : List (Nat × List Value)} {k : Nat} {x0 x1 x2 : Value} (h : RM W0 S base W (l1 ++ (k, [x0, x1, x2]) :: l2) va vr vl A T l) :
    W.cell? ⟨k, 0, none⟩ = some x0 ∧ W.cell? ⟨k, 1, none⟩ = some x1 ∧ W.cell? ⟨k, 2, none⟩ = some x2 ∧ (∀ i, W.frozen? ⟨k, i, none⟩ = false) ∧ k < W.heap.size :=
  ⟨h.at.1 0 _ rfl, h.at.1 1 _ rfl, h.at.1 2 _ rfl, h.at.2.1, h.at.2.2⟩
end

/-- the cells of the struct -/
abbrev regC (p c : Nat) (va vr vl : Value) : List Value := [.int .u32 (c : Int), va, vr, vl, .pointer (some ⟨p, 0, none⟩)]
/-- the value rv is a registry with the log l in the blocks S -/
def R0 (w0 W : World) (rv : Value) (l : List Gl) (S : Nat → Prop) : Prop :=
  ∃ (p : Nat) (va vr vl : Value) (M : List Gl), rv = .pointer (some ⟨p, 0, none⟩) ∧ RgOk l M ∧ RB w0.heap.size W [(p, regC p (addedF l) va vr vl)] va vr vl (listF l) (lastR M) l ∧
    ∀ k, S k ↔ (k = p ∨ va.ownBlock = some k ∨ vr.ownBlock = some k ∨ vl.ownBlock = some k)
theorem R0.keep {w0 W W' : World} {rv : Value} {l : List Gl} {S : Nat → Prop} (h : R0 w0 W rv l S) (hz : W.heap.size ≤ W'.heap.size) (hk : ∀ k, S k → W'.heap[k]? = W.heap[k]?) : R0 w0 W' rv l S := by
  obtain ⟨p, va, vr, vl, M, hv, hR, hb, hS⟩ := h
  refine ⟨p, va, vr, vl, M, hv, hR, hb.keep hz (fun k hh => hk k ((hS k).2 ?_)), hS⟩
  rcases hh with ⟨q, hq, rfl⟩ | hh
  · simp only [List.mem_singleton] at hq
    subst hq
    exact .inl rfl
  · exact .inr hh
theorem R0.lt {w0 W : World} {rv : Value} {l : List Gl} {S : Nat → Prop} (h : R0 w0 W rv l S) : ∀ k, S k → w0.heap.size ≤ k ∧ k < W.heap.size := by
  obtain ⟨p, va, vr, vl, M, hv, hR, hb, hS⟩ := h
  intro k hk
  rcases (hS k).1 hk with rfl | e | e | e
  · exact hb.there (k, regC k (addedF l) va vr vl) (by simp)
  · exact hb.oa.block k e
  · exact hb.tr.block k e
  · exact hb.ol.block k e
/-- a call begins -/
theorem R0.enter {w0 W : World} {rv : Value} {l : List Gl} {S : Nat → Prop} (h : R0 w0 W rv l S) : ∃ (p : Nat) (va vr vl : Value) (M : List Gl), rv = .pointer (some ⟨p, 0, none⟩) ∧ RgOk l M ∧ RM W S w0.heap.size W [(p, regC p (addedF l) va vr vl)] va vr vl (listF l) (lastR M) l ∧ w0.heap.size ≤ W.heap.size := by
  obtain ⟨p, va, vr, vl, M, hv, hR, hb, hS⟩ := h
  have hp := hb.there _ (List.mem_singleton.2 rfl)
  refine ⟨p, va, vr, vl, M, hv, hR, ⟨hb, Turns.refl S W, fun q hq _ => ?_, fun k e _ => (hS k).2 (.inr (.inl e)), fun k e _ => (hS k).2 (.inr (.inr (.inl e))), fun k e _ => (hS k).2 (.inr (.inr (.inr e)))⟩, by dsimp only at hp; omega⟩
  simp only [List.mem_singleton] at hq
  subst hq
  exact (hS p).2 (.inl rfl)
/-- a call ends -/
theorem R0.leave {w0 W W' : World} {l M : List Gl} {S : Nat → Prop} {p : Nat} {va vr vl : Value} (hR : RgOk l M) (h : RM W S w0.heap.size W' [(p, regC p (addedF l) va vr vl)] va vr vl (listF l) (lastR M) l) :
    ∃ S', R0 w0 W' (.pointer (some ⟨p, 0, none⟩)) l S' ∧ (∀ k, S' k → S k ∨ W.heap.size ≤ k) ∧ Turns S W W' := by
  refine ⟨fun k => k = p ∨ va.ownBlock = some k ∨ vr.ownBlock = some k ∨ vl.ownBlock = some k, ⟨p, va, vr, vl, M, rfl, hR, h.rb, fun _ => Iff.rfl⟩, fun k hk => ?_, h.turn⟩
  rcases Nat.lt_or_ge k W.heap.size with hlt | hge
  · refine .inl ?_
    rcases hk with rfl | e | e | e
    · exact h.bs _ (List.mem_singleton.2 rfl) hlt
    · exact h.sa k e hlt
    · exact h.sr k e hlt
    · exact h.sl k e hlt
  · exact .inr hge

/-- append onto the removed ones: new memory -/
theorem appT_run {W : World} {base : Nat} {v : Value} {T : List Gl} (h : GsT W base v T) (h16 : T.length ≤ 16) {x : Gl} {A : Option Addr} {c : Nat} (hx : Gs W (.slice A 1 c) [x]) (ty : TypeId) :
    ∃ v' W', (Builtin.append_ #[26, 26] ty #[v, .slice A 1 c]).run Tryd.prog W = .ok v' W' ∧ OwnG W' W.heap.size v' (T ++ [x]) ∧ Below W.heap.size W W' := by
  obtain ⟨i, hi, hz, hsz, hby⟩ := infoI_parts gl_info
  obtain ⟨A', c', hv, hc1, hc2, hcells⟩ := hx
  injection hv with e1 e2 e3
  subst e1 e3
  obtain ⟨b, off, rfl, _, hc⟩ := hcells (by simp)
  obtain ⟨hl, ⟨rfl, rfl⟩ | ⟨h0, b2, off2, rfl, hb, hlt, hc2⟩⟩ := h
  · obtain ⟨v', w', hrun, h2, h3, h4⟩ := appendG_run (ownG_nil W W.heap.size) (A := some ⟨b, off, none⟩) (k := 1) (c := c) (m := [x]) ⟨_, c, rfl, hc1, hc2, hcells⟩ (by simp) (Nat.le_refl _) ty
    exact ⟨v', w', hrun, h2, below_none h3⟩
  · obtain ⟨v', w', hrun, r1, r2⟩ := run_append_arg_grows (P := Tryd.prog) W 26 ty 49 i _ 3 32 Tryd.underlying26 hi hz hsz hby rfl (by decide) ⟨b2, off2, none⟩ T.length T.length (gflat T) (gflat_length T) (gflat_cells hc2) ⟨b, off, none⟩ 1 c (gflat [x]) (gflat_length [x]) (gflat_cells hc) (by omega) (by simp only [maxLen]; omega) (by omega)
    refine ⟨v', w', hrun, ?_, below_none r2⟩
    unfold OwnG
    rw [gflat_append, List.length_append]
    exact r1
set_option maxRecDepth 100000 in
/-- the same at a step of a region that draws its order -/
theorem step_appT {W : World} {ops : Array Oper} {o : Oper} {a : Act} {K : Act → World → Prop} {Q : Exit → Act → World → Prop} {D : Prop} (hgd : o.guard = none) (s x : Operand)
    (ho : o.op = .call { callee := .builtin .append, args := #[s, x], argTypes := #[26, 26] })
    {base : Nat} {v : Value} {T : List Gl} (hs : a.eval s = v) (h : GsT W base v T) (h16 : T.length ≤ 16) {A : Option Addr} {c : Nat} {g : Gl} (hx : a.eval x = .slice A 1 c) (hsee : Gs W (.slice A 1 c) [g])
    (hk : ∀ v' W', OwnG W' W.heap.size v' (T ++ [g]) → Below W.heap.size W W' → K (a.put o.dst v') W') :
    if Region.wanted o (yielded ops a.tmps) = true then Oper.wp Tryd.prog o a W K Q else D := by
  have hw : Region.wanted o (yielded ops a.tmps) = true := by simp [Region.wanted, hgd]
  rw [if_pos hw]
  obtain ⟨v', w', hrun, h2, h3⟩ := appT_run h h16 hsee o.type
  unfold Oper.wp execOp
  simp only [ho, resolve, invoke, builtin, Sem.run_bind, Sem.run_pure, Result.andThen_ok, List.map_toArray, List.map_cons, List.map_nil, hs, hx, hrun]
  exact hk v' w' h2 h3
/-- what shorten leaves of an own row of the removed ones -/
theorem gsT_short {W : World} {base : Nat} {v : Value} {L : List Gl} (h : OwnG W base v L) (h0 : 0 < L.length) (h17 : L.length ≤ 17) :
    ∃ b c, v = .slice (some ⟨b, 0, none⟩) L.length c ∧ L.length ≤ c ∧ c ≤ maxLen ∧ base ≤ b ∧ GsT W base (.slice (some ⟨b, 0 + (L.length - 16) * 3, none⟩) (L.length - (L.length - 16)) (L.length - (L.length - 16))) (L.drop (L.length - 16)) := by
  obtain ⟨A, c, hv, h1, h2, hc⟩ := h.gs
  rcases h.2 with ⟨rfl, h3⟩ | ⟨g, cap, cur, hv2, hg, hh, _⟩
  · omega
  · rw [hv2] at hv
    injection hv with e1 _ e3
    subst e1 e3
    obtain ⟨b, off, e, hlt, hcells⟩ := hc h0
    simp only [Option.some.injEq, Addr.mk.injEq, and_true] at e
    obtain ⟨rfl, rfl⟩ := e
    have hd : (L.drop (L.length - 16)).length = L.length - (L.length - 16) := List.length_drop
    refine ⟨g, cap, hv2, h1, h2, hg, by omega, .inr ⟨by omega, g, _, by rw [hd], hg, hlt, fun j r hj => ?_⟩⟩
    rw [List.getElem?_drop] at hj
    have := hcells _ r hj
    rw [Nat.add_mul, ← Nat.add_assoc] at this
    exact this

end Go.Proofs.YtcecicmihdcjgaaDoor
