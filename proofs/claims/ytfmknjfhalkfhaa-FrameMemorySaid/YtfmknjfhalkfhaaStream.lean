/-
  FrameStreaming: what the loop over the pieces keeps in memory; plain lemmas.
-/
import Derived.Test.YtfmknjfhalkfhaaLong
namespace Go.Proofs.Ytfmknjfhalkfhaa
open Go.RowKit Mem Wire

theorem ownsRow_at {w w' : World} {base : Nat} {e : TypeId} {size : Nat} {v : Value} {n : Nat} {xs : List Value} (h : w.ownsRow base e size v n xs) (hk : ∀ k, v.ownBlock = some k → w'.heap[k]? = w.heap[k]?) : w'.ownsRow base e size v n xs := by
  refine ⟨h.1, ?_⟩
  rcases h.2 with h2 | ⟨g, cap, cur, rfl, hg, hh, r⟩
  · exact .inl h2
  · exact .inr ⟨g, cap, cur, rfl, hg, (hk g rfl).trans hh, r⟩

theorem Owns.atB {w w' : World} {base : Nat} {v : Value} {bs : List UInt8} (h : Owns w base v bs) (hk : ∀ k, v.ownBlock = some k → w'.heap[k]? = w.heap[k]?) : Owns w' base v bs := ownsRow_at h hk

theorem row_elem {w : World} {base : Nat} {e : TypeId} {size : Nat} {v : Value} {n : Nat} {xs : List Value} (h : w.ownsRow base e size v n xs) : ∀ k, v.ownBlock = some k → base ≤ k ∧ ∃ cur, w.heap[k]? = some (.cells cur e (0, 0)) := by
  intro k hk
  rcases h.2 with ⟨rfl, _⟩ | ⟨g, cap, cur, rfl, hb, hh, _⟩
  · cases hk
  · injection hk with hk
    subst hk
    exact ⟨hb, cur, hh⟩

theorem elem_ne {w : World} {k : Nat} {c c' : Array Value} {t t' : TypeId} (h : w.heap[k]? = some (.cells c t (0, 0))) (h' : w.heap[k]? = some (.cells c' t' (0, 0))) : t = t' := by
  rw [h] at h'
  injection h' with e1
  injection e1

/-- all: the bytes so far; got: the frames so far; the decoder at block g -/
structure SM (w : World) (base g : Nat) (s4 s5 bv : Value) (tot buf : List UInt8) (got : List (Fr × Value)) (closed : Bool) : Prop where
  all : Owns w base s4 tot
  row : w.ownsRow base 25 3 s5 got.length (flat got)
  bod : ∀ p ∈ got, Owns w base p.2 p.1.b
  dec : Dec w base g bv buf closed
  a1 : s4.ownBlock = none ∨ s4.ownBlock ≠ bv.ownBlock
  a2 : ∀ p ∈ got, p.2.ownBlock = none ∨ p.2.ownBlock ≠ bv.ownBlock
  a3 : ∀ p ∈ got, p.2.ownBlock = none ∨ p.2.ownBlock ≠ s4.ownBlock

section
variable {w w' : World} {base g : Nat} {s4 s5 bv : Value} {tot buf : List UInt8} {got : List (Fr × Value)} {closed : Bool}

theorem ne_of {a b : Option Nat} (h : a = none ∨ a ≠ b) {k : Nat} (hk : a = some k) : some k ≠ b := by
  rcases h with h | h
  · rw [h] at hk; cases hk
  · rw [← hk]; exact h

theorem SM.ownF (h : SM w base g s4 s5 bv tot buf got closed) : OwnF w base s5 got := ⟨h.row, fun p hp => .inl (h.bod p hp)⟩

/-- a1, a2, a3 where a new row is the old one's block or a new block -/
theorem apart_new {a b b' : Option Nat} {s : Nat} (h : a = none ∨ a ≠ b) (hlt : ∀ k, a = some k → k < s) (hb : b' = none ∨ b' = b ∨ ∃ k, b' = some k ∧ s ≤ k) : a = none ∨ a ≠ b' := by
  rcases h with h | h
  · exact .inl h
  · cases hk : a with
    | none => exact .inl rfl
    | some k =>
      refine .inr fun e => ?_
      rcases hb with hb | hb | ⟨j, hb, hj⟩
      · rw [hb] at e; cases e
      · exact h (by rw [hk, e, hb])
      · rw [hb] at e
        injection e with e
        have := hlt k hk
        omega

theorem SM.addAll (h : SM w base g s4 s5 bv tot buf got closed) {v4 : Value} {tot' : List UInt8} (ho : Owns w' base v4 tot') (hg : w.grownBy w' s4.ownBlock) (hat : v4.ownBlock = s4.ownBlock ∨ v4.ownBlock = some w.heap.size) :
    SM w' base g v4 s5 bv tot' buf got closed := by
  have h4 : v4.ownBlock = none ∨ v4.ownBlock = s4.ownBlock ∨ ∃ k, v4.ownBlock = some k ∧ w.heap.size ≤ k := by
    rcases hat with hat | hat
    · exact .inr (.inl hat)
    · exact .inr (.inr ⟨_, hat, Nat.le_refl _⟩)
  have hgl := h.dec.lt
  have hge : some g ≠ s4.ownBlock := fun e => by
    obtain ⟨_, cur, hh⟩ := row_elem h.all g e.symm
    exact absurd (elem_ne h.dec.1 hh) (by decide)
  refine ⟨ho, ?_, ?_, ⟨?_, h.dec.2.1, ?_⟩, ?_, h.a2, fun p hp => apart_new (h.a3 p hp) (fun k hk => ((h.bod p hp).block k hk).2) h4⟩
  · refine ownsRow_at h.row fun k hk => hg.block k (World.ownsRow.lt h.row k hk).2 fun e => ?_
    obtain ⟨_, cur, hh⟩ := row_elem h.all k e.symm
    obtain ⟨_, cur', hh'⟩ := row_elem h.row k hk
    exact absurd (elem_ne hh hh') (by decide)
  · exact fun p hp => (h.bod p hp).atB fun k hk => hg.block k ((h.bod p hp).block k hk).2 (ne_of (h.a3 p hp) hk)
  · rw [hg.block g hgl hge]; exact h.dec.1
  · refine h.dec.2.2.atB fun k hk => hg.block k (h.dec.2.2.block k hk).2 fun e => ?_
    rcases h.a1 with h1 | h1
    · rw [h1] at e; cases e
    · exact h1 (by rw [← e, hk])
  · rcases hat with hat | hat
    · rw [hat]; exact h.a1
    · refine .inr fun e => ?_
      have := (h.dec.2.2.block w.heap.size (by rw [← e, hat])).2
      omega

/-- frames that Feed has just returned -/
structure NewM (w : World) (base : Nat) (s4 bv : Value) (m : List (Fr × Value)) : Prop where
  bod : ∀ p ∈ m, Owns w base p.2 p.1.b
  a2 : ∀ p ∈ m, p.2.ownBlock = none ∨ p.2.ownBlock ≠ bv.ownBlock
  a3 : ∀ p ∈ m, p.2.ownBlock = none ∨ p.2.ownBlock ≠ s4.ownBlock

theorem SM.feed (h : SM w base g s4 s5 bv tot buf got closed) (hbase : base ≤ w.heap.size) {bv' : Value} {buf' : List UInt8} {closed' : Bool} {m : List (Fr × Value)} (hsep : Sep w' w.heap.size m) (hd : Dec w' base g bv' buf' closed')
    (hne : ∀ p ∈ m, p.2.ownBlock = none ∨ p.2.ownBlock ≠ bv'.ownBlock) (hor : bv'.ownBlock = none ∨ bv'.ownBlock = bv.ownBlock ∨ ∃ k, bv'.ownBlock = some k ∧ w.heap.size ≤ k) (hk : KeptBut w w' g bv.ownBlock) :
    SM w' base g s4 s5 bv' tot buf' got closed' ∧ NewM w' base s4 bv' m := by
  have hg5 : ∀ k c, w.heap[k]? = some (.cells c 5 (0, 0)) → k ≠ g := fun k c hh e => by subst e; exact absurd (elem_ne h.dec.1 hh) (by decide)
  have hg25 : ∀ k c, w.heap[k]? = some (.cells c 25 (0, 0)) → k ≠ g := fun k c hh e => by subst e; exact absurd (elem_ne h.dec.1 hh) (by decide)
  refine ⟨⟨?_, ?_, ?_, hd, apart_new h.a1 (fun k hk => (h.all.block k hk).2) hor, fun p hp => apart_new (h.a2 p hp) (fun k hk => ((h.bod p hp).block k hk).2) hor, h.a3⟩, ⟨fun p hp => (hsep.1 p hp).mono hbase, hne, fun p hp => ?_⟩⟩
  · refine h.all.atB fun k he => ?_
    obtain ⟨_, cur, hh⟩ := row_elem h.all k he
    exact hk.block k (h.all.block k he).2 (hg5 k cur hh) (ne_of h.a1 he)
  · refine ownsRow_at h.row fun k he => ?_
    obtain ⟨_, cur, hh⟩ := row_elem h.row k he
    refine hk.block k (World.ownsRow.lt h.row k he).2 (hg25 k cur hh) fun e => ?_
    obtain ⟨_, cur', hh'⟩ := row_elem h.dec.2.2 k e.symm
    exact absurd (elem_ne hh hh') (by decide)
  · intro p hp
    refine (h.bod p hp).atB fun k he => ?_
    obtain ⟨_, cur, hh⟩ := row_elem (h.bod p hp) k he
    exact hk.block k ((h.bod p hp).block k he).2 (hg5 k cur hh) (ne_of (h.a2 p hp) he)
  · cases he : p.2.ownBlock with
    | none => exact .inl rfl
    | some k =>
      refine .inr fun e => ?_
      have h1 := ((hsep.1 p hp).block k he).1
      have h2 := (h.all.block k e.symm).2
      omega

theorem SM.addGot (h : SM w base g s4 s5 bv tot buf got closed) {m : List (Fr × Value)} (hn : NewM w base s4 bv m) {v5 : Value} (ho : OwnF w' base v5 (got ++ m)) (hg : w.grownBy w' s5.ownBlock) : SM w' base g s4 v5 bv tot buf (got ++ m) closed := by
  have hel := h.ownF.else_
  have hge : some g ≠ s5.ownBlock := fun e => by
    obtain ⟨_, cur, hh⟩ := row_elem h.row g e.symm
    exact absurd (elem_ne h.dec.1 hh) (by decide)
  refine ⟨h.all.grownElse hg hel, ho.1, fun p hp => ?_, ⟨(hg.block g h.dec.lt hge).trans h.dec.1, h.dec.2.1, h.dec.2.2.grownElse hg hel⟩, h.a1, fun p hp => ?_, fun p hp => ?_⟩
  all_goals rcases List.mem_append.1 hp with hp | hp
  · exact (h.bod p hp).grownElse hg hel
  · exact (hn.bod p hp).grownElse hg hel
  · exact h.a2 p hp
  · exact hn.a2 p hp
  · exact h.a3 p hp
  · exact hn.a3 p hp
end

/-- what is known of the frames, the error and the buffered bytes after the bytes tot -/
structure SF (tot buf : List UInt8) (got : List Fr) (last : Int) : Prop where
  ok : last = 0 → splitS tot = (got, buf, 0)
  bad : last ≠ 0 → (splitS tot).1 = got ∧ (splitS tot).2.2 = last ∧ buf = []

theorem SF.step {tot buf p : List UInt8} {got : List Fr} {last : Int} (h : SF tot buf got last) :
    ∃ r, r = feedS buf (decide (last ≠ 0)) p ∧ SF (tot ++ p) r.2.2.1 (got ++ r.1) (if last = 0 then r.2.1 else last) ∧ r.2.2.2 = decide ((if last = 0 then r.2.1 else last) ≠ 0) ∧ (last ≠ 0 → r.1 = [] ∧ r.2.1 = 20) := by
  refine ⟨_, rfl, ?_⟩
  by_cases h0 : last = 0
  · have hs := h.ok h0
    have hb : (decide (last ≠ 0)) = false := by simp [h0]
    rw [hb, if_pos h0]
    have ha := split_app_ok tot p (by rw [hs])
    rw [hs] at ha
    dsimp only at ha
    unfold feedS
    rw [if_neg (by decide)]
    by_cases he : (splitS (buf ++ p)).2.2 = 0
    · rw [if_pos he]
      refine ⟨⟨fun _ => ?_, fun n => absurd rfl n⟩, by simp, fun n => absurd h0 n⟩
      rw [ha]
      exact congrArg _ (Prod.ext rfl he)
    · rw [if_neg he]
      refine ⟨⟨fun e => absurd e he, fun _ => ⟨?_, ?_, rfl⟩⟩, by simp [he], fun n => absurd h0 n⟩
      · rw [ha]
      · rw [ha]
  · obtain ⟨h1, h2, h3⟩ := h.bad h0
    have hb : (decide (last ≠ 0)) = true := by simp [h0]
    rw [hb, if_neg h0]
    have ha := split_app_err tot p (by rw [h2]; exact h0)
    unfold feedS
    rw [if_pos rfl]
    refine ⟨⟨fun e => absurd e h0, fun _ => ⟨?_, ?_, h3⟩⟩, by simp [h0], fun _ => ⟨rfl, rfl⟩⟩
    · rw [ha.1, h1]; simp
    · rw [ha.2, h2]

end Go.Proofs.Ytfmknjfhalkfhaa
