/-
  What the laws of the registry ask of the program's functions: a registry in memory, its blocks apart from all else.
-/
import Derived.Test.YtcecicmihdcjgaaDoorRgd
namespace Go.Proofs.YtcecicmihdcjgaaDoor
open Go.RowKit

/-- of what is older, the blocks S alone have turned -/
structure Turns (S : Nat → Prop) (w w' : World) : Prop where
  os : w'.os = w.os
  tape : w'.tape = w.tape
  output : w'.output = w.output
  size : w.heap.size ≤ w'.heap.size
  block : ∀ k, k < w.heap.size → ¬ S k → w'.heap[k]? = w.heap[k]?

/-- what the laws ask of the program's functions, in worlds of the kind T; R w0 W rv l S: the value rv is a registry with the entries l, whose blocks are S, none older than w0 -/
structure PR (T : World → Prop) (R : World → World → Value → List Gl → (Nat → Prop) → Prop) : Prop where
  below : ∀ {w w' : World}, T w → Below w.heap.size w w' → T w'
  keep : ∀ {w0 W W' : World} {rv : Value} {l : List Gl} {S : Nat → Prop}, R w0 W rv l S → W.heap.size ≤ W'.heap.size → (∀ k, S k → W'.heap[k]? = W.heap[k]?) → R w0 W' rv l S
  lt : ∀ {w0 W : World} {rv : Value} {l : List Gl} {S : Nat → Prop}, R w0 W rv l S → ∀ k, S k → w0.heap.size ≤ k ∧ k < W.heap.size
  some : ∀ {w0 W : World} {rv : Value} {l : List Gl} {S : Nat → Prop}, R w0 W rv l S → ∃ a, rv = .pointer (some a)
  new : ∀ {w0 W : World}, T W → Below w0.heap.size w0 W → Calls Tryd.prog 10 #[] W fun e w' => ∃ rv S, e = .returned rv ∧ R w0 w' rv [] S ∧ (∀ k, S k → W.heap.size ≤ k) ∧ Below W.heap.size W w'
  add : ∀ {w0 W : World} {rv : Value} {l : List Gl} {S : Nat → Prop}, T W → R w0 W rv l S → l.length ≤ 1000 → ∀ (s : ByteArray) (v : Int), Calls Tryd.prog 12 #[rv, .string s, .int .i64 v] W fun e w' => ∃ S', e = .returned (.tuple #[.int .u32 ((addF l s v).2.1 : Int), .int .i64 (addF l s v).2.2]) ∧ R w0 w' rv (addF l s v).1 S' ∧ (∀ k, S' k → S k ∨ W.heap.size ≤ k) ∧ Turns S W w'
  rem : ∀ {w0 W : World} {rv : Value} {l : List Gl} {S : Nat → Prop}, T W → R w0 W rv l S → l.length ≤ 1000 → ∀ (q : Nat), q < 4294967296 → Calls Tryd.prog 14 #[rv, .int .u32 (q : Int)] W fun e w' => ∃ S', e = .returned (.int .i64 (remF l q).2) ∧ R w0 w' rv (remF l q).1 S' ∧ (∀ k, S' k → S k ∨ W.heap.size ≤ k) ∧ Turns S W w'
  bind : ∀ {w0 W : World} {rv : Value} {l : List Gl} {S : Nat → Prop}, T W → R w0 W rv l S → l.length ≤ 1000 → ∀ (q : Nat), q < 4294967296 → ∀ (s : ByteArray) (v : Int), Calls Tryd.prog 16 #[rv, .int .u32 (q : Int), .string s, .int .i64 v] W fun e w' => e = .returned (.int .i64 (bindF l q s v)) ∧ Below W.heap.size W w'
  list : ∀ {w0 W : World} {rv : Value} {l : List Gl} {S : Nat → Prop}, T W → R w0 W rv l S → l.length ≤ 1000 → Calls Tryd.prog 19 #[rv] W fun e w' => ∃ u, e = .returned u ∧ Gs w' u (listF l) ∧ Below W.heap.size W w'
  log : ∀ {w0 W : World} {rv : Value} {l : List Gl} {S : Nat → Prop}, T W → R w0 W rv l S → l.length ≤ 1000 → Calls Tryd.prog 21 #[rv] W fun e w' => ∃ u, e = .returned u ∧ Gs w' u l ∧ Below W.heap.size W w'

/-- globals in blocks apart from S -/
def GsN (S : Nat → Prop) (w : World) (v : Value) (l : List Gl) : Prop :=
  ∃ (A : Option Addr) (cap : Nat), v = .slice A l.length cap ∧ l.length ≤ cap ∧ cap ≤ maxLen ∧
    (0 < l.length → ∃ b off, A = some ⟨b, off, none⟩ ∧ b < w.heap.size ∧ ¬ S b ∧ ∀ (j : Nat) (r : Gl), l[j]? = some r → GlAt w b (off + j * 3) r)
theorem GsN.gs {S : Nat → Prop} {w : World} {v : Value} {l : List Gl} (h : GsN S w v l) : Gs w v l := by
  obtain ⟨A, cap, hv, h1, h2, h4⟩ := h
  exact ⟨A, cap, hv, h1, h2, fun hn => by obtain ⟨b, off, hA, hlt, _, hc⟩ := h4 hn; exact ⟨b, off, hA, hlt, hc⟩⟩
theorem gsN_nil (S : Nat → Prop) (w : World) : GsN S w (.slice none 0 0) [] := ⟨none, 0, rfl, Nat.le_refl _, by simp [maxLen], fun h => by simp at h⟩
theorem cell_of_block {w w' : World} {k : Nat} (h : w'.heap[k]? = w.heap[k]?) (i : Nat) : w'.cell? ⟨k, i, none⟩ = w.cell? ⟨k, i, none⟩ := by simp [World.cell?, h]
theorem frozen_of_block {w w' : World} {k : Nat} (h : w'.heap[k]? = w.heap[k]?) (i : Nat) : w'.frozen? ⟨k, i, none⟩ = w.frozen? ⟨k, i, none⟩ := by simp [World.frozen?, h]
theorem GsN.turn {S S' : Nat → Prop} {w w' : World} {v : Value} {l : List Gl} (h : GsN S w v l) (ht : Turns S w w') (hs : ∀ k, S' k → S k ∨ w.heap.size ≤ k) : GsN S' w' v l := by
  obtain ⟨A, cap, hv, h1, h2, h4⟩ := h
  refine ⟨A, cap, hv, h1, h2, fun hn => ?_⟩
  obtain ⟨b, off, hA, hlt, hS, hc⟩ := h4 hn
  have hb := ht.block b hlt hS
  refine ⟨b, off, hA, Nat.lt_of_lt_of_le hlt ht.size, fun h => ?_, fun j r hj => ?_⟩
  · rcases hs b h with h | h
    · exact hS h
    · omega
  · obtain ⟨c0, c1, c2⟩ := hc j r hj
    exact ⟨(cell_of_block hb _).trans c0, (cell_of_block hb _).trans c1, (cell_of_block hb _).trans c2⟩
theorem turns_below {S : Nat → Prop} {w w' : World} (h : Below w.heap.size w w') : Turns S w w' := ⟨h.os, h.tape, h.output, h.size, fun k hk _ => h.block k hk⟩
theorem GsN.below {S : Nat → Prop} {w w' : World} {v : Value} {l : List Gl} (h : GsN S w v l) (hb : Below w.heap.size w w') : GsN S w' v l := h.turn (turns_below hb) fun _ h => .inl h
theorem OwnG.gsN {S : Nat → Prop} {w : World} {base : Nat} {v : Value} {l : List Gl} (h : OwnG w base v l) (hs : ∀ k, S k → k < base) : GsN S w v l := by
  obtain ⟨A, cap, hv, h1, h2, h4⟩ := h.gs
  refine ⟨A, cap, hv, h1, h2, fun hn => ?_⟩
  obtain ⟨b, off, hA, hlt, hc⟩ := h4 hn
  refine ⟨b, off, hA, hlt, fun hS => ?_, hc⟩
  subst hA
  rcases h.2 with ⟨hv2, _⟩ | ⟨g, _, _, hv2, hg, _⟩
  · rw [hv] at hv2; cases hv2
  · rw [hv] at hv2
    injection hv2 with e1 _ _
    injection e1 with e1
    injection e1 with e1 _ _
    have := hs b hS
    omega

/-- boxes held beside a registry -/
structure HR (R : World → World → Value → List Gl → (Nat → Prop) → Prop) (w W : World) (bx : List (Nat × List Value)) (rv : Value) (l : List Gl) (S : Nat → Prop) : Prop where
  held : Held w W bx
  reg : R w W rv l S
  ne : ∀ q ∈ bx, ¬ S q.1
section
variable {T : World → Prop} {R : World → World → Value → List Gl → (Nat → Prop) → Prop} {w W W' : World} {bx : List (Nat × List Value)} {rv : Value} {l : List Gl} {S : Nat → Prop}
theorem HR.step (h : HR R w W bx rv l S) (K : PR T R) (hb : Below W.heap.size W W') : HR R w W' bx rv l S :=
  ⟨h.held.step hb, K.keep h.reg hb.size (fun k hk => hb.block k (K.lt h.reg k hk).2), h.ne⟩
theorem HR.alloc (h : HR R w W bx rv l S) (K : PR T R) (vs : List Value) (t : TypeId) : HR R w (W.alloc (.cells vs.toArray t)) ((W.heap.size, vs) :: bx) rv l S := by
  have hs := h.step K (W' := W.alloc (.cells vs.toArray t)) ((Below.refl _ _).alloc (Nat.le_refl _) _)
  refine ⟨h.held.alloc vs t, hs.reg, fun q hq hS => ?_⟩
  rcases List.mem_cons.1 hq with rfl | hq
  · have := (K.lt h.reg _ hS).2
    dsimp only at this
    omega
  · exact h.ne q hq hS
theorem HR.sub (h : HR R w W bx rv l S) {by' : List (Nat × List Value)} (hs : by'.Sublist bx) : HR R w W by' rv l S := ⟨h.held.sub hs, h.reg, fun q hq => h.ne q (hs.subset hq)⟩
theorem HR.cell {l1 l2 : List (Nat × List Value)} {k : Nat} {vs : List Value} (h : HR R w W (l1 ++ (k, vs) :: l2) rv l S) (K : PR T R) {i : Nat} (hi : i < vs.length) (u : Value) :
    HR R w (W.setCell ⟨k, i, none⟩ u) (l1 ++ (k, vs.set i u) :: l2) rv l S := by
  have hk := h.ne (k, vs) (by simp)
  refine ⟨h.held.cell hi u, K.keep h.reg (by simp [World.setCell]) (fun j hj => Below.heap_setCell W ⟨k, i, none⟩ u j (fun e => hk (by rw [← show j = k from e]; exact hj))), fun q hq => ?_⟩
  rcases List.mem_append.1 hq with hq | hq
  · exact h.ne q (by simp [hq])
  · rcases List.mem_cons.1 hq with rfl | hq
    · exact hk
    · exact h.ne q (by simp [hq])
/-- a method that turned the registry has returned -/
theorem HR.turn (h : HR R w W bx rv l S) (K : PR T R) {l' : List Gl} {S' : Nat → Prop} (hr : R w W' rv l' S') (hs : ∀ k, S' k → S k ∨ W.heap.size ≤ k) (ht : Turns S W W') : HR R w W' bx rv l' S' := by
  refine ⟨⟨fun p hp i v hv => ?_, fun p hp i => ?_, fun p hp => ?_, h.held.own, h.held.nd, ?_⟩, hr, fun q hq hS => ?_⟩
  · exact (cell_of_block (ht.block p.1 (h.held.there p hp) (h.ne p hp)) i).trans (h.held.cells p hp i v hv)
  · exact (frozen_of_block (ht.block p.1 (h.held.there p hp) (h.ne p hp)) i).trans (h.held.free p hp i)
  · exact Nat.lt_of_lt_of_le (h.held.there p hp) ht.size
  · have hb := h.held.below
    exact ⟨ht.os.trans hb.os, ht.tape.trans hb.tape, ht.output.trans hb.output, Nat.le_trans hb.size ht.size, fun k hk => (ht.block k (Nat.lt_of_lt_of_le hk hb.size) (fun hS => by have := (K.lt h.reg k hS).1; omega)).trans (hb.block k hk)⟩
  · rcases hs _ hS with h2 | h2
    · exact h.ne q hq h2
    · have := h.held.there q hq
      omega
end

theorem gsN_same {S : Nat → Prop} {w w' : World} {v : Value} {l m : List Gl} (h : GsN S w v l) (h2 : Gs w' v m) : GsN S w' v m := by
  obtain ⟨A, cap, rfl, h1, h3, h4⟩ := h
  obtain ⟨A2, cap2, hv, g1, g3, g4⟩ := h2
  injection hv with e1 e2 e3
  subst e1 e3
  refine ⟨A, cap, by rw [e2], g1, g3, fun hn => ?_⟩
  obtain ⟨b, off, rfl, hlt, hc⟩ := g4 hn
  obtain ⟨b2, off2, e, _, hS, _⟩ := h4 (by omega)
  simp only [Option.some.injEq, Addr.mk.injEq] at e
  obtain ⟨rfl, rfl, -⟩ := e
  exact ⟨b, off, rfl, hlt, hS, hc⟩
/-- what a reference's call has handed on: the slice that it was given, or new memory -/
theorem gsN_next {S : Nat → Prop} {w w' : World} {u v : Value} {l m : List Gl} (h : GsN S w v l) (hs : ∀ k, S k → k < w.heap.size) (h2 : Gs w' u m) (ho : u = v ∨ OwnG w' w.heap.size u m) : GsN S w' u m := by
  rcases ho with rfl | ho
  · exact gsN_same h h2
  · exact ho.gsN hs

/-- a call as the law lists it -/
structure Op4 where
  kd : Int
  nm : Nat
  it : ByteArray
  vr : Int
def OpAt (w : World) (b o : Nat) (r : Op4) : Prop := w.cell? ⟨b, o, none⟩ = some (.int .i64 r.kd) ∧ w.cell? ⟨b, o + 1, none⟩ = some (.int .u32 (r.nm : Int)) ∧ w.cell? ⟨b, o + 2, none⟩ = some (.string r.it) ∧ w.cell? ⟨b, o + 3, none⟩ = some (.int .i64 r.vr)
/-- the slice value v holds the calls l -/
def Opl (w : World) (v : Value) (l : List Op4) : Prop :=
  ∃ (A : Option Addr) (cap : Nat), v = .slice A l.length cap ∧ l.length ≤ cap ∧ cap ≤ maxLen ∧ (∀ p ∈ l, p.nm < 4294967296) ∧
    (0 < l.length → ∃ b off, A = some ⟨b, off, none⟩ ∧ b < w.heap.size ∧ ∀ (j : Nat) (r : Op4), l[j]? = some r → OpAt w b (off + j * 4) r)
theorem os_at {w W : World} {A : Option Addr} {n cap : Nat} {l : List Op4} (h : Opl w (.slice A n cap) l) (hb : Below w.heap.size w W) {j : Nat} {r : Op4} (hj : l[j]? = some r) :
    r.nm < 4294967296 ∧ ∃ b off, A = some ⟨b, off, none⟩ ∧ OpAt W b (off + j * 4) r := by
  obtain ⟨A', cap', hv, _, _, hq, hc⟩ := h
  injection hv with e1 e2 e3
  subst e1
  have hl := (List.getElem?_eq_some_iff.1 hj).1
  obtain ⟨b, off, rfl, hlt, hc⟩ := hc (by omega)
  obtain ⟨c0, c1, c2, c3⟩ := hc j r hj
  exact ⟨hq r (List.mem_of_getElem? hj), b, off, rfl, (hb.cell (p := ⟨b, off + j * 4, none⟩) hlt).trans c0, (hb.cell (p := ⟨b, off + j * 4 + 1, none⟩) hlt).trans c1, (hb.cell (p := ⟨b, off + j * 4 + 2, none⟩) hlt).trans c2, (hb.cell (p := ⟨b, off + j * 4 + 3, none⟩) hlt).trans c3⟩
theorem addF_len (l : List Gl) (s : ByteArray) (v : Int) : (addF l s v).1.length ≤ l.length + 1 := by
  unfold addF
  repeat' split
  all_goals simp
theorem remF_len (l : List Gl) (q : Nat) : (remF l q).1.length ≤ l.length + 1 := by
  unfold remF
  split
  all_goals simp

end Go.Proofs.YtcecicmihdcjgaaDoor
