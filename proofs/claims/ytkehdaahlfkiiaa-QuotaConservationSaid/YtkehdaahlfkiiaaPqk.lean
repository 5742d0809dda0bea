/-
  What the laws of quota ask of the program's functions: quotas and buckets in memory, their blocks apart from all else.
-/
import Derived.Test.YtkehdaahlfkiiaaRqc
import Derived.Test.YtkehdaahlfkiiaaRqe
namespace Go.Proofs.Ytkehdaahlfkiiaa
open Go.RowKit

/-- what the laws ask of quotas, in worlds of the kind T; R w0 W rv q S: the value rv is a quota with the counts q, whose blocks are S, none older than w0 -/
structure PQ (T : World → Prop) (R : World → World → Value → Qs → (Nat → Prop) → Prop) : Prop where
  below : ∀ {w w' : World}, T w → Below w.heap.size w w' → T w'
  keep : ∀ {w0 W W' : World} {rv : Value} {q : Qs} {S : Nat → Prop}, R w0 W rv q S → W.heap.size ≤ W'.heap.size → (∀ k, S k → W'.heap[k]? = W.heap[k]?) → R w0 W' rv q S
  lt : ∀ {w0 W : World} {rv : Value} {q : Qs} {S : Nat → Prop}, R w0 W rv q S → ∀ k, S k → w0.heap.size ≤ k ∧ k < W.heap.size
  some : ∀ {w0 W : World} {rv : Value} {q : Qs} {S : Nat → Prop}, R w0 W rv q S → ∃ a, rv = .pointer (some a)
  new : ∀ {w0 W : World} {v : Value} {L : List Int}, T W → Below w0.heap.size w0 W → Is W v L → L.length ≤ 100 → (∀ x ∈ L, I64 x) → Calls Try.prog 12 #[v] W fun e w' => ∃ rv S, e = .returned rv ∧ R w0 w' rv (newQ L) S ∧ (∀ k, S k → W.heap.size ≤ k) ∧ Below W.heap.size W w'
  use : ∀ {w0 W : World} {rv : Value} {q : Qs} {S : Nat → Prop}, T W → R w0 W rv q S → QOk q → ∀ (k n : Int), I64 k → I64 n → Calls Try.prog 20 #[rv, .int .i64 k, .int .i64 n] W fun e w' => ∃ S', e = .returned (.int .i64 (useQ q k n).2) ∧ R w0 w' rv (useQ q k n).1 S' ∧ (∀ k, S' k → S k ∨ W.heap.size ≤ k) ∧ Turns S W w'
  rel : ∀ {w0 W : World} {rv : Value} {q : Qs} {S : Nat → Prop}, T W → R w0 W rv q S → QOk q → ∀ (k n : Int), I64 k → I64 n → Calls Try.prog 19 #[rv, .int .i64 k, .int .i64 n] W fun e w' => ∃ S', e = .returned (.int .i64 (relQ q k n).2) ∧ R w0 w' rv (relQ q k n).1 S' ∧ (∀ k, S' k → S k ∨ W.heap.size ≤ k) ∧ Turns S W w'
  used : ∀ {w0 W : World} {rv : Value} {q : Qs} {S : Nat → Prop}, T W → R w0 W rv q S → QOk q → ∀ (k : Int), I64 k → Calls Try.prog 17 #[rv, .int .i64 k] W fun e w' => e = .returned (.int .i64 (usedQ q k)) ∧ Below W.heap.size W w'
/-- what the laws ask of buckets (a bucket that is not made is nil) -/
structure PB (T : World → Prop) (R : World → World → Value → Bk → (Nat → Prop) → Prop) : Prop where
  keep : ∀ {w0 W W' : World} {rv : Value} {b : Bk} {S : Nat → Prop}, R w0 W rv b S → W.heap.size ≤ W'.heap.size → (∀ k, S k → W'.heap[k]? = W.heap[k]?) → R w0 W' rv b S
  lt : ∀ {w0 W : World} {rv : Value} {b : Bk} {S : Nat → Prop}, R w0 W rv b S → ∀ k, S k → w0.heap.size ≤ k ∧ k < W.heap.size
  made : ∀ {w0 W : World} {rv : Value} {b : Bk} {S : Nat → Prop}, R w0 W rv b S → b.md = true → ∃ a, rv = .pointer (some a)
  nil : ∀ {w0 W : World} {rv : Value} {b : Bk} {S : Nat → Prop}, R w0 W rv b S → b.md = false → rv = .pointer none
  new : ∀ {w0 W : World}, T W → Below w0.heap.size w0 W → ∀ (r b : Int), I64 r → I64 b → Calls Try.prog 21 #[.int .i64 r, .int .i64 b] W fun e w' => ∃ rv S, e = .returned rv ∧ R w0 w' rv (newB r b) S ∧ (∀ k, S k → W.heap.size ≤ k) ∧ Below W.heap.size W w'
  take : ∀ {w0 W : World} {rv : Value} {b : Bk} {S : Nat → Prop}, T W → R w0 W rv b S → BOk b → ∀ (t n : Int), I64 t → I64 n → Calls Try.prog 26 #[rv, .int .i64 t, .int .i64 n] W fun e w' => ∃ S', e = .returned (.bool (takeB b t n).2) ∧ R w0 w' rv (takeB b t n).1 S' ∧ (∀ k, S' k → S k ∨ W.heap.size ≤ k) ∧ Turns S W w'
  lvl : ∀ {w0 W : World} {rv : Value} {b : Bk} {S : Nat → Prop}, T W → R w0 W rv b S → BOk b → ∀ (t : Int), I64 t → Calls Try.prog 24 #[rv, .int .i64 t] W fun e w' => ∃ S', e = .returned (.int .i64 (lvlB b t).2) ∧ R w0 w' rv (lvlB b t).1 S' ∧ (∀ k, S' k → S k ∨ W.heap.size ≤ k) ∧ Turns S W w'
/-- what they ask of nil -/
structure PNQ (T : World → Prop) : Prop where
  use : ∀ {W : World}, T W → ∀ (k n : Int), I64 k → I64 n → Calls Try.prog 20 #[.pointer none, .int .i64 k, .int .i64 n] W fun e w' => e = .returned (.int .i64 1) ∧ Below W.heap.size W w'
  rel : ∀ {W : World}, T W → ∀ (k n : Int), I64 k → I64 n → Calls Try.prog 19 #[.pointer none, .int .i64 k, .int .i64 n] W fun e w' => e = .returned (.int .i64 1) ∧ Below W.heap.size W w'
  used : ∀ {W : World}, T W → ∀ (k : Int), I64 k → Calls Try.prog 17 #[.pointer none, .int .i64 k] W fun e w' => e = .returned (.int .i64 0) ∧ Below W.heap.size W w'
  take : ∀ {W : World}, T W → ∀ (t n : Int), I64 t → I64 n → Calls Try.prog 26 #[.pointer none, .int .i64 t, .int .i64 n] W fun e w' => e = .returned (.bool false) ∧ Below W.heap.size W w'
  lvl : ∀ {W : World}, T W → ∀ (t : Int), I64 t → Calls Try.prog 24 #[.pointer none, .int .i64 t] W fun e w' => e = .returned (.int .i64 0) ∧ Below W.heap.size W w'

/-- an object of the program, as a thing -/
def objO {α : Type} (R : World → World → Value → α → (Nat → Prop) → Prop) (w0 : World) (rv : Value) (x : α) (S : Nat → Prop) : Ob := ⟨fun W => R w0 W rv x S, S⟩
section
variable {T : World → Prop} {R : World → World → Value → Qs → (Nat → Prop) → Prop} {RB : World → World → Value → Bk → (Nat → Prop) → Prop} {w W W' : World} {l l1 l2 : List Ob} {rv : Value} {q q' : Qs} {b b' : Bk} {S S' : Nat → Prop}
theorem HO.newQ (K : PQ T R) (h : HO w W l) (hr : R w W' rv q S) (hs : ∀ k, S k → W.heap.size ≤ k) (hb : Below W.heap.size W W') : HO w W' (objO R w rv q S :: l) :=
  h.new hb _ hr (fun _ _ hz hk hp => K.keep hp hz hk) (fun k hk => ⟨hs k hk, (K.lt hr k hk).2⟩)
theorem HO.turnQ (K : PQ T R) (h : HO w W (l1 ++ objO R w rv q S :: l2)) (hr : R w W' rv q' S') (hs : ∀ k, S' k → S k ∨ W.heap.size ≤ k) (ht : Turns S W W') : HO w W' (l1 ++ objO R w rv q' S' :: l2) :=
  h.turn (o := objO R w rv q S) ht (objO R w rv q' S') hr (fun _ _ hz hk hp => K.keep hp hz hk) hs (fun k hk => (K.lt hr k hk).2)
theorem HO.newB (K : PB T RB) (h : HO w W l) (hr : RB w W' rv b S) (hs : ∀ k, S k → W.heap.size ≤ k) (hb : Below W.heap.size W W') : HO w W' (objO RB w rv b S :: l) :=
  h.new hb _ hr (fun _ _ hz hk hp => K.keep hp hz hk) (fun k hk => ⟨hs k hk, (K.lt hr k hk).2⟩)
theorem HO.turnB (K : PB T RB) (h : HO w W (l1 ++ objO RB w rv b S :: l2)) (hr : RB w W' rv b' S') (hs : ∀ k, S' k → S k ∨ W.heap.size ≤ k) (ht : Turns S W W') : HO w W' (l1 ++ objO RB w rv b' S' :: l2) :=
  h.turn (o := objO RB w rv b S) ht (objO RB w rv b' S') hr (fun _ _ hz hk hp => K.keep hp hz hk) hs (fun k hk => (K.lt hr k hk).2)
end
theorem i64_lit {x : Int} (h0 : -1000000000 ≤ x) (h1 : x ≤ 1000000000) : I64 x := ⟨by omega, by omega⟩
theorem i64s_one {x : Int} (h : I64 x) : ∀ y ∈ [x], I64 y := fun y hy => by
  simp only [List.mem_singleton] at hy
  subst hy
  exact h

end Go.Proofs.Ytkehdaahlfkiiaa
