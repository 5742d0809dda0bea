/-
  Boxes held beside one predicate of the world that stays.
-/
import Derived.Test.YtnkbejbpkjkgeaaVali
import Derived.Test.YtnkbejbpkjkgeaaMem
import Derived.Test.YtnkbejbpkjkgeaaRls
namespace Go.Proofs.Ytnkbejbpkjkgeaa
open Go.RowKit Mem

/-- boxes held, and something seen that stays -/
structure HeldX (w W : World) (l : List (Nat × List Value)) (q : World → Prop) : Prop where
  held : Held w W l
  fact : q W
  kept : ∀ W1 W2, Below W1.heap.size W1 W2 → q W1 → q W2

section
variable {w W W' : World} {l : List (Nat × List Value)} {q : World → Prop}
theorem HeldX.step (h : HeldX w W l q) (hb : Below W.heap.size W W') : HeldX w W' l q := ⟨h.held.step hb, h.kept _ _ hb h.fact, h.kept⟩
theorem HeldX.drew (h : HeldX w W l q) : HeldX w W.drew l q := h.step (Below.refl _ _).drew
theorem HeldX.drews (h : HeldX w W l q) (n : Nat) : HeldX w (W.drewN n) l q := h.step (below_draws (Below.refl _ _) n)
theorem HeldX.made (h : HeldX w W l q) (o : Obj) : HeldX w (W.alloc o) l q := h.step ((Below.refl _ _).alloc (Nat.le_refl _) o)
theorem HeldX.alloc (h : HeldX w W l q) (vs : List Value) (t : TypeId) : HeldX w (W.alloc (.cells vs.toArray t)) ((W.heap.size, vs) :: l) q :=
  ⟨h.held.alloc vs t, h.kept _ _ ((Below.refl _ _).alloc (Nat.le_refl _) _) h.fact, h.kept⟩
theorem HeldX.add {r : World → Prop} (h : HeldX w W l q) (hr : r W) (hk : ∀ W1 W2, Below W1.heap.size W1 W2 → r W1 → r W2) : HeldX w W l (fun V => r V ∧ q V) :=
  ⟨h.held, ⟨hr, h.fact⟩, fun W1 W2 hb ⟨h1, h2⟩ => ⟨hk W1 W2 hb h1, h.kept W1 W2 hb h2⟩⟩
theorem HeldX.addP {v : Value} {m : List Px} (h : HeldX w W l q) (hr : Pxs W v m) : HeldX w W l (fun V => Pxs V v m ∧ q V) := h.add hr fun _ _ hb h => h.below hb
theorem HeldX.addR {v : Value} {m : List R} (h : HeldX w W l q) (hr : Rs W v m) : HeldX w W l (fun V => Rs V v m ∧ q V) := h.add hr fun _ _ hb h => h.below hb
theorem HeldX.addS {v : Value} {m : List UInt8} (h : HeldX w W l q) (hr : Sees W v m) : HeldX w W l (fun V => Sees V v m ∧ q V) := h.add hr fun _ _ hb h => h.below hb
theorem Held.toX (h : Held w W l) : HeldX w W l (fun _ => True) := ⟨h, trivial, fun _ _ _ _ => trivial⟩
theorem HeldX.below (h : HeldX w W l q) : Below w.heap.size w W := h.held.below
end

end Go.Proofs.Ytnkbejbpkjkgeaa
