/-
  What a slice of bytes holds in a world, and what keeps it: plain lemmas on memory, for every seat.
-/
import Derived.WalkKit
import Derived.Deep.AppendLies
import Derived.Maps.AppendAt
import Derived.Lib.Hide
namespace Go.Proofs.YtmpkjjmgfakomaaDoor.Mem
open Go.RowKit

/-- the cell that holds a byte -/
def byte (x : UInt8) : Value := .int .u8 (x.toNat : Int)

/-- the slice value v holds the bytes bs in the world w -/
def Sees (w : World) (v : Value) (bs : List UInt8) : Prop :=
  ∃ (A : Option Addr) (cap : Nat), v = .slice A bs.length cap ∧ bs.length ≤ cap ∧ cap ≤ maxLen ∧
    (0 < bs.length → ∃ b off, A = some ⟨b, off, none⟩ ∧ b < w.heap.size ∧ ∀ j, j < bs.length → w.cell? ⟨b, off + j, none⟩ = some (byte (bs.getD j 0)))

theorem sees_nil (w : World) : Sees w (.slice none 0 0) [] := ⟨none, 0, rfl, Nat.le_refl _, by simp [maxLen], fun h => by simp at h⟩

/-- kept where no cell of a block below the size is turned -/
theorem Sees.keep {w w' : World} {v : Value} {bs : List UInt8} (h : Sees w v bs) (hs : w.heap.size ≤ w'.heap.size)
    (hk : ∀ b o, b < w.heap.size → (∃ x, w.cell? ⟨b, o, none⟩ = some (byte x)) → w'.cell? ⟨b, o, none⟩ = w.cell? ⟨b, o, none⟩) : Sees w' v bs := by
  obtain ⟨A, cap, hv, h1, h2, h3⟩ := h
  refine ⟨A, cap, hv, h1, h2, fun hn => ?_⟩
  obtain ⟨b, off, hA, hb, hc⟩ := h3 hn
  exact ⟨b, off, hA, Nat.lt_of_lt_of_le hb hs, fun j hj => (hk b (off + j) hb ⟨_, hc j hj⟩).trans (hc j hj)⟩

theorem Sees.below {w w' : World} {v : Value} {bs : List UInt8} (h : Sees w v bs) (hb : Below w.heap.size w w') : Sees w' v bs :=
  h.keep hb.size fun _ _ hlt _ => hb.cell hlt

theorem Sees.alloc {w : World} {v : Value} {bs : List UInt8} (h : Sees w v bs) (o : Obj) : Sees (w.alloc o) v bs :=
  h.below ((Below.refl _ _).alloc (Nat.le_refl _) o)

theorem Sees.drew {w : World} {v : Value} {bs : List UInt8} (h : Sees w v bs) : Sees w.drew v bs := h

/-- kept where only block g may have turned, and g holds no byte -/
theorem Sees.grown {w w' : World} {v : Value} {bs : List UInt8} {g : Nat} (h : Sees w v bs) (hg : w.grownBy w' (some g)) (hno : ∀ o x, w.cell? ⟨g, o, none⟩ ≠ some (byte x)) : Sees w' v bs :=
  h.keep hg.size fun b o hlt ⟨x, hx⟩ => World.cell?_of_block (hg.block b hlt (fun e => by injection e with e; subst e; exact hno o x hx))

/-- the front of a slice -/
theorem Sees.take {w : World} {A : Option Addr} {n cap k : Nat} {bs : List UInt8} (h : Sees w (.slice A n cap) bs) (hk : k ≤ n) : Sees w (.slice A k cap) (bs.take k) := by
  obtain ⟨A', cap', hv, h1, h2, h3⟩ := h
  injection hv with e1 e2 e3
  subst e1 e2 e3
  have hl : (bs.take k).length = k := by simp; omega
  refine ⟨A, cap, by rw [hl], by omega, h2, fun hn => ?_⟩
  obtain ⟨b, off, hA, hb, hc⟩ := h3 (by omega)
  refine ⟨b, off, hA, hb, fun j hj => ?_⟩
  rw [hc j (by omega)]
  simp only [List.getD, List.getElem?_take]
  rw [if_pos (by omega)]

/-- the rest of a slice -/
theorem Sees.drop {w : World} {A : Option Addr} {n cap k : Nat} {bs : List UInt8} (h : Sees w (.slice A n cap) bs) (hk : k ≤ n) :
    Sees w (.slice (if cap = k then A else A.map (·.add k)) (n - k) (cap - k)) (bs.drop k) := by
  obtain ⟨A', cap', hv, h1, h2, h3⟩ := h
  injection hv with e1 e2 e3
  subst e1 e2 e3
  have hl : (bs.drop k).length = bs.length - k := by simp
  refine ⟨_, _, by rw [hl], by omega, by omega, fun hn => ?_⟩
  obtain ⟨b, off, hA, hb, hc⟩ := h3 (by omega)
  rw [if_neg (by omega)]
  subst hA
  refine ⟨b, off + k, ?_, hb, fun j hj => ?_⟩
  · simp only [Option.map_some, Addr.add]
    split <;> simp_all
  · rw [show off + k + j = off + (k + j) by omega, hc (k + j) (by omega)]
    simp [List.getD, List.getElem?_drop]

/-- the two ways in which a slice of bytes lies -/
theorem Sees.ways {w : World} {v : Value} {bs : List UInt8} (h : Sees w v bs) :
    (∃ A cap, v = .slice A 0 cap ∧ bs = [] ∧ cap ≤ maxLen) ∨
    ∃ b off n cap, v = .slice (some ⟨b, off, none⟩) n cap ∧ bs.length = n ∧ 0 < n ∧ n ≤ cap ∧ cap ≤ maxLen ∧ b < w.heap.size ∧ ∀ j, j < n → w.cell? ⟨b, off + j, none⟩ = some (byte (bs.getD j 0)) := by
  obtain ⟨A, cap, hv, h1, h2, h3⟩ := h
  by_cases hn : 0 < bs.length
  · obtain ⟨b, off, rfl, hb, hc⟩ := h3 hn
    exact .inr ⟨b, off, bs.length, cap, hv, rfl, hn, h1, h2, hb, hc⟩
  · have : bs = [] := List.eq_nil_of_length_eq_zero (by omega)
    subst this
    exact .inl ⟨A, cap, hv, rfl, h2⟩

theorem Sees.shape {w : World} {v : Value} {bs : List UInt8} (h : Sees w v bs) : ∃ A cap, v = .slice A bs.length cap ∧ bs.length ≤ cap ∧ cap ≤ maxLen := by
  obtain ⟨A, cap, hv, h1, h2, _⟩ := h
  exact ⟨A, cap, hv, h1, h2⟩

end Go.Proofs.YtmpkjjmgfakomaaDoor.Mem
