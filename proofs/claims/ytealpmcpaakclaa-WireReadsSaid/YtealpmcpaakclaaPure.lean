/-
  What the functions of package wire compute, on lists of bytes; and the number of four bytes. No program is named here.
-/
import Derived.WalkKit
namespace Go.Proofs.Ytealpmcpaakclaa.Wire
open Go.RowKit

theorem or_u32 (a b : Nat) (ha : a < 4294967296) (hb : b < 4294967296) : bits .or .u32 (a : Int) (b : Int) = ((a ||| b : Nat) : Int) := by
  have hx : a ||| b < 2 ^ 32 := Nat.or_lt_two_pow (by omega) (by omega)
  show IntKind.u32.wrap ((BitVec.ofInt 32 (a : Int) ||| BitVec.ofInt 32 (b : Int)).toNat : Int) = _
  have e : ∀ n : Nat, n < 4294967296 → (BitVec.ofInt 32 (n : Int)).toNat = n := fun n hn => by
    rw [BitVec.ofInt_natCast, BitVec.toNat_ofNat]; exact Nat.mod_eq_of_lt (by omega)
  rw [BitVec.toNat_or, e a ha, e b hb, IntKind.wrap_u32]
  omega

theorem or_add (a c k : Nat) (ha : a < 2 ^ k) : a ||| c * 2 ^ k = a + c * 2 ^ k := by
  have h := Nat.two_pow_add_eq_or_of_lt ha c
  rw [Nat.or_comm, Nat.mul_comm c, ← h, Nat.add_comm]

/-- the number of four bytes -/
def num4 (a b c d : Nat) : Nat := a + b * 256 + c * 65536 + d * 16777216

theorem num4_or (a b c d : Nat) (ha : a < 256) (hb : b < 256) (hc : c < 256) (hd : d < 256) :
    bits .or .u32 (bits .or .u32 (bits .or .u32 (a : Int) ((b : Int) * 256)) ((c : Int) * 65536)) ((d : Int) * 16777216) = (num4 a b c d : Int) := by
  have e1 : ((b : Int) * 256) = ((b * 2 ^ 8 : Nat) : Int) := by omega
  have e2 : ((c : Int) * 65536) = ((c * 2 ^ 16 : Nat) : Int) := by omega
  have e3 : ((d : Int) * 16777216) = ((d * 2 ^ 24 : Nat) : Int) := by omega
  rw [e1, e2, e3, or_u32 _ _ (by omega) (by omega), or_add a b 8 (by omega), or_u32 _ _ (by omega) (by omega), or_add _ c 16 (by omega), or_u32 _ _ (by omega) (by omega), or_add _ d 24 (by omega)]
  unfold num4
  omega

/-- what a reader holds: the unread bytes, and the error -/
abbrev St := List UInt8 × Int
def failS (s : St) (x : Int) : St := if s.2 = 0 then ([], x) else s
def at4 (bs : List UInt8) : Nat := num4 (bs.getD 0 0).toNat (bs.getD 1 0).toNat (bs.getD 2 0).toNat (bs.getD 3 0).toNat
def numS (s : St) : St × Nat := if s.1.length < 4 then (failS s 4, 0) else ((s.1.drop 4, s.2), at4 s.1)
/-- rounded up to a multiple of four -/
def up (n : Nat) : Nat := (n + 3) / 4 * 4
def limS (s : St) (n : Nat) (most : Int) : St := if max most 0 < (n : Int) then failS s 5 else s
def cutS (s : St) (n : Nat) : St × List UInt8 :=
  if s.1.length < up n then (failS s 4, []) else
  if (s.1.take (up n)).drop n = List.replicate (up n - n) 0 then ((s.1.drop (up n), s.2), s.1.take n) else (failS (s.1.drop (up n), s.2) 3, [])
def countS (s : St) (most : Int) : St × List UInt8 := cutS (limS (numS s).1 (numS s).2 most) (numS s).2
/-- a string: no byte of it may be zero -/
def strS (s : St) (most : Int) : St × List UInt8 := if (0 : UInt8) ∈ (countS s most).2 then (failS (countS s most).1 3, []) else countS s most
def endS (s : St) : Int := if s.2 = 0 ∧ 0 < s.1.length then 3 else s.2
/-- an error leaves no unread byte -/
def Fine (s : St) : Prop := s.2 ≠ 0 → s.1 = []

theorem at4_lt (bs : List UInt8) : at4 bs < 4294967296 := by
  have h : ∀ x : UInt8, x.toNat < 256 := fun x => x.toNat_lt
  have h0 := h (bs.getD 0 0); have h1 := h (bs.getD 1 0); have h2 := h (bs.getD 2 0); have h3 := h (bs.getD 3 0)
  unfold at4 num4
  omega

theorem Fine.fail {s : St} (x : Int) (h : Fine s) : Fine (failS s x) := by
  unfold failS
  split
  · intro _; rfl
  · exact h

end Go.Proofs.Ytealpmcpaakclaa.Wire
