/-
  One bit turned: what Verify makes of it. Plain lemmas on lists of bytes.
-/
import Derived.Test.YtllmdgbokmldnaaRver
import Derived.Test.YtllmdgbokmldnaaTurn
namespace Go.Proofs.Ytllmdgbokmldnaa
open Go.RowKit Mem Crc

/-- the exclusive or with one bit, as the walks meet it -/
theorem bit_byte (x k : Nat) (hx : x < 256) : bits .xor .u8 (x : Int) (2 ^ (k % 8) % 256) = (((UInt8.ofNat (x ^^^ 2 ^ (k % 8))).toNat : Nat) : Int) := by
  have h : 2 ^ (k % 8) < 2 ^ 8 := Nat.pow_lt_pow_right (by decide) (Nat.mod_lt _ (by decide))
  have e8 : (2 : Nat) ^ 8 = 256 := by decide
  rw [e8] at h
  have e : ((2 : Int) ^ (k % 8) % 256) = ((2 ^ (k % 8) : Nat) : Int) := by
    have e1 : ((2 : Int) ^ (k % 8)) = ((2 ^ (k % 8) : Nat) : Int) := by rw [Int.natCast_pow]; rfl
    rw [e1]
    generalize 2 ^ (k % 8) = z at *
    omega
  rw [e]
  exact xor_byte x _ hx h

/-- a bit of a row of one's own, turned -/
theorem Owns.flipB {w : World} {lo g n cap : Nat} {bs : List UInt8} (h : Owns w lo (.slice (some ⟨g, 0, none⟩) n cap) bs) (k x : Nat) (hx : x = (bs.getD (k / 8) 0).toNat) :
    Owns (w.setCell ⟨g, k / 8, none⟩ (.int .u8 (bits .xor .u8 (x : Int) (2 ^ (k % 8) % 256)))) lo (.slice (some ⟨g, 0, none⟩) n cap) (Crc.flip bs k) := by
  subst hx
  rw [bit_byte _ _ (u8_lt _)]
  exact h.setB (k / 8) _

theorem le4_inj (a b : Nat) (ha : a < 4294967296) (hb : b < 4294967296) (h : le4 a = le4 b) : a = b := by
  simp only [le4, List.cons.injEq, and_true] at h
  obtain ⟨h0, h1, h2, h3⟩ := h
  have e0 := congrArg UInt8.toNat h0
  have e1 := congrArg UInt8.toNat h1
  have e2 := congrArg UInt8.toNat h2
  have e3 := congrArg UInt8.toNat h3
  simp only [UInt8.toNat_ofNat'] at e0 e1 e2 e3
  omega

theorem crcu_inj (p : Nat) (xs ys : List UInt8) (h : crcu p 0 xs = crcu p 0 ys) : updr p (4294967295 ^^^ 0) xs = updr p (4294967295 ^^^ 0) ys := by
  unfold crcu at h
  exact xor_left_inj h

theorem crc_flip {p : Nat} (hp : Poly p) (bs : List UInt8) (k : Nat) (hk : k < 8 * bs.length) : ¬ crcu p 0 bs = crcu p 0 (flip bs k) := by
  intro h
  have h1 := burst p _ hp.lo hp.hi bs (flip bs k) (flip_length bs k).symm k 1 (by decide) (by omega) (by rw [Nat.mul_one]; exact num_flip bs k hk) (crcu_inj p _ _ h)
  exact absurd h1 (by decide)

theorem flip_ne (bs : List UInt8) (k : Nat) (hk : k < 8 * bs.length) : ¬ flip bs k = bs := by
  intro h
  have h1 := num_flip bs k hk
  rw [h] at h1
  have h2 : num bs ^^^ num bs = num bs ^^^ (num bs ^^^ 2 ^ k) := by rw [← h1]
  rw [Nat.xor_self, xor_self_left] at h2
  exact absurd h2 (Nat.ne_of_lt (Nat.two_pow_pos k))

theorem okSum_with (p : Nat) (bs : List UInt8) : okSum p (withSum p bs) = true := by
  unfold okSum
  apply decide_eq_true
  have e : (withSum p bs).take ((withSum p bs).length - 4) = bs := by
    rw [withSum_length]
    unfold withSum
    rw [Nat.add_sub_cancel, List.take_append_of_le_length (Nat.le_refl _), List.take_length]
  rw [e]

theorem ver_with (p : Nat) (bs : List UInt8) : verE p (withSum p bs) = 0 ∧ verB p (withSum p bs) = bs := by
  unfold verE verB
  rw [okSum_with, withSum_length, if_neg (by omega), if_pos rfl, if_neg (by omega), if_pos rfl, Nat.add_sub_cancel]
  refine ⟨rfl, ?_⟩
  unfold withSum
  rw [List.take_append_of_le_length (Nat.le_refl _), List.take_length]

theorem okSum_flip {p : Nat} (hp : Poly p) (bs : List UInt8) (k : Nat) (hk : k < 8 * (withSum p bs).length) : okSum p (flip (withSum p bs) k) = false := by
  unfold okSum
  apply decide_eq_false
  rw [flip_length]
  have hl := withSum_length p bs
  intro h
  by_cases hlow : k / 8 < bs.length
  · have hk2 : k < 8 * bs.length := by omega
    have ef : flip (withSum p bs) k = flip bs k ++ le4 (crcu p 0 bs) := by
      unfold Crc.flip withSum
      rw [List.set_append_left _ _ hlow]
      congr 3
      simp only [List.getD]
      rw [List.getElem?_append_left hlow]
    rw [ef, hl, Nat.add_sub_cancel, List.take_append_of_le_length (by rw [flip_length]; exact Nat.le_refl _), List.take_of_length_le (by rw [flip_length]; exact Nat.le_refl _)] at h
    unfold withSum at h
    have h2 := List.append_cancel_left h
    have h3 := le4_inj _ _ (crcu_lt hp 0 _ (by decide)) (crcu_lt hp 0 _ (by decide)) h2
    exact crc_flip hp bs k hk2 h3.symm
  · have ef : (flip (withSum p bs) k).take ((withSum p bs).length - 4) = bs := by
      rw [hl, Nat.add_sub_cancel]
      unfold Crc.flip
      rw [List.take_set_of_le (by omega)]
      unfold withSum
      rw [List.take_append_of_le_length (Nat.le_refl _), List.take_length]
    rw [ef] at h
    exact flip_ne (withSum p bs) k hk h.symm

theorem ver_flip {p : Nat} (hp : Poly p) (bs : List UInt8) (k : Nat) (hk : k < 8 * (withSum p bs).length) : verE p (flip (withSum p bs) k) = 19 ∧ verB p (flip (withSum p bs) k) = [] := by
  unfold verE verB
  rw [okSum_flip hp bs k hk, flip_length, withSum_length, if_neg (by omega), if_neg (by decide), if_neg (by omega), if_neg (by decide)]
  exact ⟨rfl, rfl⟩

end Go.Proofs.Ytllmdgbokmldnaa
