/-
  What CRC-32 computes, over natural numbers: the register's step, its linearity, bytes as one number. Plain mathematics: nothing of the program. The polynomial is a variable p here.
-/
namespace Go.Proofs.Ytllmdgbokmldnaa.Crc

/-- one shift of the register -/
def stp (p c : Nat) : Nat := if c % 2 = 1 then c / 2 ^^^ p else c / 2

def stps (p : Nat) : Nat → Nat → Nat
  | 0, c => c
  | n + 1, c => stps p n (stp p c)

theorem stp_xor (p a b : Nat) : stp p (a ^^^ b) = stp p a ^^^ stp p b := by
  unfold stp
  have h1 : (a ^^^ b) / 2 = a / 2 ^^^ b / 2 := Nat.xor_div_two
  have h2 : (a ^^^ b) % 2 = (a + b) % 2 := by
    have h3 := Nat.xor_mod_two_eq_one (a := a) (b := b)
    generalize a ^^^ b = z at *
    omega
  rw [h1, h2]
  have ha : a % 2 = 0 ∨ a % 2 = 1 := by omega
  have hb : b % 2 = 0 ∨ b % 2 = 1 := by omega
  rcases ha with ha | ha <;> rcases hb with hb | hb
  · rw [if_neg (by omega), if_neg (by omega), if_neg (by omega)]
  · rw [if_pos (by omega), if_neg (by omega), if_pos (by omega), Nat.xor_assoc]
  · rw [if_pos (by omega), if_pos (by omega), if_neg (by omega), Nat.xor_assoc, Nat.xor_assoc, Nat.xor_comm p]
  · rw [if_neg (by omega), if_pos (by omega), if_pos (by omega)]
    rw [Nat.xor_assoc, ← Nat.xor_assoc p, Nat.xor_comm p, Nat.xor_assoc (b / 2) p p, Nat.xor_self, Nat.xor_zero]

theorem stps_xor (p : Nat) : ∀ (n a b : Nat), stps p n (a ^^^ b) = stps p n a ^^^ stps p n b
  | 0, _, _ => rfl
  | n + 1, a, b => by
    show stps p n (stp p (a ^^^ b)) = _
    rw [stp_xor, stps_xor p n]
    rfl

theorem stps_add (p : Nat) : ∀ (m n c : Nat), stps p (m + n) c = stps p n (stps p m c)
  | 0, n, c => by rw [Nat.zero_add]; rfl
  | m + 1, n, c => by
    rw [Nat.succ_add]
    exact stps_add p m n (stp p c)

theorem stps_last (p n c : Nat) : stps p (n + 1) c = stp p (stps p n c) := stps_add p n 1 c

theorem stp_even (p c : Nat) : stp p (2 * c) = c := by
  unfold stp
  rw [if_neg (by omega)]
  omega

theorem stps_shl (p : Nat) : ∀ (n c : Nat), stps p n (2 ^ n * c) = c
  | 0, c => by rw [Nat.pow_zero, Nat.one_mul]; rfl
  | n + 1, c => by
    show stps p n (stp p (2 ^ (n + 1) * c)) = c
    rw [Nat.pow_succ, Nat.mul_comm (2 ^ n) 2, Nat.mul_assoc, stp_even, stps_shl p n c]

theorem stp_lt (p k c : Nat) (hp : p < 2 ^ k) (hc : c < 2 ^ (k + 1)) : stp p c < 2 ^ k := by
  have h : c / 2 < 2 ^ k := by
    rw [Nat.pow_succ] at hc
    generalize 2 ^ k = q at *
    omega
  unfold stp
  split
  · exact Nat.xor_lt_two_pow h hp
  · exact h

theorem stps_lt (p k : Nat) (hp : p < 2 ^ k) : ∀ (n c : Nat), c < 2 ^ k → stps p n c < 2 ^ k
  | 0, _, hc => hc
  | n + 1, c, hc => stps_lt p k hp n _ (stp_lt p k c hp (by rw [Nat.pow_succ]; generalize 2 ^ k = q at *; omega))

theorem xor_zero_eq {a b : Nat} (h : a ^^^ b = 0) : a = b := by
  have h2 : (a ^^^ b) ^^^ b = 0 ^^^ b := by rw [h]
  rwa [Nat.xor_assoc, Nat.xor_self, Nat.xor_zero, Nat.zero_xor] at h2

theorem stp_zero (p k d : Nat) (hp : 2 ^ k ≤ p) (hd : d < 2 ^ (k + 1)) (h : stp p d = 0) : d = 0 := by
  unfold stp at h
  split at h
  · have := xor_zero_eq h
    rw [Nat.pow_succ] at hd
    generalize 2 ^ k = q at *
    omega
  · omega

theorem stps_zero (p k : Nat) (hp : 2 ^ k ≤ p) (hp2 : p < 2 ^ (k + 1)) : ∀ (n d : Nat), d < 2 ^ (k + 1) → stps p n d = 0 → d = 0
  | 0, _, _, h => h
  | n + 1, d, hd, h => stp_zero p k d hp hd (stps_zero p k hp hp2 n _ (stp_lt p (k + 1) d hp2 (by rw [Nat.pow_succ]; generalize 2 ^ (k + 1) = q at *; omega)) h)

/-- the register after the bytes -/
def updr (p c : Nat) (bs : List UInt8) : Nat := bs.foldl (fun c x => stps p 8 (c ^^^ x.toNat)) c

theorem updr_nil (p c : Nat) : updr p c [] = c := rfl
theorem updr_cons (p c : Nat) (x : UInt8) (bs : List UInt8) : updr p c (x :: bs) = updr p (stps p 8 (c ^^^ x.toNat)) bs := rfl
theorem updr_append (p c : Nat) (as bs : List UInt8) : updr p c (as ++ bs) = updr p (updr p c as) bs := List.foldl_append
theorem updr_snoc (p c : Nat) (as : List UInt8) (x : UInt8) : updr p c (as ++ [x]) = stps p 8 (updr p c as ^^^ x.toNat) := updr_append p c as [x]

theorem byte_lt (x : UInt8) : x.toNat < 2 ^ 8 := UInt8.toNat_lt x

theorem updr_lt (p k : Nat) (hp : p < 2 ^ k) (hk : 8 ≤ k) : ∀ (bs : List UInt8) (c : Nat), c < 2 ^ k → updr p c bs < 2 ^ k
  | [], _, hc => hc
  | x :: bs, c, hc => updr_lt p k hp hk bs _ (stps_lt p k hp 8 _ (Nat.xor_lt_two_pow hc (Nat.lt_of_lt_of_le (byte_lt x) (Nat.pow_le_pow_right (by omega) hk))))

/-- the bytes as one number, the first byte the lowest -/
def num : List UInt8 → Nat
  | [] => 0
  | x :: xs => x.toNat + 256 * num xs

theorem add_xor (x n : Nat) (hx : x < 2 ^ 8) : x + 256 * n = x ^^^ 256 * n := by
  have h := Nat.two_pow_add_eq_or_of_lt (i := 8) hx n
  have e : 2 ^ 8 * n + x = x + 256 * n := by omega
  rw [e] at h
  rw [h]
  apply Nat.eq_of_testBit_eq
  intro i
  rw [Nat.testBit_or, Nat.testBit_xor]
  have e2 : 256 * n = 2 ^ 8 * n := rfl
  rw [e2, Nat.testBit_two_pow_mul]
  by_cases hi : 8 ≤ i
  · have : x.testBit i = false := Nat.testBit_lt_two_pow (Nat.lt_of_lt_of_le hx (Nat.pow_le_pow_right (by omega) hi))
    rw [this]
    simp
  · have : decide (i ≥ 8) = false := decide_eq_false hi
    rw [this]
    simp

theorem updr_num (p : Nat) : ∀ (bs : List UInt8) (c : Nat), updr p c bs = stps p (8 * bs.length) (c ^^^ num bs)
  | [], c => by
    show c = stps p 0 (c ^^^ 0)
    rw [Nat.xor_zero]
    rfl
  | x :: bs, c => by
    rw [updr_cons, updr_num p bs, List.length_cons, show 8 * (bs.length + 1) = 8 + 8 * bs.length by omega, stps_add]
    congr 1
    show _ = stps p 8 (c ^^^ (x.toNat + 256 * num bs))
    rw [add_xor _ _ (byte_lt x), ← Nat.xor_assoc, stps_xor p 8 (c ^^^ x.toNat), show 256 * num bs = 2 ^ 8 * num bs from rfl, stps_shl]

/-- the table's way: the byte's remainder, and what is above it -/
theorem table_step (p c x : Nat) : c / 256 ^^^ stps p 8 (c % 256 ^^^ x) = stps p 8 (c ^^^ x) := by
  have h : c = c % 256 ^^^ 256 * (c / 256) := (Nat.mod_add_div c 256).symm.trans (add_xor _ _ (Nat.mod_lt c (by decide)))
  have h2 : c ^^^ x = (c % 256 ^^^ x) ^^^ 2 ^ 8 * (c / 256) := by
    conv => lhs; rw [h]
    rw [Nat.xor_assoc, Nat.xor_comm _ x, ← Nat.xor_assoc]
  rw [h2, stps_xor p 8 (c % 256 ^^^ x), stps_shl, Nat.xor_comm]

theorem num_inj : ∀ (as bs : List UInt8), as.length = bs.length → num as = num bs → as = bs
  | [], [], _, _ => rfl
  | x :: as, y :: bs, hl, h => by
    have h1 := byte_lt x
    have h2 := byte_lt y
    simp only [num] at h
    have e1 : x.toNat = y.toNat := by omega
    have e2 : num as = num bs := by omega
    rw [UInt8.toNat_inj.1 e1, num_inj as bs (by simpa using hl) e2]
  | [], _ :: _, hl, _ => by simp at hl
  | _ :: _, [], hl, _ => by simp at hl

/-- two messages of one length whose numbers differ within 32 bits from 'at' on: the registers differ -/
theorem burst (p c : Nat) (hp : 2 ^ 31 ≤ p) (hp2 : p < 2 ^ 32) (as bs : List UInt8) (hl : as.length = bs.length) (s F : Nat) (hF : F < 2 ^ 32) (hs : s ≤ 8 * as.length)
    (h : num bs = num as ^^^ 2 ^ s * F) (he : updr p c as = updr p c bs) : F = 0 := by
  rw [updr_num, updr_num, ← hl, h, ← Nat.xor_assoc] at he
  rw [stps_xor p _ (c ^^^ num as)] at he
  have h0 : stps p (8 * as.length) (2 ^ s * F) = 0 := by
    have h1 : stps p (8 * as.length) (c ^^^ num as) ^^^ stps p (8 * as.length) (c ^^^ num as) = stps p (8 * as.length) (c ^^^ num as) ^^^ (stps p (8 * as.length) (c ^^^ num as) ^^^ stps p (8 * as.length) (2 ^ s * F)) := congrArg (stps p (8 * as.length) (c ^^^ num as) ^^^ ·) he
    rw [Nat.xor_self, ← Nat.xor_assoc, Nat.xor_self, Nat.zero_xor] at h1
    exact h1.symm
  rw [show 8 * as.length = s + (8 * as.length - s) by omega, stps_add, stps_shl] at h0
  exact stps_zero p 31 hp hp2 _ F hF h0

/-- the bytes with bit k turned -/
def flip (bs : List UInt8) (k : Nat) : List UInt8 := bs.set (k / 8) (UInt8.ofNat ((bs.getD (k / 8) 0).toNat ^^^ 2 ^ (k % 8)))

theorem mul_xor (n a b : Nat) : 2 ^ n * (a ^^^ b) = 2 ^ n * a ^^^ 2 ^ n * b := by
  have h := Nat.shiftLeft_xor_distrib (a := a) (b := b) (i := n)
  rw [Nat.shiftLeft_eq, Nat.shiftLeft_eq, Nat.shiftLeft_eq, Nat.mul_comm _ (2 ^ n), Nat.mul_comm _ (2 ^ n), Nat.mul_comm _ (2 ^ n)] at h
  exact h

theorem num_set : ∀ (bs : List UInt8) (j v : Nat), j < bs.length → v < 2 ^ 8 → num (bs.set j (UInt8.ofNat ((bs.getD j 0).toNat ^^^ v))) = num bs ^^^ 2 ^ (8 * j) * v
  | x :: bs, 0, v, _, hv => by
    have hx := byte_lt x
    have h1 : (UInt8.ofNat (x.toNat ^^^ v)).toNat = x.toNat ^^^ v := by
      rw [UInt8.toNat_ofNat']
      exact Nat.mod_eq_of_lt (Nat.xor_lt_two_pow hx hv)
    simp only [List.set_cons_zero, num, List.getD_cons_zero]
    rw [h1, add_xor _ _ (Nat.xor_lt_two_pow hx hv), add_xor _ _ hx, Nat.mul_zero, Nat.pow_zero, Nat.one_mul, Nat.xor_assoc, Nat.xor_assoc, Nat.xor_comm v]
  | x :: bs, j + 1, v, hj, hv => by
    have hx := byte_lt x
    simp only [List.set_cons_succ, num, List.getD_cons_succ]
    rw [num_set bs j v (by simpa using hj) hv, add_xor _ _ hx, add_xor _ _ hx, Nat.xor_assoc]
    congr 1
    rw [show 256 * (num bs ^^^ 2 ^ (8 * j) * v) = 2 ^ 8 * (num bs ^^^ 2 ^ (8 * j) * v) from rfl, mul_xor, ← Nat.mul_assoc, ← Nat.pow_add, show 8 + 8 * j = 8 * (j + 1) by omega]
  | [], _, _, hj, _ => by simp at hj

theorem flip_length (bs : List UInt8) (k : Nat) : (flip bs k).length = bs.length := by unfold flip; simp

theorem num_flip (bs : List UInt8) (k : Nat) (hk : k < 8 * bs.length) : num (flip bs k) = num bs ^^^ 2 ^ k := by
  unfold flip
  rw [num_set bs (k / 8) (2 ^ (k % 8)) (by omega) (Nat.pow_lt_pow_right (by omega) (Nat.mod_lt k (by omega))), ← Nat.pow_add, show 8 * (k / 8) + k % 8 = k by omega]

theorem xor_self_left (a b : Nat) : a ^^^ (a ^^^ b) = b := by rw [← Nat.xor_assoc, Nat.xor_self, Nat.zero_xor]
theorem xor_left_comm (a b c : Nat) : a ^^^ (b ^^^ c) = b ^^^ (a ^^^ c) := by rw [← Nat.xor_assoc, Nat.xor_comm a b, Nat.xor_assoc]
theorem xor_left_inj {a b c : Nat} (h : a ^^^ b = a ^^^ c) : b = c := by rw [← xor_self_left a b, h, xor_self_left]

/-- the exclusive or of three messages, a byte further -/
theorem three_step (p D A B C x y z : Nat) (h : D = A ^^^ B ^^^ C) : stps p 8 (D ^^^ (x ^^^ y ^^^ z)) = stps p 8 (A ^^^ x) ^^^ stps p 8 (B ^^^ y) ^^^ stps p 8 (C ^^^ z) := by
  rw [← stps_xor, ← stps_xor, h]
  congr 1
  simp only [Nat.xor_assoc, xor_left_comm]

theorem three_end (M D A B C : Nat) (h : D = A ^^^ B ^^^ C) : M ^^^ D = (M ^^^ A) ^^^ (M ^^^ B) ^^^ (M ^^^ C) := by
  rw [h]
  simp only [Nat.xor_assoc]
  rw [xor_left_comm B M, xor_self_left]

end Go.Proofs.Ytllmdgbokmldnaa.Crc
