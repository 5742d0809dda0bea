/-
  What Adler-32 computes: sums modulo m. Plain mathematics: nothing of the program.
-/
namespace Go.Proofs.Ytllmdgbokmldnaa.Adler

/-- the sum of the bytes -/
def S : List UInt8 → Nat
  | [] => 0
  | x :: xs => x.toNat + S xs

/-- the sum of the sums -/
def T : List UInt8 → Nat
  | [] => 0
  | x :: xs => (xs.length + 1) * x.toNat + T xs

theorem S_append : ∀ (as bs : List UInt8), S (as ++ bs) = S as + S bs
  | [], bs => by show S bs = 0 + S bs; omega
  | x :: as, bs => by
    show x.toNat + S (as ++ bs) = x.toNat + S as + S bs
    rw [S_append as bs]
    omega

theorem T_append : ∀ (as bs : List UInt8), T (as ++ bs) = T as + bs.length * S as + T bs
  | [], bs => by show T bs = 0 + bs.length * 0 + T bs; omega
  | x :: as, bs => by
    show ((as ++ bs).length + 1) * x.toNat + T (as ++ bs) = (as.length + 1) * x.toNat + T as + bs.length * (x.toNat + S as) + T bs
    rw [T_append as bs, List.length_append, Nat.mul_add, show as.length + bs.length + 1 = (as.length + 1) + bs.length by omega, Nat.add_mul]
    omega

theorem S_snoc (bs : List UInt8) (x : UInt8) : S (bs ++ [x]) = S bs + x.toNat := by
  rw [S_append]
  rfl

theorem T_snoc (bs : List UInt8) (x : UInt8) : T (bs ++ [x]) = T bs + S bs + x.toNat := by
  rw [T_append]
  show T bs + 1 * S bs + (1 * x.toNat + 0) = _
  omega

/-- the two parts after the bytes -/
def low (m x : Nat) (bs : List UInt8) : Nat := (x + S bs) % m
def high (m x y : Nat) (bs : List UInt8) : Nat := (y + bs.length * x + T bs) % m

theorem low_nil (m x : Nat) : low m x [] = x % m := rfl
theorem high_nil (m x y : Nat) : high m x y [] = y % m := by
  show (y + 0 * x + 0) % m = _
  rw [Nat.zero_mul]
  rfl

theorem low_snoc (m x : Nat) (bs : List UInt8) (b : UInt8) : low m x (bs ++ [b]) = (low m x bs + b.toNat) % m := by
  unfold low
  rw [S_snoc, ← Nat.add_assoc, Nat.mod_add_mod]

theorem high_snoc (m x y : Nat) (bs : List UInt8) (b : UInt8) : high m x y (bs ++ [b]) = (high m x y bs + low m x (bs ++ [b])) % m := by
  unfold high low
  rw [S_snoc, T_snoc, Nat.mod_add_mod, Nat.add_mod_mod, List.length_append, List.length_singleton, Nat.add_mul, Nat.one_mul]
  congr 1
  omega

theorem low_append (m x : Nat) (as bs : List UInt8) : low m x (as ++ bs) = low m (low m x as) bs := by
  unfold low
  rw [S_append, ← Nat.add_assoc, Nat.mod_add_mod]

theorem high_append (m x y : Nat) (as bs : List UInt8) : high m x y (as ++ bs) = high m (low m x as) (high m x y as) bs := by
  unfold high low
  rw [Nat.add_assoc ((y + as.length * x + T as) % m), Nat.mod_add_mod, ← Nat.add_assoc, T_append, List.length_append, Nat.add_mul]
  rw [show y + (as.length * x + bs.length * x) + (T as + bs.length * S as + T bs) = (y + as.length * x + T as + T bs) + (bs.length * x + bs.length * S as) by omega, ← Nat.mul_add]
  rw [show y + as.length * x + T as + bs.length * ((x + S as) % m) + T bs = (y + as.length * x + T as + T bs) + bs.length * ((x + S as) % m) by omega]
  rw [Nat.add_mod _ (bs.length * (x + S as)), Nat.add_mod _ (bs.length * ((x + S as) % m)), Nat.mul_mod_mod]

/-- the parts of a concatenation out of the parts of both, of checksums that begin with 1: 'less' is m - 1 -/
theorem low_join (m l : Nat) (hm : m = l + 1) (a : Nat) (bs : List UInt8) : (a + low m 1 bs + l) % m = low m a bs := by
  unfold low
  rw [Nat.add_right_comm, Nat.add_mod_mod, show a + l + (1 + S bs) = a + S bs + m by omega, Nat.add_mod_right]

theorem high_join (m l : Nat) (hm : m = l + 1) (a1 a2 : Nat) (bs : List UInt8) : (a2 + high m 1 0 bs + bs.length * (a1 + l)) % m = high m a1 a2 bs := by
  unfold high
  rw [Nat.add_right_comm, Nat.add_mod_mod]
  have e : a2 + bs.length * (a1 + l) + (0 + bs.length * 1 + T bs) = a2 + bs.length * a1 + T bs + m * bs.length := by
    rw [Nat.mul_add, hm, Nat.add_mul, Nat.mul_comm l, Nat.mul_one, Nat.one_mul]
    omega
  rw [e, Nat.add_mul_mod_self_left]

theorem low_lt (m x : Nat) (bs : List UInt8) (hm : 0 < m) : low m x bs < m := Nat.mod_lt _ hm
theorem high_lt (m x y : Nat) (bs : List UInt8) (hm : 0 < m) : high m x y bs < m := Nat.mod_lt _ hm

/-- one byte turned: the lower part turns -/
theorem S_set : ∀ (bs : List UInt8) (j : Nat) (v : UInt8), j < bs.length → S (bs.set j v) + (bs.getD j 0).toNat = S bs + v.toNat
  | x :: bs, 0, v, _ => by
    show v.toNat + S bs + x.toNat = x.toNat + S bs + v.toNat
    omega
  | x :: bs, j + 1, v, hj => by
    have := S_set bs j v (by simpa using hj)
    show x.toNat + S (bs.set j v) + (bs.getD j 0).toNat = x.toNat + S bs + v.toNat
    omega
  | [], _, _, hj => by simp at hj

theorem low_set (m x : Nat) (hm : 256 ≤ m) (bs : List UInt8) (j : Nat) (v : UInt8) (hj : j < bs.length) (h : low m x bs = low m x (bs.set j v)) : v = bs.getD j 0 := by
  have hs := S_set bs j v hj
  have h1 : v.toNat < 256 := UInt8.toNat_lt v
  have h2 : (bs.getD j 0).toNat < 256 := UInt8.toNat_lt _
  unfold low at h
  apply UInt8.toNat_inj.1
  generalize (bs.getD j 0).toNat = o at *
  generalize v.toNat = v' at *
  generalize S (bs.set j v) = s' at *
  have e1 : (x + S bs + v') % m = (x + s' + v') % m := by rw [Nat.add_mod, h, ← Nat.add_mod]
  rw [show x + S bs + v' = x + s' + o by omega] at e1
  have e2 : (x + s' + o) % m = (x + s' + v') % m := e1
  have d1 := Nat.div_add_mod (x + s' + o) m
  have d2 := Nat.div_add_mod (x + s' + v') m
  rw [e2] at d1
  generalize (x + s' + v') % m = r at *
  generalize (x + s' + o) / m = q1 at *
  generalize (x + s' + v') / m = q2 at *
  have hq : q1 = q2 := by
    rcases Nat.lt_trichotomy q1 q2 with hq | hq | hq
    · have : m * (q1 + 1) ≤ m * q2 := Nat.mul_le_mul_left m hq
      rw [Nat.mul_add] at this
      omega
    · exact hq
    · have : m * (q2 + 1) ≤ m * q1 := Nat.mul_le_mul_left m hq
      rw [Nat.mul_add] at this
      omega
  rw [hq] at d1
  omega

end Go.Proofs.Ytllmdgbokmldnaa.Adler
