/-
  The arithmetic of pixels, without the program (from the seat of pixel).
-/
import Derived.Lib.Hide
namespace Go.Proofs.Ytkehdaahlfkiiaa
/-- a pixel's four components -/
structure Px where
  r : Nat
  g : Nat
  b : Nat
  a : Nat

/-- the four components are bytes -/
def Byt (p : Px) : Prop := p.r < 256 ∧ p.g < 256 ∧ p.b < 256 ∧ p.a < 256
def okPx (p : Px) : Bool := decide (p.r ≤ p.a) && decide (p.g ≤ p.a) && decide (p.b ≤ p.a)
def zeroPx : Px := ⟨0, 0, 0, 0⟩
def clampP (p : Px) : Px := ⟨min p.r p.a, min p.g p.a, min p.b p.a, p.a⟩
/-- the product of two bytes -/
def mulB (a b : Nat) : Nat := (a * b + 127) / 255
def premP (r g b a : Nat) : Px := ⟨mulB r a, mulB g a, mulB b a, a⟩
def scalV (p : Px) (k : Nat) : Px := ⟨mulB p.r k, mulB p.g k, mulB p.b k, mulB p.a k⟩
def scalP (p : Px) (k : Nat) : Px := scalV (clampP p) k
def sumP (s d : Px) : Px := ⟨s.r + d.r, s.g + d.g, s.b + d.b, s.a + d.a⟩
def overP (s d : Px) : Px := sumP (clampP s) (scalP d (255 - s.a))
def packV (p : Px) : Nat := p.a * 16777216 + p.r * 65536 + p.g * 256 + p.b
def packP (p : Px) : Nat := packV (clampP p)
def unpackP (n : Nat) : Px := clampP ⟨n / 65536 % 256, n / 256 % 256, n % 256, n / 16777216 % 256⟩
/-- sums of the clamped pixels of a list -/
def sums : List Px → Px
  | [] => zeroPx
  | p :: l => sumP (clampP p) (sums l)
def meanB (s n : Nat) : Nat := (2 * s + n) / (2 * n)
def avgP (l : List Px) : Px := if l.length = 0 then zeroPx else ⟨meanB (sums l).r l.length, meanB (sums l).g l.length, meanB (sums l).b l.length, meanB (sums l).a l.length⟩

theorem px_ext {p q : Px} (h0 : p.r = q.r) (h1 : p.g = q.g) (h2 : p.b = q.b) (h3 : p.a = q.a) : p = q := by
  cases p
  cases q
  simp_all

theorem okPx_iff {p : Px} : okPx p = true ↔ p.r ≤ p.a ∧ p.g ≤ p.a ∧ p.b ≤ p.a := by
  simp only [okPx, Bool.and_eq_true, decide_eq_true_eq]
  constructor <;> (intro h; omega)

theorem clamp_ok (p : Px) : okPx (clampP p) = true := by
  rw [okPx_iff]
  unfold clampP
  exact ⟨Nat.min_le_right _ _, Nat.min_le_right _ _, Nat.min_le_right _ _⟩

theorem clamp_id {p : Px} (h : okPx p = true) : clampP p = p := by
  rw [okPx_iff] at h
  unfold clampP
  exact px_ext (Nat.min_eq_left h.1) (Nat.min_eq_left h.2.1) (Nat.min_eq_left h.2.2) rfl

theorem clamp_clamp (p : Px) : clampP (clampP p) = clampP p := clamp_id (clamp_ok p)
theorem clamp_a (p : Px) : (clampP p).a = p.a := rfl

theorem clamp_byt {p : Px} (h : Byt p) : Byt (clampP p) := by
  obtain ⟨h0, h1, h2, h3⟩ := h
  show min p.r p.a < 256 ∧ min p.g p.a < 256 ∧ min p.b p.a < 256 ∧ p.a < 256
  exact ⟨by have := Nat.min_le_right p.r p.a; omega, by have := Nat.min_le_right p.g p.a; omega, by have := Nat.min_le_right p.b p.a; omega, h3⟩

/-- a pixel is valid exactly if Clamp leaves it -/
theorem clamp_eq_iff (p : Px) : (clampP p = p) ↔ okPx p = true := by
  constructor
  · intro h
    rw [← h]
    exact clamp_ok p
  · exact clamp_id

/-! the product of two bytes -/

theorem mulB_zero (a : Nat) : mulB a 0 = 0 := by simp [mulB]
theorem zero_mulB (a : Nat) : mulB 0 a = 0 := by simp [mulB]
theorem mulB_full (a : Nat) : mulB a 255 = a := by unfold mulB; omega
theorem full_mulB (a : Nat) : mulB 255 a = a := by unfold mulB; omega
theorem mulB_mono {a c : Nat} (b : Nat) (h : a ≤ c) : mulB a b ≤ mulB c b := by
  have := Nat.mul_le_mul_right b h
  unfold mulB
  omega
theorem mulB_le {a : Nat} (b : Nat) (h : a ≤ 255) : mulB a b ≤ b := by
  have := mulB_mono b h
  rwa [full_mulB] at this

/-- 255 times the product is the product of the integers, up to 127 -/
theorem mulB_near (a b : Nat) : ∃ e : Int, 255 * ((mulB a b : Nat) : Int) = (a : Int) * b + e ∧ -127 ≤ e ∧ e ≤ 127 := by
  refine ⟨255 * ((mulB a b : Nat) : Int) - (a : Int) * b, by omega, ?_⟩
  have h : ((a * b : Nat) : Int) = (a : Int) * b := by rw [Int.natCast_mul]
  rw [← h]
  unfold mulB
  generalize a * b = m
  omega

theorem scalV_ok {p : Px} (h : okPx p = true) (k : Nat) : okPx (scalV p k) = true := by
  rw [okPx_iff] at h ⊢
  exact ⟨mulB_mono k h.1, mulB_mono k h.2.1, mulB_mono k h.2.2⟩
theorem scalP_ok (p : Px) (k : Nat) : okPx (scalP p k) = true := scalV_ok (clamp_ok p) k
theorem scalV_le {p : Px} (h : Byt p) (k : Nat) : (scalV p k).r ≤ k ∧ (scalV p k).g ≤ k ∧ (scalV p k).b ≤ k ∧ (scalV p k).a ≤ k := by
  obtain ⟨h0, h1, h2, h3⟩ := h
  exact ⟨mulB_le k (by omega), mulB_le k (by omega), mulB_le k (by omega), mulB_le k (by omega)⟩
theorem scalP_le {p : Px} (h : Byt p) (k : Nat) : (scalP p k).r ≤ k ∧ (scalP p k).g ≤ k ∧ (scalP p k).b ≤ k ∧ (scalP p k).a ≤ k := scalV_le (clamp_byt h) k
theorem scalP_byt {p : Px} (h : Byt p) {k : Nat} (hk : k < 256) : Byt (scalP p k) := by
  obtain ⟨h0, h1, h2, h3⟩ := scalP_le h k
  exact ⟨by omega, by omega, by omega, by omega⟩
theorem scalP_full {p : Px} : scalP p 255 = clampP p := px_ext (mulB_full _) (mulB_full _) (mulB_full _) (mulB_full _)
theorem scalP_zero (p : Px) : scalP p 0 = zeroPx := px_ext (mulB_zero _) (mulB_zero _) (mulB_zero _) (mulB_zero _)
theorem zero_scalP (k : Nat) : scalP zeroPx k = zeroPx := px_ext (zero_mulB _) (zero_mulB _) (zero_mulB _) (zero_mulB _)

theorem prem_scal {r g b a : Nat} (hr : r < 256) (hg : g < 256) (hb : b < 256) : scalP ⟨r, g, b, 255⟩ a = premP r g b a := by
  unfold scalP scalV premP clampP
  refine px_ext ?_ ?_ ?_ (full_mulB a)
  · show mulB (min r 255) a = mulB r a
    rw [Nat.min_eq_left (by omega)]
  · show mulB (min g 255) a = mulB g a
    rw [Nat.min_eq_left (by omega)]
  · show mulB (min b 255) a = mulB b a
    rw [Nat.min_eq_left (by omega)]

/-! blending -/

/-- no sum of Over exceeds a byte -/
theorem over_byt {s d : Px} (hs : Byt s) (hd : Byt d) : Byt (overP s d) := by
  obtain ⟨h0, h1, h2, h3⟩ := scalP_le hd (255 - s.a)
  have ho := okPx_iff.1 (clamp_ok s)
  rw [clamp_a] at ho
  have ha := hs.2.2.2
  unfold overP sumP Byt
  dsimp only
  rw [clamp_a]
  exact ⟨by omega, by omega, by omega, by omega⟩

theorem over_ok {s d : Px} : okPx (overP s d) = true := by
  have h0 := okPx_iff.1 (clamp_ok s)
  have h1 := okPx_iff.1 (scalP_ok d (255 - s.a))
  rw [okPx_iff]
  unfold overP sumP
  dsimp only
  omega

theorem over_opaque {s : Px} (d : Px) (hs : okPx s = true) (ha : s.a = 255) : overP s d = s := by
  unfold overP
  rw [ha, Nat.sub_self, scalP_zero, clamp_id hs]
  rfl
theorem zero_over {d : Px} (hd : okPx d = true) : overP zeroPx d = d := by
  unfold overP
  show sumP (clampP zeroPx) (scalP d 255) = d
  rw [scalP_full, clamp_id hd]
  exact px_ext (Nat.zero_add _) (Nat.zero_add _) (Nat.zero_add _) (Nat.zero_add _)
theorem over_zero {s : Px} (hs : okPx s = true) : overP s zeroPx = s := by
  unfold overP
  rw [zero_scalP, clamp_id hs]
  rfl
/-- the alpha of a blended pixel -/
theorem over_a (s d : Px) : (overP s d).a = s.a + mulB d.a (255 - s.a) := rfl
theorem over_a_ge {s d : Px} (hs : Byt s) (hd : Byt d) : d.a ≤ (overP s d).a := by
  rw [over_a]
  have h3 := hs.2.2.2
  have h4 := hd.2.2.2
  unfold mulB
  have e : d.a * (255 - s.a) + d.a * s.a = d.a * 255 := by rw [← Nat.mul_add, Nat.sub_add_cancel (by omega)]
  have e2 : d.a * s.a ≤ 255 * s.a := Nat.mul_le_mul_right _ (by omega)
  generalize d.a * (255 - s.a) = m at *
  generalize d.a * s.a = n at *
  omega
theorem over_comp {s d : Px} (hs : okPx s = true) (hd : okPx d = true) : overP s d = ⟨s.r + mulB d.r (255 - s.a), s.g + mulB d.g (255 - s.a), s.b + mulB d.b (255 - s.a), s.a + mulB d.a (255 - s.a)⟩ := by
  unfold overP scalP
  rw [clamp_id hs, clamp_id hd]
  rfl

/-- one component of three pixels, blended in both orders: e is the component of the first, b of the second, c of the third; p and q are the alphas of the first two -/
theorem comp_near {p q b c : Nat} (hp : p ≤ 255) (hq : q ≤ 255) (hc : c ≤ 255) (e : Nat) :
    ((e + mulB (b + mulB c (255 - q)) (255 - p) : Nat) : Int) - ((e + mulB b (255 - p) + mulB c (255 - (p + mulB q (255 - p))) : Nat) : Int) ≤ 2 ∧
    ((e + mulB b (255 - p) + mulB c (255 - (p + mulB q (255 - p))) : Nat) : Int) - ((e + mulB (b + mulB c (255 - q)) (255 - p) : Nat) : Int) ≤ 2 := by
  have hle : mulB q (255 - p) ≤ 255 - p := mulB_le _ hq
  obtain ⟨e1, f1, g1, k1⟩ := mulB_near c (255 - q)
  obtain ⟨e2, f2, g2, k2⟩ := mulB_near (b + mulB c (255 - q)) (255 - p)
  obtain ⟨e3, f3, g3, k3⟩ := mulB_near b (255 - p)
  obtain ⟨e4, f4, g4, k4⟩ := mulB_near q (255 - p)
  obtain ⟨e5, f5, g5, k5⟩ := mulB_near c (255 - (p + mulB q (255 - p)))
  have t1 : ((255 - q : Nat) : Int) = 255 - q := by omega
  have t3 : ((255 - (p + mulB q (255 - p)) : Nat) : Int) = ((255 - p : Nat) : Int) - (mulB q (255 - p) : Nat) := by omega
  have hA : ((255 - p : Nat) : Int) ≤ 255 := by omega
  have hA0 : (0 : Int) ≤ ((255 - p : Nat) : Int) := by omega
  rw [t1] at f1
  rw [t3] at f5
  rw [Int.natCast_add] at f2
  rw [Int.natCast_add, Int.natCast_add, Int.natCast_add]
  clear t1 t3 hle
  generalize ((mulB (b + mulB c (255 - q)) (255 - p) : Nat) : Int) = V at *
  generalize ((mulB c (255 - (p + mulB q (255 - p))) : Nat) : Int) = Z at *
  generalize ((mulB c (255 - q) : Nat) : Int) = U at *
  generalize ((mulB b (255 - p) : Nat) : Int) = X at *
  generalize ((mulB q (255 - p) : Nat) : Int) = Q at *
  generalize ((255 - p : Nat) : Int) = A at *
  have hc0 : (0 : Int) ≤ c := by omega
  have hc1 : (c : Int) ≤ 255 := by omega
  generalize (c : Int) = C at *
  generalize (b : Int) = B at *
  generalize (q : Int) = K at *
  generalize (e : Int) = E at *
  have key : 65025 * (V - X - Z) = e1 * A + C * e4 + 255 * (e2 - e3 - e5) := by
    have s1 : (255 * U) * A = (C * (255 - K) + e1) * A := by rw [f1]
    have s4 : C * (255 * Q) = C * (K * A + e4) := by rw [f4]
    rw [Int.add_mul] at f2 s1
    rw [Int.mul_sub] at s1 f5
    rw [Int.sub_mul] at s1
    rw [Int.mul_add] at s4
    rw [show 255 * U * A = 255 * (U * A) by rw [Int.mul_assoc], show C * 255 * A = 255 * (C * A) by rw [Int.mul_comm C 255, Int.mul_assoc], show C * K * A = C * (K * A) by rw [Int.mul_assoc]] at s1
    rw [show C * (255 * Q) = 255 * (C * Q) by rw [← Int.mul_assoc, Int.mul_comm C 255, Int.mul_assoc]] at s4
    generalize U * A = m1 at *
    generalize C * A = m2 at *
    generalize C * (K * A) = m3 at *
    generalize C * Q = m4 at *
    generalize B * A = m5 at *
    generalize e1 * A = m6 at *
    generalize C * e4 = m7 at *
    omega
  have b1 : e1 * A ≤ 127 * 255 ∧ -(127 * 255) ≤ e1 * A := by
    have u1 := Int.mul_le_mul_of_nonneg_right k1 hA0
    have u2 := Int.mul_le_mul_of_nonneg_right g1 hA0
    omega
  have b2 : C * e4 ≤ 127 * 255 ∧ -(127 * 255) ≤ C * e4 := by
    have u1 := Int.mul_le_mul_of_nonneg_left k4 hc0
    have u2 := Int.mul_le_mul_of_nonneg_left g4 hc0
    omega
  generalize e1 * A = m6 at *
  generalize C * e4 = m7 at *
  omega

/-- blending is associative up to 2 -/
theorem over_near {a b c : Px} (ha : okPx a = true) (hb : okPx b = true) (hc : okPx c = true) (ya : Byt a) (yb : Byt b) (yc : Byt c) :
    let x := overP a (overP b c)
    let y := overP (overP a b) c
    (((x.r : Int) - y.r ≤ 2 ∧ (y.r : Int) - x.r ≤ 2) ∧ ((x.g : Int) - y.g ≤ 2 ∧ (y.g : Int) - x.g ≤ 2)) ∧ (((x.b : Int) - y.b ≤ 2 ∧ (y.b : Int) - x.b ≤ 2) ∧ ((x.a : Int) - y.a ≤ 2 ∧ (y.a : Int) - x.a ≤ 2)) := by
  obtain ⟨a0, a1, a2, a3⟩ := ya
  obtain ⟨b0, b1, b2, b3⟩ := yb
  obtain ⟨c0, c1, c2, c3⟩ := yc
  dsimp only
  rw [over_comp ha over_ok, over_comp over_ok hc, over_comp hb hc, over_comp ha hb]
  dsimp only
  exact ⟨⟨comp_near (by omega) (by omega) (by omega) _, comp_near (by omega) (by omega) (by omega) _⟩, ⟨comp_near (by omega) (by omega) (by omega) _, comp_near (by omega) (by omega) (by omega) _⟩⟩

theorem over_assoc_a {a b c : Px} (ha : okPx a = true) (h : a.a = 255) : overP a (overP b c) = overP (overP a b) c := by
  rw [over_opaque _ ha h, over_opaque _ ha h, over_opaque _ ha h]
theorem over_assoc_b {a b c : Px} (ya : Byt a) (hb : okPx b = true) (h : b.a = 255) : overP a (overP b c) = overP (overP a b) c := by
  rw [over_opaque _ hb h]
  have : (overP a b).a = 255 := by
    rw [over_a, h, full_mulB]
    have := ya.2.2.2
    omega
  rw [over_opaque _ over_ok this]
theorem over_assoc_z1 {b c : Px} (hb : okPx b = true) : overP zeroPx (overP b c) = overP (overP zeroPx b) c := by
  rw [zero_over over_ok, zero_over hb]
theorem over_assoc_z2 {a c : Px} (ha : okPx a = true) (hc : okPx c = true) : overP a (overP zeroPx c) = overP (overP a zeroPx) c := by
  rw [zero_over hc, over_zero ha]
theorem over_assoc_z3 {a b : Px} (hb : okPx b = true) : overP a (overP b zeroPx) = overP (overP a b) zeroPx := by
  rw [over_zero hb, over_zero over_ok]

/-! packed numbers -/

theorem pack_lt {p : Px} (h : Byt p) : packV p < 4294967296 := by
  obtain ⟨h0, h1, h2, h3⟩ := h
  unfold packV
  omega
theorem unpack_pack {p : Px} (h : Byt p) : unpackP (packP p) = clampP p := by
  obtain ⟨h0, h1, h2, h3⟩ := clamp_byt h
  unfold unpackP packP
  have e0 : packV (clampP p) / 65536 % 256 = (clampP p).r := by unfold packV; omega
  have e1 : packV (clampP p) / 256 % 256 = (clampP p).g := by unfold packV; omega
  have e2 : packV (clampP p) % 256 = (clampP p).b := by unfold packV; omega
  have e3 : packV (clampP p) / 16777216 % 256 = (clampP p).a := by unfold packV; omega
  rw [e0, e1, e2, e3]
  exact clamp_clamp p

/-! means -/

theorem sums_append (l m : List Px) : sums (l ++ m) = sumP (sums l) (sums m) := by
  induction l with
  | nil => exact px_ext (Nat.zero_add _).symm (Nat.zero_add _).symm (Nat.zero_add _).symm (Nat.zero_add _).symm
  | cons p l ih =>
    rw [List.cons_append, sums, sums, ih]
    exact px_ext (Nat.add_assoc _ _ _).symm (Nat.add_assoc _ _ _).symm (Nat.add_assoc _ _ _).symm (Nat.add_assoc _ _ _).symm
theorem sumP_comm (s d : Px) : sumP s d = sumP d s := px_ext (Nat.add_comm _ _) (Nat.add_comm _ _) (Nat.add_comm _ _) (Nat.add_comm _ _)
theorem sums_one (p : Px) : sums [p] = clampP p := px_ext rfl rfl rfl rfl
theorem sums_reverse (l : List Px) : sums l.reverse = sums l := by
  induction l with
  | nil => rfl
  | cons p l ih => rw [List.reverse_cons, sums_append, ih, sums_one, sums, sumP_comm]
theorem sums_take {l : List Px} {k : Nat} {p : Px} (h : l[k]? = some p) : sums (l.take (k + 1)) = sumP (sums (l.take k)) (clampP p) := by
  rw [List.take_add_one, h, Option.toList_some, sums_append, sums_one]
theorem sums_le : ∀ (l : List Px), (∀ p ∈ l, Byt p) → (sums l).r ≤ 255 * l.length ∧ (sums l).g ≤ 255 * l.length ∧ (sums l).b ≤ 255 * l.length ∧ (sums l).a ≤ 255 * l.length
  | [], _ => by simp [sums, zeroPx]
  | p :: l, h => by
    obtain ⟨h0, h1, h2, h3⟩ := sums_le l (fun q hq => h q (List.mem_cons_of_mem _ hq))
    obtain ⟨k0, k1, k2, k3⟩ := clamp_byt (h p (List.mem_cons_self ..))
    rw [sums, List.length_cons]
    unfold sumP
    dsimp only
    omega
theorem sums_ok : ∀ (l : List Px), okPx (sums l) = true
  | [] => by decide
  | p :: l => by
    have h0 := okPx_iff.1 (sums_ok l)
    have h1 := okPx_iff.1 (clamp_ok p)
    rw [okPx_iff, sums]
    unfold sumP
    dsimp only
    omega
theorem sums_same (p : Px) : ∀ n : Nat, sums (List.replicate n p) = ⟨n * (clampP p).r, n * (clampP p).g, n * (clampP p).b, n * (clampP p).a⟩
  | 0 => px_ext (Nat.zero_mul _).symm (Nat.zero_mul _).symm (Nat.zero_mul _).symm (Nat.zero_mul _).symm
  | n + 1 => by
    rw [List.replicate_succ, sums, sums_same p n]
    unfold sumP
    dsimp only
    refine px_ext ?_ ?_ ?_ ?_ <;> (dsimp only; rw [Nat.succ_mul, Nat.add_comm])

theorem meanB_le {s n : Nat} (h : 0 < n) (hs : s ≤ 255 * n) : meanB s n < 256 := by
  unfold meanB
  exact Nat.div_lt_of_lt_mul (by omega)
theorem meanB_mono {s t n : Nat} (hs : s ≤ t) : meanB s n ≤ meanB t n := Nat.div_le_div_right (by omega)
theorem meanB_same {n c : Nat} (h : 0 < n) : meanB (n * c) n = c := by
  unfold meanB
  rw [show 2 * (n * c) + n = n + 2 * n * c by rw [Nat.mul_assoc]; omega, Nat.add_mul_div_left _ _ (by omega), Nat.div_eq_of_lt (by omega), Nat.zero_add]
theorem avg_byt {l : List Px} (h : ∀ p ∈ l, Byt p) : Byt (avgP l) := by
  unfold avgP
  split
  · exact ⟨by decide, by decide, by decide, by decide⟩
  · rename_i hn
    obtain ⟨h0, h1, h2, h3⟩ := sums_le l h
    exact ⟨meanB_le (by omega) h0, meanB_le (by omega) h1, meanB_le (by omega) h2, meanB_le (by omega) h3⟩
theorem avg_ok (l : List Px) : okPx (avgP l) = true := by
  unfold avgP
  split
  · decide
  · obtain ⟨h0, h1, h2⟩ := okPx_iff.1 (sums_ok l)
    exact okPx_iff.2 ⟨meanB_mono h0, meanB_mono h1, meanB_mono h2⟩
theorem avg_reverse (l : List Px) : avgP l.reverse = avgP l := by
  unfold avgP
  rw [List.length_reverse, sums_reverse]
theorem avg_same (p : Px) (n : Nat) : avgP (List.replicate (n + 1) p) = clampP p := by
  unfold avgP
  rw [List.length_replicate, if_neg (by omega), sums_same]
  exact px_ext (meanB_same (by omega)) (meanB_same (by omega)) (meanB_same (by omega)) (meanB_same (by omega))

end Go.Proofs.Ytkehdaahlfkiiaa
