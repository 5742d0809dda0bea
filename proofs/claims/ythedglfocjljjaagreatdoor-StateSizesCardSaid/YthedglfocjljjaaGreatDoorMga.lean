/-
  The arithmetic of pixels, without the program (from the seat of pixel).
-/
import Derived.Lib.Hide
import Derived.Laws.CopyOwn
import Derived.Test.YthedglfocjljjaaGreatDoorRows
import Derived.WalkKit
import Derived.WalkSpells
import Derived.IntWalk
import Derived.Lib.MinMax
import Derived.Deep.QuietTactic
import Derived.BigQuiet
import Derived.Deep.RegionHeld3
import Derived.Deep.RegionWith
import Derived.Deep.CutRange
import Derived.StillTailTactics
namespace Go.Proofs.YthedglfocjljjaaGreatDoor
structure Px where
  r : Nat
  g : Nat
  b : Nat
  a : Nat

def Byt (p : Px) : Prop := p.r < 256 ∧ p.g < 256 ∧ p.b < 256 ∧ p.a < 256
def okPx (p : Px) : Bool := decide (p.r ≤ p.a) && decide (p.g ≤ p.a) && decide (p.b ≤ p.a)
def zeroPx : Px := ⟨0, 0, 0, 0⟩
def clampP (p : Px) : Px := ⟨min p.r p.a, min p.g p.a, min p.b p.a, p.a⟩
def sumP (s d : Px) : Px := ⟨s.r + d.r, s.g + d.g, s.b + d.b, s.a + d.a⟩
def sums : List Px → Px
  | [] => zeroPx
  | p :: l => sumP (clampP p) (sums l)
theorem px_ext {p q : Px} (h0 : p.r = q.r) (h1 : p.g = q.g) (h2 : p.b = q.b) (h3 : p.a = q.a) : p = q := by
  cases p
  cases q
  simp_all

theorem okPx_iff {p : Px} : okPx p = true ↔ p.r ≤ p.a ∧ p.g ≤ p.a ∧ p.b ≤ p.a := by
  simp only [okPx, Bool.and_eq_true, decide_eq_true_eq]
  constructor <;> (intro h; omega)

theorem clamp_ok (p : Px) : okPx (clampP p) = true := by
  rw [okPx_iff]
  unfold clampP
  exact ⟨Nat.min_le_right _ _, Nat.min_le_right _ _, Nat.min_le_right _ _⟩

theorem clamp_id {p : Px} (h : okPx p = true) : clampP p = p := by
  rw [okPx_iff] at h
  unfold clampP
  exact px_ext (Nat.min_eq_left h.1) (Nat.min_eq_left h.2.1) (Nat.min_eq_left h.2.2) rfl

theorem clamp_eq_iff (p : Px) : (clampP p = p) ↔ okPx p = true := by
  constructor
  · intro h
    rw [← h]
    exact clamp_ok p
  · exact clamp_id





structure R where
  x0 : Int
  y0 : Int
  x1 : Int
  y1 : Int

theorem R.same {a b : R} (h0 : a.x0 = b.x0) (h1 : a.y0 = b.y0) (h2 : a.x1 = b.x1) (h3 : a.y1 = b.y1) : a = b := by
  cases a; cases b; simp_all

def zeroR : R := ⟨0, 0, 0, 0⟩
def okC (n : Int) : Bool := decide (-16384 ≤ n ∧ n ≤ 16384)
def vldB (r : R) : Bool := okC r.x0 && okC r.y0 && okC r.x1 && okC r.y1
def empB (r : R) : Bool := !vldB r || decide (r.x1 ≤ r.x0) || decide (r.y1 ≤ r.y0)
def canR (r : R) : R := if empB r then zeroR else r
def areaI (r : R) : Int := ((canR r).x1 - (canR r).x0) * ((canR r).y1 - (canR r).y0)
def conB (r : R) (x y : Int) : Bool := vldB r && decide (r.x0 ≤ x) && decide (x < r.x1) && decide (r.y0 ≤ y) && decide (y < r.y1)
def nearI (n lo hi : Int) : Int := min (max n lo) hi
def cutR (a b : R) : R := ⟨max a.x0 b.x0, max a.y0 b.y0, min a.x1 b.x1, min a.y1 b.y1⟩
def hullR (a b : R) : R := ⟨min a.x0 b.x0, min a.y0 b.y0, max a.x1 b.x1, max a.y1 b.y1⟩
def intR (a b : R) : R := canR (cutR (canR a) (canR b))
def uniR (a b : R) : R := if empB a then canR b else if empB b then a else hullR a b
def sameR (a b : R) : Bool := decide (a.x0 = b.x0) && decide (a.y0 = b.y0) && decide (a.x1 = b.x1) && decide (a.y1 = b.y1)
def withB (a b : R) : Bool := sameR (intR a b) (canR a)
def movI (n d : Int) : Int := n + nearI d (-16384 - n) (16384 - n)
def trR (r : R) (dx dy : Int) : R := if empB r then zeroR else canR ⟨movI r.x0 dx, movI r.y0 dy, movI r.x1 dx, movI r.y1 dy⟩
def clX (r : R) (x : Int) : Int := if empB r then 0 else nearI x r.x0 (r.x1 - 1)
def clY (r : R) (y : Int) : Int := if empB r then 0 else nearI y r.y0 (r.y1 - 1)
def partsR (a b : R) : List R := if empB (intR a b) then [a] else
  [⟨a.x0, a.y0, a.x1, (intR a b).y0⟩, ⟨a.x0, (intR a b).y1, a.x1, a.y1⟩, ⟨a.x0, (intR a b).y0, (intR a b).x0, (intR a b).y1⟩, ⟨(intR a b).x1, (intR a b).y0, a.x1, (intR a b).y1⟩]
def fullR (l : List R) : List R := l.filter fun r => !empB r
def subR (a b : R) : List R := fullR (partsR a b)

theorem okC_iff (n : Int) : okC n = true ↔ -16384 ≤ n ∧ n ≤ 16384 := by simp [okC]
theorem okC_no (n : Int) : okC n = false ↔ n < -16384 ∨ 16384 < n := by simp [okC]; omega
theorem okC_near (n : Int) : decide (n = min (max n (-16384)) 16384) = okC n := by
  unfold okC
  rw [Bool.eq_iff_iff]
  simp
  omega

theorem vld_iff (r : R) : vldB r = true ↔ (-16384 ≤ r.x0 ∧ r.x0 ≤ 16384) ∧ (-16384 ≤ r.y0 ∧ r.y0 ≤ 16384) ∧ (-16384 ≤ r.x1 ∧ r.x1 ≤ 16384) ∧ (-16384 ≤ r.y1 ∧ r.y1 ≤ 16384) := by
  simp [vldB, okC_iff, and_assoc]

theorem emp_no (r : R) : empB r = false ↔ -16384 ≤ r.x0 ∧ r.x0 < r.x1 ∧ r.x1 ≤ 16384 ∧ -16384 ≤ r.y0 ∧ r.y0 < r.y1 ∧ r.y1 ≤ 16384 := by
  have h := vld_iff r
  unfold empB
  cases hv : vldB r
  · rw [hv] at h
    simp only [Bool.false_eq_true, false_iff] at h
    simp
    omega
  · rw [hv] at h
    simp only [true_iff] at h
    simp
    omega

theorem emp_yes (r : R) : empB r = true ↔ ¬ (-16384 ≤ r.x0 ∧ r.x0 < r.x1 ∧ r.x1 ≤ 16384 ∧ -16384 ≤ r.y0 ∧ r.y0 < r.y1 ∧ r.y1 ≤ 16384) := by
  rw [← emp_no]
  cases empB r <;> simp

theorem can_emp {r : R} (h : empB r = true) : canR r = zeroR := by simp [canR, h]
theorem can_full {r : R} (h : empB r = false) : canR r = r := by simp [canR, h]
theorem can_bd (r : R) : (-16384 ≤ (canR r).x0 ∧ (canR r).x0 ≤ (canR r).x1 ∧ (canR r).x1 ≤ 16384) ∧ (-16384 ≤ (canR r).y0 ∧ (canR r).y0 ≤ (canR r).y1 ∧ (canR r).y1 ≤ 16384) := by
  cases h : empB r
  · rw [can_full h]
    have := (emp_no r).1 h
    omega
  · rw [can_emp h]
    simp [zeroR]

theorem con_emp (r : R) (x y : Int) : conB r x y = (!empB r && decide (r.x0 ≤ x) && decide (x < r.x1) && decide (r.y0 ≤ y) && decide (y < r.y1)) := by
  rw [Bool.eq_iff_iff]
  unfold conB empB
  cases vldB r
  · simp
  · simp
    omega

theorem con_iff (r : R) (x y : Int) : conB r x y = true ↔ empB r = false ∧ r.x0 ≤ x ∧ x < r.x1 ∧ r.y0 ≤ y ∧ y < r.y1 := by
  rw [con_emp]
  cases empB r <;> simp [and_assoc]

theorem emp_zero : empB zeroR = true := by decide
theorem can_zero : canR zeroR = zeroR := can_emp emp_zero
theorem can_can (r : R) : canR (canR r) = canR r := by
  cases h : empB r
  · rw [can_full h, can_full h]
  · rw [can_emp h, can_zero]

theorem int_emp_l {a b : R} (h : empB a = true) : intR a b = zeroR := by
  have hb := can_bd b
  unfold intR
  rw [can_emp h]
  refine can_emp ((emp_yes _).2 ?_)
  simp only [cutR, zeroR]
  omega

theorem int_emp_r {a b : R} (h : empB b = true) : intR a b = zeroR := by
  have hb := can_bd a
  unfold intR
  rw [can_emp h]
  refine can_emp ((emp_yes _).2 ?_)
  simp only [cutR, zeroR]
  omega

theorem int_full {a b : R} (ha : empB a = false) (hb : empB b = false) : intR a b = canR (cutR a b) := by
  unfold intR
  rw [can_full ha, can_full hb]

theorem uni_emp_l {a b : R} (h : empB a = true) : uniR a b = canR b := by simp [uniR, h]
theorem uni_emp_r {a b : R} (ha : empB a = false) (h : empB b = true) : uniR a b = a := by simp [uniR, ha, h]
theorem uni_full {a b : R} (ha : empB a = false) (hb : empB b = false) : uniR a b = hullR a b := by simp [uniR, ha, hb]

instance : DecidableEq Px := fun p q =>
  if h : p.r = q.r ∧ p.g = q.g ∧ p.b = q.b ∧ p.a = q.a then isTrue (px_ext h.1 h.2.1 h.2.2.1 h.2.2.2) else isFalse (fun e => h (by rw [e]; exact ⟨rfl, rfl, rfl, rfl⟩))

def tabL {α : Type} (n : Nat) (f : Nat → α) : List α := (List.range n).map f
theorem tab_len {α : Type} (n : Nat) (f : Nat → α) : (tabL n f).length = n := by simp [tabL]
theorem tab_get {α : Type} (n : Nat) (f : Nat → α) (k : Nat) : (tabL n f)[k]? = if k < n then some (f k) else none := by
  unfold tabL
  rw [List.getElem?_map]
  by_cases h : k < n
  · rw [List.getElem?_range h, if_pos h]; rfl
  · rw [List.getElem?_eq_none (by rw [List.length_range]; omega), if_neg h]; rfl
theorem tab_getD (n : Nat) (f : Nat → Px) {k : Nat} (h : k < n) : (tabL n f).getD k zeroPx = f k := by
  rw [List.getD_eq_getElem?_getD, tab_get, if_pos h]; rfl
theorem tab_congr {α : Type} {n : Nat} {f g : Nat → α} (h : ∀ k, k < n → f k = g k) : tabL n f = tabL n g := by
  apply List.ext_getElem?
  intro k
  rw [tab_get, tab_get]
  by_cases hk : k < n
  · rw [if_pos hk, if_pos hk, h k hk]
  · rw [if_neg hk, if_neg hk]
theorem getD_of {l : List Px} {k : Nat} {p : Px} (h : l[k]? = some p) : l.getD k zeroPx = p := by rw [List.getD_eq_getElem?_getD, h]; rfl
theorem get_of {l : List Px} {k : Nat} (h : k < l.length) : l[k]? = some (l.getD k zeroPx) := by
  rw [List.getD_eq_getElem?_getD, List.getElem?_eq_getElem h]; rfl
theorem tab_self (l : List Px) : tabL l.length (fun k => l.getD k zeroPx) = l := by
  apply List.ext_getElem?
  intro k
  rw [tab_get]
  by_cases hk : k < l.length
  · rw [if_pos hk, get_of hk]
  · rw [if_neg hk, List.getElem?_eq_none (by omega)]
theorem eq_of_getD {l m : List Px} (hl : l.length = m.length) (h : ∀ k, k < l.length → l.getD k zeroPx = m.getD k zeroPx) : l = m := by
  rw [← tab_self l, ← tab_self m, ← hl]
  exact tab_congr h

def sizB (a b : Int) : Bool := decide (1 ≤ a ∧ a ≤ 256) && decide (1 ≤ b ∧ b ≤ 256)
def vBuf (a b : Int) (l : List Px) : Bool := sizB a b && decide ((l.length : Int) = a * b) && l.all okPx
theorem siz_iff {a b : Int} : sizB a b = true ↔ (1 ≤ a ∧ a ≤ 256) ∧ (1 ≤ b ∧ b ≤ 256) := by simp [sizB]
theorem vBuf_iff {a b : Int} {l : List Px} : vBuf a b l = true ↔ (1 ≤ a ∧ a ≤ 256) ∧ (1 ≤ b ∧ b ≤ 256) ∧ (l.length : Int) = a * b ∧ l.all okPx = true := by
  simp [vBuf, siz_iff, and_assoc]

structure Vld (a b : Nat) (l : List Px) : Prop where
  a1 : 1 ≤ a
  a2 : a ≤ 256
  b1 : 1 ≤ b
  b2 : b ≤ 256
  len : l.length = a * b
  ok : ∀ p ∈ l, okPx p = true

theorem vld_of {a b : Int} {l : List Px} (h : vBuf a b l = true) : ∃ A B : Nat, a = A ∧ b = B ∧ Vld A B l := by
  obtain ⟨h0, h1, h2, h3⟩ := vBuf_iff.1 h
  refine ⟨a.toNat, b.toNat, by omega, by omega, by omega, by omega, by omega, by omega, ?_, fun p hp => List.all_eq_true.1 h3 p hp⟩
  have ea : a = (a.toNat : Int) := by omega
  have eb : b = (b.toNat : Int) := by omega
  rw [ea, eb, ← Int.natCast_mul] at h2
  exact Int.ofNat_inj.1 h2

theorem Vld.vBuf {a b : Nat} {l : List Px} (h : Vld a b l) : vBuf a b l = true := by
  obtain ⟨h1, h2, h3, h4, h5, h6⟩ := h
  refine vBuf_iff.2 ⟨by omega, by omega, by rw [h5, Int.natCast_mul], List.all_eq_true.2 h6⟩

theorem mul_small {a b : Nat} (ha : a ≤ 256) (hb : b ≤ 256) : a * b ≤ 65536 := by
  have := Nat.mul_le_mul ha hb
  omega
theorem Vld.small {a b : Nat} {l : List Px} (h : Vld a b l) : 0 < l.length ∧ l.length ≤ 65536 := by
  have h1 := mul_small h.a2 h.b2
  have h2 := Nat.mul_le_mul h.a1 h.b1
  rw [h.len]
  omega

theorem idx_lt {a b x y : Nat} (hx : x < a) (hy : y < b) : y * a + x < a * b := by
  have h1 : (y + 1) * a ≤ b * a := Nat.mul_le_mul_right a hy
  rw [Nat.add_mul, Nat.mul_comm b a] at h1
  omega
theorem idx_mod {a x y : Nat} (hx : x < a) : (y * a + x) % a = x := by
  rw [Nat.add_comm, Nat.add_mul_mod_self_right, Nat.mod_eq_of_lt hx]
theorem idx_div {a x y : Nat} (hx : x < a) : (y * a + x) / a = y := by
  rw [Nat.add_comm, Nat.add_mul_div_right _ _ (by omega), Nat.div_eq_of_lt hx, Nat.zero_add]
theorem idx_of {a : Nat} (k : Nat) : k / a * a + k % a = k := by
  have := Nat.div_add_mod k a
  rw [Nat.mul_comm] at this
  exact this
theorem row_lt {a b k : Nat} (h : k < a * b) : k / a < b := Nat.div_lt_of_lt_mul h
theorem col_lt {a k : Nat} (h : 1 ≤ a) : k % a < a := Nat.mod_lt _ h

def atB (a b : Int) (l : List Px) (x y : Int) : Px :=
  if sizB a b && (decide (0 ≤ x) && decide (x < a) && (decide (0 ≤ y) && decide (y < b))) && decide (y * a + x < l.length) then l.getD (y * a + x).toNat zeroPx else zeroPx

theorem at_in {a b : Nat} {l : List Px} (h : Vld a b l) {x y : Nat} (hx : x < a) (hy : y < b) : atB a b l x y = l.getD (y * a + x) zeroPx := by
  have hi := idx_lt hx hy
  have hl := h.len
  have e : (y : Int) * a + x = ((y * a + x : Nat) : Int) := by rw [Int.natCast_add, Int.natCast_mul]
  have hs : sizB a b = true := siz_iff.2 ⟨⟨by have := h.a1; omega, by have := h.a2; omega⟩, ⟨by have := h.b1; omega, by have := h.b2; omega⟩⟩
  unfold atB
  rw [hs, e, if_pos, Int.toNat_natCast]
  simp
  omega

def eqB (a b : Int) (l : List Px) (c d : Int) (m : List Px) : Bool := decide (a = c) && decide (b = d) && decide (l = m)

def covB (sa sb : Nat) (x y : Int) (px py : Nat) : Bool := decide (0 ≤ (px : Int) - x ∧ (px : Int) - x < sa ∧ 0 ≤ (py : Int) - y ∧ (py : Int) - y < sb)
theorem cov_iff {sa sb : Nat} {x y : Int} {px py : Nat} : covB sa sb x y px py = true ↔ 0 ≤ (px : Int) - x ∧ (px : Int) - x < sa ∧ 0 ≤ (py : Int) - y ∧ (py : Int) - y < sb := by simp [covB]
theorem cov_no {sa sb : Nat} {x y : Int} {px py : Nat} : covB sa sb x y px py = false ↔ ¬ (0 ≤ (px : Int) - x ∧ (px : Int) - x < sa ∧ 0 ≤ (py : Int) - y ∧ (py : Int) - y < sb) := by simp [covB]

def newP (F : Px → Px → Px) (a : Nat) (l : List Px) (sa sb : Nat) (s : List Px) (x y : Int) (k : Nat) : Px :=
  if covB sa sb x y (k % a) (k / a) then F (s.getD ((((k / a : Nat) : Int) - y).toNat * sa + (((k % a : Nat) : Int) - x).toNat) zeroPx) (l.getD k zeroPx) else l.getD k zeroPx
def putL (F : Px → Px → Px) (a : Nat) (l : List Px) (sa sb : Nat) (s : List Px) (x y : Int) : List Px := tabL l.length (newP F a l sa sb s x y)
def doneL (f : Nat → Px) (l : List Px) (m : Nat) : List Px := tabL l.length (fun k => if k < m then f k else l.getD k zeroPx)

theorem done_len (f : Nat → Px) (l : List Px) (m : Nat) : (doneL f l m).length = l.length := tab_len _ _
theorem done_zero (f : Nat → Px) (l : List Px) : doneL f l 0 = l := by
  unfold doneL
  rw [tab_congr (g := fun k => l.getD k zeroPx) (fun k _ => if_neg (by omega)), tab_self]
theorem done_full (f : Nat → Px) {l : List Px} {m : Nat} (h : l.length ≤ m) : doneL f l m = tabL l.length f := tab_congr fun k hk => if_pos (by omega)
theorem done_get (f : Nat → Px) {l : List Px} {m k : Nat} (h : k < l.length) : (doneL f l m)[k]? = some (if k < m then f k else l.getD k zeroPx) := by
  unfold doneL
  rw [tab_get, if_pos h]
theorem done_set (f : Nat → Px) {l : List Px} {m : Nat} (h : m < l.length) : doneL f l (m + 1) = (doneL f l m).set m (f m) := by
  apply List.ext_getElem?
  intro k
  by_cases hk : k < l.length
  · rw [done_get f hk]
    by_cases e : m = k
    · subst e
      rw [List.getElem?_set_self (by rw [done_len]; exact h), if_pos (by omega)]
    · rw [List.getElem?_set_ne e, done_get f hk]
      by_cases h1 : k < m
      · rw [if_pos h1, if_pos (by omega)]
      · rw [if_neg h1, if_neg (by omega)]
  · rw [List.getElem?_eq_none (by rw [done_len]; omega), List.getElem?_eq_none (by rw [List.length_set, done_len]; omega)]
theorem done_skip {f : Nat → Px} {l : List Px} {m n : Nat} (hmn : m ≤ n) (h : ∀ k, m ≤ k → k < n → f k = l.getD k zeroPx) : doneL f l n = doneL f l m := by
  refine tab_congr fun k _ => ?_
  by_cases h1 : k < m
  · rw [if_pos h1, if_pos (by omega)]
  · rw [if_neg h1]
    by_cases h2 : k < n
    · rw [if_pos h2, h k (by omega) h2]
    · rw [if_neg h2]

theorem splice_get {α : Type} (L : List α) (o : Nat) (S : List α) (hfit : o + S.length ≤ L.length) (k : Nat) : (splice L o S)[k]? = if o ≤ k ∧ k < o + S.length then S[k - o]? else L[k]? := by
  unfold splice
  by_cases h0 : k < o
  · rw [List.getElem?_append_left (by rw [List.length_take]; omega), List.getElem?_take_of_lt h0, if_neg (by omega)]
  · rw [List.getElem?_append_right (by rw [List.length_take]; omega), List.length_take, Nat.min_eq_left (by omega)]
    by_cases h1 : k < o + S.length
    · rw [List.getElem?_append_left (by omega), if_pos (by omega)]
    · rw [List.getElem?_append_right (by omega), List.getElem?_drop, if_neg (by omega)]
      congr 1
      omega

theorem done_splice {f : Nat → Px} {l : List Px} {m n o : Nat} {S : List Px} (hmo : m ≤ o) (hon : o + S.length ≤ n) (hn : n ≤ l.length)
    (h0 : ∀ k, m ≤ k → k < n → (k < o ∨ o + S.length ≤ k) → f k = l.getD k zeroPx) (h1 : ∀ j, j < S.length → S.getD j zeroPx = f (o + j)) : doneL f l n = splice (doneL f l m) o S := by
  apply List.ext_getElem?
  intro k
  rw [splice_get _ _ _ (by rw [done_len]; omega)]
  by_cases hk : k < l.length
  · rw [done_get f hk]
    by_cases hc : o ≤ k ∧ k < o + S.length
    · rw [if_pos hc, if_pos (by omega), get_of (by omega), h1 (k - o) (by omega)]
      congr 2
      omega
    · rw [if_neg hc, done_get f hk]
      by_cases h2 : k < m
      · rw [if_pos h2, if_pos (by omega)]
      · rw [if_neg h2]
        by_cases h3 : k < n
        · rw [if_pos h3, h0 k (by omega) h3 (by omega)]
        · rw [if_neg h3]
  · rw [List.getElem?_eq_none (by rw [done_len]; omega), if_neg (by omega), List.getElem?_eq_none (by rw [done_len]; omega)]


def frR (a b : Nat) : R := ⟨0, 0, a, b⟩
theorem fr_full {a b : Nat} (h1 : 1 ≤ a) (h2 : a ≤ 256) (h3 : 1 ≤ b) (h4 : b ≤ 256) : empB (frR a b) = false := by
  rw [emp_no]
  simp only [frR]
  omega

theorem movI_mid (n d : Int) : movI n d = max (-16384) (min 16384 (n + d)) := by unfold movI nearI; omega

theorem cov_rect {a b sa sb : Nat} (ha : 1 ≤ a ∧ a ≤ 256) (hb : 1 ≤ b ∧ b ≤ 256) (hsa : 1 ≤ sa ∧ sa ≤ 256) (hsb : 1 ≤ sb ∧ sb ≤ 256) (x y : Int) :
    (intR (frR a b) (trR (frR sa sb) x y) = zeroR ∧ ∀ px py, px < a → py < b → covB sa sb x y px py = false) ∨
    ∃ x0 x1 y0 y1 : Nat, intR (frR a b) (trR (frR sa sb) x y) = ⟨x0, y0, x1, y1⟩ ∧ x0 < x1 ∧ x1 ≤ a ∧ y0 < y1 ∧ y1 ≤ b ∧ 0 ≤ (x0 : Int) - x ∧ (x1 : Int) - x ≤ sa ∧ 0 ≤ (y0 : Int) - y ∧ (y1 : Int) - y ≤ sb ∧
      ∀ px py, px < a → py < b → (covB sa sb x y px py = true ↔ x0 ≤ px ∧ px < x1 ∧ y0 ≤ py ∧ py < y1) := by
  obtain ⟨ha1, ha2⟩ := ha
  obtain ⟨hb1, hb2⟩ := hb
  obtain ⟨hc1, hc2⟩ := hsa
  obtain ⟨hd1, hd2⟩ := hsb
  have hf := fr_full ha1 ha2 hb1 hb2
  have hs := fr_full hc1 hc2 hd1 hd2
  have ht : trR (frR sa sb) x y = canR ⟨movI 0 x, movI 0 y, movI sa x, movI sb y⟩ := by
    unfold trR
    rw [hs]
    rfl
  rw [ht]
  have e0 := movI_mid 0 x
  have e1 := movI_mid 0 y
  have e2 := movI_mid sa x
  have e3 := movI_mid sb y
  generalize movI 0 x = X0 at *
  generalize movI 0 y = Y0 at *
  generalize movI sa x = X1 at *
  generalize movI sb y = Y1 at *
  by_cases he : empB ⟨X0, Y0, X1, Y1⟩ = true
  · left
    have hz := can_emp he
    rw [hz]
    refine ⟨int_emp_r emp_zero, fun px py hx hy => ?_⟩
    rw [emp_yes] at he
    rw [cov_no]
    simp only at he
    omega
  · have he' : empB ⟨X0, Y0, X1, Y1⟩ = false := by simpa using he
    rw [can_full he', int_full hf he']
    rw [emp_no] at he'
    simp only at he'
    by_cases hq : empB (cutR (frR a b) ⟨X0, Y0, X1, Y1⟩) = true
    · left
      refine ⟨can_emp hq, fun px py hx hy => ?_⟩
      rw [emp_yes] at hq
      rw [cov_no]
      simp only [cutR, frR] at hq
      omega
    · right
      have hq' : empB (cutR (frR a b) ⟨X0, Y0, X1, Y1⟩) = false := by simpa using hq
      rw [can_full hq']
      rw [emp_no] at hq'
      simp only [cutR, frR] at hq' ⊢
      refine ⟨(max 0 X0).toNat, (min (a : Int) X1).toNat, (max 0 Y0).toNat, (min (b : Int) Y1).toNat, ?_, by omega, by omega, by omega, by omega, by omega, by omega, by omega, by omega, fun px py hx hy => ?_⟩
      · refine R.same ?_ ?_ ?_ ?_ <;> (simp only; omega)
      · rw [cov_iff]
        constructor
        · intro h
          omega
        · intro h
          omega

end Go.Proofs.YthedglfocjljjaaGreatDoor
namespace Go.Proofs.YthedglfocjljjaaGreatDoor
open Go.RowKit

theorem bcell {W w1 : World} (hb : Below W.heap.size W w1) : (∀ b o, b < W.heap.size → w1.cell? ⟨b, o, none⟩ = W.cell? ⟨b, o, none⟩) ∧ (∀ b o, b < W.heap.size → w1.frozen? ⟨b, o, none⟩ = W.frozen? ⟨b, o, none⟩) :=
  ⟨fun b o h => hb.cell (p := ⟨b, o, none⟩) h, fun b o h => hb.frozen (p := ⟨b, o, none⟩) h⟩

theorem below_set4 {B k : Nat} {w w1 : World} (h : Below B w w1) (hb : B ≤ k) {x0 x1 x2 x3 : Value} :
    Below B w ((((w1.setCell ⟨k, 0, none⟩ x0).setCell ⟨k, 1, none⟩ x1).setCell ⟨k, 2, none⟩ x2).setCell ⟨k, 3, none⟩ x3) :=
  (((h.setCell (p := ⟨k, 0, none⟩) hb x0).setCell (p := ⟨k, 1, none⟩) hb x1).setCell (p := ⟨k, 2, none⟩) hb x2).setCell (p := ⟨k, 3, none⟩) hb x3

theorem ret_bool {a b : Bool} (h : a = b) : Ending.returned (.bool a) = .returned (.bool b) := by rw [h]
theorem ret_int {k : IntKind} {a b : Int} (h : a = b) : Ending.returned (.int k a) = .returned (.int k b) := by rw [h]

def Four (W : World) (k : Nat) (x0 x1 x2 x3 : Value) : Prop := W.cell? ⟨k, 0, none⟩ = some x0 ∧ W.cell? ⟨k, 1, none⟩ = some x1 ∧ W.cell? ⟨k, 2, none⟩ = some x2 ∧ W.cell? ⟨k, 3, none⟩ = some x3 ∧ ∀ i, W.frozen? ⟨k, i, none⟩ = false

def set4 (W : World) (k : Nat) (x0 x1 x2 x3 : Value) : World := (((W.setCell ⟨k, 0, none⟩ x0).setCell ⟨k, 1, none⟩ x1).setCell ⟨k, 2, none⟩ x2).setCell ⟨k, 3, none⟩ x3

theorem Four.keep {W w1 : World} {B k : Nat} {x0 x1 x2 x3 : Value} (h : Four W k x0 x1 x2 x3) (hb : Below B W w1) (hk : k < B) : Four w1 k x0 x1 x2 x3 :=
  ⟨(hb.cell (p := ⟨k, 0, none⟩) hk).trans h.1, (hb.cell (p := ⟨k, 1, none⟩) hk).trans h.2.1, (hb.cell (p := ⟨k, 2, none⟩) hk).trans h.2.2.1, (hb.cell (p := ⟨k, 3, none⟩) hk).trans h.2.2.2.1, fun i => (hb.frozen (p := ⟨k, i, none⟩) hk).trans (h.2.2.2.2 i)⟩

theorem Four.set {W : World} {k : Nat} {x0 x1 x2 x3 y0 y1 y2 y3 : Value} (h : Four W k x0 x1 x2 x3) : Four (set4 W k y0 y1 y2 y3) k y0 y1 y2 y3 := by
  obtain ⟨h0, h1, h2, h3, h4⟩ := h
  unfold Four set4
  simp [go_sem, h0, h1, h2, h3, h4]

theorem Four.far {W : World} {k j : Nat} {x0 x1 x2 x3 y0 y1 y2 y3 : Value} (h : Four W k x0 x1 x2 x3) (hne : k ≠ j) : Four (set4 W j y0 y1 y2 y3) k x0 x1 x2 x3 := by
  obtain ⟨h0, h1, h2, h3, h4⟩ := h
  unfold Four set4
  simp [go_sem, h0, h1, h2, h3, h4]

theorem Four.new (w : World) (x0 x1 x2 x3 : Value) (t : TypeId) : Four (w.alloc (.cells #[x0, x1, x2, x3] t)) w.heap.size x0 x1 x2 x3 := by
  unfold Four
  simp [go_sem]

theorem Four.alloc {w : World} {k : Nat} {x0 x1 x2 x3 : Value} (h : Four w k x0 x1 x2 x3) (hk : k < w.heap.size) (o : Obj) : Four (w.alloc o) k x0 x1 x2 x3 :=
  h.keep ((Below.refl _ _).alloc (Nat.le_refl _) o) hk
theorem Four.drew {w : World} {k : Nat} {x0 x1 x2 x3 : Value} (h : Four w k x0 x1 x2 x3) : Four w.drew k x0 x1 x2 x3 := h

theorem below_four {B k : Nat} {w w1 : World} (h : Below B w w1) (hb : B ≤ k) {x0 x1 x2 x3 : Value} : Below B w (set4 w1 k x0 x1 x2 x3) := below_set4 h hb

theorem set4_size (W : World) (k : Nat) (x0 x1 x2 x3 : Value) : (set4 W k x0 x1 x2 x3).heap.size = W.heap.size := by simp [set4]

theorem Below.next {w w1 w2 : World} (h : Below w.heap.size w w1) (hb : Below w1.heap.size w1 w2) : Below w.heap.size w w2 := h.trans (hb.mono h.size)
theorem below_draws {B : Nat} {w w1 : World} (h : Below B w w1) : ∀ n, Below B w (w1.drewN n)
  | 0 => h
  | n + 1 => (below_draws h n).drew
set_option maxRecDepth 100000 in
theorem turn {f : FuncId} {args : Array Value} {w : World} {x : Ending} (h : Calls Tryz.prog f args w fun e w' => e = x ∧ w = w') : Calls Tryz.prog f args w fun e w' => e = x ∧ w' = w := h.mono fun _ _ ⟨a, b⟩ => ⟨a, b.symm⟩
def leftN (n : Nat) (v : Value) : Nat := n - (RowKit.intOf v).toNat
def Says (b : Bool) (w : World) (e : Ending) (w' : World) : Prop := e = .returned (.bool b) ∧ Below w.heap.size w w'

structure Held (w W : World) (l : List (Nat × List Value)) : Prop where
  cells : ∀ p ∈ l, ∀ i v, p.2[i]? = some v → W.cell? ⟨p.1, i, none⟩ = some v
  free : ∀ p ∈ l, ∀ i, W.frozen? ⟨p.1, i, none⟩ = false
  there : ∀ p ∈ l, p.1 < W.heap.size
  own : ∀ p ∈ l, w.heap.size ≤ p.1
  nd : (l.map Prod.fst).Nodup
  below : Below w.heap.size w W

theorem Held.nil (w : World) : Held w w [] := ⟨fun _ h => by simp at h, fun _ h => by simp at h, fun _ h => by simp at h, fun _ h => by simp at h, List.nodup_nil, Below.refl _ _⟩

theorem Held.step {w W W' : World} {l : List (Nat × List Value)} (h : Held w W l) (hb : Below W.heap.size W W') : Held w W' l :=
  ⟨fun p hp i v hv => (hb.cell (p := ⟨p.1, i, none⟩) (h.there p hp)).trans (h.cells p hp i v hv), fun p hp i => (hb.frozen (p := ⟨p.1, i, none⟩) (h.there p hp)).trans (h.free p hp i),
    fun p hp => Nat.lt_of_lt_of_le (h.there p hp) hb.size, h.own, h.nd, Below.next h.below hb⟩

theorem Held.drew {w W : World} {l : List (Nat × List Value)} (h : Held w W l) : Held w W.drew l := h.step (Below.refl _ _).drew
theorem Held.drews {w W : World} {l : List (Nat × List Value)} (h : Held w W l) (n : Nat) : Held w (W.drewN n) l := h.step (below_draws (Below.refl _ _) n)

theorem Held.alloc {w W : World} {l : List (Nat × List Value)} (h : Held w W l) (vs : List Value) (t : TypeId) : Held w (W.alloc (.cells vs.toArray t)) ((W.heap.size, vs) :: l) := by
  have hs := h.step (W' := W.alloc (.cells vs.toArray t)) ((Below.refl _ _).alloc (Nat.le_refl _) _)
  refine ⟨fun p hp i v hv => ?_, fun p hp i => ?_, fun p hp => ?_, fun p hp => ?_, ?_, hs.below⟩
  · rcases List.mem_cons.1 hp with rfl | hp
    · simpa [go_sem] using hv
    · exact hs.cells p hp i v hv
  · rcases List.mem_cons.1 hp with rfl | hp
    · simp [go_sem]
    · exact hs.free p hp i
  · rcases List.mem_cons.1 hp with rfl | hp
    · rw [World.size_alloc]
      exact Nat.lt_succ_self _
    · exact hs.there p hp
  · rcases List.mem_cons.1 hp with rfl | hp
    · exact h.below.size
    · exact h.own p hp
  · rw [List.map_cons, List.nodup_cons]
    refine ⟨fun hm => ?_, h.nd⟩
    obtain ⟨p, hp, he⟩ := List.mem_map.1 hm
    have := h.there p hp
    omega

theorem Held.made {w W : World} {l : List (Nat × List Value)} (h : Held w W l) (o : Obj) : Held w (W.alloc o) l := h.step ((Below.refl _ _).alloc (Nat.le_refl _) o)

theorem grown_below {w w' : World} (hb : Below w.heap.size w w') (row : Option Nat) : w.grownBy w' row := ⟨hb.os, hb.tape, hb.output, hb.size, fun k hk _ => hb.block k hk⟩

theorem Held.grown {w W W' : World} {l : List (Nat × List Value)} (h : Held w W l) {g : Nat} (hg : W.grownBy W' (some g)) (hb : w.heap.size ≤ g) (hne : ∀ p ∈ l, p.1 ≠ g) : Held w W' l :=
  ⟨fun p hp i v hv => (World.cell?_of_block (hg.block p.1 (h.there p hp) (fun e => hne p hp (Option.some.inj e)))).trans (h.cells p hp i v hv),
    fun p hp i => (World.frozen?_of_block (a := ⟨p.1, i, none⟩) (hg.block p.1 (h.there p hp) (fun e => hne p hp (Option.some.inj e)))).trans (h.free p hp i),
    fun p hp => Nat.lt_of_lt_of_le (h.there p hp) hg.size, h.own, h.nd, h.below.grown hg h.below.size (fun k hk => by injection hk with hk; omega)⟩

theorem Held.apart {w W : World} {l : List (Nat × List Value)} (h : Held w W l) {g : Nat} (hg : W.heap.size ≤ g) : ∀ p ∈ l, p.1 ≠ g := fun p hp => by
  have := h.there p hp
  omega

theorem Held.sub {w W : World} {l m : List (Nat × List Value)} (h : Held w W l) (hs : m.Sublist l) : Held w W m :=
  ⟨fun p hp => h.cells p (hs.subset hp), fun p hp => h.free p (hs.subset hp), fun p hp => h.there p (hs.subset hp), fun p hp => h.own p (hs.subset hp), h.nd.sublist (hs.map _), h.below⟩

theorem Held.tail {w W : World} {p : Nat × List Value} {l : List (Nat × List Value)} (h : Held w W (p :: l)) : Held w W l := h.sub (List.sublist_cons_self _ _)

section
variable {w W : World} {l1 l2 : List (Nat × List Value)} {k : Nat} {vs : List Value}

theorem Held.ne (h : Held w W (l1 ++ (k, vs) :: l2)) : ∀ p ∈ l1 ++ l2, p.1 ≠ k := by
  intro p hp
  have hn := h.nd
  rw [List.map_append, List.map_cons, List.nodup_append] at hn
  obtain ⟨_, h2, h3⟩ := hn
  rw [List.nodup_cons] at h2
  rcases List.mem_append.1 hp with hp | hp
  · exact h3 p.1 (List.mem_map.2 ⟨p, hp, rfl⟩) k (List.mem_cons_self ..)
  · intro e
    exact h2.1 (List.mem_map.2 ⟨p, hp, e⟩)

theorem Held.at (h : Held w W (l1 ++ (k, vs) :: l2)) : (∀ i v, vs[i]? = some v → W.cell? ⟨k, i, none⟩ = some v) ∧ (∀ i, W.frozen? ⟨k, i, none⟩ = false) ∧ k < W.heap.size ∧ w.heap.size ≤ k := by
  have hm : (k, vs) ∈ l1 ++ (k, vs) :: l2 := by simp
  exact ⟨h.cells _ hm, h.free _ hm, h.there _ hm, h.own _ hm⟩

theorem Held.cell (h : Held w W (l1 ++ (k, vs) :: l2)) {i : Nat} (hi : i < vs.length) (u : Value) : Held w (W.setCell ⟨k, i, none⟩ u) (l1 ++ (k, vs.set i u) :: l2) := by
  obtain ⟨hc, hf, ht, ho⟩ := h.at
  refine ⟨fun p hp j v hv => ?_, fun p hp j => ?_, fun p hp => ?_, fun p hp => ?_, ?_, h.below.setCell (p := ⟨k, i, none⟩) ho u⟩
  · have hp' : p ∈ l1 ++ l2 ∨ p = (k, vs.set i u) := by
      rcases List.mem_append.1 hp with hp | hp
      · exact .inl (List.mem_append_left _ hp)
      · rcases List.mem_cons.1 hp with rfl | hp
        · exact .inr rfl
        · exact .inl (List.mem_append_right _ hp)
    rcases hp' with hp' | rfl
    · rw [World.cell?_setCell_other _ _ _ _ (fun e => h.ne p hp' (by have := congrArg Addr.block e; simpa using this.symm))]
      exact h.cells p (by rcases List.mem_append.1 hp' with q | q <;> simp [q]) j v hv
    · dsimp only at hv ⊢
      by_cases e : i = j
      · subst e
        rw [List.getElem?_set_self hi] at hv
        injection hv with hv
        subst hv
        exact World.cell?_setCell_same _ _ _ (hc i _ (List.getElem?_eq_getElem hi))
      · rw [List.getElem?_set_ne e] at hv
        rw [World.cell?_setCell_other _ _ _ _ (fun q => e (by have := congrArg Addr.off q; simpa using this))]
        exact hc j v hv
  · rw [World.frozen?_setCell]
    rcases List.mem_append.1 hp with hp | hp
    · exact h.free p (List.mem_append_left _ hp) j
    · rcases List.mem_cons.1 hp with rfl | hp
      · exact hf j
      · exact h.free p (List.mem_append_right _ (List.mem_cons_of_mem _ hp)) j
  · have hz : (W.setCell ⟨k, i, none⟩ u).heap.size = W.heap.size := by simp
    rw [hz]
    rcases List.mem_append.1 hp with hp | hp
    · exact h.there p (List.mem_append_left _ hp)
    · rcases List.mem_cons.1 hp with rfl | hp
      · exact ht
      · exact h.there p (List.mem_append_right _ (List.mem_cons_of_mem _ hp))
  · rcases List.mem_append.1 hp with hp | hp
    · exact h.own p (List.mem_append_left _ hp)
    · rcases List.mem_cons.1 hp with rfl | hp
      · exact ho
      · exact h.own p (List.mem_append_right _ (List.mem_cons_of_mem _ hp))
  · have := h.nd
    rw [List.map_append, List.map_cons] at this ⊢
    exact this

end

section
variable {w W : World} {l1 l2 : List (Nat × List Value)} {k : Nat} {x0 x1 x2 x3 y0 y1 y2 y3 : Value}

theorem Held.one (h : Held w W (l1 ++ (k, [x0]) :: l2)) : W.cell? ⟨k, 0, none⟩ = some x0 ∧ (∀ i, W.frozen? ⟨k, i, none⟩ = false) ∧ k < W.heap.size :=
  ⟨h.at.1 0 _ rfl, h.at.2.1, h.at.2.2.1⟩
theorem Held.two (h : Held w W (l1 ++ (k, [x0, x1]) :: l2)) : W.cell? ⟨k, 0, none⟩ = some x0 ∧ W.cell? ⟨k, 1, none⟩ = some x1 ∧ (∀ i, W.frozen? ⟨k, i, none⟩ = false) ∧ k < W.heap.size :=
  ⟨h.at.1 0 _ rfl, h.at.1 1 _ rfl, h.at.2.1, h.at.2.2.1⟩
theorem Held.tri (h : Held w W (l1 ++ (k, [x0, x1, x2]) :: l2)) : W.cell? ⟨k, 0, none⟩ = some x0 ∧ W.cell? ⟨k, 1, none⟩ = some x1 ∧ W.cell? ⟨k, 2, none⟩ = some x2 ∧ (∀ i, W.frozen? ⟨k, i, none⟩ = false) ∧ k < W.heap.size :=
  ⟨h.at.1 0 _ rfl, h.at.1 1 _ rfl, h.at.1 2 _ rfl, h.at.2.1, h.at.2.2.1⟩
theorem Held.four (h : Held w W (l1 ++ (k, [x0, x1, x2, x3]) :: l2)) : W.cell? ⟨k, 0, none⟩ = some x0 ∧ W.cell? ⟨k, 1, none⟩ = some x1 ∧ W.cell? ⟨k, 2, none⟩ = some x2 ∧ W.cell? ⟨k, 3, none⟩ = some x3 ∧ (∀ i, W.frozen? ⟨k, i, none⟩ = false) ∧ k < W.heap.size :=
  ⟨h.at.1 0 _ rfl, h.at.1 1 _ rfl, h.at.1 2 _ rfl, h.at.1 3 _ rfl, h.at.2.1, h.at.2.2.1⟩

def set3 (W : World) (k : Nat) (y0 y1 y2 : Value) : World := ((W.setCell ⟨k, 0, none⟩ y0).setCell ⟨k, 1, none⟩ y1).setCell ⟨k, 2, none⟩ y2

theorem Held.set1 (h : Held w W (l1 ++ (k, [x0]) :: l2)) (y0 : Value) : Held w (W.setCell ⟨k, 0, none⟩ y0) (l1 ++ (k, [y0]) :: l2) := h.cell (i := 0) (by simp) y0
theorem Held.set3 (h : Held w W (l1 ++ (k, [x0, x1, x2]) :: l2)) (y0 y1 y2 : Value) : Held w (set3 W k y0 y1 y2) (l1 ++ (k, [y0, y1, y2]) :: l2) :=
  ((h.cell (i := 0) (by simp) y0).cell (i := 1) (by simp) y1).cell (i := 2) (by simp) y2
theorem Held.set4 (h : Held w W (l1 ++ (k, [x0, x1, x2, x3]) :: l2)) (y0 y1 y2 y3 : Value) : Held w (set4 W k y0 y1 y2 y3) (l1 ++ (k, [y0, y1, y2, y3]) :: l2) :=
  (((h.cell (i := 0) (by simp) y0).cell (i := 1) (by simp) y1).cell (i := 2) (by simp) y2).cell (i := 3) (by simp) y3
theorem set3_size (W : World) (k : Nat) (x0 x1 x2 : Value) : (YthedglfocjljjaaGreatDoor.set3 W k x0 x1 x2).heap.size = W.heap.size := by simp [YthedglfocjljjaaGreatDoor.set3]
theorem below_set3 {B : Nat} {w1 : World} (h : Below B w w1) (hb : B ≤ k) : Below B w (YthedglfocjljjaaGreatDoor.set3 w1 k y0 y1 y2) :=
  ((h.setCell (p := ⟨k, 0, none⟩) hb y0).setCell (p := ⟨k, 1, none⟩) hb y1).setCell (p := ⟨k, 2, none⟩) hb y2

end

end Go.Proofs.YthedglfocjljjaaGreatDoor
