/-
  Transformed images as lists of pixels: where each pixel goes, the image that the loops make, products and inverses of images.
-/
import Derived.Test.YtphgjfkmnohjlaaDoorSym
namespace Go.Proofs.YtphgjfkmnohjlaaDoor

structure Px where
  r : Int
  g : Int
  b : Int
  a : Int

def zeroPx : Px := ⟨0, 0, 0, 0⟩
def okPx (p : Px) : Bool := decide (p.r ≤ p.a) && decide (p.g ≤ p.a) && decide (p.b ≤ p.a)
/-- the place of pixel k of the image in the transformed image -/
def sig (t w h : Int) (k : Nat) : Nat := (posY t w h ((k : Int) % w) ((k : Int) / w) * siW t w h + posX t w h ((k : Int) % w) ((k : Int) / w)).toNat
/-- the image after the first k pixels -/
def mkI (s : Nat → Nat) (l : List Px) : Nat → List Px
  | 0 => List.replicate l.length zeroPx
  | k + 1 => (mkI s l k).set (s k) (l.getD k zeroPx)
def imgP (t w h : Int) (l : List Px) : List Px := mkI (sig t w h) l l.length
/-- whether a buffer is valid -/
def vBuf (w h : Int) (l : List Px) : Bool := decide (1 ≤ w ∧ w ≤ 256) && decide (1 ≤ h ∧ h ≤ 256) && decide ((l.length : Int) = w * h) && l.all okPx

theorem mkI_len (s : Nat → Nat) (l : List Px) : ∀ k, (mkI s l k).length = l.length
  | 0 => by simp [mkI]
  | k + 1 => by rw [mkI, List.length_set, mkI_len s l k]

theorem mkI_ok (s : Nat → Nat) (l : List Px) (h : l.all okPx = true) : ∀ k, (mkI s l k).all okPx = true
  | 0 => by
    rw [mkI, List.all_eq_true]
    intro x hx
    rw [(List.mem_replicate.1 hx).2]
    rfl
  | k + 1 => by
    have ih := mkI_ok s l h k
    rw [List.all_eq_true] at ih h ⊢
    intro x hx
    rw [mkI] at hx
    rcases List.mem_or_eq_of_mem_set hx with hm | rfl
    · exact ih x hm
    · rw [List.getD_eq_getElem?_getD]
      cases hk : l[k]? with
      | none => rfl
      | some y => exact h y (List.mem_of_getElem? hk)

theorem mkI_get (s : Nat → Nat) (l : List Px) (hin : ∀ i, i < l.length → s i < l.length) (hinj : ∀ i j, i < l.length → j < l.length → s i = s j → i = j) :
    ∀ k, k ≤ l.length → ∀ i, i < k → (mkI s l k)[s i]? = l[i]?
  | 0, _, i, hi => by omega
  | k + 1, hk, i, hi => by
    rw [mkI]
    by_cases e : i = k
    · subst e
      rw [List.getElem?_set_self (by rw [mkI_len]; exact hin i (by omega)), List.getD_eq_getElem?_getD, List.getElem?_eq_getElem (by omega)]
      rfl
    · have hne : s k ≠ s i := fun h => e (hinj k i (by omega) (by omega) h).symm
      rw [List.getElem?_set_ne hne]
      exact mkI_get s l hin hinj k (by omega) i (by omega)

section
variable {w h : Int} {n : Nat}

/-- the column and the row of pixel k -/
theorem at_in {k : Nat} (hw : 0 < w) (hn : (n : Int) = w * h) (hk : k < n) : (0 ≤ (k : Int) % w ∧ (k : Int) % w < w) ∧ (0 ≤ (k : Int) / w ∧ (k : Int) / w < h) := by
  refine ⟨⟨Int.emod_nonneg _ (by omega), Int.emod_lt_of_pos _ hw⟩, Int.ediv_nonneg (by omega) (by omega), ?_⟩
  refine Int.ediv_lt_of_lt_mul hw ?_
  rw [Int.mul_comm]
  omega

theorem row_lt {x y : Int} (hx : 0 ≤ x ∧ x < w) (hy : 0 ≤ y ∧ y < h) : 0 ≤ y * w + x ∧ y * w + x < w * h := by
  have h0 : 0 ≤ y * w := Int.mul_nonneg hy.1 (by omega)
  have h1 : (y + 1) * w ≤ h * w := Int.mul_le_mul_of_nonneg_right (by omega) (by omega)
  rw [Int.add_mul, Int.one_mul, Int.mul_comm h w] at h1
  omega

theorem row_div {x y : Int} (hx : 0 ≤ x ∧ x < w) : (y * w + x) % w = x ∧ (y * w + x) / w = y := by
  constructor
  · rw [Int.add_comm, Int.add_mul_emod_self_right, Int.emod_eq_of_lt hx.1 hx.2]
  · rw [Int.add_comm, Int.add_mul_ediv_right _ _ (by omega), Int.ediv_eq_zero_of_lt hx.1 hx.2, Int.zero_add]

theorem sig_int (t : Int) {k : Nat} (hw : 0 < w) (hn : (n : Int) = w * h) (hk : k < n) :
    ((sig t w h k : Nat) : Int) = posY t w h ((k : Int) % w) ((k : Int) / w) * siW t w h + posX t w h ((k : Int) % w) ((k : Int) / w) := by
  obtain ⟨hx, hy⟩ := at_in hw hn hk
  obtain ⟨px, py⟩ := pos_in t hx hy
  exact Int.toNat_of_nonneg (row_lt px py).1

theorem sig_lt (t : Int) {k : Nat} (hw : 0 < w) (hn : (n : Int) = w * h) (hk : k < n) : sig t w h k < n := by
  obtain ⟨hx, hy⟩ := at_in hw hn hk
  obtain ⟨px, py⟩ := pos_in t hx hy
  have h0 := sig_int t hw hn hk
  have h1 := (row_lt px py).2
  rw [si_mul] at h1
  omega

theorem sig_comp (a b : Int) {k : Nat} (hw : 0 < w) (hn : (n : Int) = w * h) (hk : k < n) : sig b (siW a w h) (siH a w h) (sig a w h k) = sig (comp a b) w h k := by
  obtain ⟨hx, hy⟩ := at_in hw hn hk
  obtain ⟨px, _⟩ := pos_in a hx hy
  have h0 := sig_int a hw hn hk
  obtain ⟨e1, e2⟩ := row_div (y := posY a w h ((k : Int) % w) ((k : Int) / w)) px
  generalize sig a w h k = m at *
  conv => lhs; unfold sig
  rw [h0, e1, e2, (si_comp a b w h).1, (pos_comp a b w h _ _).1, (pos_comp a b w h _ _).2]
  rfl

theorem sig_zero {k : Nat} : sig 0 w h k = k := by
  have e : sig 0 w h k = ((k : Int) / w * w + (k : Int) % w).toNat := rfl
  rw [e, Int.mul_comm, Int.mul_ediv_add_emod, Int.toNat_natCast]

theorem sig_inv (a : Int) {k : Nat} (hw : 0 < w) (hn : (n : Int) = w * h) (hk : k < n) : sig (inv a) (siW a w h) (siH a w h) (sig a w h k) = k := by
  rw [sig_comp a (inv a) hw hn hk, comp_inv, sig_zero]

/-- each place is the place of a pixel -/
theorem sig_onto (a : Int) {j : Nat} (hw : 0 < w) (hh : 0 < h) (hn : (n : Int) = w * h) (hj : j < n) : ∃ i, i < n ∧ sig a w h i = j := by
  have hp := si_pos a hw hh
  have hn' : (n : Int) = siW a w h * siH a w h := by rw [si_mul, hn]
  refine ⟨sig (inv a) (siW a w h) (siH a w h) j, sig_lt _ hp.1 hn' hj, ?_⟩
  have h0 := sig_inv (inv a) hp.1 hn' hj
  rw [inv_inv, (si_inv a w h).1, (si_inv a w h).2] at h0
  rw [← h0]
  conv => rhs; unfold sig
  rw [(pos_cl a w h _ _).1, (pos_cl a w h _ _).2, (si_cl a w h).1]
  rw [h0]
  rfl

end

theorem img_len (t w h : Int) (l : List Px) : (imgP t w h l).length = l.length := mkI_len _ _ _

theorem img_get (t : Int) {w h : Int} {l : List Px} (hw : 0 < w) (hn : (l.length : Int) = w * h) {i : Nat} (hi : i < l.length) : (imgP t w h l)[sig t w h i]? = l[i]? :=
  mkI_get _ l (fun _ hk => sig_lt t hw hn hk) (fun i j h1 h2 e => by
    rw [← sig_inv t hw hn h1, ← sig_inv t hw hn h2, e]) l.length (Nat.le_refl _) i hi

theorem img_ext {l m : List Px} {t w h : Int} (hw : 0 < w) (hh : 0 < h) (hl : (l.length : Int) = w * h) (hlm : m.length = l.length) (H : ∀ i, i < l.length → l[sig t w h i]? = m[sig t w h i]?) : l = m := by
  refine List.ext_getElem? fun j => ?_
  rcases Nat.lt_or_ge j l.length with hj | hj
  · obtain ⟨i, hi, rfl⟩ := sig_onto t hw hh hl hj
    exact H i hi
  · rw [List.getElem?_eq_none hj, List.getElem?_eq_none (by omega)]

/-- the image of an image is the image under the product -/
theorem img_comp (a b : Int) {w h : Int} {l : List Px} (hw : 0 < w) (hh : 0 < h) (hn : (l.length : Int) = w * h) :
    imgP b (siW a w h) (siH a w h) (imgP a w h l) = imgP (comp a b) w h l := by
  have hp := si_pos a hw hh
  have hn' : ((imgP a w h l).length : Int) = siW a w h * siH a w h := by rw [si_mul, img_len, hn]
  refine img_ext (t := comp a b) hw hh (by rw [img_len, img_len, hn]) (by rw [img_len, img_len, img_len]) fun i hi => ?_
  rw [img_len, img_len] at hi
  rw [img_get (comp a b) hw hn hi, ← sig_comp a b hw hn hi, img_get b hp.1 hn' (by rw [img_len]; exact sig_lt a hw hn hi), img_get a hw hn hi]

theorem img_zero {w h : Int} {l : List Px} (hw : 0 < w) (hh : 0 < h) (hn : (l.length : Int) = w * h) : imgP 0 w h l = l := by
  refine img_ext (t := 0) hw hh (by rw [img_len, hn]) (by rw [img_len]) fun i hi => ?_
  rw [img_len] at hi
  rw [img_get 0 hw hn hi, sig_zero]

theorem img_inv (a : Int) {w h : Int} {l : List Px} (hw : 0 < w) (hh : 0 < h) (hn : (l.length : Int) = w * h) : imgP (inv a) (siW a w h) (siH a w h) (imgP a w h l) = l := by
  rw [img_comp a (inv a) hw hh hn, comp_inv, img_zero hw hh hn]

theorem vBuf_iff {w h : Int} {l : List Px} : vBuf w h l = true ↔ (1 ≤ w ∧ w ≤ 256) ∧ (1 ≤ h ∧ h ≤ 256) ∧ (l.length : Int) = w * h ∧ l.all okPx = true := by
  simp only [vBuf, Bool.and_eq_true, decide_eq_true_eq, and_assoc]

/-- the image of a valid buffer is a valid buffer -/
theorem img_valid (t : Int) {w h : Int} {l : List Px} (hv : vBuf w h l = true) : vBuf (siW t w h) (siH t w h) (imgP t w h l) = true := by
  obtain ⟨h0, h1, h2, h3⟩ := vBuf_iff.1 hv
  refine vBuf_iff.2 ⟨?_, ?_, by rw [img_len, h2, si_mul], mkI_ok _ _ h3 _⟩
  · unfold siW; split <;> assumption
  · unfold siH; split <;> assumption

end Go.Proofs.YtphgjfkmnohjlaaDoor
