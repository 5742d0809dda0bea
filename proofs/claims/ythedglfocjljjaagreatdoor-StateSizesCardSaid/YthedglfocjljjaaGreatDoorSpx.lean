/-
  Pixels between the texts of transform and the main ones: images, buffers, slices.
-/
import Derived.Test.YthedglfocjljjaaGreatDoorSrh
import Derived.Test.YthedglfocjljjaaGreatDoorTrc
namespace Go.Proofs.YthedglfocjljjaaGreatDoor
open Go.RowKit

def mkN (s : Nat → Nat) (l : List Px) : Nat → List Px
  | 0 => List.replicate l.length zeroPx
  | k + 1 => (mkN s l k).set (s k) (l.getD k zeroPx)
def imgN (t w h : Int) (l : List Px) : List Px := mkN (Trf.sig t w h) l l.length
theorem toT_zero : toT zeroPx = Trf.zeroPx := rfl
theorem mkN_len (s : Nat → Nat) (l : List Px) : ∀ k, (mkN s l k).length = l.length
  | 0 => by simp [mkN]
  | k + 1 => by rw [mkN, List.length_set, mkN_len s l k]
theorem mkN_T (s : Nat → Nat) (l : List Px) : ∀ k, Trf.mkI s (l.map toT) k = (mkN s l k).map toT
  | 0 => by rw [Trf.mkI, mkN, List.length_map, List.map_replicate, toT_zero]
  | k + 1 => by
    rw [Trf.mkI, mkN, mkN_T s l k, List.map_set]
    congr 1
    rw [List.getD_eq_getElem?_getD, List.getD_eq_getElem?_getD, List.getElem?_map]
    cases l[k]? <;> rfl
theorem imgN_T (t w h : Int) (l : List Px) : Trf.imgP t w h (l.map toT) = (imgN t w h l).map toT := by
  unfold Trf.imgP imgN
  rw [List.length_map, mkN_T]
theorem imgN_len (t w h : Int) (l : List Px) : (imgN t w h l).length = l.length := mkN_len _ _ _
theorem ok_T (p : Px) : Trf.okPx (toT p) = okPx p := by
  simp only [Trf.okPx, toT, okPx, Int.ofNat_le]
theorem vBuf_T (a b : Int) (l : List Px) : Trf.vBuf a b (l.map toT) = vBuf a b l := by
  unfold Trf.vBuf vBuf sizB
  rw [List.length_map, List.all_map]
  have e : (Trf.okPx ∘ toT) = okPx := funext ok_T
  rw [e]
theorem T_pxs {w : World} {v : Value} {l : List Px} (h : Trf.Pxs w v (l.map toT)) : Pxs w v l := by
  obtain ⟨A, cap, hv, h1, h2, h4⟩ := h
  rw [List.length_map] at hv h1 h4
  refine ⟨A, cap, hv, h1, h2, fun hn => ?_⟩
  obtain ⟨b, off, hA, hlt, hc⟩ := h4 hn
  refine ⟨b, off, hA, hlt, fun j p hj => ?_⟩
  exact hc j (toT p) (by rw [List.getElem?_map, hj]; rfl)

end Go.Proofs.YthedglfocjljjaaGreatDoor
