/-
  What Clone leaves is a state in memory.
-/
import Derived.Test.YthedglfocjljjaaGreatDoorSrb
namespace Go.Proofs.YthedglfocjljjaaGreatDoor
open Go.RowKit

theorem px_says {w W : World} {base : Nat} : ∀ {l : List Ob} {M : List Bv}, HO w W (l ++ pxO base M) → ∀ p ∈ M, Pxs W p.2 p.1.l := by
  intro l M h p hp
  have hm : rowO base 58 4 p.2 p.1.l.length (flat p.1.l) ∈ l ++ pxO base M := List.mem_append_right _ (List.mem_map.2 ⟨p, hp, rfl⟩)
  exact sn_pxs (sn_owned (h.says _ hm) (flat_length _))
theorem clo_st {w W : World} {s : St} {L L1 : List Bv} {vb vd vo vi vc : Value} (he : L1.map Prod.fst = L.map Prod.fst) (hs : L.map Prod.fst = s.bf) (h : HO w W ([rowO w.heap.size 50 1 vc s.cb.length (uL s.cb), rowO w.heap.size 53 4 vi s.ip.length (rflat s.ip), rowO w.heap.size 53 4 vo s.op.length (rflat s.op), rowO w.heap.size 53 4 vd s.dm.length (rflat s.dm), rowO w.heap.size 42 3 vb L1.length (bfL L1)] ++ pxO w.heap.size L1)) : StAt W s L1 vb vd vo vi vc where
  bf := sn_owned (show HO w W ([_, _, _, _] ++ rowO w.heap.size 42 3 vb L1.length (bfL L1) :: _) from h).at (bfL_len L1)
  px := px_says h
  eq := he.trans hs
  dm := sn_owned (show HO w W ([_, _, _] ++ rowO w.heap.size 53 4 vd s.dm.length (rflat s.dm) :: _) from h).at (rflat_length _)
  op := sn_owned (show HO w W ([_, _] ++ rowO w.heap.size 53 4 vo s.op.length (rflat s.op) :: _) from h).at (rflat_length _)
  ip := sn_owned (show HO w W ([_] ++ rowO w.heap.size 53 4 vi s.ip.length (rflat s.ip) :: _) from h).at (rflat_length _)
  cb := sn_owned (show HO w W ([] ++ rowO w.heap.size 50 1 vc s.cb.length (uL s.cb) :: _) from h).at (by simp)

end Go.Proofs.YthedglfocjljjaaGreatDoor
