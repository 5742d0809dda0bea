/-
  Merging small states; what merging nothing and merging twice is.
-/
import Derived.Test.YthedglfocjljjaaGreatDoorSli
import Derived.Test.YthedglfocjljjaaGreatDoorSmi
namespace Go.Proofs.YthedglfocjljjaaGreatDoor
open Go.RowKit

structure Sml (n : Nat) (s : St) : Prop where
  dm : s.dm.length ≤ 12
  op : s.op.length ≤ 12
  ip : s.ip.length ≤ 12
  bf : s.bf.length ≤ 3
  px : ∀ x ∈ s.bf, x.l.length ≤ 300
  cb : s.cb.length ≤ n
theorem Sml.few {n : Nat} {s : St} (h : Sml n s) (hn : n ≤ 1000) : Few s :=
  ⟨by have := h.dm; omega, by have := h.op; omega, by have := h.ip; omega, by have := h.cb; omega, by have := h.bf; omega, fun x hx => by have := h.px x hx; omega⟩
theorem mrg_ind {c p : St} (P : St → Prop) (h0 : P { c with set := 0, dm := [] }) (hs : ∀ k s, P s → P (stpS k c p s)) : ∀ k, P (mrgK c p k)
  | 0 => h0
  | k + 1 => by
    rw [mrgK]
    split
    · exact hs k _ (mrg_ind P h0 hs k)
    · exact mrg_ind P h0 hs k
theorem Sml.mrg {a b : Nat} {c p : St} (h : Sml a c) (g : Sml b p) : Sml (a + b) (mrgS c p) := by
  refine mrg_ind (Sml (a + b)) ⟨by simp, h.op, h.ip, h.bf, h.px, Nat.le_trans h.cb (Nat.le_add_right _ _)⟩ (fun k s H => ?_) 8
  unfold stpS
  split
  · exact ⟨H.dm, H.op, H.ip, g.bf, g.px, H.cb⟩
  · exact ⟨H.dm, H.op, H.ip, H.bf, H.px, H.cb⟩
  · exact ⟨H.dm, H.op, H.ip, H.bf, H.px, H.cb⟩
  · exact ⟨g.dm, H.op, H.ip, H.bf, H.px, H.cb⟩
  · exact ⟨H.dm, g.op, H.ip, H.bf, H.px, H.cb⟩
  · exact ⟨H.dm, H.op, g.ip, H.bf, H.px, H.cb⟩
  · exact ⟨H.dm, H.op, H.ip, H.bf, H.px, H.cb⟩
  · exact ⟨H.dm, H.op, H.ip, H.bf, H.px, by rw [List.length_append]; have := h.cb; have := g.cb; omega⟩
theorem light_sml {s : St} (h : lightB s = true) : Sml 40 s := by
  obtain ⟨set, bf, sc, tr, dm, op, is, ip, dx, dy, cb⟩ := s
  rw [light_eq] at h
  simp only [Bool.and_eq_true, decide_eq_true_eq, List.all_eq_true] at h
  obtain ⟨⟨⟨⟨⟨⟨⟨h1, h2⟩, h3⟩, h4⟩, h5⟩, -⟩, -⟩, h6⟩ := h
  exact ⟨h2, h3, h4, h1, h6, h5⟩

end Go.Proofs.YthedglfocjljjaaGreatDoor
