/-
  MessageFrames over the contracts of the program's functions: theory.
-/
import Derived.Test.YtmpkjjmgfakomaaDoorLds
import Derived.Test.YtmpkjjmgfakomaaDoorLmd
namespace Go.Proofs.YtmpkjjmgfakomaaDoor
open Go.RowKit Mem Wire

theorem dec_bad {s : ByteArray} {ob : Nat} {oc : Int} {bs : List UInt8} {m : Ms} {er : Int} (h : decT (sigK s) ob oc bs = (m, er)) (he : er ≠ 0) : m = ⟨0, 0, []⟩ := by
  unfold decT at h
  split at h
  · exact (congrArg Prod.fst h).symm
  · split at h
    · exact (congrArg Prod.fst h).symm
    · split at h
      · exact (congrArg Prod.fst h).symm
      · split at h
        · exact (congrArg Prod.fst h).symm
        · exact absurd (congrArg Prod.snd h).symm he
theorem dec_ok {s : ByteArray} {ob : Nat} {oc : Int} {bs : List UInt8} {m : Ms} (h : decT (sigK s) ob oc bs = (m, 0)) :
    m.ob = ob ∧ m.oc = oc ∧ m.ags.length = s.size ∧ encT (sigK s) m = (enc4 ob ++ enc4 (headT bs.length oc) ++ bs, 0) ∧ (∀ a ∈ m.ags, a.ss.size ≤ 1024 ∧ a.bb.length ≤ 1024) ∧ m.ags.length ≤ 16 := by
  cases hk : sigK s with
  | none =>
    rw [hk] at h
    have := congrArg Prod.snd h
    simp [decT] at this
  | some ks =>
    rw [hk] at h
    unfold decT at h
    dsimp only at h
    by_cases h1 : oc < 0 ∨ 65535 < oc
    · rw [if_pos h1] at h
      have := congrArg Prod.snd h
      simp at this
    rw [if_neg h1] at h
    by_cases h2 : 4088 < bs.length
    · rw [if_pos h2] at h
      have := congrArg Prod.snd h
      simp at this
    rw [if_neg h2] at h
    by_cases h3 : (decF (bs, 0) [] ks).2 ≠ 0
    · rw [if_pos h3] at h
      have := congrArg Prod.snd h
      exact absurd this h3
    rw [if_neg h3] at h
    have e3 : decF (bs, 0) [] ks = ((decF (bs, 0) [] ks).1, 0) := Prod.ext rfl (by simpa using h3)
    obtain ⟨l, hl, hg, hb⟩ := dec_inv ks (sig_kds hk) bs [] _ e3
    rw [List.nil_append] at hl
    rw [hl] at h
    have hm : m = ⟨ob, oc, l⟩ := (congrArg Prod.fst h).symm
    subst hm
    have hsz : ks.length = s.size ∧ s.size ≤ 16 := by
      unfold sigK at hk
      split at hk
      · rename_i hs
        injection hk with hk
        subst hk
        unfold sigT at hs
        simp only [Bool.and_eq_true, decide_eq_true_eq] at hs
        exact ⟨kds_len s, hs.1⟩
      · cases hk
    have hlen := hg.1
    refine ⟨rfl, rfl, hlen.trans hsz.1, ?_, fun a ha => ?_, by show l.length ≤ 16; omega⟩
    · have hc := good_chk (m := ⟨ob, oc, l⟩) hg (by show 0 ≤ oc; omega) (by show oc ≤ 65535; omega)
      unfold encT
      rw [if_neg (by rw [hc]; simp)]
      dsimp only
      rw [← hb, if_neg h2]
    · have hbig := hg.2.2.2.2.2
      rw [List.any_eq_false] at hbig
      have := hbig a ha
      unfold bigB at this
      simp only [Bool.or_eq_true, decide_eq_true_eq, not_or] at this
      omega

end Go.Proofs.YtmpkjjmgfakomaaDoor
