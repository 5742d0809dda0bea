/-
  MessageDistinct over the contracts of the program's functions.
-/
import Derived.Test.YtmpkjjmgfakomaaDoorLmt
import Derived.Test.YtmpkjjmgfakomaaDoorMtx
namespace Go.Proofs.YtmpkjjmgfakomaaDoor
open Go.RowKit Mem Wire

theorem kind_le (c : Nat) : kindN c ≤ 7 := by
  unfold kindN
  repeat' split
  all_goals omega
theorem sig_kds {s : ByteArray} {ks : List Nat} (h : sigK s = some ks) : ∀ k ∈ ks, 1 ≤ k ∧ k ≤ 7 := by
  unfold sigK at h
  split at h
  · rename_i hs
    injection h with h
    subst h
    unfold sigT at hs
    simp only [Bool.and_eq_true, List.all_eq_true] at hs
    intro k hk
    obtain ⟨c, hc, rfl⟩ := List.mem_map.1 hk
    have h1 := hs.2 c hc
    have h2 := kind_le c.toNat
    simp at h1
    omega
  · cases h
/-- what Encode's success says -/
theorem enc_ok {s : ByteArray} {m : Ms} {b : List UInt8} (h : encT (sigK s) m = (b, 0)) :
    ∃ ks, sigK s = some ks ∧ Good m.ags ks ∧ 0 ≤ m.oc ∧ m.oc ≤ 65535 ∧ (bodT m.ags).length ≤ 4088 ∧ b = enc4 m.ob ++ enc4 (headT (bodT m.ags).length m.oc) ++ bodT m.ags := by
  unfold encT at h
  by_cases hc : chkT (sigK s) m ≠ 0
  · rw [if_pos hc] at h
    exact absurd (congrArg Prod.snd h) hc
  · rw [if_neg hc] at h
    by_cases hl : 4088 < (bodT m.ags).length
    · rw [if_pos hl] at h
      have := congrArg Prod.snd h
      simp at this
    · rw [if_neg hl] at h
      have hc0 : chkT (sigK s) m = 0 := by simpa using hc
      cases hk : sigK s with
      | none =>
        rw [hk] at hc0
        cases hc0
      | some ks =>
        rw [hk] at hc0
        obtain ⟨h1, h2, h3⟩ := chk_good hc0 (sig_kds hk)
        exact ⟨ks, rfl, h1, h2, h3, by omega, (congrArg Prod.fst h).symm⟩
theorem enc_inj {s : ByteArray} {m n : Ms} {b : List UInt8} (hm : encT (sigK s) m = (b, 0)) (hn : encT (sigK s) n = (b, 0)) (o1 : m.ob < 4294967296) (o2 : n.ob < 4294967296) : m = n := by
  obtain ⟨ks, hk, g1, c1, d1, l1, e1⟩ := enc_ok hm
  obtain ⟨ks2, hk2, g2, c2, d2, l2, e2⟩ := enc_ok hn
  obtain rfl : ks = ks2 := Option.some.inj (hk.symm.trans hk2)
  have e := e1.symm.trans e2
  rw [List.append_assoc, List.append_assoc] at e
  have a := congrArg at4 e
  rw [at4_enc _ o1, at4_enc _ o2] at a
  have e3 : enc4 (headT (bodT m.ags).length m.oc) ++ bodT m.ags = enc4 (headT (bodT n.ags).length n.oc) ++ bodT n.ags := by
    have := congrArg (List.drop 4) e
    simpa [enc4] using this
  have hb : bodT m.ags = bodT n.ags := by
    have := congrArg (List.drop 4) e3
    simpa [enc4] using this
  have a2 := congrArg at4 e3
  rw [at4_enc _ (by unfold headT; omega), at4_enc _ (by unfold headT; omega), hb] at a2
  have hoc : m.oc = n.oc := by unfold headT at a2; omega
  have hg := bod_inj g1 g2 hb
  cases m; cases n
  simp_all
theorem eq_str (a b : List UInt8) : ((⟨a.toArray⟩ : ByteArray).toList == (⟨b.toArray⟩ : ByteArray).toList) = decide (a = b) := by
  by_cases h : a = b
  · subst h
    simp
  · rw [decide_eq_false h]
    refine str_ne (fun e => h ?_)
    have := congrArg (fun s : ByteArray => s.data.toList) e
    simpa using this
theorem distinct_facts {s : ByteArray} {m n : Ms} {b c : List UInt8} (hm : encT (sigK s) m = (b, 0)) (hn : encT (sigK s) n = (c, 0)) (o1 : m.ob < 4294967296) (o2 : n.ob < 4294967296) :
    ((⟨b.toArray⟩ : ByteArray).toList == (⟨c.toArray⟩ : ByteArray).toList) = eqM m n ∧ ((⟨(fmtT m).toArray⟩ : ByteArray).toList == (⟨(fmtT n).toArray⟩ : ByteArray).toList) = eqM m n ∧ eqM n m = eqM m n := by
  rw [eq_str, eq_str]
  by_cases h : m = n
  · subst h
    have hb : b = c := by rw [hm] at hn; exact congrArg Prod.fst hn
    rw [(eqM_iff m m).2 rfl, decide_eq_true hb, decide_eq_true rfl]
    exact ⟨rfl, rfl, rfl⟩
  · have h1 : eqM m n = false := by rw [Bool.eq_false_iff]; exact fun e => h ((eqM_iff _ _).1 e)
    have h2 : eqM n m = false := by rw [Bool.eq_false_iff]; exact fun e => h ((eqM_iff _ _).1 e).symm
    obtain ⟨ks, hk, g1, _⟩ := enc_ok hm
    obtain ⟨ks2, hk2, g2, _⟩ := enc_ok hn
    obtain rfl : ks = ks2 := Option.some.inj (hk.symm.trans hk2)
    rw [h1, h2]
    refine ⟨decide_eq_false (fun e => h ?_), decide_eq_false (fun e => h (fmt_inj g1 g2 e)), rfl⟩
    subst e
    exact enc_inj hm hn o1 o2

end Go.Proofs.YtmpkjjmgfakomaaDoor
