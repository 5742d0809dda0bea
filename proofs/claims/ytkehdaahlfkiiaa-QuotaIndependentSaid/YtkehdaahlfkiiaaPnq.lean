/-
  Package quota: all that the laws ask of it.
-/
import Derived.Test.YtkehdaahlfkiiaaPqd
import Derived.Test.YtkehdaahlfkiiaaPbd
namespace Go.Proofs.Ytkehdaahlfkiiaa
open Go.RowKit

theorem below_self {W w' : World} (h : W = w') : Below W.heap.size W w' := by subst h; exact Below.refl _ _
theorem pq : PQ (fun _ => True) Q0 where
  below := fun _ _ => trivial
  keep := fun h hz hk => h.keep hz hk
  lt := fun h => h.lt
  some := fun h => by
    obtain ⟨p, b, rfl, _⟩ := h
    exact ⟨_, rfl⟩
  new := fun _ hb h hl _ => p_new_any hb h hl
  use := fun _ h hq _ _ _ hn => p_use_any h hq hn
  rel := fun _ h hq _ _ _ hn => p_rel_any h hq hn
  used := fun _ h hq k _ => (p_used_any h hq k).mono fun _ _ ⟨he, hw⟩ => ⟨he, below_self hw⟩
theorem B0.some {w0 W : World} {rv : Value} {b : Bk} {S : Nat → Prop} (h : B0 w0 W rv b S) (hm : b.md = true) : ∃ p : Nat, rv = .pointer (some ⟨p, 0, none⟩) ∧ w0.heap.size ≤ p ∧ (∀ k, S k ↔ k = p) ∧ (boxO p (bukC p b)).P W := by
  rcases h with ⟨h, _⟩ | ⟨_, h⟩
  · rw [hm] at h
    cases h
  · exact h
theorem B0.none {w0 W : World} {rv : Value} {b : Bk} {S : Nat → Prop} (h : B0 w0 W rv b S) (hm : b.md = false) : rv = .pointer none ∧ ∀ k, ¬ S k := by
  rcases h with ⟨_, h⟩ | ⟨h, _⟩
  · exact h
  · rw [hm] at h
    cases h
theorem take_md {b : Bk} (t n : Int) : (takeB b t n).1.md = b.md := by
  have := (advB_same b t).1
  unfold takeB
  split
  · rfl
  · split <;> exact this
theorem pb : PB (fun _ => True) B0 where
  keep := fun h hz hk => h.keep hz hk
  lt := fun h => h.lt
  made := fun h hm => by
    obtain ⟨p, rfl, _⟩ := h.some hm
    exact ⟨_, rfl⟩
  nil := fun h hm => (h.none hm).1
  new := fun _ hb r b _ _ => p_newb_any hb r b
  take := fun {w0 W rv b S} _ h hb t n ht hn => by
    cases hm : b.md with
    | true =>
      obtain ⟨p, rfl, h1, hS, hx⟩ := h.some hm
      refine (p_take_own hx hb hm ht hn).mono fun e w' ⟨he, hw⟩ => ?_
      obtain ⟨S', f1, f2⟩ := hw.leave ((take_md t n).trans hm) h1 hS
      exact ⟨S', he, f1, f2⟩
    | false =>
      obtain ⟨rfl, hS⟩ := h.none hm
      have e1 : takeB b t n = (b, false) := by unfold takeB; rw [if_pos hm]
      rw [e1]
      refine (p_take_nil W t n).mono fun e w' ⟨he, hw⟩ => ?_
      subst hw
      exact ⟨S, he, h, fun k hk => .inl hk, turns_below (Below.refl _ _)⟩
  lvl := fun {w0 W rv b S} _ h hb t ht => by
    cases hm : b.md with
    | true =>
      obtain ⟨p, rfl, h1, hS, hx⟩ := h.some hm
      have e1 : lvlB b t = (advB b t, (advB b t).fi / 1000) := by unfold lvlB; rw [if_neg (by rw [hm]; simp)]
      rw [e1]
      refine (p_lvl_own hx hb ht).mono fun e w' ⟨he, hw⟩ => ?_
      obtain ⟨S', f1, f2⟩ := hw.leave ((advB_same b t).1.trans hm) h1 hS
      exact ⟨S', he, f1, f2⟩
    | false =>
      obtain ⟨rfl, hS⟩ := h.none hm
      have e1 : lvlB b t = (b, 0) := by unfold lvlB; rw [if_pos hm]
      rw [e1]
      refine (p_lvl_nil W t).mono fun e w' ⟨he, hw⟩ => ?_
      subst hw
      exact ⟨S, he, h, fun k hk => .inl hk, turns_below (Below.refl _ _)⟩
theorem pnq : PNQ (fun _ => True) where
  use := fun {W} _ k n _ _ => (p_use_nil W k n).mono fun _ _ ⟨he, hw⟩ => ⟨he, below_self hw⟩
  rel := fun {W} _ k n _ _ => (p_rel_nil W k n).mono fun _ _ ⟨he, hw⟩ => ⟨he, below_self hw⟩
  used := fun {W} _ k _ => (p_used_nil W k).mono fun _ _ ⟨he, hw⟩ => ⟨he, below_self hw⟩
  take := fun {W} _ t n _ _ => (p_take_nil W t n).mono fun _ _ ⟨he, hw⟩ => ⟨he, below_self hw⟩
  lvl := fun {W} _ t _ => (p_lvl_nil W t).mono fun _ _ ⟨he, hw⟩ => ⟨he, below_self hw⟩

end Go.Proofs.Ytkehdaahlfkiiaa
