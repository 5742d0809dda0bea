/-
  What the law's 'ordered' asks of a canonical list, by positions.
-/
import Derived.Test.YtclnepijbnhdfaaComb
import Derived.Test.YtclnepijbnhdfaaRs
import Derived.Test.YtclnepijbnhdfaaInts
namespace Go.Proofs.Ytclnepijbnhdfaa

theorem flatB_app (L M : List Band) : flatB (L ++ M) = flatB L ++ flatB M := by simp [flatB]

/-- where the band k begins -/
def pos (bs : List Band) (k : Nat) : Nat := (flatB (bs.take k)).length

theorem pos_zero (bs : List Band) : pos bs 0 = 0 := rfl

theorem pos_succ {bs : List Band} {k : Nat} {b : Band} (h : bs[k]? = some b) : pos bs (k + 1) = pos bs k + b.2.2.length := by
  unfold pos
  rw [List.take_add_one, h, flatB_app]
  simp [flatB, bandR_len]

theorem pos_end {bs : List Band} {k : Nat} (h : bs.length ≤ k) : pos bs k = (flatB bs).length := by
  unfold pos
  rw [List.take_of_length_le h]

theorem flat_pos {bs : List Band} {k i : Nat} {b : Band} {p : Int × Int} (h : bs[k]? = some b) (hp : b.2.2[i]? = some p) : (flatB bs)[pos bs k + i]? = some ⟨p.1, b.1, p.2, b.2.1⟩ := by
  have e : flatB bs = flatB (bs.take k) ++ (bandR b ++ flatB (bs.drop (k + 1))) := by
    rw [← flatB_cons, ← drop_at h, ← flatB_app, List.take_append_drop]
  have hl := (List.getElem?_eq_some_iff.1 hp).1
  rw [e, List.getElem?_append_right (by unfold pos; omega), show pos bs k + i - (flatB (bs.take k)).length = i by unfold pos; omega, List.getElem?_append_left (by rw [bandR_len]; exact hl)]
  obtain ⟨lo, hi, v⟩ := b
  exact bandR_at hp

/-- what the law's 'ordered' asks -/
structure OrdF (bs : List Band) : Prop where
  run : ∀ (k : Nat) b, bs[k]? = some b → 0 < b.2.2.length ∧ b.1 < b.2.1 ∧ (∀ (i : Nat) p, b.2.2[i]? = some p → p.1 < p.2) ∧ ∀ (i : Nat) p q, b.2.2[i]? = some p → b.2.2[i + 1]? = some q → p.2 < q.1
  next : ∀ (k : Nat) b c, bs[k]? = some b → bs[k + 1]? = some c → b.2.1 ≤ c.1 ∧ (c.1 = b.2.1 → c.2.2 ≠ b.2.2)

theorem canF_next {V : Type} {d : V} : ∀ {l : List (Int × Int × V)} {B : Int} {u : V}, CanF d B u l → ∀ (k : Nat) p q, l[k]? = some p → l[k + 1]? = some q → p.2.1 ≤ q.1 ∧ (q.1 = p.2.1 → q.2.2 ≠ p.2.2)
  | [], _, _, _, k, p, q, hp, _ => by simp at hp
  | (lo, hi, v) :: l, _, _, h, 0, p, q, hp, hq => by
    simp only [List.getElem?_cons_zero, Option.some.injEq] at hp
    subst hp
    obtain ⟨_, _, _, _, h⟩ := h
    cases l with
    | nil => simp at hq
    | cons r l =>
      obtain ⟨lo', hi', v'⟩ := r
      simp only [List.getElem?_cons_succ, List.getElem?_cons_zero, Option.some.injEq] at hq
      subst hq
      exact ⟨h.1, h.2.1⟩
  | (lo, hi, v) :: l, _, _, h, k + 1, p, q, hp, hq => by
    simp only [List.getElem?_cons_succ] at hp hq
    exact canF_next h.2.2.2.2 k p q hp hq

theorem region_ord {S : Int → Int → Bool} {l : List R} (h : Region S l) : ∃ bs, l = flatB bs ∧ OrdF bs := by
  obtain ⟨bs, e, ⟨B, hc⟩, hr⟩ := h
  refine ⟨bs, e, fun k b hb => ?_, fun k b c hb hq => canF_next hc k b c hb hq⟩
  obtain ⟨_, h2, h3, h4⟩ := hc.sort.tail_from b (List.mem_of_getElem? hb)
  have h5 := hr b.1
  rw [h4 b.1 (Int.le_refl _) h3] at h5
  obtain ⟨⟨g1, g2⟩, _⟩ := runsOf_iff.1 h5
  refine ⟨List.length_pos_iff.2 h2, h3, fun i p hp => g1 p (List.mem_of_getElem? hp), fun i p q hp hq => ?_⟩
  obtain ⟨hi, ei⟩ := List.getElem?_eq_some_iff.1 hp
  obtain ⟨hj, ej⟩ := List.getElem?_eq_some_iff.1 hq
  have := List.pairwise_iff_getElem.1 g2 i (i + 1) hi hj (by omega)
  rw [ei, ej] at this
  exact this

/-- the position of a band is zero for the first alone -/
theorem pos_pos {bs : List Band} (h : OrdF bs) {k : Nat} (hk : 0 < k) (hl : k ≤ bs.length) : 0 < pos bs k := by
  obtain ⟨j, rfl⟩ : ∃ j, k = j + 1 := ⟨k - 1, by omega⟩
  obtain ⟨b, hb⟩ : ∃ b, bs[j]? = some b := ⟨_, List.getElem?_eq_getElem (by omega)⟩
  rw [pos_succ hb]
  have := (h.run j b hb).1
  omega

end Go.Proofs.Ytclnepijbnhdfaa
