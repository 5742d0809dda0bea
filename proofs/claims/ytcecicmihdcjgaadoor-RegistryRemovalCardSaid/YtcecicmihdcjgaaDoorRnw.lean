/-
  What a log of announcements and removals looks like: names 1, 2, 3 and so on; the list is what remains of it. No program is named here.
-/
import Derived.Test.YtcecicmihdcjgaaDoorPrk
namespace Go.Proofs.YtcecicmihdcjgaaDoor
open Go.RowKit

def annG (r : Gl) : Bool := decide (0 < r.vr)
structure WF (l : List Gl) : Prop where
  nn : ∀ r ∈ l, 0 ≤ r.vr ∧ r.nm ≤ addedF l
  nm : (l.filter annG).map Gl.nm = List.range' 1 (addedF l)
theorem wf_nil : WF [] := ⟨fun r h => by simp at h, rfl⟩
theorem annF_append (l : List Gl) (r : Gl) (n : Nat) : annF (l ++ [r]) n = annS n (annF l n) r := by
  unfold annF
  rw [List.foldl_append]
  rfl
theorem addedF_append (l : List Gl) (r : Gl) : addedF (l ++ [r]) = addedF l + if 0 < r.vr then 1 else 0 := by
  unfold addedF
  rw [List.filter_append, List.length_append]
  by_cases h : 0 < r.vr <;> simp [h]
theorem wf_add {l : List Gl} (h : WF l) (s : ByteArray) {v : Int} (hv : 0 < v) : WF (l ++ [⟨addedF l + 1, s, v⟩]) := by
  have ha : addedF (l ++ [⟨addedF l + 1, s, v⟩]) = addedF l + 1 := by rw [addedF_append]; simp [hv]
  refine ⟨fun r hr => ?_, ?_⟩
  · rw [ha]
    rcases List.mem_append.1 hr with hr | hr
    · have := h.nn r hr
      exact ⟨this.1, by omega⟩
    · simp only [List.mem_singleton] at hr
      subst hr
      exact ⟨by dsimp only; omega, Nat.le_refl _⟩
  · rw [ha, List.filter_append, List.map_append, h.nm, List.range'_concat]
    simp [annG, hv]
    omega
theorem wf_rem {l : List Gl} (h : WF l) {q : Nat} (hq : q ≤ addedF l) (s : ByteArray) : WF (l ++ [⟨q, s, 0⟩]) := by
  have ha : addedF (l ++ [⟨q, s, 0⟩]) = addedF l := by rw [addedF_append]; simp
  refine ⟨fun r hr => ?_, ?_⟩
  · rw [ha]
    rcases List.mem_append.1 hr with hr | hr
    · exact h.nn r hr
    · simp only [List.mem_singleton] at hr
      subst hr
      exact ⟨by dsimp only; omega, hq⟩
  · rw [ha, List.filter_append, List.map_append, h.nm]
    simp [annG]
theorem filter_same {p q : Gl → Bool} : ∀ {l : List Gl}, (∀ r ∈ l, p r = q r) → l.filter p = l.filter q
  | [], _ => rfl
  | a :: l, h => by
    have h1 := h a (by simp)
    have h2 := filter_same (l := l) (fun r hr => h r (by simp [hr]))
    simp only [List.filter_cons, h1, h2]
theorem list_add {l : List Gl} (h : WF l) (s : ByteArray) {v : Int} (hv : 0 < v) : listF (l ++ [⟨addedF l + 1, s, v⟩]) = listF l ++ [⟨addedF l + 1, s, v⟩] := by
  unfold listF
  rw [List.filter_append]
  congr 1
  · refine filter_same fun r hr => ?_
    unfold listP
    rw [annF_append]
    have := (h.nn r hr).2
    have hne : ¬ addedF l + 1 = r.nm := by omega
    simp [annS, hne]
  · have hv0 : ¬ v = 0 := by omega
    simp [listP, annF_append, annS, hv, hv0]
theorem list_rem (l : List Gl) (q : Nat) (s : ByteArray) : listF (l ++ [⟨q, s, 0⟩]) = (listF l).filter (fun r => !(decide (r.nm = q))) := by
  unfold listF
  rw [List.filter_append, List.filter_filter]
  rw [show List.filter (listP (l ++ [⟨q, s, 0⟩])) [⟨q, s, 0⟩] = [] by simp [listP], List.append_nil]
  refine filter_same fun r hr => ?_
  unfold listP
  rw [annF_append]
  by_cases hq : q = r.nm
  · simp [annS, hq]
  · have : ¬ r.nm = q := fun e => hq e.symm
    simp [annS, hq, this]
theorem ann_mem_aux (L : List Gl) (q : Nat) : ∀ (l : List Gl) (a : Gl × Bool), (∀ r ∈ l, r ∈ L) → (a.2 = true → a.1 ∈ L ∧ a.1.nm = q ∧ 0 < a.1.vr) → ((l.foldl (annS q) a).2 = true → (l.foldl (annS q) a).1 ∈ L ∧ (l.foldl (annS q) a).1.nm = q ∧ 0 < (l.foldl (annS q) a).1.vr)
  | [], _, _, ha => ha
  | r :: l, a, hl, ha => by
    refine ann_mem_aux L q l (annS q a r) (fun x hx => hl x (by simp [hx])) ?_
    unfold annS
    by_cases hq : r.nm = q
    · rw [if_pos hq]
      intro h
      exact ⟨hl r (by simp), hq, by simpa using h⟩
    · rw [if_neg hq]
      exact ha
theorem ann_mem {l : List Gl} {q : Nat} (h : (annF l q).2 = true) : (annF l q).1 ∈ l ∧ (annF l q).1.nm = q ∧ 0 < (annF l q).1.vr :=
  ann_mem_aux l q l (zeroG, false) (fun _ h => h) (fun h => by cases h) h
theorem one_of_nodup {g : Gl} : ∀ {L : List Gl}, (L.map Gl.nm).Nodup → g ∈ L → L.filter (fun r => decide (r.nm = g.nm)) = [g]
  | [], _, h => by simp at h
  | a :: L, hn, h => by
    rw [List.map_cons, List.nodup_cons] at hn
    by_cases ha : a.nm = g.nm
    · have hg : g = a := by
        rcases List.mem_cons.1 h with h | h
        · exact h
        · exact absurd (show g.nm ∈ L.map Gl.nm from List.mem_map_of_mem h) (by rw [← ha]; exact hn.1)
      subst hg
      have : L.filter (fun r => decide (r.nm = g.nm)) = [] := by
        refine List.filter_eq_nil_iff.2 fun r hr => ?_
        simp only [decide_eq_true_eq]
        intro e
        exact hn.1 (e ▸ List.mem_map_of_mem hr)
      simp [this]
    · rcases List.mem_cons.1 h with h | h
      · subst h
        exact absurd rfl ha
      · simp [ha, one_of_nodup hn.2 h]
theorem list_nodup {l : List Gl} (h : WF l) : ((listF l).map Gl.nm).Nodup := by
  have h1 : listF l = (l.filter annG).filter (listP l) := by
    rw [List.filter_filter]
    refine filter_same fun r hr => ?_
    have := (h.nn r hr).1
    unfold listP annG
    by_cases h0 : r.vr = 0
    · simp [h0]
    · have : 0 < r.vr := by omega
      simp [h0, this]
  rw [h1]
  have h2 : ((l.filter annG).filter (listP l)).Sublist (l.filter annG) := List.filter_sublist
  have h3 := h2.map Gl.nm
  rw [h.nm] at h3
  exact List.Nodup.sublist h3 (List.nodup_range')
theorem list_one {l : List Gl} (h : WF l) {q : Nat} (hq : (annF l q).2 = true) : (listF l).filter (fun r => decide (r.nm = q)) = [(annF l q).1] := by
  obtain ⟨h1, h2, h3⟩ := ann_mem hq
  have hm : (annF l q).1 ∈ listF l := by
    unfold listF
    refine List.mem_filter.2 ⟨h1, ?_⟩
    have h0 : ¬ (annF l q).1.vr = 0 := by omega
    simp only [listP, h2, hq, h0, decide_false, Bool.not_false, Bool.and_self]
  have := one_of_nodup (list_nodup h) hm
  rw [h2] at this
  exact this
theorem split_len (p : Gl → Bool) : ∀ L : List Gl, (L.filter p).length + (L.filter (fun r => !p r)).length = L.length
  | [] => rfl
  | a :: L => by
    have := split_len p L
    cases h : p a <;> simp [h] <;> omega
theorem rem_len {l : List Gl} (h : WF l) {q : Nat} (hq : (annF l q).2 = true) : ((listF l).filter (fun r => !(decide (r.nm = q)))).length + 1 = (listF l).length := by
  have := split_len (fun r => decide (r.nm = q)) (listF l)
  rw [list_one h hq] at this
  simp only [List.length_singleton] at this
  omega
/-- the calls of the law -/
def doF (l : List Gl) (o : Op4) : List Gl × Nat × Int :=
  if o.kd = 0 then addF l o.it o.vr else if o.kd = 1 then ((remF l o.nm).1, o.nm, (remF l o.nm).2) else (l, o.nm, bindF l o.nm o.it o.vr)
theorem add_ok {l : List Gl} {s : ByteArray} {v : Int} (h : (addF l s v).2.2 = 0) : 0 < v ∧ addF l s v = (l ++ [⟨addedF l + 1, s, v⟩], addedF l + 1, 0) := by
  unfold addF at h ⊢
  split at h
  · cases h
  · split at h
    · cases h
    · split at h
      · cases h
      · rename_i h1 h2 h3
        rw [if_neg h1, if_neg h2, if_neg h3]
        exact ⟨by omega, rfl⟩
theorem add_bad {l : List Gl} {s : ByteArray} {v : Int} (h : (addF l s v).2.2 ≠ 0) : (addF l s v).1 = l := by
  unfold addF at h ⊢
  split
  · rfl
  · split
    · rfl
    · split
      · rfl
      · rename_i h1 h2 h3
        rw [if_neg h1, if_neg h2, if_neg h3] at h
        exact absurd rfl h
theorem rem_ok {l : List Gl} {q : Nat} (h : (remF l q).2 = 0) : (annF l q).2 = true ∧ remF l q = (l ++ [⟨q, (annF l q).1.it, 0⟩], 0) := by
  unfold remF at h ⊢
  split at h
  · rename_i hq
    rw [if_pos hq, (ann_mem hq).2.1]
    exact ⟨hq, rfl⟩
  · cases h
theorem rem_bad {l : List Gl} {q : Nat} (h : (remF l q).2 ≠ 0) : (remF l q).1 = l := by
  unfold remF at h ⊢
  split
  · rename_i hq
    rw [if_pos hq] at h
    exact absurd rfl h
  · rfl
theorem rem_wf {l : List Gl} (h : WF l) {q : Nat} (hq : (annF l q).2 = true) (s : ByteArray) : WF (l ++ [⟨q, s, 0⟩]) := by
  have := (h.nn _ (ann_mem hq).1).2
  rw [(ann_mem hq).2.1] at this
  exact wf_rem h this s

end Go.Proofs.YtcecicmihdcjgaaDoor
