/-
  What the landed registry keeps, on lists: beside the log, all globals that were removed, in the order of their removals, with the versions that they had. No program is named here.
-/
import Derived.Test.YtcecicmihdcjgaaDoorRnw
namespace Go.Proofs.YtcecicmihdcjgaaDoor
open Go.RowKit

/-- the removed globals looked through from the last one on -/
def scanM (q : Nat) : List Gl → Nat → Gl × Bool
  | [], _ => (zeroG, false)
  | g :: R, later => if g.nm ≠ q ∨ 16 < later + 1 then scanM q R (later + 1) else (g, true)
/-- the recently removed ones -/
def lastR (M : List Gl) : List Gl := M.drop (M.length - 16)

structure RgOk (l M : List Gl) : Prop where
  wf : WF l
  nd : ((listF l ++ M).map Gl.nm).Nodup
  ok : ∀ r ∈ listF l ++ M, 0 < r.vr ∧ 1 ≤ r.nm ∧ r.nm ≤ addedF l ∧ fstF r.nm l = (r, true)
  kn : ∀ q later, knB l q l.length later = scanM q M.reverse later

theorem fstF_cons (n : Nat) (r : Gl) (l : List Gl) : fstF n (r :: l) = if r.nm = n then (r, true) else fstF n l := rfl
theorem fstF_append (n : Nat) (m : List Gl) : ∀ l : List Gl, fstF n (l ++ m) = if (fstF n l).2 = true then fstF n l else fstF n m
  | [] => by simp [fstF]
  | r :: l => by
    rw [List.cons_append, fstF_cons, fstF_cons]
    by_cases h : r.nm = n
    · simp [h]
    · rw [if_neg h, if_neg h]
      exact fstF_append n m l
theorem fstF_none {n : Nat} : ∀ {l : List Gl}, (∀ r ∈ l, r.nm ≠ n) → fstF n l = (zeroG, false)
  | [], _ => rfl
  | r :: l, h => by
    unfold fstF
    rw [if_neg (h r (by simp))]
    exact fstF_none (fun x hx => h x (by simp [hx]))
theorem fstF_false {n : Nat} : ∀ {l : List Gl}, (fstF n l).2 = false → fstF n l = (zeroG, false) ∧ ∀ r ∈ l, r.nm ≠ n
  | [], _ => ⟨rfl, fun r h => by simp at h⟩
  | r :: l, h => by
    unfold fstF at h ⊢
    by_cases hq : r.nm = n
    · rw [if_pos hq] at h
      cases h
    · rw [if_neg hq] at h ⊢
      obtain ⟨h1, h2⟩ := fstF_false h
      refine ⟨h1, fun x hx => ?_⟩
      rcases List.mem_cons.1 hx with rfl | hx
      · exact hq
      · exact h2 x hx
theorem fstF_true {n : Nat} : ∀ {l : List Gl}, (fstF n l).2 = true → (fstF n l).1 ∈ l ∧ (fstF n l).1.nm = n
  | [], h => by cases h
  | r :: l, h => by
    unfold fstF at h ⊢
    by_cases hq : r.nm = n
    · rw [if_pos hq]
      exact ⟨by simp, hq⟩
    · rw [if_neg hq] at h ⊢
      obtain ⟨h1, h2⟩ := fstF_true h
      exact ⟨by simp [h1], h2⟩
theorem fstF_of_mem {g : Gl} : ∀ {l : List Gl}, (l.map Gl.nm).Nodup → g ∈ l → fstF g.nm l = (g, true)
  | [], _, h => by simp at h
  | r :: l, hn, h => by
    rw [List.map_cons, List.nodup_cons] at hn
    unfold fstF
    rcases List.mem_cons.1 h with rfl | h
    · rw [if_pos rfl]
    · rw [if_neg (fun e => hn.1 (by rw [e]; exact List.mem_map_of_mem h))]
      exact fstF_of_mem hn.2 h
theorem fstF_reverse (q : Nat) {l : List Gl} (h : (l.map Gl.nm).Nodup) : fstF q l.reverse = fstF q l := by
  have hr : (l.reverse.map Gl.nm).Nodup := ((List.reverse_perm l).map Gl.nm).nodup_iff.2 h
  cases hf : (fstF q l).2 with
  | true =>
    obtain ⟨h1, h2⟩ := fstF_true hf
    have e1 := fstF_of_mem h h1
    have e2 := fstF_of_mem hr (List.mem_reverse.2 h1)
    rw [h2] at e1 e2
    rw [e2, ← e1]
  | false =>
    obtain ⟨h1, h2⟩ := fstF_false hf
    rw [h1]
    exact fstF_none (fun r hr => h2 r (List.mem_reverse.1 hr))
theorem scan_fst (q : Nat) : ∀ (R : List Gl) (later : Nat), scanM q R later = fstF q (R.take (16 - later))
  | [], _ => by simp [scanM, fstF]
  | g :: R, later => by
    unfold scanM
    by_cases hl : 16 < later + 1
    · rw [if_pos (.inr hl), scan_fst q R (later + 1), show 16 - later = 0 by omega, show 16 - (later + 1) = 0 by omega]
      rfl
    · rw [show 16 - later = (16 - (later + 1)) + 1 by omega, List.take_succ_cons]
      unfold fstF
      by_cases hq : g.nm = q
      · rw [if_neg (by simp [hq]; omega), if_pos hq]
      · rw [if_pos (.inl hq), if_neg hq]
        exact scan_fst q R (later + 1)
theorem nodup_right {a b : List Gl} (h : ((a ++ b).map Gl.nm).Nodup) : (b.map Gl.nm).Nodup := by
  rw [List.map_append] at h
  exact (List.nodup_append.1 h).2.1
theorem scan_last (q : Nat) {M : List Gl} (h : (M.map Gl.nm).Nodup) : scanM q M.reverse 0 = fstF q (lastR M) := by
  have hd : ((lastR M).map Gl.nm).Nodup := (h.sublist ((List.drop_sublist _ _).map _))
  rw [scan_fst, ← fstF_reverse q hd]
  unfold lastR
  rw [List.take_reverse]
theorem knB_append (m : List Gl) (q : Nat) (l : List Gl) : ∀ (i : Nat), i ≤ l.length → ∀ later, knB (l ++ m) q i later = knB l q i later
  | 0, _, _ => by simp [knB]
  | i + 1, h, later => by
    have e1 : (l ++ m).getD i zeroG = l.getD i zeroG := by
      rw [List.getD_eq_getElem?_getD, List.getD_eq_getElem?_getD, List.getElem?_append_left (by omega)]
    have e2 : (l ++ m).take i = l.take i := List.take_append_of_le_length (by omega)
    unfold knB
    rw [e1, e2, knB_append m q l i (by omega), knB_append m q l i (by omega)]
theorem rgOk_nil : RgOk [] [] := ⟨wf_nil, by simp [listF], fun r h => by simp [listF] at h, fun q later => rfl⟩

theorem getD_last (l : List Gl) (x : Gl) : (l ++ [x]).getD l.length zeroG = x := by
  rw [List.getD_eq_getElem?_getD, List.getElem?_append_right (Nat.le_refl _)]
  simp
theorem rgOk_add {l M : List Gl} (h : RgOk l M) (s : ByteArray) {v : Int} (hv : 0 < v) : RgOk (l ++ [⟨addedF l + 1, s, v⟩]) M := by
  have ha : addedF (l ++ [⟨addedF l + 1, s, v⟩]) = addedF l + 1 := by rw [addedF_append]; simp [hv]
  have hl := list_add h.wf s hv
  obtain ⟨g, hg⟩ : ∃ g : Gl, (⟨addedF l + 1, s, v⟩ : Gl) = g := ⟨_, rfl⟩
  have hgn : g.nm = addedF l + 1 := by rw [← hg]
  have hgv : g.vr = v := by rw [← hg]
  have hwf := wf_add h.wf s hv
  rw [hg] at ha hl hwf ⊢
  refine ⟨hwf, ?_, fun r hr => ?_, fun q later => ?_⟩
  · rw [hl, List.append_assoc, List.singleton_append]
    have hp : (listF l ++ g :: M).Perm (g :: (listF l ++ M)) := List.perm_middle
    rw [(hp.map Gl.nm).nodup_iff, List.map_cons, List.nodup_cons]
    refine ⟨fun hm => ?_, h.nd⟩
    obtain ⟨r, hr, e⟩ := List.mem_map.1 hm
    have := (h.ok r hr).2.2.1
    omega
  · rw [hl, List.append_assoc, List.singleton_append] at hr
    have hr2 : r = g ∨ r ∈ listF l ++ M := by
      rcases List.mem_append.1 hr with hr | hr
      · exact .inr (List.mem_append_left _ hr)
      · rcases List.mem_cons.1 hr with hr | hr
        · exact .inl hr
        · exact .inr (List.mem_append_right _ hr)
    rcases hr2 with rfl | hr2
    · refine ⟨by omega, by omega, by omega, ?_⟩
      rw [fstF_append, fstF_none (fun x hx => by have := (h.wf.nn x hx).2; omega)]
      simp [fstF]
    · obtain ⟨h1, h2, h3, h4⟩ := h.ok r hr2
      refine ⟨h1, h2, by omega, ?_⟩
      rw [fstF_append, h4]
      simp
  · rw [List.length_append, List.length_singleton]
    unfold knB
    rw [getD_last, if_pos (by omega), knB_append _ _ _ _ (Nat.le_refl _)]
    exact h.kn q later
theorem ann_list {l : List Gl} (h : WF l) {q : Nat} (hq : (annF l q).2 = true) : (annF l q).1 ∈ listF l := by
  have : (annF l q).1 ∈ (listF l).filter (fun r => decide (r.nm = q)) := by rw [list_one h hq]; simp
  exact (List.mem_filter.1 this).1
theorem rgOk_rem {l M : List Gl} (h : RgOk l M) {q : Nat} (hq : (annF l q).2 = true) : RgOk (l ++ [⟨q, (annF l q).1.it, 0⟩]) (M ++ [(annF l q).1]) := by
  have hm := ann_list h.wf hq
  have hn := (ann_mem hq).2.1
  have hwf := rem_wf h.wf hq (annF l q).1.it
  have ha : addedF (l ++ [⟨q, (annF l q).1.it, 0⟩]) = addedF l := by rw [addedF_append]; simp
  have hl := list_rem l q (annF l q).1.it
  obtain ⟨g, hg⟩ : ∃ g : Gl, (annF l q).1 = g := ⟨_, rfl⟩
  rw [hg] at hm hn hwf ha hl ⊢
  obtain ⟨x, hx⟩ : ∃ x : Gl, (⟨q, g.it, 0⟩ : Gl) = x := ⟨_, rfl⟩
  have hxn : x.nm = q := by rw [← hx]
  have hxv : x.vr = 0 := by rw [← hx]
  rw [hx] at ha hl hwf ⊢
  have hsub : ∀ r ∈ (listF l).filter (fun r => !(decide (r.nm = q))) ++ (M ++ [g]), r ∈ listF l ++ M := by
    intro r hr
    rcases List.mem_append.1 hr with hr | hr
    · exact List.mem_append_left _ (List.mem_filter.1 hr).1
    · rcases List.mem_append.1 hr with hr | hr
      · exact List.mem_append_right _ hr
      · simp only [List.mem_singleton] at hr
        subst hr
        exact List.mem_append_left _ hm
  refine ⟨hwf, ?_, fun r hr => ?_, fun k later => ?_⟩
  · rw [hl, ← List.append_assoc]
    have hp : ((listF l).filter (fun r => !(decide (r.nm = q))) ++ M ++ [g]).Perm (g :: ((listF l).filter (fun r => !(decide (r.nm = q))) ++ M)) := List.perm_append_singleton _ _
    rw [(hp.map Gl.nm).nodup_iff, List.map_cons, List.nodup_cons]
    have hs : ((listF l).filter (fun r => !(decide (r.nm = q))) ++ M).Sublist (listF l ++ M) := List.Sublist.append List.filter_sublist (List.Sublist.refl _)
    refine ⟨fun hmm => ?_, h.nd.sublist (hs.map _)⟩
    obtain ⟨r, hr, e⟩ := List.mem_map.1 hmm
    rcases List.mem_append.1 hr with hr | hr
    · have h2 := (List.mem_filter.1 hr).2
      simp only [Bool.not_eq_true', decide_eq_false_iff_not] at h2
      exact h2 (by omega)
    · have hnd := h.nd
      rw [List.map_append] at hnd
      exact (List.nodup_append.1 hnd).2.2 g.nm (List.mem_map_of_mem hm) r.nm (List.mem_map_of_mem hr) e.symm
  · rw [hl] at hr
    obtain ⟨h1, h2, h3, h4⟩ := h.ok r (hsub r hr)
    refine ⟨h1, h2, by omega, ?_⟩
    rw [fstF_append, h4]
    simp
  · rw [List.length_append, List.length_singleton, List.reverse_append, List.reverse_singleton, List.singleton_append]
    unfold knB scanM
    rw [getD_last, if_neg (by omega), knB_append _ _ _ _ (Nat.le_refl _), h.kn, hxn, hn]
    by_cases hc : q ≠ k ∨ 16 < later + 1
    · rw [if_pos hc, if_pos hc]
    · rw [if_neg hc, if_neg hc]
      have hqk : q = k := by
        apply Classical.byContradiction
        intro e
        exact hc (.inl e)
      have hf := (h.ok g (List.mem_append_left _ hm)).2.2.2
      rw [hn, hqk] at hf
      rw [List.take_append_of_le_length (Nat.le_refl _), List.take_length, hf]
      simp

/-- what find gives over the announced ones -/
theorem fst_list {l M : List Gl} (h : RgOk l M) (q : Nat) : (fstF q (listF l)).2 = (annF l q).2 ∧ ((annF l q).2 = true → fstF q (listF l) = ((annF l q).1, true)) := by
  have hnd : ((listF l).map Gl.nm).Nodup := list_nodup h.wf
  cases hq : (annF l q).2 with
  | true =>
    have hm := fstF_of_mem hnd (ann_list h.wf hq)
    rw [(ann_mem hq).2.1] at hm
    exact ⟨by rw [hm], fun _ => hm⟩
  | false =>
    have h0 : fstF q (listF l) = (zeroG, false) := fstF_none (fun r hr e => by
      have h2 := (List.mem_filter.1 hr).2
      unfold listP at h2
      rw [e, hq] at h2
      simp at h2)
    exact ⟨by rw [h0], fun e => by cases e⟩
theorem known_eq {l M : List Gl} (h : RgOk l M) (q : Nat) : knownF l q = if (annF l q).2 = true then annF l q else fstF q (lastR M) := by
  unfold knownF
  by_cases hq : (annF l q).2 = true
  · rw [if_pos hq, if_pos hq]
  · rw [if_neg hq, if_neg hq, h.kn, scan_last q (nodup_right h.nd)]
theorem lastR_sub (M : List Gl) : ∀ r ∈ lastR M, r ∈ M := fun _ hr => (List.drop_sublist _ _).subset hr
/-- what was found is no zero Global -/
theorem found_ne {l M : List Gl} (h : RgOk l M) {q : Nat} {L : List Gl} (hL : ∀ r ∈ L, r ∈ listF l ++ M) : eqG (fstF q L).1 zeroG = !(fstF q L).2 := by
  cases hf : (fstF q L).2 with
  | true =>
    have h1 := (h.ok _ (hL _ (fstF_true hf).1)).2.1
    have hn : ¬ (fstF q L).1.nm = 0 := by omega
    simp [eqG, zeroG, hn]
  | false =>
    rw [(fstF_false hf).1]
    simp [eqG]
theorem del_list {l M : List Gl} (h : RgOk l M) {q : Nat} (hq : (annF l q).2 = true) : (listF l).filter (fun r => !eqG r (annF l q).1) = (listF l).filter (fun r => !(decide (r.nm = q))) := by
  refine filter_same fun r hr => ?_
  have hg := ann_list h.wf hq
  have hn := (ann_mem hq).2.1
  by_cases e : r.nm = q
  · have e1 := (h.ok r (List.mem_append_left _ hr)).2.2.2
    have e2 := (h.ok _ (List.mem_append_left _ hg)).2.2.2
    rw [hn] at e2
    rw [e, e2] at e1
    have : (annF l q).1 = r := by injection e1
    rw [this, (eqG_iff r r).2 rfl]
    simp [e]
  · have : eqG r (annF l q).1 = false := by
      rw [Bool.eq_false_iff]
      intro h2
      rw [eqG_iff] at h2
      exact e (by rw [h2, hn])
    rw [this]
    simp [e]
theorem lastR_app (M : List Gl) (g : Gl) : lastR (M ++ [g]) = (lastR M ++ [g]).drop ((lastR M ++ [g]).length - 16) := by
  unfold lastR
  simp only [List.length_append, List.length_drop, List.length_singleton]
  by_cases h : M.length ≤ 16
  · rw [show M.length - 16 = 0 by omega, List.drop_zero]
    congr 1
  · rw [show (M.drop (M.length - 16) ++ [g]) = (M ++ [g]).drop (M.length - 16) from (List.drop_append_of_le_length (by omega)).symm, List.drop_drop]
    congr 1
    omega
theorem lastR_len (M : List Gl) : (lastR M).length ≤ 16 := by
  unfold lastR
  rw [List.length_drop]
  omega

end Go.Proofs.YtcecicmihdcjgaaDoor
