/-
  The law StateClones: its walk.
-/
import Derived.Test.YthedglfocjljjaaGreatDoorExm
import Derived.Test.YthedglfocjljjaaGreatDoorSmt
import Derived.Test.YthedglfocjljjaaGreatDoorSrh
namespace Go.Proofs.YthedglfocjljjaaGreatDoor
open Go.RowKit

/-- a row of one's own whose cells are of some kind -/
def tyO (base : Nat) (e : TypeId) (size : Nat) (v : Value) (n : Nat) (Q : Nat → Value → Prop) : Ob :=
  ⟨fun W => ∃ xs, W.ownsRow base e size v n xs ∧ xs.length = n * size ∧ ∀ j u, xs[j]? = some u → Q j u, fun k => v.ownBlock = some k⟩
section
variable {w W : World} {l1 l2 : List Ob} {base n size g c : Nat} {e : TypeId} {v : Value} {Q : Nat → Value → Prop}
theorem tyO_keeps : (tyO base e size v n Q).Keeps := fun _ _ hz hb ⟨xs, h1, h2, h3⟩ => ⟨xs, rowO_keeps base e size v n xs _ _ hz hb h1, h2, h3⟩
theorem HO.typed {xs : List Value} (h : HO w W (l1 ++ rowO base e size v n xs :: l2)) (hl : xs.length = n * size) (hq : ∀ j u, xs[j]? = some u → Q j u) : HO w W (l1 ++ tyO base e size v n Q :: l2) :=
  h.turn (o := rowO base e size v n xs) (W' := W) ⟨rfl, rfl, rfl, Nat.le_refl _, fun _ _ _ => rfl⟩ (tyO base e size v n Q) ⟨xs, h.at, hl, hq⟩ tyO_keeps (fun _ hk => .inl hk) (fun k hk => (h.lt (rowO base e size v n xs) (by simp) k hk).2)
theorem HO.tat (h : HO w W (l1 ++ tyO base e size (.slice (some ⟨g, 0, none⟩) n c) n Q :: l2)) : (∀ j, j < n * size → ∃ u, W.cell? ⟨g, j, none⟩ = some u ∧ Q j u) ∧ (∀ i, W.frozen? ⟨g, i, none⟩ = false) ∧ g < W.heap.size := by
  obtain ⟨xs, h1, h2, h3⟩ := h.at
  refine ⟨fun j hj => ?_, fun i => h1.frozenAt i, (h1.lt g rfl).2⟩
  obtain ⟨u, hu⟩ : ∃ u, xs[j]? = some u := ⟨_, List.getElem?_eq_getElem (by omega)⟩
  exact ⟨u, by rw [h1.cellAt j hj]; exact hu, h3 j u hu⟩
theorem HO.tset (h : HO w W (l1 ++ tyO base e size (.slice (some ⟨g, 0, none⟩) n c) n Q :: l2)) {j : Nat} {u : Value} (hu : Q j u) : HO w (W.setCell ⟨g, j, none⟩ u) (l1 ++ tyO base e size (.slice (some ⟨g, 0, none⟩) n c) n Q :: l2) := by
  obtain ⟨xs, h1, h2, h3⟩ := h.at
  have hst := h1.stored j u
  have hg : W.grownBy (W.setCell ⟨g, j, none⟩ u) (some g) := hst.2
  refine h.turn (o := tyO base e size (.slice (some ⟨g, 0, none⟩) n c) n Q) (Turns.grown hg |> fun t => ⟨t.os, t.tape, t.output, t.size, fun k hk hS => t.block k hk (fun e => hS e)⟩) _ ⟨xs.set j u, hst.1, by rw [List.length_set]; exact h2, fun i x hx => ?_⟩ tyO_keeps (fun _ hk => .inl hk) (fun k hk => ?_)
  · by_cases hij : j = i
    · subst hij
      have hlt : j < xs.length := by
        have := (List.getElem?_eq_some_iff.1 hx).1
        rw [List.length_set] at this
        exact this
      rw [List.getElem?_set_self hlt] at hx
      injection hx with hx
      subst hx
      exact hu
    · rw [List.getElem?_set_ne hij] at hx
      exact h3 i x hx
  · injection hk with hk
    subst hk
    rw [World.size_setCell]
    exact (h1.lt g rfl).2
/-- a row that is not empty lies in a block -/
theorem ty_some (h : HO w W (l1 ++ tyO base e size v n Q :: l2)) {A : Option Addr} (hv : v = .slice A n c) (hn : 0 < n) : ∃ g, A = some ⟨g, 0, none⟩ := by
  obtain ⟨xs, h1, _, _⟩ := h.at
  rcases h1.2 with ⟨e, _⟩ | ⟨g, cap, cur, e, _⟩
  · rw [hv] at e
    injection e with _ e2 _
    omega
  · rw [hv] at e
    injection e with e1 _ _
    exact ⟨g, e1⟩
end
def isU8 (_ : Nat) (u : Value) : Prop := ∃ z, u = .int .u8 z
def isI (_ : Nat) (u : Value) : Prop := ∃ z, u = .int .i64 z
def isU (_ : Nat) (u : Value) : Prop := ∃ z, u = .int .u32 z
def isB (L : List Bv) (j : Nat) (u : Value) : Prop := if j % 3 = 2 then ∃ p, L[j / 3]? = some p ∧ u = p.2 else ∃ z, u = .int .i64 z
theorem is_flat : ∀ (l : List Px) (j : Nat) (u : Value), (flat l)[j]? = some u → isU8 j u := fun l j u h => by
  have hm := List.mem_of_getElem? h
  unfold flat at hm
  obtain ⟨p, _, hp⟩ := List.mem_flatMap.1 hm
  rcases List.mem_cons.1 hp with rfl | hp
  · exact ⟨_, rfl⟩
  rcases List.mem_cons.1 hp with rfl | hp
  · exact ⟨_, rfl⟩
  rcases List.mem_cons.1 hp with rfl | hp
  · exact ⟨_, rfl⟩
  rcases List.mem_cons.1 hp with rfl | hp
  · exact ⟨_, rfl⟩
  cases hp
theorem is_rflat : ∀ (l : List R) (j : Nat) (u : Value), (rflat l)[j]? = some u → isI j u := fun l j u h => by
  have hm := List.mem_of_getElem? h
  unfold rflat at hm
  obtain ⟨p, _, hp⟩ := List.mem_flatMap.1 hm
  rcases List.mem_cons.1 hp with rfl | hp
  · exact ⟨_, rfl⟩
  rcases List.mem_cons.1 hp with rfl | hp
  · exact ⟨_, rfl⟩
  rcases List.mem_cons.1 hp with rfl | hp
  · exact ⟨_, rfl⟩
  rcases List.mem_cons.1 hp with rfl | hp
  · exact ⟨_, rfl⟩
  cases hp
theorem is_uL : ∀ (l : List Nat) (j : Nat) (u : Value), (uL l)[j]? = some u → isU j u := fun l j u h => by
  have hm := List.mem_of_getElem? h
  obtain ⟨x, _, hx⟩ := List.mem_map.1 hm
  exact ⟨_, hx.symm⟩
theorem is_bfL (L : List Bv) : ∀ (j : Nat) (u : Value), (bfL L)[j]? = some u → isB L j u := fun j u h => by
  have hlt := (List.getElem?_eq_some_iff.1 h).1
  rw [bfL_len] at hlt
  obtain ⟨p, hp⟩ : ∃ p, L[j / 3]? = some p := ⟨_, List.getElem?_eq_getElem (by omega)⟩
  obtain ⟨e0, e1, e2⟩ := bfL_at L (j / 3) p hp
  unfold isB
  have hd := Nat.div_add_mod j 3
  have hm := Nat.mod_lt j (show 0 < 3 by omega)
  by_cases h2 : j % 3 = 2
  · rw [if_pos h2]
    rw [show j = j / 3 * 3 + 2 by omega, e2] at h
    injection h with h
    exact ⟨p, hp, h.symm⟩
  · rw [if_neg h2]
    by_cases h1 : j % 3 = 1
    · rw [show j = j / 3 * 3 + 1 by omega, e1] at h
      injection h with h
      exact ⟨_, h.symm⟩
    · rw [show j = j / 3 * 3 by omega, e0] at h
      injection h with h
      exact ⟨_, h.symm⟩
/-- the pixels of some buffers, as rows of bytes -/
def pxT (base : Nat) (L : List Bv) : List Ob := L.map fun p => tyO base 58 4 p.2 p.1.l.length isU8
theorem HO.typedP {w W : World} {base : Nat} : ∀ {L : List Bv} {l1 : List Ob}, HO w W (l1 ++ pxO base L) → HO w W (l1 ++ pxT base L)
  | [], _, h => h
  | p :: L, l1, h => by
    have h2 : HO w W (l1 ++ tyO base 58 4 p.2 p.1.l.length isU8 :: pxO base L) := HO.typed (show HO w W (l1 ++ rowO base 58 4 p.2 p.1.l.length (flat p.1.l) :: pxO base L) from h) (flat_length _) (is_flat _)
    have h3 := HO.typedP (L := L) (l1 := l1 ++ [tyO base 58 4 p.2 p.1.l.length isU8]) (by rw [List.append_assoc]; exact h2)
    rw [List.append_assoc] at h3
    exact h3
theorem pxT_split {base : Nat} {L : List Bv} {i : Nat} {p : Bv} (h : L[i]? = some p) : pxT base L = (pxT base L).take i ++ tyO base 58 4 p.2 p.1.l.length isU8 :: (pxT base L).drop (i + 1) := by
  have e : (pxT base L)[i]? = some (tyO base 58 4 p.2 p.1.l.length isU8) := by unfold pxT; rw [List.getElem?_map, h]; rfl
  have hlt2 := (List.getElem?_eq_some_iff.1 e).1
  have e2 := (List.getElem?_eq_some_iff.1 e).2
  rw [← e2, List.getElem_cons_drop, List.take_append_drop]
theorem HO.pxat {w W : World} {base : Nat} {L : List Bv} {i : Nat} {p : Bv} {l0 : List Ob} (hp : L[i]? = some p) (h : HO w W (l0 ++ pxT base L)) : HO w W ((l0 ++ (pxT base L).take i) ++ tyO base 58 4 p.2 p.1.l.length isU8 :: (pxT base L).drop (i + 1)) := by
  rw [List.append_assoc, ← pxT_split hp]
  exact h
theorem HO.pxback {w W : World} {base : Nat} {L : List Bv} {i : Nat} {p : Bv} {l0 : List Ob} (hp : L[i]? = some p) (h : HO w W ((l0 ++ (pxT base L).take i) ++ tyO base 58 4 p.2 p.1.l.length isU8 :: (pxT base L).drop (i + 1))) : HO w W (l0 ++ pxT base L) := by
  rw [List.append_assoc, ← pxT_split hp] at h
  exact h
theorem ty_shape {w W : World} {l1 l2 : List Ob} {base n size : Nat} {e : TypeId} {v : Value} {Q : Nat → Value → Prop} (h : HO w W (l1 ++ tyO base e size v n Q :: l2)) : ∃ A c, v = .slice A n c ∧ n ≤ c ∧ c ≤ maxLen := by
  obtain ⟨xs, h1, _, _⟩ := h.at
  rcases h1.2 with ⟨rfl, rfl⟩ | ⟨g, cap, cur, rfl, _, _, hn, hm, _⟩
  · exact ⟨none, 0, rfl, Nat.le_refl _, by simp [maxLen]⟩
  · exact ⟨_, cap, rfl, hn, hm⟩
/-- what a clone is, by the kinds of its cells -/
abbrev rowsT (base : Nat) (s : St) (L : List Bv) (vb vd vo vi vc : Value) : List Ob := [tyO base 50 1 vc s.cb.length isU, tyO base 53 4 vi s.ip.length isI, tyO base 53 4 vo s.op.length isI, tyO base 53 4 vd s.dm.length isI, tyO base 42 3 vb L.length (isB L)] ++ pxT base L
theorem HO.typedS {w W : World} {base : Nat} {s : St} {L : List Bv} {vb vd vo vi vc : Value} (h : HO w W (rowsO base s L vb vd vo vi vc)) : HO w W (rowsT base s L vb vd vo vi vc) := by
  have h1 := HO.typed (show HO w W ([] ++ rowO base 50 1 vc s.cb.length (uL s.cb) :: _) from h) (by simp) (is_uL _)
  have h2 := HO.typed (show HO w W ([_] ++ rowO base 53 4 vi s.ip.length (rflat s.ip) :: _) from h1) (rflat_length _) (is_rflat _)
  have h3 := HO.typed (show HO w W ([_, _] ++ rowO base 53 4 vo s.op.length (rflat s.op) :: _) from h2) (rflat_length _) (is_rflat _)
  have h4 := HO.typed (show HO w W ([_, _, _] ++ rowO base 53 4 vd s.dm.length (rflat s.dm) :: _) from h3) (rflat_length _) (is_rflat _)
  have h5 := HO.typed (show HO w W ([_, _, _, _] ++ rowO base 42 3 vb L.length (bfL L) :: _) from h4) (bfL_len _) (is_bfL L)
  exact HO.typedP (l1 := [_, _, _, _, _]) h5
set_option maxRecDepth 100000 in
set_option maxHeartbeats 16000000 in
theorem clones_walk {w : World} (T : Trf.Tab w) {s : St} {L : List Bv} {vb vd vo vi vc : Value} (h : StAt w s L vb vd vo vi vc) :
    Calls Tryz.prog 9 #[stV s vb vd vo vi vc] w fun e w' => e = .returned (.bool true) ∧ Below w.heap.size w w' := by
  obtain ⟨A1, c1, rfl, h11, h21⟩ := h.bf.shape
  obtain ⟨Ad1, cd1, rfl, hd11, hd21⟩ := h.dm.shape
  obtain ⟨Ao1, co1, rfl, ho11, ho21⟩ := h.op.shape
  obtain ⟨Ai1, ci1, rfl, hi11, hi21⟩ := h.ip.shape
  obtain ⟨Ac1, cc1, rfl, hc11, hc21⟩ := h.cb.shape
  have HS := Lib.hid h
  have HT := Lib.hid T
  have CL := fun (W : World) (h : StAt W s L (.slice A1 L.length c1) (.slice Ad1 s.dm.length cd1) (.slice Ao1 s.op.length co1) (.slice Ai1 s.ip.length ci1) (.slice Ac1 s.cb.length cc1)) => Lib.hid (light_any h)
  have CE := fun (W : World) (T : Trf.Tab W) => Lib.hid (ex_any T)
  have J := Lib.hid ((HO.nil w).alloc (stC s (.slice A1 L.length c1) (.slice Ad1 s.dm.length cd1) (.slice Ao1 s.op.length co1) (.slice Ai1 s.ip.length ci1) (.slice Ac1 s.cb.length cc1)) 28)
  have hb := J.out.below
  replace HS := Lib.hid (HS.out.below hb)
  replace HT := Lib.hid (HT.out.below hb)
  clear h T hb
  cases hl : lightB s with
  | false =>
    rw [hl] at CL
    clear hl
    go_enter Tryz.func9, Tryz.ntmps9
    obtain ⟨q1_0, q1_1, q1_2, q1_3, q1_4, q1_5, q1_6, q1_7, q1_8, q1_9, q1_10, q1_f, q1_l⟩ := (show HO w _ ([] ++ boxO w.heap.size [_, _, _, _, _, _, _, _, _, _, _] :: _) from J.out).c11
    go_wp2_with fail
    refine (CL _ HS.out).out.mono ?_
    rintro e v2 ⟨rfl, hb⟩
    replace J := Lib.hid (J.out.step hb)
    replace HS := Lib.hid (HS.out.below hb)
    replace HT := Lib.hid (HT.out.below hb)
    clear hb
    clear q1_0 q1_1 q1_2 q1_3 q1_4 q1_5 q1_6 q1_7 q1_8 q1_9 q1_10 q1_f q1_l
    obtain ⟨q3_0, q3_1, q3_2, q3_3, q3_4, q3_5, q3_6, q3_7, q3_8, q3_9, q3_10, q3_f, q3_l⟩ := (show HO w _ ([] ++ boxO w.heap.size [_, _, _, _, _, _, _, _, _, _, _] :: _) from J.out).c11
    go_wp2_with fail
    refine (CE _ HT.out).out.mono ?_
    rintro e v4 ⟨rfl, hb⟩
    replace J := Lib.hid (J.out.step hb)
    replace HS := Lib.hid (HS.out.below hb)
    replace HT := Lib.hid (HT.out.below hb)
    clear hb
    clear q3_0 q3_1 q3_2 q3_3 q3_4 q3_5 q3_6 q3_7 q3_8 q3_9 q3_10 q3_f q3_l
    go_wp2_with fail
    go_ret
    exact ⟨rfl, J.out.below⟩
  | true =>
    rw [hl] at CL
    have hf := light_few hl
    have RC := fun (W : World) (h : StAt W s L (.slice A1 L.length c1) (.slice Ad1 s.dm.length cd1) (.slice Ao1 s.op.length co1) (.slice Ai1 s.ip.length ci1) (.slice Ac1 s.cb.length cc1)) => Lib.hid (rclone_any h (by rw [← h.len]; exact hf.bf) (fun q hq => hf.px _ (by rw [← h.eq]; exact List.mem_map_of_mem hq)) (Nat.le_trans hf.dm (by decide)) (Nat.le_trans hf.op (by decide)) (Nat.le_trans hf.ip (by decide)) hf.cb)
    have CC := fun (W : World) (h : StAt W s L (.slice A1 L.length c1) (.slice Ad1 s.dm.length cd1) (.slice Ao1 s.op.length co1) (.slice Ai1 s.ip.length ci1) (.slice Ac1 s.cb.length cc1)) => Lib.hid (clone_any h (by rw [← h.len]; exact hf.bf) (fun q hq => hf.px _ (by rw [← h.eq]; exact List.mem_map_of_mem hq)) (Nat.le_trans hf.dm (by decide)) (Nat.le_trans hf.op (by decide)) (Nat.le_trans hf.ip (by decide)) hf.cb)
    unfold ClO at RC CC
    clear hl hf
    go_enter Tryz.func9, Tryz.ntmps9
    obtain ⟨q1_0, q1_1, q1_2, q1_3, q1_4, q1_5, q1_6, q1_7, q1_8, q1_9, q1_10, q1_f, q1_l⟩ := (show HO w _ ([] ++ boxO w.heap.size [_, _, _, _, _, _, _, _, _, _, _] :: _) from J.out).c11
    go_wp2_with fail
    refine (CL _ HS.out).out.mono ?_
    rintro e v2 ⟨rfl, hb⟩
    replace J := Lib.hid (J.out.step hb)
    replace HS := Lib.hid (HS.out.below hb)
    replace HT := Lib.hid (HT.out.below hb)
    clear hb CL
    clear q1_0 q1_1 q1_2 q1_3 q1_4 q1_5 q1_6 q1_7 q1_8 q1_9 q1_10 q1_f q1_l
    obtain ⟨q3_0, q3_1, q3_2, q3_3, q3_4, q3_5, q3_6, q3_7, q3_8, q3_9, q3_10, q3_f, q3_l⟩ := (show HO w _ ([] ++ boxO w.heap.size [_, _, _, _, _, _, _, _, _, _, _] :: _) from J.out).c11
    go_wp2_with fail
    refine (RC _ HS.out).out.mono ?_
    rintro e v4 ⟨L3, vb3, vd3, vo3, vi3, vc3, rfl, hL, hho⟩
    have hb := hho.below
    have HB := Lib.hid (clo_st hL (HS.out.below hb).eq hho)
    obtain ⟨A3, c3, g1, -, -⟩ := HB.out.bf.shape
    obtain ⟨Ad3, cd3, g2, -, -⟩ := HB.out.dm.shape
    obtain ⟨Ao3, co3, g3, -, -⟩ := HB.out.op.shape
    obtain ⟨Ai3, ci3, g4, -, -⟩ := HB.out.ip.shape
    obtain ⟨Ac3, cc3, g5, -, -⟩ := HB.out.cb.shape
    subst g1 g2 g3 g4 g5
    replace J := Lib.hid ((J.out.step hb).alloc (stC s (.slice A3 L3.length c3) (.slice Ad3 s.dm.length cd3) (.slice Ao3 s.op.length co3) (.slice Ai3 s.ip.length ci3) (.slice Ac3 s.cb.length cc3)) 28)
    replace HS := Lib.hid (HS.out.below hb)
    replace HT := Lib.hid (HT.out.below hb)
    have hb9 := (Below.refl v4.heap.size v4).alloc (Nat.le_refl _) (.cells ((stC s (.slice A3 L3.length c3) (.slice Ad3 s.dm.length cd3) (.slice Ao3 s.op.length co3) (.slice Ai3 s.ip.length ci3) (.slice Ac3 s.cb.length cc3))).toArray 28)
    replace HS := Lib.hid (HS.out.below hb9)
    replace HT := Lib.hid (HT.out.below hb9)
    replace HB := Lib.hid (HB.out.below hb9)
    clear hb hb9 hho hL RC
    clear q3_0 q3_1 q3_2 q3_3 q3_4 q3_5 q3_6 q3_7 q3_8 q3_9 q3_10 q3_f q3_l
    go_upto_region 4 with fail
    generalize v4.heap.size = k3 at *
    generalize v4.alloc (.cells #[.int .i64 s.set, .slice A3 L3.length c3, .int .i64 s.sc, .int .i64 s.tr, .slice Ad3 s.dm.length cd3, .slice Ao3 s.op.length co3, .bool s.is, .slice Ai3 s.ip.length ci3, .int .i64 s.dx, .int .i64 s.dy, .slice Ac3 s.cb.length cc3] 28) = v4 at *
    obtain ⟨q6_0, q6_1, q6_2, q6_3, q6_4, q6_5, q6_6, q6_7, q6_8, q6_9, q6_10, q6_f, q6_l⟩ := (show HO w _ ([_] ++ boxO w.heap.size [_, _, _, _, _, _, _, _, _, _, _] :: _) from J.out).c11
    go_wp2_with fail
    refine (CC _ HS.out).out.mono ?_
    rintro e v5 ⟨L4, vb4, vd4, vo4, vi4, vc4, rfl, hL, hho⟩
    have hst := clo_st hL HS.out.eq hho
    obtain ⟨A4, c4, g1, h14, h24⟩ := hst.bf.shape
    obtain ⟨Ad4, cd4, g2, hd14, hd24⟩ := hst.dm.shape
    obtain ⟨Ao4, co4, g3, ho14, ho24⟩ := hst.op.shape
    obtain ⟨Ai4, ci4, g4, hi14, hi24⟩ := hst.ip.shape
    obtain ⟨Ac4, cc4, g5, hc14, hc24⟩ := hst.cb.shape
    subst g1 g2 g3 g4 g5
    simp only [maxLen] at h24 hd24 ho24 hi24 hc24
    have JT := Lib.hid (hho.typedS.alloc (stC s (.slice A4 L4.length c4) (.slice Ad4 s.dm.length cd4) (.slice Ao4 s.op.length co4) (.slice Ai4 s.ip.length ci4) (.slice Ac4 s.cb.length cc4)) 28)
    clear hho hL hst CC
    clear q6_0 q6_1 q6_2 q6_3 q6_4 q6_5 q6_6 q6_7 q6_8 q6_9 q6_10 q6_f q6_l
    go_upto_region 5 with fail
    generalize v5.alloc (.cells #[.int .i64 s.set, .slice A4 L4.length c4, .int .i64 s.sc, .int .i64 s.tr, .slice Ad4 s.dm.length cd4, .slice Ao4 s.op.length co4, .bool s.is, .slice Ai4 s.ip.length ci4, .int .i64 s.dx, .int .i64 s.dy, .slice Ac4 s.cb.length cc4] 28) = v6 at *
    generalize v5.heap.size = k4 at *
    skip
    obtain ⟨b4, JT⟩ : ∃ b4, Hid (HO v4 v6 ([boxO k4 (stC s (.slice A4 L4.length c4) (.slice Ad4 s.dm.length cd4) (.slice Ao4 s.op.length co4) (.slice Ai4 s.ip.length ci4) (.slice Ac4 s.cb.length cc4)), tyO b4 50 1 (.slice Ac4 s.cb.length cc4) s.cb.length isU, tyO b4 53 4 (.slice Ai4 s.ip.length ci4) s.ip.length isI, tyO b4 53 4 (.slice Ao4 s.op.length co4) s.op.length isI, tyO b4 53 4 (.slice Ad4 s.dm.length cd4) s.dm.length isI, tyO b4 42 3 (.slice A4 L4.length c4) L4.length (isB L4)] ++ pxT b4 L4)) := ⟨_, JT⟩
    go_wp2_with fail
    go_loopw [5] (fun s5 wr => ∃ (i : Nat), i ≤ L4.length ∧ s5 = .int .i64 (i : Int) ∧ Hid (HO v4 wr ([boxO k4 (stC s (.slice A4 L4.length c4) (.slice Ad4 s.dm.length cd4) (.slice Ao4 s.op.length co4) (.slice Ai4 s.ip.length ci4) (.slice Ac4 s.cb.length cc4)), tyO b4 50 1 (.slice Ac4 s.cb.length cc4) s.cb.length isU, tyO b4 53 4 (.slice Ai4 s.ip.length ci4) s.ip.length isI, tyO b4 53 4 (.slice Ao4 s.op.length co4) s.op.length isI, tyO b4 53 4 (.slice Ad4 s.dm.length cd4) s.dm.length isI, tyO b4 42 3 (.slice A4 L4.length c4) L4.length (isB L4)] ++ pxT b4 L4))) (fun s5 _ => leftN L4.length s5)
    case atStart => exact ⟨0, Nat.zero_le _, rfl, JT⟩
    case round =>
      clear JT
      obtain ⟨i, hin, rfl, JT⟩ := hrel
      have m1 := (show HO v4 wr ([] ++ boxO k4 [_, _, _, _, _, _, _, _, _, _, _] :: _) from JT.out).c 1 rfl
      have m2 := (show HO v4 wr ([] ++ boxO k4 [_, _, _, _, _, _, _, _, _, _, _] :: _) from JT.out).f.2
      by_cases hlt : i < L4.length
      · have q0 : (0 : Int) ≤ i := by omega
        have q1 : (i : Int) < L4.length := by omega
        obtain ⟨p, hp⟩ : ∃ p, L4[i]? = some p := ⟨_, List.getElem?_eq_getElem hlt⟩
        obtain ⟨g4, hg4⟩ := ty_some (show HO v4 wr ([_, _, _, _, _] ++ _ :: _) from JT.out) rfl (by omega)
        subst hg4
        obtain ⟨Ap, cp, hpv, hpc, hpm⟩ := ty_shape (HO.pxat (l0 := [_, _, _, _, _, _]) hp JT.out)
        obtain ⟨⟨pa, pb, pl⟩, pv⟩ := p
        dsimp only at hpv hpc
        subst hpv
        simp only [maxLen] at hpm
        obtain ⟨np, hnp⟩ : ∃ np, pl.length = np := ⟨_, rfl⟩
        skip
        have hbc := fun (wr : World) (JT : Hid (HO v4 wr ([boxO k4 (stC s (.slice (some ⟨g4, 0, none⟩) L4.length c4) (.slice Ad4 s.dm.length cd4) (.slice Ao4 s.op.length co4) (.slice Ai4 s.ip.length ci4) (.slice Ac4 s.cb.length cc4)), tyO b4 50 1 (.slice Ac4 s.cb.length cc4) s.cb.length isU, tyO b4 53 4 (.slice Ai4 s.ip.length ci4) s.ip.length isI, tyO b4 53 4 (.slice Ao4 s.op.length co4) s.op.length isI, tyO b4 53 4 (.slice Ad4 s.dm.length cd4) s.dm.length isI, tyO b4 42 3 (.slice (some ⟨g4, 0, none⟩) L4.length c4) L4.length (isB L4)] ++ pxT b4 L4))) => Lib.hid (show (wr.cell? ⟨g4, i * 3 + 2, none⟩ = some (.slice Ap pl.length cp)) ∧ (∃ z, wr.cell? ⟨g4, i * 3, none⟩ = some z) ∧ (∀ k, wr.frozen? ⟨g4, k, none⟩ = false) ∧ g4 < wr.heap.size from by
          obtain ⟨t1, t2, t3⟩ := HO.tat (show HO v4 wr ([_, _, _, _, _] ++ _ :: _) from JT.out)
          obtain ⟨u, hu, hq⟩ := t1 (i * 3 + 2) (by omega)
          obtain ⟨u0, hu0, _⟩ := t1 (i * 3) (by omega)
          unfold isB at hq
          rw [if_pos (by omega), show (i * 3 + 2) / 3 = i by omega, hp] at hq
          obtain ⟨p9, e9, rfl⟩ := hq
          injection e9 with e9
          subst e9
          exact ⟨hu, ⟨_, hu0⟩, t2, t3⟩)
        go_wp2_with fail
        go_loopw [6] (fun s6 wr => ∃ (k : Nat), k ≤ pl.length ∧ s6 = .int .i64 (k : Int) ∧ Hid (HO v4 wr ([boxO k4 (stC s (.slice (some ⟨g4, 0, none⟩) L4.length c4) (.slice Ad4 s.dm.length cd4) (.slice Ao4 s.op.length co4) (.slice Ai4 s.ip.length ci4) (.slice Ac4 s.cb.length cc4)), tyO b4 50 1 (.slice Ac4 s.cb.length cc4) s.cb.length isU, tyO b4 53 4 (.slice Ai4 s.ip.length ci4) s.ip.length isI, tyO b4 53 4 (.slice Ao4 s.op.length co4) s.op.length isI, tyO b4 53 4 (.slice Ad4 s.dm.length cd4) s.dm.length isI, tyO b4 42 3 (.slice (some ⟨g4, 0, none⟩) L4.length c4) L4.length (isB L4)] ++ pxT b4 L4))) (fun s6 _ => leftN pl.length s6)
        case atStart => exact ⟨0, Nat.zero_le _, rfl, JT⟩
        case round =>
          clear JT m1 m2
          skip
          obtain ⟨k, hkn, rfl, JT⟩ := hrel
          have m1 := (show HO v4 wr ([] ++ boxO k4 [_, _, _, _, _, _, _, _, _, _, _] :: _) from JT.out).c 1 rfl
          have m2 := (show HO v4 wr ([] ++ boxO k4 [_, _, _, _, _, _, _, _, _, _, _] :: _) from JT.out).f.2
          obtain ⟨d1, ⟨z0, d2⟩, d3, d4⟩ := (hbc _ JT).out
          by_cases hlk : k < pl.length
          · have r0 : (0 : Int) ≤ k := by omega
            have r1 : (k : Int) < pl.length := by omega
            obtain ⟨gp, hgp⟩ := ty_some (HO.pxat (l0 := [_, _, _, _, _, _]) hp JT.out) rfl (by exact Nat.lt_of_le_of_lt (Nat.zero_le _) hlk)
            subst hgp
            obtain ⟨t1, t2, t3⟩ := HO.tat (HO.pxat (l0 := [_, _, _, _, _, _]) hp JT.out)
            obtain ⟨u, hu, ⟨z, rfl⟩⟩ := t1 (k * 4 + 3) (by show _ < pl.length * 4; omega)
            clear t1
            go_wp2_with fail
            go_roundw
            case rel => exact ⟨k + 1, by omega, by go_num, Lib.hid (HO.pxback (l0 := [_, _, _, _, _, _]) hp (HO.tset (HO.pxat (l0 := [_, _, _, _, _, _]) hp JT.out) ⟨_, rfl⟩))⟩
            case measure =>
              unfold leftN
              simp [RowKit.intOf]
              omega
          · obtain rfl : k = pl.length := by omega
            go_wp2_with fail
            go_roundw
            case rel => exact ⟨i + 1, by omega, by go_num, Lib.hid (HO.tset (show HO v4 wr ([_, _, _, _, _] ++ _ :: _) from JT.out) (by unfold isB; rw [if_neg (by omega)]; exact ⟨_, rfl⟩))⟩
            case measure =>
              unfold leftN
              simp [RowKit.intOf]
              omega
      · obtain rfl : i = L4.length := by omega
        skip
        go_wp2_with fail
        go_loopw [7] (fun s7 wr => ∃ (i : Nat), i ≤ s.dm.length ∧ s7 = .int .i64 (i : Int) ∧ Hid (HO v4 wr ([boxO k4 (stC s (.slice A4 L4.length c4) (.slice Ad4 s.dm.length cd4) (.slice Ao4 s.op.length co4) (.slice Ai4 s.ip.length ci4) (.slice Ac4 s.cb.length cc4)), tyO b4 50 1 (.slice Ac4 s.cb.length cc4) s.cb.length isU, tyO b4 53 4 (.slice Ai4 s.ip.length ci4) s.ip.length isI, tyO b4 53 4 (.slice Ao4 s.op.length co4) s.op.length isI, tyO b4 53 4 (.slice Ad4 s.dm.length cd4) s.dm.length isI, tyO b4 42 3 (.slice A4 L4.length c4) L4.length (isB L4)] ++ pxT b4 L4))) (fun s7 _ => leftN s.dm.length s7)
        case atStart => exact ⟨0, Nat.zero_le _, rfl, JT⟩
        case round =>
          clear JT m1 m2
          obtain ⟨i, hin, rfl, JT⟩ := hrel
          have m1 := (show HO v4 wr ([] ++ boxO k4 [_, _, _, _, _, _, _, _, _, _, _] :: _) from JT.out).c 4 rfl
          have m2 := (show HO v4 wr ([] ++ boxO k4 [_, _, _, _, _, _, _, _, _, _, _] :: _) from JT.out).f.2
          by_cases hlt : i < s.dm.length
          · have q0 : (0 : Int) ≤ i := by omega
            have q1 : (i : Int) < s.dm.length := by omega
            obtain ⟨g, hg⟩ := ty_some (show HO v4 wr ([_, _, _, _] ++ _ :: _) from JT.out) rfl (by omega)
            subst hg
            obtain ⟨t1, t2, t3⟩ := HO.tat (show HO v4 wr ([_, _, _, _] ++ _ :: _) from JT.out)
            obtain ⟨u, hu, ⟨z, rfl⟩⟩ := t1 (i * 4) (by omega)
            clear t1
            go_wp2_with fail
            go_roundw
            case rel => exact ⟨i + 1, by omega, by go_num, Lib.hid (HO.tset (show HO v4 wr ([_, _, _, _] ++ _ :: _) from JT.out) ⟨_, rfl⟩)⟩
            case measure =>
              unfold leftN
              simp [RowKit.intOf]
              omega
          · obtain rfl : i = s.dm.length := by omega
            go_wp2_with fail
            go_loopw [8] (fun s8 wr => ∃ (i : Nat), i ≤ s.op.length ∧ s8 = .int .i64 (i : Int) ∧ Hid (HO v4 wr ([boxO k4 (stC s (.slice A4 L4.length c4) (.slice Ad4 s.dm.length cd4) (.slice Ao4 s.op.length co4) (.slice Ai4 s.ip.length ci4) (.slice Ac4 s.cb.length cc4)), tyO b4 50 1 (.slice Ac4 s.cb.length cc4) s.cb.length isU, tyO b4 53 4 (.slice Ai4 s.ip.length ci4) s.ip.length isI, tyO b4 53 4 (.slice Ao4 s.op.length co4) s.op.length isI, tyO b4 53 4 (.slice Ad4 s.dm.length cd4) s.dm.length isI, tyO b4 42 3 (.slice A4 L4.length c4) L4.length (isB L4)] ++ pxT b4 L4))) (fun s8 _ => leftN s.op.length s8)
            case atStart => exact ⟨0, Nat.zero_le _, rfl, JT⟩
            case round =>
              clear JT m1 m2
              obtain ⟨i, hin, rfl, JT⟩ := hrel
              have m1 := (show HO v4 wr ([] ++ boxO k4 [_, _, _, _, _, _, _, _, _, _, _] :: _) from JT.out).c 5 rfl
              have m2 := (show HO v4 wr ([] ++ boxO k4 [_, _, _, _, _, _, _, _, _, _, _] :: _) from JT.out).f.2
              by_cases hlt : i < s.op.length
              · have q0 : (0 : Int) ≤ i := by omega
                have q1 : (i : Int) < s.op.length := by omega
                obtain ⟨g, hg⟩ := ty_some (show HO v4 wr ([_, _, _] ++ _ :: _) from JT.out) rfl (by omega)
                subst hg
                obtain ⟨t1, t2, t3⟩ := HO.tat (show HO v4 wr ([_, _, _] ++ _ :: _) from JT.out)
                obtain ⟨u, hu, ⟨z, rfl⟩⟩ := t1 (i * 4) (by omega)
                clear t1
                go_wp2_with fail
                go_roundw
                case rel => exact ⟨i + 1, by omega, by go_num, Lib.hid (HO.tset (show HO v4 wr ([_, _, _] ++ _ :: _) from JT.out) ⟨_, rfl⟩)⟩
                case measure =>
                  unfold leftN
                  simp [RowKit.intOf]
                  omega
              · obtain rfl : i = s.op.length := by omega
                go_wp2_with fail
                go_loopw [9] (fun s9 wr => ∃ (i : Nat), i ≤ s.ip.length ∧ s9 = .int .i64 (i : Int) ∧ Hid (HO v4 wr ([boxO k4 (stC s (.slice A4 L4.length c4) (.slice Ad4 s.dm.length cd4) (.slice Ao4 s.op.length co4) (.slice Ai4 s.ip.length ci4) (.slice Ac4 s.cb.length cc4)), tyO b4 50 1 (.slice Ac4 s.cb.length cc4) s.cb.length isU, tyO b4 53 4 (.slice Ai4 s.ip.length ci4) s.ip.length isI, tyO b4 53 4 (.slice Ao4 s.op.length co4) s.op.length isI, tyO b4 53 4 (.slice Ad4 s.dm.length cd4) s.dm.length isI, tyO b4 42 3 (.slice A4 L4.length c4) L4.length (isB L4)] ++ pxT b4 L4))) (fun s9 _ => leftN s.ip.length s9)
                case atStart => exact ⟨0, Nat.zero_le _, rfl, JT⟩
                case round =>
                  clear JT m1 m2
                  obtain ⟨i, hin, rfl, JT⟩ := hrel
                  have m1 := (show HO v4 wr ([] ++ boxO k4 [_, _, _, _, _, _, _, _, _, _, _] :: _) from JT.out).c 7 rfl
                  have m2 := (show HO v4 wr ([] ++ boxO k4 [_, _, _, _, _, _, _, _, _, _, _] :: _) from JT.out).f.2
                  by_cases hlt : i < s.ip.length
                  · have q0 : (0 : Int) ≤ i := by omega
                    have q1 : (i : Int) < s.ip.length := by omega
                    obtain ⟨g, hg⟩ := ty_some (show HO v4 wr ([_, _] ++ _ :: _) from JT.out) rfl (by omega)
                    subst hg
                    obtain ⟨t1, t2, t3⟩ := HO.tat (show HO v4 wr ([_, _] ++ _ :: _) from JT.out)
                    obtain ⟨u, hu, ⟨z, rfl⟩⟩ := t1 (i * 4) (by omega)
                    clear t1
                    go_wp2_with fail
                    go_roundw
                    case rel => exact ⟨i + 1, by omega, by go_num, Lib.hid (HO.tset (show HO v4 wr ([_, _] ++ _ :: _) from JT.out) ⟨_, rfl⟩)⟩
                    case measure =>
                      unfold leftN
                      simp [RowKit.intOf]
                      omega
                  · obtain rfl : i = s.ip.length := by omega
                    go_wp2_with fail
                    go_loopw [10] (fun s10 wr => ∃ (i : Nat), i ≤ s.cb.length ∧ s10 = .int .i64 (i : Int) ∧ Hid (HO v4 wr ([boxO k4 (stC s (.slice A4 L4.length c4) (.slice Ad4 s.dm.length cd4) (.slice Ao4 s.op.length co4) (.slice Ai4 s.ip.length ci4) (.slice Ac4 s.cb.length cc4)), tyO b4 50 1 (.slice Ac4 s.cb.length cc4) s.cb.length isU, tyO b4 53 4 (.slice Ai4 s.ip.length ci4) s.ip.length isI, tyO b4 53 4 (.slice Ao4 s.op.length co4) s.op.length isI, tyO b4 53 4 (.slice Ad4 s.dm.length cd4) s.dm.length isI, tyO b4 42 3 (.slice A4 L4.length c4) L4.length (isB L4)] ++ pxT b4 L4))) (fun s10 _ => leftN s.cb.length s10)
                    case atStart => exact ⟨0, Nat.zero_le _, rfl, JT⟩
                    case round =>
                      clear JT m1 m2
                      obtain ⟨i, hin, rfl, JT⟩ := hrel
                      have m1 := (show HO v4 wr ([] ++ boxO k4 [_, _, _, _, _, _, _, _, _, _, _] :: _) from JT.out).c 10 rfl
                      have m2 := (show HO v4 wr ([] ++ boxO k4 [_, _, _, _, _, _, _, _, _, _, _] :: _) from JT.out).f.2
                      by_cases hlt : i < s.cb.length
                      · have q0 : (0 : Int) ≤ i := by omega
                        have q1 : (i : Int) < s.cb.length := by omega
                        obtain ⟨g, hg⟩ := ty_some (show HO v4 wr ([_] ++ _ :: _) from JT.out) rfl (by omega)
                        subst hg
                        obtain ⟨t1, t2, t3⟩ := HO.tat (show HO v4 wr ([_] ++ _ :: _) from JT.out)
                        obtain ⟨u, hu, ⟨z, rfl⟩⟩ := t1 (i) (by omega)
                        clear t1
                        go_wp2_with fail
                        go_roundw
                        case rel => exact ⟨i + 1, by omega, by go_num, Lib.hid (HO.tset (show HO v4 wr ([_] ++ _ :: _) from JT.out) ⟨_, rfl⟩)⟩
                        case measure =>
                          unfold leftN
                          simp [RowKit.intOf]
                          omega
                      · obtain rfl : i = s.cb.length := by omega
                        have hbb := JT.out.below
                        replace HS := Lib.hid (HS.out.below hbb)
                        replace HT := Lib.hid (HT.out.below hbb)
                        replace HB := Lib.hid (HB.out.below hbb)
                        replace J := Lib.hid (J.out.step hbb)
                        clear hbb JT
                        have CS := Lib.hid (rsame_any HS.out HB.out)
                        obtain ⟨q7_0, q7_1, q7_2, q7_3, q7_4, q7_5, q7_6, q7_7, q7_8, q7_9, q7_10, q7_f, q7_l⟩ := (show HO w _ ([] ++ boxO k3 [_, _, _, _, _, _, _, _, _, _, _] :: _) from J.out).c11
                        obtain ⟨q8_0, q8_1, q8_2, q8_3, q8_4, q8_5, q8_6, q8_7, q8_8, q8_9, q8_10, q8_f, q8_l⟩ := (show HO w _ ([_] ++ boxO w.heap.size [_, _, _, _, _, _, _, _, _, _, _] :: _) from J.out).c11
                        go_wp2_with fail
                        refine (CS).out.mono ?_
                        rintro e v9 ⟨rfl, hb⟩
                        replace J := Lib.hid (J.out.step hb)
                        replace HT := Lib.hid (HT.out.below hb)
                        clear hb CS
                        clear q7_0 q7_1 q7_2 q7_3 q7_4 q7_5 q7_6 q7_7 q7_8 q7_9 q7_10 q7_f q7_l q8_0 q8_1 q8_2 q8_3 q8_4 q8_5 q8_6 q8_7 q8_8 q8_9 q8_10 q8_f q8_l
                        go_wp2_with fail
                        refine (CE _ HT.out).out.mono ?_
                        rintro e v10 ⟨rfl, hb⟩
                        replace J := Lib.hid (J.out.step hb)
                        replace HT := Lib.hid (HT.out.below hb)
                        clear hb
                        go_wp2_with fail
                        go_ret
                        exact ⟨rfl, J.out.below⟩

end Go.Proofs.YthedglfocjljjaaGreatDoor
