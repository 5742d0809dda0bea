/-
  Package registry: Add.
-/
import Derived.Test.YtcecicmihdcjgaaDoorPre
import Derived.Test.YtcecicmihdcjgaaDoorPtr
import Derived.Deep.CutRange
namespace Go.Proofs.YtcecicmihdcjgaaDoor
open Go.RowKit

/-- a call has ended in x; the registry holds l' -/
def TurnR (w0 W : World) (S : Nat → Prop) (rv : Value) (l' : List Gl) (x e : Ending) (w' : World) : Prop :=
  ∃ S', e = x ∧ R0 w0 w' rv l' S' ∧ (∀ k, S' k → S k ∨ W.heap.size ≤ k) ∧ Turns S W w'
theorem TurnR.of {w0 W W' : World} {l M : List Gl} {S : Nat → Prop} {p : Nat} {va vr vl : Value} {x : Ending} (hR : RgOk l M) (h : RM W S w0.heap.size W' [(p, regC p (addedF l) va vr vl)] va vr vl (listF l) (lastR M) l) :
    TurnR w0 W S (.pointer (some ⟨p, 0, none⟩)) l x x W' := by
  obtain ⟨S', h1, h2, h3⟩ := R0.leave hR h
  exact ⟨S', rfl, h1, h2, h3⟩

theorem RM.set3 {W0 : World} {S : Nat → Prop} {base : Nat} {W : World} {va vr vl x0 x1 x2 : Value} {A T l : List Gl} {l1 l2 : List (Nat × List Value)} {k : Nat} (h : RM W0 S base W (l1 ++ (k, [x0, x1, x2]) :: l2) va vr vl A T l) (y0 y1 y2 : Value) :
    RM W0 S base (((W.setCell ⟨k, 0, none⟩ y0).setCell ⟨k, 1, none⟩ y1).setCell ⟨k, 2, none⟩ y2) (l1 ++ (k, [y0, y1, y2]) :: l2) va vr vl A T l :=
  ((h.cell (i := 0) (by simp) y0).cell (i := 1) (by simp) y1).cell (i := 2) (by simp) y2
/-- what a region reads that appends a global to a row -/
abbrev adS (p i k : Nat) (v : Value) (g : Gl) (W : World) : Prop := W.cell? ⟨p, i, none⟩ = some v ∧ (W.cell? ⟨k, 0, none⟩ = some (.int .u32 (g.nm : Int)) ∧ W.cell? ⟨k, 1, none⟩ = some (.string g.it) ∧ W.cell? ⟨k, 2, none⟩ = some (.int .i64 g.vr))
section
variable {W0 : World} {S : Nat → Prop} {base : Nat} {W : World} {va vr vl x0 x1 x2 x3 x4 : Value} {A T l : List Gl} {k p : Nat} {g : Gl}
theorem ad_s1 (h : RM W0 S base W [(k, glC g), (p, [x0, x1, x2, x3, x4])] va vr vl A T l) : adS p 1 k x1 g W :=
  ⟨(show RM W0 S base W ([_] ++ (p, _) :: []) _ _ _ _ _ _ from h).five.2.1, let t := (show RM W0 S base W ([] ++ (k, _) :: [_]) _ _ _ _ _ _ from h).tri; ⟨t.1, t.2.1, t.2.2.1⟩⟩
theorem ad_s2 (h : RM W0 S base W [(k, glC g), (p, [x0, x1, x2, x3, x4])] va vr vl A T l) : adS p 2 k x2 g W :=
  ⟨(show RM W0 S base W ([_] ++ (p, _) :: []) _ _ _ _ _ _ from h).five.2.2.1, (ad_s1 h).2⟩
theorem ad_s3 (h : RM W0 S base W [(k, glC g), (p, [x0, x1, x2, x3, x4])] va vr vl A T l) : adS p 3 k x3 g W :=
  ⟨(show RM W0 S base W ([_] ++ (p, _) :: []) _ _ _ _ _ _ from h).five.2.2.2.1, (ad_s1 h).2⟩
/-- a cell of the struct, behind the box -/
theorem RM.put {vs : List Value} (h : RM W0 S base W [(k, vs), (p, [x0, x1, x2, x3, x4])] va vr vl A T l) {i : Nat} (hi : i < 5) (u : Value) : RM W0 S base (W.setCell ⟨p, i, none⟩ u) [(k, vs), (p, [x0, x1, x2, x3, x4].set i u)] va vr vl A T l :=
  (show RM W0 S base W ([(k, vs)] ++ (p, [x0, x1, x2, x3, x4]) :: []) _ _ _ _ _ _ from h).cell (i := i) (by simpa using hi) u
end
theorem nmI_sz : ∀ j, j < 15 → (nmI j).size ≤ 20 := by decide +kernel
theorem TurnR.mk' {w0 W W' : World} {l M A T : List Gl} {c : Nat} {S : Nat → Prop} {p : Nat} {va vr vl : Value} {x : Ending} (hR : RgOk l M) (hc : addedF l = c) (hA : listF l = A) (hT : lastR M = T) (h : RM W S w0.heap.size W' [(p, regC p c va vr vl)] va vr vl A T l) :
    TurnR w0 W S (.pointer (some ⟨p, 0, none⟩)) l x x W' := by
  subst hc hA hT
  exact TurnR.of hR h
set_option maxRecDepth 100000 in
set_option maxHeartbeats 8000000 in
theorem p_add_any {w0 W : World} (T : Tab W) {rv : Value} {l : List Gl} {S : Nat → Prop} (R : R0 w0 W rv l S) (hl : l.length ≤ 1000) (s : ByteArray) (v : Int) :
    Calls Tryd.prog 12 #[rv, .string s, .int .i64 v] W (TurnR w0 W S rv (addF l s v).1 (.returned (.tuple #[.int .u32 ((addF l s v).2.1 : Int), .int .i64 (addF l s v).2.2]))) := by
  obtain ⟨p, va, vr, vl, M, rfl, hR, J0, hz⟩ := R.enter
  have J := Lib.hid J0
  have HR := Lib.hid hR
  obtain ⟨x0, x1, x2, x3, x4, xf, xl⟩ := (show RM W S _ W ([] ++ (p, _) :: []) _ _ _ _ _ _ from J0).five
  have C := Lib.hid (p_created_own x4)
  have V := Lib.hid (p_version_any T s)
  have hal : addedF l ≤ 1000 := Nat.le_trans (addedF_le l) hl
  have hll : (listF l).length ≤ 1000 := Nat.le_trans (List.length_filter_le _ _) hl
  obtain ⟨A, ca, rfl, hca, hma⟩ := J0.rb.oa.gs.shape
  obtain ⟨A', cl, rfl, hcl, hml⟩ := J0.rb.ol.gs.shape
  have HL := Lib.hid hl
  have HLL := Lib.hid hll
  have HV := fun (h : ¬ verT s = 0) => Lib.hid (show s.size ≤ 1000000 from by
    apply Classical.byContradiction
    intro hs
    exact h (ver_miss s (fun j hj e => hs (by rw [← e]; exact Nat.le_trans (nmI_sz j hj) (by decide)))))
  unfold addF
  obtain ⟨gr, hgr⟩ : ∃ gr, verT s = gr := ⟨_, rfl⟩
  rw [hgr] at V HV ⊢
  have K := Lib.hid (p_supp_any v gr)
  clear R J0 hR T hl
  by_cases h1 : gr = 0
  · rw [if_pos h1]
    subst h1
    clear hgr
    go_enter Tryd.func12, Tryd.ntmps12
    go_wp2_with fail
    refine C.out.mono ?_
    rintro e w1 ⟨rfl, rfl⟩
    clear C
    go_wp2_with fail
    refine V.out.mono ?_
    rintro e w1 ⟨rfl, hb⟩
    have J1 := Lib.hid (J.out.step hb)
    clear V hb
    go_wp2_with fail
    exact bodyPost_ret (v := .tuple #[.int .u32 0, .int .i64 8]) (by simp [results, Tryd.results12, go_sem]) rfl (TurnR.of HR.out J1.out)
  rw [if_neg h1]
  have HS := HV h1
  have e1 : (gr == 0) = false := beq_eq_false_iff_ne.2 h1
  by_cases h2 : v < 1 ∨ gr < v
  · rw [if_pos h2]
    have e2 : decide (1 ≤ v ∧ v ≤ gr) = false := decide_eq_false (by omega)
    rw [e2] at K
    clear h2 e2
    go_enter Tryd.func12, Tryd.ntmps12
    go_wp2_with fail
    refine C.out.mono ?_
    rintro e w1 ⟨rfl, rfl⟩
    clear C
    go_wp2_with fail
    refine V.out.mono ?_
    rintro e w1 ⟨rfl, hb⟩
    have J1 := Lib.hid (J.out.step hb)
    clear V hb
    go_wp2_with fail
    refine (K.out _).mono ?_
    rintro e w2 ⟨rfl, rfl⟩
    go_wp2_with fail
    exact bodyPost_ret (v := .tuple #[.int .u32 0, .int .i64 11]) (by simp [results, Tryd.results12, go_sem]) rfl (TurnR.of HR.out J1.out)
  rw [if_neg h2]
  have e2 : decide (1 ≤ v ∧ v ≤ gr) = true := decide_eq_true (by omega)
  rw [e2] at K
  have HV0 : Hid (0 < v) := Lib.hid (by omega)
  obtain ⟨n, hn⟩ : ∃ n, (listF l).length = n := ⟨_, rfl⟩
  have HN := Lib.hid hn
  rw [hn] at hca x1 J hll ⊢
  by_cases h3 : 64 ≤ n
  · rw [if_pos h3]
    have q3 : (64 : Int) ≤ n := by omega
    clear h2 e2
    go_enter Tryd.func12, Tryd.ntmps12
    go_wp2_with fail
    refine C.out.mono ?_
    rintro e w1 ⟨rfl, rfl⟩
    clear C
    go_wp2_with fail
    refine V.out.mono ?_
    rintro e w1 ⟨rfl, hb⟩
    have J1 := Lib.hid (J.out.step hb)
    obtain ⟨x0, x1, x2, x3, x4, xf, xl⟩ := (show RM _ S _ w1 ([] ++ (p, _) :: []) _ _ _ _ _ _ from J1.out).five
    clear V hb
    go_wp2_with fail
    refine (K.out _).mono ?_
    rintro e w2 ⟨rfl, rfl⟩
    go_wp2_with fail
    exact bodyPost_ret (v := .tuple #[.int .u32 0, .int .i64 5]) (by simp [results, Tryd.results12, go_sem]) rfl (TurnR.of HR.out J1.out)
  rw [if_neg h3]
  have q3 : ¬ (64 : Int) ≤ n := by omega
  obtain ⟨c, hc⟩ : ∃ c, addedF l = c := ⟨_, rfl⟩
  have HC := Lib.hid hc
  rw [hc] at x0 J hal ⊢
  obtain ⟨m, hm⟩ : ∃ m, l.length = m := ⟨_, rfl⟩
  have HM := Lib.hid hm
  rw [hm] at x3 J hcl
  obtain ⟨d, hd⟩ : ∃ d, c + 1 = d := ⟨_, rfl⟩
  rw [hd]
  have hdi : (c : Int) + 1 = (d : Int) := by omega
  have HD := Lib.hid hd
  clear h2 e2 h3 hc hn hgr hd hm
  go_enter Tryd.func12, Tryd.ntmps12
  go_wp2_with fail
  refine C.out.mono ?_
  rintro e w1 ⟨rfl, rfl⟩
  clear C
  go_wp2_with fail
  refine V.out.mono ?_
  rintro e w1 ⟨rfl, hb⟩
  replace J := Lib.hid (J.out.step hb)
  clear V hb x0 x1 x2 x3 x4 xf xl
  obtain ⟨x0, x1, x2, x3, x4, xf, xl⟩ := (show RM _ S _ w1 ([] ++ (p, _) :: []) _ _ _ _ _ _ from J.out).five
  go_wp2_with fail
  refine (K.out _).mono ?_
  rintro e w2 ⟨rfl, rfl⟩
  go_wp2_with fail
  have J1 := Lib.hid ((show RM W S _ w1 ([] ++ (p, _) :: []) _ _ _ _ _ _ from J.out).cell (i := 0) (by simp) (.int .u32 (d : Int)))
  clear x0 x1 x2 x3 x4 xf xl J
  generalize w1.setCell ⟨p, 0, none⟩ (.int .u32 (d : Int)) = W1 at *
  go_cut [9] from 37 to 44 (fun s9 wx => ∃ k, s9 = .pointer (some ⟨k, 0, none⟩) ∧ Hid (RM W S w0.heap.size wx [(k, glC ⟨d, s, v⟩), (p, regC p d (.slice A n ca) vr (.slice A' m cl))] (.slice A n ca) vr (.slice A' m cl) (listF l) (lastR M) l))
  case first =>
    have J0 := J1
    replace J1 := Lib.hid J1.out.drew
    have J2 := Lib.hid ((J0.out.alloc hz [.int .u32 0, .string ⟨#[]⟩, .int .i64 0] 49).drew)
    have sk := (show RM W S _ W1 ([] ++ (p, regC p d _ _ _) :: []) _ _ _ _ _ _ from J0.out).five.1
    have sj := (show RM W S _ _ ([_] ++ (p, regC p d _ _ _) :: []) _ _ _ _ _ _ from J2.out).five.1
    go_region_held3 (fun W => W.cell? ⟨p, 0, none⟩ = some (.int .u32 (d : Int)))
      (first
        | exact sk
        | exact sj
        | exact s3
        | go_keep)
      (first
        | (go_at_call 30; (with_reducible refine (p_strclone_any s W1.drew HS.out).mono ?_); rintro e wq ⟨rfl, hb2⟩; replace J1 := Lib.hid (J1.out.step hb2); clear sk hb2; have sk := (show RM W S _ wq ([] ++ (p, regC p d _ _ _) :: []) _ _ _ _ _ _ from J1.out).five.1)
        | (go_at_call 30; (with_reducible refine (p_strclone_any s _ HS.out).mono ?_); rintro e wq ⟨rfl, hb2⟩; replace J1 := Lib.hid (J2.out.step hb2); clear sk hb2; have sk := (show RM W S _ wq ([_] ++ (p, regC p d _ _ _) :: []) _ _ _ _ _ _ from J1.out).five.1; obtain ⟨z0, z1, z2, zf, zl⟩ := (show RM W S _ wq ([] ++ (W1.heap.size, [.int .u32 0, .string ⟨#[]⟩, .int .i64 0]) :: [_]) _ _ _ _ _ _ from J1.out).tri; have J3 := Lib.hid ((show RM W S _ wq ([] ++ (W1.heap.size, [.int .u32 0, .string ⟨#[]⟩, .int .i64 0]) :: [_]) _ _ _ _ _ _ from J1.out).set3 (.int .u32 (d : Int)) (.string s) (.int .i64 v)); have s3 := (show RM W S _ _ ([_] ++ (p, regC p d _ _ _) :: []) _ _ _ _ _ _ from J3.out).five.1)
        | fail)
    all_goals
      go_wp2_with fail
      go_meet
      case rel =>
        first
          | exact ⟨_, rfl, J3⟩
          | exact ⟨_, rfl, Lib.hid (J1.out.alloc hz [.int .u32 (d : Int), .string s, .int .i64 v] 49)⟩
  case rest =>
    obtain ⟨k, rfl, J⟩ := hcut
    clear J1
    go_upto_region 12 with fail
    go_cut [] from 45 to 54 (fun wx => ∃ Av cv, Hid (RM W S w0.heap.size wx [(k, glC ⟨d, s, v⟩), (p, regC p d (.slice Av (n + 1) cv) vr (.slice A' m cl))] (.slice Av (n + 1) cv) vr (.slice A' m cl) (listF l ++ [⟨d, s, v⟩]) (lastR M) l))
    case first =>
      replace J := Lib.hid J.out.drew
      have sk := (ad_s1 J.out).2
      refine wp_region_held_drew (S := (fun W => W.cell? ⟨k, 0, none⟩ = some (.int .u32 (d : Int)) ∧ W.cell? ⟨k, 1, none⟩ = some (.string s) ∧ W.cell? ⟨k, 2, none⟩ = some (.int .i64 v))) (by kernel_rfl) sk (fun hHeld => ?_)
      generalize wc.drew = u0 at *
      refine wpAnyH_take (i := 0) (oi := ({ dst := some 45, op := Go.Op.move (Go.Operand.tmp 0), type := 24, pos := "registry.go:52", after := #[], guard := none } : Oper)) (v := ?_) rfl (by kernel_rfl) (by kernel_rfl) (by kernel_rfl) (fun _ _ _ h => h) (Or.inl ⟨by kernel_rfl, ?_⟩) hHeld ?_
      rotate_left 1
      · (intro W hSw; (try dsimp only at hSw); go_simp; try with_reducible rfl)
      try simp only [Act.put, List.setIfInBounds_toArray, List.set_cons_zero, List.set_cons_succ]
      refine wpAnyH_take (i := 1) (oi := ({ dst := some 46, op := Go.Op.move (Go.Operand.tmp 0), type := 24, pos := "registry.go:52", after := #[], guard := none } : Oper)) (v := ?_) rfl (by kernel_rfl) (by kernel_rfl) (by kernel_rfl) (fun _ _ _ h => h) (Or.inl ⟨by kernel_rfl, ?_⟩) hHeld ?_
      rotate_left 1
      · (intro W hSw; (try dsimp only at hSw); go_simp; try with_reducible rfl)
      try simp only [Act.put, List.setIfInBounds_toArray, List.set_cons_zero, List.set_cons_succ]
      refine wpAnyH_take (i := 2) (oi := ({ dst := some 47, op := Go.Op.nilCheck (Go.Operand.tmp 46), type := 0, pos := "registry.go:52", after := #[{ on := 1, ground := Go.Ground.data }], guard := none } : Oper)) (v := ?_) rfl (by kernel_rfl) (by kernel_rfl) (by kernel_rfl) (fun _ _ _ h => h) (Or.inl ⟨by kernel_rfl, ?_⟩) hHeld ?_
      rotate_left 1
      · (intro W hSw; (try dsimp only at hSw); go_simp; try with_reducible rfl)
      try simp only [Act.put, List.setIfInBounds_toArray, List.set_cons_zero, List.set_cons_succ]
      refine wpAnyH_take (i := 3) (oi := ({ dst := some 48, op := Go.Op.fieldAddr 60 (Go.Operand.tmp 47) 1, type := 0, pos := "registry.go:52", after := #[{ on := 2, ground := Go.Ground.data }], guard := none } : Oper)) (v := ?_) rfl (by kernel_rfl) (by kernel_rfl) (by kernel_rfl) (fun _ _ _ h => h) (Or.inl ⟨by kernel_rfl, ?_⟩) hHeld ?_
      rotate_left 1
      · (intro W hSw; (try dsimp only at hSw); go_simp; try with_reducible rfl)
      try simp only [Act.put, List.setIfInBounds_toArray, List.set_cons_zero, List.set_cons_succ]
      refine wpAnyH_take (i := 5) (oi := ({ dst := some 50, op := Go.Op.load 49 (Go.Operand.tmp 9), type := 49, pos := "registry.go:52", after := #[], guard := none } : Oper)) (v := ?_) rfl (by kernel_rfl) (by kernel_rfl) (by kernel_rfl) (fun _ _ _ h => h) (Or.inl ⟨by kernel_rfl, ?_⟩) hHeld ?_
      rotate_left 1
      · (intro W hSw; (try dsimp only at hSw); go_simp; try with_reducible rfl)
      try simp only [Act.put, List.setIfInBounds_toArray, List.set_cons_zero, List.set_cons_succ]
      refine wpAnyH_ready (rs := [4, 6]) (by kernel_rfl) (by simp) (AllReadyH.cons (o := ({ dst := some 49, op := Go.Op.load 26 (Go.Operand.tmp 48), type := 26, pos := "registry.go:52", after := #[{ on := 3, ground := Go.Ground.data }], guard := none } : Oper)) rfl (fun K hK => ?_) (AllReadyH.cons (o := ({ dst := some 51, op := Go.Op.buildSlice 26 1 #[(0, Go.Operand.tmp 50)], type := 26, pos := "registry.go:52", after := #[{ on := 5, ground := Go.Ground.data }], guard := none } : Oper)) rfl (fun K hK => ?_) AllReadyH.nil))
      · obtain ⟨m0, m1, m2, m3, m4, mf, ml⟩ := (show RM _ S _ u0 ([_] ++ (p, _) :: []) _ _ _ _ _ _ from J.out).five
        go_simp
        clear m0 m1 m2 m3 m4 mf ml
        refine hK.out _ _ sk (fun hHeld2 => ?_)
        clear hK K hHeld
        have hHeld := hHeld2
        clear hHeld2
        try simp only [Act.put, List.setIfInBounds_toArray, List.set_cons_zero, List.set_cons_succ]
        refine wpAnyH_ready (rs := [6]) (by kernel_rfl) (by simp) (AllReadyH.cons (o := ({ dst := some 51, op := Go.Op.buildSlice 26 1 #[(0, Go.Operand.tmp 50)], type := 26, pos := "registry.go:52", after := #[{ on := 5, ground := Go.Ground.data }], guard := none } : Oper)) rfl (fun K hK => ?_) AllReadyH.nil)
        go_simp
        replace J := Lib.hid (J.out.made (.cells #[.int .u32 (d : Int), .string s, .int .i64 v] 49))
        have P1 := Lib.hid (gs_one u0 ⟨d, s, v⟩)
        generalize u0.alloc (.cells #[.int .u32 (d : Int), .string s, .int .i64 v] 49) = u1 at *
        generalize u0.heap.size = kb at *
        (try clear sk)
        have sk := (ad_s1 J.out).2
        refine hK.out _ _ sk (fun hHeld2 => ?_)
        clear hK K hHeld
        have hHeld := hHeld2
        clear hHeld2
        try simp only [Act.put, List.setIfInBounds_toArray, List.set_cons_zero, List.set_cons_succ]
        refine wpAnyH_ready (rs := [7]) (by kernel_rfl) (by simp) (AllReadyH.cons (o := ({ dst := some 52, op := Go.Op.call { callee := Go.Callee.builtin Go.Builtin.append, args := #[Go.Operand.tmp 49, Go.Operand.tmp 51], argTypes := #[26, 26] }, type := 26, pos := "registry.go:52", after := #[{ on := 4, ground := Go.Ground.data }, { on := 6, ground := Go.Ground.data }], guard := none } : Oper)) rfl (fun K hK => ?_) AllReadyH.nil)
        refine step_appG (by rfl) _ _ (by rfl) (base := w0.heap.size) (l := listF l) (m := [⟨d, s, v⟩]) (by rfl) (by exact J.out.rb.oa) (by rfl) (by exact P1.out) (by have := HLL.out; simp; omega) (by have := J.out.turn.size; omega) ?_
        intro v6 u2 ho6 hg6 hw6
        replace J := Lib.hid (J.out.setA ho6 hg6 hw6)
        obtain ⟨A6, c6, hv6, -, -⟩ := ho6.gs.shape
        rw [List.length_append, HN.out, List.length_singleton] at hv6
        subst hv6
        clear ho6 hg6 hw6
        (try clear sk)
        have sk := (ad_s1 J.out).2
        refine hK.out _ _ sk (fun hHeld2 => ?_)
        clear hK K hHeld
        have hHeld := hHeld2
        clear hHeld2
        try simp only [Act.put, List.setIfInBounds_toArray, List.set_cons_zero, List.set_cons_succ]
        refine wpAnyH_take (i := 8) (oi := ({ dst := some 53, op := Go.Op.nilCheck (Go.Operand.tmp 45), type := 0, pos := "registry.go:52", after := #[{ on := 0, ground := Go.Ground.data }, { on := 0, ground := Go.Ground.phase }, { on := 1, ground := Go.Ground.phase }, { on := 2, ground := Go.Ground.phase }, { on := 3, ground := Go.Ground.phase }, { on := 4, ground := Go.Ground.phase }, { on := 5, ground := Go.Ground.phase }, { on := 6, ground := Go.Ground.phase }, { on := 7, ground := Go.Ground.phase }], guard := none } : Oper)) (v := ?_) rfl (by kernel_rfl) (by kernel_rfl) (by kernel_rfl) (fun _ _ _ h => h) (Or.inl ⟨by kernel_rfl, ?_⟩) hHeld ?_
        rotate_left 1
        · (intro W hSw; (try dsimp only at hSw); go_simp; try with_reducible rfl)
        try simp only [Act.put, List.setIfInBounds_toArray, List.set_cons_zero, List.set_cons_succ]
        refine wpAnyH_take (i := 9) (oi := ({ dst := some 54, op := Go.Op.fieldAddr 60 (Go.Operand.tmp 53) 1, type := 0, pos := "registry.go:52", after := #[{ on := 8, ground := Go.Ground.data }, { on := 0, ground := Go.Ground.phase }, { on := 1, ground := Go.Ground.phase }, { on := 2, ground := Go.Ground.phase }, { on := 3, ground := Go.Ground.phase }, { on := 4, ground := Go.Ground.phase }, { on := 5, ground := Go.Ground.phase }, { on := 6, ground := Go.Ground.phase }, { on := 7, ground := Go.Ground.phase }], guard := none } : Oper)) (v := ?_) rfl (by kernel_rfl) (by kernel_rfl) (by kernel_rfl) (fun _ _ _ h => h) (Or.inl ⟨by kernel_rfl, ?_⟩) hHeld ?_
        rotate_left 1
        · (intro W hSw; (try dsimp only at hSw); go_simp; try with_reducible rfl)
        try simp only [Act.put, List.setIfInBounds_toArray, List.set_cons_zero, List.set_cons_succ]
        refine wpAnyH_ready (rs := [10]) (by kernel_rfl) (by simp) (AllReadyH.cons (o := ({ dst := none, op := Go.Op.store 26 (Go.Operand.tmp 54) (Go.Operand.tmp 52), type := 0, pos := "registry.go:52", after := #[{ on := 9, ground := Go.Ground.data }, { on := 7, ground := Go.Ground.data }, { on := 7, ground := Go.Ground.chain }, { on := 0, ground := Go.Ground.phase }, { on := 1, ground := Go.Ground.phase }, { on := 2, ground := Go.Ground.phase }, { on := 3, ground := Go.Ground.phase }, { on := 4, ground := Go.Ground.phase }, { on := 5, ground := Go.Ground.phase }, { on := 6, ground := Go.Ground.phase }, { on := 7, ground := Go.Ground.phase }], guard := none } : Oper)) rfl (fun K hK => ?_) AllReadyH.nil)
        obtain ⟨z0, z1, z2, z3, z4, zf, zl⟩ := (show RM _ S _ u2 ([_] ++ (p, _) :: []) _ _ _ _ _ _ from J.out).five
        go_simp
        have Z := Lib.hid (J.out.put (i := 1) (by decide) (.slice A6 (n + 1) c6))
        clear z0 z1 z2 z3 z4 zf zl
        replace J := Z
        (try clear sk)
        have sk := (ad_s1 J.out).2
        refine hK.out _ _ sk (fun hHeld2 => ?_)
        clear hK K hHeld
        have hHeld := hHeld2
        clear hHeld2
        try simp only [Act.put, List.setIfInBounds_toArray, List.set_cons_zero, List.set_cons_succ]
        refine wpAnyH_done (by kernel_rfl) ?_ _
        go_wp2_with fail
        go_meet
        case rel => exact ⟨A6, c6, Z⟩
      · go_simp
        replace J := Lib.hid (J.out.made (.cells #[.int .u32 (d : Int), .string s, .int .i64 v] 49))
        have P1 := Lib.hid (gs_one u0 ⟨d, s, v⟩)
        generalize u0.alloc (.cells #[.int .u32 (d : Int), .string s, .int .i64 v] 49) = u1 at *
        generalize u0.heap.size = kb at *
        (try clear sk)
        have sk := (ad_s1 J.out).2
        refine hK.out _ _ sk (fun hHeld2 => ?_)
        clear hK K hHeld
        have hHeld := hHeld2
        clear hHeld2
        try simp only [Act.put, List.setIfInBounds_toArray, List.set_cons_zero, List.set_cons_succ]
        refine wpAnyH_ready (rs := [4]) (by kernel_rfl) (by simp) (AllReadyH.cons (o := ({ dst := some 49, op := Go.Op.load 26 (Go.Operand.tmp 48), type := 26, pos := "registry.go:52", after := #[{ on := 3, ground := Go.Ground.data }], guard := none } : Oper)) rfl (fun K hK => ?_) AllReadyH.nil)
        obtain ⟨m0, m1, m2, m3, m4, mf, ml⟩ := (show RM _ S _ u1 ([_] ++ (p, _) :: []) _ _ _ _ _ _ from J.out).five
        go_simp
        clear m0 m1 m2 m3 m4 mf ml
        refine hK.out _ _ sk (fun hHeld2 => ?_)
        clear hK K hHeld
        have hHeld := hHeld2
        clear hHeld2
        try simp only [Act.put, List.setIfInBounds_toArray, List.set_cons_zero, List.set_cons_succ]
        refine wpAnyH_ready (rs := [7]) (by kernel_rfl) (by simp) (AllReadyH.cons (o := ({ dst := some 52, op := Go.Op.call { callee := Go.Callee.builtin Go.Builtin.append, args := #[Go.Operand.tmp 49, Go.Operand.tmp 51], argTypes := #[26, 26] }, type := 26, pos := "registry.go:52", after := #[{ on := 4, ground := Go.Ground.data }, { on := 6, ground := Go.Ground.data }], guard := none } : Oper)) rfl (fun K hK => ?_) AllReadyH.nil)
        refine step_appG (by rfl) _ _ (by rfl) (base := w0.heap.size) (l := listF l) (m := [⟨d, s, v⟩]) (by rfl) (by exact J.out.rb.oa) (by rfl) (by exact P1.out) (by have := HLL.out; simp; omega) (by have := J.out.turn.size; omega) ?_
        intro v6 u2 ho6 hg6 hw6
        replace J := Lib.hid (J.out.setA ho6 hg6 hw6)
        obtain ⟨A6, c6, hv6, -, -⟩ := ho6.gs.shape
        rw [List.length_append, HN.out, List.length_singleton] at hv6
        subst hv6
        clear ho6 hg6 hw6
        (try clear sk)
        have sk := (ad_s1 J.out).2
        refine hK.out _ _ sk (fun hHeld2 => ?_)
        clear hK K hHeld
        have hHeld := hHeld2
        clear hHeld2
        try simp only [Act.put, List.setIfInBounds_toArray, List.set_cons_zero, List.set_cons_succ]
        refine wpAnyH_take (i := 8) (oi := ({ dst := some 53, op := Go.Op.nilCheck (Go.Operand.tmp 45), type := 0, pos := "registry.go:52", after := #[{ on := 0, ground := Go.Ground.data }, { on := 0, ground := Go.Ground.phase }, { on := 1, ground := Go.Ground.phase }, { on := 2, ground := Go.Ground.phase }, { on := 3, ground := Go.Ground.phase }, { on := 4, ground := Go.Ground.phase }, { on := 5, ground := Go.Ground.phase }, { on := 6, ground := Go.Ground.phase }, { on := 7, ground := Go.Ground.phase }], guard := none } : Oper)) (v := ?_) rfl (by kernel_rfl) (by kernel_rfl) (by kernel_rfl) (fun _ _ _ h => h) (Or.inl ⟨by kernel_rfl, ?_⟩) hHeld ?_
        rotate_left 1
        · (intro W hSw; (try dsimp only at hSw); go_simp; try with_reducible rfl)
        try simp only [Act.put, List.setIfInBounds_toArray, List.set_cons_zero, List.set_cons_succ]
        refine wpAnyH_take (i := 9) (oi := ({ dst := some 54, op := Go.Op.fieldAddr 60 (Go.Operand.tmp 53) 1, type := 0, pos := "registry.go:52", after := #[{ on := 8, ground := Go.Ground.data }, { on := 0, ground := Go.Ground.phase }, { on := 1, ground := Go.Ground.phase }, { on := 2, ground := Go.Ground.phase }, { on := 3, ground := Go.Ground.phase }, { on := 4, ground := Go.Ground.phase }, { on := 5, ground := Go.Ground.phase }, { on := 6, ground := Go.Ground.phase }, { on := 7, ground := Go.Ground.phase }], guard := none } : Oper)) (v := ?_) rfl (by kernel_rfl) (by kernel_rfl) (by kernel_rfl) (fun _ _ _ h => h) (Or.inl ⟨by kernel_rfl, ?_⟩) hHeld ?_
        rotate_left 1
        · (intro W hSw; (try dsimp only at hSw); go_simp; try with_reducible rfl)
        try simp only [Act.put, List.setIfInBounds_toArray, List.set_cons_zero, List.set_cons_succ]
        refine wpAnyH_ready (rs := [10]) (by kernel_rfl) (by simp) (AllReadyH.cons (o := ({ dst := none, op := Go.Op.store 26 (Go.Operand.tmp 54) (Go.Operand.tmp 52), type := 0, pos := "registry.go:52", after := #[{ on := 9, ground := Go.Ground.data }, { on := 7, ground := Go.Ground.data }, { on := 7, ground := Go.Ground.chain }, { on := 0, ground := Go.Ground.phase }, { on := 1, ground := Go.Ground.phase }, { on := 2, ground := Go.Ground.phase }, { on := 3, ground := Go.Ground.phase }, { on := 4, ground := Go.Ground.phase }, { on := 5, ground := Go.Ground.phase }, { on := 6, ground := Go.Ground.phase }, { on := 7, ground := Go.Ground.phase }], guard := none } : Oper)) rfl (fun K hK => ?_) AllReadyH.nil)
        obtain ⟨z0, z1, z2, z3, z4, zf, zl⟩ := (show RM _ S _ u2 ([_] ++ (p, _) :: []) _ _ _ _ _ _ from J.out).five
        go_simp
        have Z := Lib.hid (J.out.put (i := 1) (by decide) (.slice A6 (n + 1) c6))
        clear z0 z1 z2 z3 z4 zf zl
        replace J := Z
        (try clear sk)
        have sk := (ad_s1 J.out).2
        refine hK.out _ _ sk (fun hHeld2 => ?_)
        clear hK K hHeld
        have hHeld := hHeld2
        clear hHeld2
        try simp only [Act.put, List.setIfInBounds_toArray, List.set_cons_zero, List.set_cons_succ]
        refine wpAnyH_done (by kernel_rfl) ?_ _
        go_wp2_with fail
        go_meet
        case rel => exact ⟨A6, c6, Z⟩
    case rest =>
      obtain ⟨Av, cv, J1⟩ := hcut
      clear J
      go_upto_region 13 with fail
      go_cut [] from 55 to 64 (fun wx => ∃ Al el, Hid (RM W S w0.heap.size wx [(k, glC ⟨d, s, v⟩), (p, regC p d (.slice Av (n + 1) cv) vr (.slice Al (m + 1) el))] (.slice Av (n + 1) cv) vr (.slice Al (m + 1) el) (listF l ++ [⟨d, s, v⟩]) (lastR M) (l ++ [⟨d, s, v⟩])))
      case first =>
        have J := Lib.hid J1.out.drew
        clear J1
        have sk := (ad_s1 J.out).2
        refine wp_region_held_drew (S := (fun W => W.cell? ⟨k, 0, none⟩ = some (.int .u32 (d : Int)) ∧ W.cell? ⟨k, 1, none⟩ = some (.string s) ∧ W.cell? ⟨k, 2, none⟩ = some (.int .i64 v))) (by kernel_rfl) sk (fun hHeld => ?_)
        generalize wc.drew = u0 at *
        refine wpAnyH_take (i := 0) (oi := ({ dst := some 55, op := Go.Op.move (Go.Operand.tmp 0), type := 24, pos := "registry.go:53", after := #[], guard := none } : Oper)) (v := ?_) rfl (by kernel_rfl) (by kernel_rfl) (by kernel_rfl) (fun _ _ _ h => h) (Or.inl ⟨by kernel_rfl, ?_⟩) hHeld ?_
        rotate_left 1
        · (intro W hSw; (try dsimp only at hSw); go_simp; try with_reducible rfl)
        try simp only [Act.put, List.setIfInBounds_toArray, List.set_cons_zero, List.set_cons_succ]
        refine wpAnyH_take (i := 1) (oi := ({ dst := some 56, op := Go.Op.move (Go.Operand.tmp 0), type := 24, pos := "registry.go:53", after := #[], guard := none } : Oper)) (v := ?_) rfl (by kernel_rfl) (by kernel_rfl) (by kernel_rfl) (fun _ _ _ h => h) (Or.inl ⟨by kernel_rfl, ?_⟩) hHeld ?_
        rotate_left 1
        · (intro W hSw; (try dsimp only at hSw); go_simp; try with_reducible rfl)
        try simp only [Act.put, List.setIfInBounds_toArray, List.set_cons_zero, List.set_cons_succ]
        refine wpAnyH_take (i := 2) (oi := ({ dst := some 57, op := Go.Op.nilCheck (Go.Operand.tmp 56), type := 0, pos := "registry.go:53", after := #[{ on := 1, ground := Go.Ground.data }], guard := none } : Oper)) (v := ?_) rfl (by kernel_rfl) (by kernel_rfl) (by kernel_rfl) (fun _ _ _ h => h) (Or.inl ⟨by kernel_rfl, ?_⟩) hHeld ?_
        rotate_left 1
        · (intro W hSw; (try dsimp only at hSw); go_simp; try with_reducible rfl)
        try simp only [Act.put, List.setIfInBounds_toArray, List.set_cons_zero, List.set_cons_succ]
        refine wpAnyH_take (i := 3) (oi := ({ dst := some 58, op := Go.Op.fieldAddr 60 (Go.Operand.tmp 57) 3, type := 0, pos := "registry.go:53", after := #[{ on := 2, ground := Go.Ground.data }], guard := none } : Oper)) (v := ?_) rfl (by kernel_rfl) (by kernel_rfl) (by kernel_rfl) (fun _ _ _ h => h) (Or.inl ⟨by kernel_rfl, ?_⟩) hHeld ?_
        rotate_left 1
        · (intro W hSw; (try dsimp only at hSw); go_simp; try with_reducible rfl)
        try simp only [Act.put, List.setIfInBounds_toArray, List.set_cons_zero, List.set_cons_succ]
        refine wpAnyH_take (i := 5) (oi := ({ dst := some 60, op := Go.Op.load 49 (Go.Operand.tmp 9), type := 49, pos := "registry.go:53", after := #[], guard := none } : Oper)) (v := ?_) rfl (by kernel_rfl) (by kernel_rfl) (by kernel_rfl) (fun _ _ _ h => h) (Or.inl ⟨by kernel_rfl, ?_⟩) hHeld ?_
        rotate_left 1
        · (intro W hSw; (try dsimp only at hSw); go_simp; try with_reducible rfl)
        try simp only [Act.put, List.setIfInBounds_toArray, List.set_cons_zero, List.set_cons_succ]
        refine wpAnyH_ready (rs := [4, 6]) (by kernel_rfl) (by simp) (AllReadyH.cons (o := ({ dst := some 59, op := Go.Op.load 26 (Go.Operand.tmp 58), type := 26, pos := "registry.go:53", after := #[{ on := 3, ground := Go.Ground.data }], guard := none } : Oper)) rfl (fun K hK => ?_) (AllReadyH.cons (o := ({ dst := some 61, op := Go.Op.buildSlice 26 1 #[(0, Go.Operand.tmp 60)], type := 26, pos := "registry.go:53", after := #[{ on := 5, ground := Go.Ground.data }], guard := none } : Oper)) rfl (fun K hK => ?_) AllReadyH.nil))
        · obtain ⟨m0, m1, m2, m3, m4, mf, ml⟩ := (show RM _ S _ u0 ([_] ++ (p, _) :: []) _ _ _ _ _ _ from J.out).five
          go_simp
          clear m0 m1 m2 m3 m4 mf ml
          refine hK.out _ _ sk (fun hHeld2 => ?_)
          clear hK K hHeld
          have hHeld := hHeld2
          clear hHeld2
          try simp only [Act.put, List.setIfInBounds_toArray, List.set_cons_zero, List.set_cons_succ]
          refine wpAnyH_ready (rs := [6]) (by kernel_rfl) (by simp) (AllReadyH.cons (o := ({ dst := some 61, op := Go.Op.buildSlice 26 1 #[(0, Go.Operand.tmp 60)], type := 26, pos := "registry.go:53", after := #[{ on := 5, ground := Go.Ground.data }], guard := none } : Oper)) rfl (fun K hK => ?_) AllReadyH.nil)
          go_simp
          replace J := Lib.hid (J.out.made (.cells #[.int .u32 (d : Int), .string s, .int .i64 v] 49))
          have P1 := Lib.hid (gs_one u0 ⟨d, s, v⟩)
          generalize u0.alloc (.cells #[.int .u32 (d : Int), .string s, .int .i64 v] 49) = u1 at *
          generalize u0.heap.size = kb at *
          (try clear sk)
          have sk := (ad_s1 J.out).2
          refine hK.out _ _ sk (fun hHeld2 => ?_)
          clear hK K hHeld
          have hHeld := hHeld2
          clear hHeld2
          try simp only [Act.put, List.setIfInBounds_toArray, List.set_cons_zero, List.set_cons_succ]
          refine wpAnyH_ready (rs := [7]) (by kernel_rfl) (by simp) (AllReadyH.cons (o := ({ dst := some 62, op := Go.Op.call { callee := Go.Callee.builtin Go.Builtin.append, args := #[Go.Operand.tmp 59, Go.Operand.tmp 61], argTypes := #[26, 26] }, type := 26, pos := "registry.go:53", after := #[{ on := 4, ground := Go.Ground.data }, { on := 6, ground := Go.Ground.data }], guard := none } : Oper)) rfl (fun K hK => ?_) AllReadyH.nil)
          refine step_appG (by rfl) _ _ (by rfl) (base := w0.heap.size) (l := l) (m := [⟨d, s, v⟩]) (by rfl) (by exact J.out.rb.ol) (by rfl) (by exact P1.out) (by have := HL.out; simp; omega) (by have := J.out.turn.size; omega) ?_
          intro v6 u2 ho6 hg6 hw6
          replace J := Lib.hid (J.out.setL ho6 hg6 hw6)
          obtain ⟨A6, c6, hv6, -, -⟩ := ho6.gs.shape
          rw [List.length_append, HM.out, List.length_singleton] at hv6
          subst hv6
          clear ho6 hg6 hw6
          (try clear sk)
          have sk := (ad_s1 J.out).2
          refine hK.out _ _ sk (fun hHeld2 => ?_)
          clear hK K hHeld
          have hHeld := hHeld2
          clear hHeld2
          try simp only [Act.put, List.setIfInBounds_toArray, List.set_cons_zero, List.set_cons_succ]
          refine wpAnyH_take (i := 8) (oi := ({ dst := some 63, op := Go.Op.nilCheck (Go.Operand.tmp 55), type := 0, pos := "registry.go:53", after := #[{ on := 0, ground := Go.Ground.data }, { on := 0, ground := Go.Ground.phase }, { on := 1, ground := Go.Ground.phase }, { on := 2, ground := Go.Ground.phase }, { on := 3, ground := Go.Ground.phase }, { on := 4, ground := Go.Ground.phase }, { on := 5, ground := Go.Ground.phase }, { on := 6, ground := Go.Ground.phase }, { on := 7, ground := Go.Ground.phase }], guard := none } : Oper)) (v := ?_) rfl (by kernel_rfl) (by kernel_rfl) (by kernel_rfl) (fun _ _ _ h => h) (Or.inl ⟨by kernel_rfl, ?_⟩) hHeld ?_
          rotate_left 1
          · (intro W hSw; (try dsimp only at hSw); go_simp; try with_reducible rfl)
          try simp only [Act.put, List.setIfInBounds_toArray, List.set_cons_zero, List.set_cons_succ]
          refine wpAnyH_take (i := 9) (oi := ({ dst := some 64, op := Go.Op.fieldAddr 60 (Go.Operand.tmp 63) 3, type := 0, pos := "registry.go:53", after := #[{ on := 8, ground := Go.Ground.data }, { on := 0, ground := Go.Ground.phase }, { on := 1, ground := Go.Ground.phase }, { on := 2, ground := Go.Ground.phase }, { on := 3, ground := Go.Ground.phase }, { on := 4, ground := Go.Ground.phase }, { on := 5, ground := Go.Ground.phase }, { on := 6, ground := Go.Ground.phase }, { on := 7, ground := Go.Ground.phase }], guard := none } : Oper)) (v := ?_) rfl (by kernel_rfl) (by kernel_rfl) (by kernel_rfl) (fun _ _ _ h => h) (Or.inl ⟨by kernel_rfl, ?_⟩) hHeld ?_
          rotate_left 1
          · (intro W hSw; (try dsimp only at hSw); go_simp; try with_reducible rfl)
          try simp only [Act.put, List.setIfInBounds_toArray, List.set_cons_zero, List.set_cons_succ]
          refine wpAnyH_ready (rs := [10]) (by kernel_rfl) (by simp) (AllReadyH.cons (o := ({ dst := none, op := Go.Op.store 26 (Go.Operand.tmp 64) (Go.Operand.tmp 62), type := 0, pos := "registry.go:53", after := #[{ on := 9, ground := Go.Ground.data }, { on := 7, ground := Go.Ground.data }, { on := 7, ground := Go.Ground.chain }, { on := 0, ground := Go.Ground.phase }, { on := 1, ground := Go.Ground.phase }, { on := 2, ground := Go.Ground.phase }, { on := 3, ground := Go.Ground.phase }, { on := 4, ground := Go.Ground.phase }, { on := 5, ground := Go.Ground.phase }, { on := 6, ground := Go.Ground.phase }, { on := 7, ground := Go.Ground.phase }], guard := none } : Oper)) rfl (fun K hK => ?_) AllReadyH.nil)
          obtain ⟨z0, z1, z2, z3, z4, zf, zl⟩ := (show RM _ S _ u2 ([_] ++ (p, _) :: []) _ _ _ _ _ _ from J.out).five
          go_simp
          have Z := Lib.hid (J.out.put (i := 3) (by decide) (.slice A6 (m + 1) c6))
          clear z0 z1 z2 z3 z4 zf zl
          replace J := Z
          (try clear sk)
          have sk := (ad_s1 J.out).2
          refine hK.out _ _ sk (fun hHeld2 => ?_)
          clear hK K hHeld
          have hHeld := hHeld2
          clear hHeld2
          try simp only [Act.put, List.setIfInBounds_toArray, List.set_cons_zero, List.set_cons_succ]
          refine wpAnyH_done (by kernel_rfl) ?_ _
          go_wp2_with fail
          go_meet
          case rel => exact ⟨A6, c6, Z⟩
        · go_simp
          replace J := Lib.hid (J.out.made (.cells #[.int .u32 (d : Int), .string s, .int .i64 v] 49))
          have P1 := Lib.hid (gs_one u0 ⟨d, s, v⟩)
          generalize u0.alloc (.cells #[.int .u32 (d : Int), .string s, .int .i64 v] 49) = u1 at *
          generalize u0.heap.size = kb at *
          (try clear sk)
          have sk := (ad_s1 J.out).2
          refine hK.out _ _ sk (fun hHeld2 => ?_)
          clear hK K hHeld
          have hHeld := hHeld2
          clear hHeld2
          try simp only [Act.put, List.setIfInBounds_toArray, List.set_cons_zero, List.set_cons_succ]
          refine wpAnyH_ready (rs := [4]) (by kernel_rfl) (by simp) (AllReadyH.cons (o := ({ dst := some 59, op := Go.Op.load 26 (Go.Operand.tmp 58), type := 26, pos := "registry.go:53", after := #[{ on := 3, ground := Go.Ground.data }], guard := none } : Oper)) rfl (fun K hK => ?_) AllReadyH.nil)
          obtain ⟨m0, m1, m2, m3, m4, mf, ml⟩ := (show RM _ S _ u1 ([_] ++ (p, _) :: []) _ _ _ _ _ _ from J.out).five
          go_simp
          clear m0 m1 m2 m3 m4 mf ml
          refine hK.out _ _ sk (fun hHeld2 => ?_)
          clear hK K hHeld
          have hHeld := hHeld2
          clear hHeld2
          try simp only [Act.put, List.setIfInBounds_toArray, List.set_cons_zero, List.set_cons_succ]
          refine wpAnyH_ready (rs := [7]) (by kernel_rfl) (by simp) (AllReadyH.cons (o := ({ dst := some 62, op := Go.Op.call { callee := Go.Callee.builtin Go.Builtin.append, args := #[Go.Operand.tmp 59, Go.Operand.tmp 61], argTypes := #[26, 26] }, type := 26, pos := "registry.go:53", after := #[{ on := 4, ground := Go.Ground.data }, { on := 6, ground := Go.Ground.data }], guard := none } : Oper)) rfl (fun K hK => ?_) AllReadyH.nil)
          refine step_appG (by rfl) _ _ (by rfl) (base := w0.heap.size) (l := l) (m := [⟨d, s, v⟩]) (by rfl) (by exact J.out.rb.ol) (by rfl) (by exact P1.out) (by have := HL.out; simp; omega) (by have := J.out.turn.size; omega) ?_
          intro v6 u2 ho6 hg6 hw6
          replace J := Lib.hid (J.out.setL ho6 hg6 hw6)
          obtain ⟨A6, c6, hv6, -, -⟩ := ho6.gs.shape
          rw [List.length_append, HM.out, List.length_singleton] at hv6
          subst hv6
          clear ho6 hg6 hw6
          (try clear sk)
          have sk := (ad_s1 J.out).2
          refine hK.out _ _ sk (fun hHeld2 => ?_)
          clear hK K hHeld
          have hHeld := hHeld2
          clear hHeld2
          try simp only [Act.put, List.setIfInBounds_toArray, List.set_cons_zero, List.set_cons_succ]
          refine wpAnyH_take (i := 8) (oi := ({ dst := some 63, op := Go.Op.nilCheck (Go.Operand.tmp 55), type := 0, pos := "registry.go:53", after := #[{ on := 0, ground := Go.Ground.data }, { on := 0, ground := Go.Ground.phase }, { on := 1, ground := Go.Ground.phase }, { on := 2, ground := Go.Ground.phase }, { on := 3, ground := Go.Ground.phase }, { on := 4, ground := Go.Ground.phase }, { on := 5, ground := Go.Ground.phase }, { on := 6, ground := Go.Ground.phase }, { on := 7, ground := Go.Ground.phase }], guard := none } : Oper)) (v := ?_) rfl (by kernel_rfl) (by kernel_rfl) (by kernel_rfl) (fun _ _ _ h => h) (Or.inl ⟨by kernel_rfl, ?_⟩) hHeld ?_
          rotate_left 1
          · (intro W hSw; (try dsimp only at hSw); go_simp; try with_reducible rfl)
          try simp only [Act.put, List.setIfInBounds_toArray, List.set_cons_zero, List.set_cons_succ]
          refine wpAnyH_take (i := 9) (oi := ({ dst := some 64, op := Go.Op.fieldAddr 60 (Go.Operand.tmp 63) 3, type := 0, pos := "registry.go:53", after := #[{ on := 8, ground := Go.Ground.data }, { on := 0, ground := Go.Ground.phase }, { on := 1, ground := Go.Ground.phase }, { on := 2, ground := Go.Ground.phase }, { on := 3, ground := Go.Ground.phase }, { on := 4, ground := Go.Ground.phase }, { on := 5, ground := Go.Ground.phase }, { on := 6, ground := Go.Ground.phase }, { on := 7, ground := Go.Ground.phase }], guard := none } : Oper)) (v := ?_) rfl (by kernel_rfl) (by kernel_rfl) (by kernel_rfl) (fun _ _ _ h => h) (Or.inl ⟨by kernel_rfl, ?_⟩) hHeld ?_
          rotate_left 1
          · (intro W hSw; (try dsimp only at hSw); go_simp; try with_reducible rfl)
          try simp only [Act.put, List.setIfInBounds_toArray, List.set_cons_zero, List.set_cons_succ]
          refine wpAnyH_ready (rs := [10]) (by kernel_rfl) (by simp) (AllReadyH.cons (o := ({ dst := none, op := Go.Op.store 26 (Go.Operand.tmp 64) (Go.Operand.tmp 62), type := 0, pos := "registry.go:53", after := #[{ on := 9, ground := Go.Ground.data }, { on := 7, ground := Go.Ground.data }, { on := 7, ground := Go.Ground.chain }, { on := 0, ground := Go.Ground.phase }, { on := 1, ground := Go.Ground.phase }, { on := 2, ground := Go.Ground.phase }, { on := 3, ground := Go.Ground.phase }, { on := 4, ground := Go.Ground.phase }, { on := 5, ground := Go.Ground.phase }, { on := 6, ground := Go.Ground.phase }, { on := 7, ground := Go.Ground.phase }], guard := none } : Oper)) rfl (fun K hK => ?_) AllReadyH.nil)
          obtain ⟨z0, z1, z2, z3, z4, zf, zl⟩ := (show RM _ S _ u2 ([_] ++ (p, _) :: []) _ _ _ _ _ _ from J.out).five
          go_simp
          have Z := Lib.hid (J.out.put (i := 3) (by decide) (.slice A6 (m + 1) c6))
          clear z0 z1 z2 z3 z4 zf zl
          replace J := Z
          (try clear sk)
          have sk := (ad_s1 J.out).2
          refine hK.out _ _ sk (fun hHeld2 => ?_)
          clear hK K hHeld
          have hHeld := hHeld2
          clear hHeld2
          try simp only [Act.put, List.setIfInBounds_toArray, List.set_cons_zero, List.set_cons_succ]
          refine wpAnyH_done (by kernel_rfl) ?_ _
          go_wp2_with fail
          go_meet
          case rel => exact ⟨A6, c6, Z⟩
      case rest =>
        obtain ⟨Al, el, J⟩ := hcut
        clear J1
        obtain ⟨y0, y1, y2, yf, yl⟩ := (show RM _ S _ wc ([] ++ (k, _) :: [_]) _ _ _ _ _ _ from J.out).tri
        go_wp2_with fail
        have hok := rgOk_add HR.out s HV0.out
        have hlf := list_add HR.out.wf s HV0.out
        have haf : addedF (l ++ [⟨addedF l + 1, s, v⟩]) = addedF l + 1 := by rw [addedF_append]; simp [HV0.out]
        rw [HC.out, HD.out] at hok hlf haf
        have hJ := J.out.sub (List.sublist_cons_self _ _)
        exact bodyPost_ret (v := .tuple #[.int .u32 (d : Int), .int .i64 0]) (by simp [results, Tryd.results12, go_sem]) rfl (TurnR.mk' hok haf hlf rfl hJ)

end Go.Proofs.YtcecicmihdcjgaaDoor
