/-
  The reference's quota: check, set, Use, Release, Used.
-/
import Derived.Test.YtkehdaahlfkiiaaJls
import Derived.Test.YtkehdaahlfkiiaaHob
import Derived.Test.YtkehdaahlfkiiaaQth
import Derived.Deep.CutRange
namespace Go.Proofs.Ytkehdaahlfkiiaa
open Go.RowKit

abbrev qV (vl vc : Value) : Value := .agg #[.bool true, vl, vc]
theorem is_at {w W : World} {A : Option Addr} {n cap : Nat} {l : List Int} (h : Is w (.slice A n cap) l) (hb : Below w.heap.size w W) {j : Nat} {x : Int} (hj : l[j]? = some x) :
    ∃ b off, A = some ⟨b, off, none⟩ ∧ b < w.heap.size ∧ W.cell? ⟨b, off + j, none⟩ = some (.int .i64 x) := by
  obtain ⟨A', cap', hv, _, _, hc⟩ := h
  injection hv with e1 e2 e3
  subst e1
  have hl := (List.getElem?_eq_some_iff.1 hj).1
  obtain ⟨b, off, rfl, hlt, hc⟩ := hc (by omega)
  exact ⟨b, off, rfl, hlt, (hb.cell (p := ⟨b, off + j, none⟩) hlt).trans (hc j x hj)⟩

set_option maxRecDepth 100000 in
theorem rchk_any {w : World} {vl vc : Value} {q : Qs} (hl : Is w vl q.ls) (hc : Is w vc q.cs) (k n : Int) :
    Calls Try.prog 28 #[qV vl vc, .int .i64 k, .int .i64 n] w fun e w' => e = .returned (.int .i64 (chkQ q k n)) ∧ Below w.heap.size w w' := by
  obtain ⟨A, c, rfl, h1, h2⟩ := hl.shape
  obtain ⟨A', c', rfl, h1', h2'⟩ := hc.shape
  unfold chkQ kindQ
  obtain ⟨m, hm⟩ : ∃ m, q.ls.length = m := ⟨_, rfl⟩
  obtain ⟨m', hm'⟩ : ∃ m, q.cs.length = m := ⟨_, rfl⟩
  rw [hm] at h1 ⊢
  rw [hm'] at h1' ⊢
  simp only [maxLen] at h2 h2'
  have HB := Lib.hid ((Below.refl w.heap.size w).alloc (Nat.le_refl _) (.cells #[.bool true, .slice A m c, .slice A' m' c'] 28))
  clear hl hc hm hm'
  by_cases k0 : k < 0
  · rw [if_pos (by omega)]
    go_enter Try.func28, Try.ntmps28
    go_wp2_with fail
    go_ret
    exact ⟨rfl, HB.out⟩
  by_cases k1 : (m : Int) ≤ k
  · rw [if_pos (by omega)]
    go_enter Try.func28, Try.ntmps28
    go_wp2_with fail
    go_ret
    exact ⟨rfl, HB.out⟩
  rw [if_neg (by omega)]
  by_cases n0 : n < 0
  · rw [if_pos n0]
    go_enter Try.func28, Try.ntmps28
    go_wp2_with fail
    go_ret
    exact ⟨rfl, HB.out⟩
  · rw [if_neg n0]
    go_enter Try.func28, Try.ntmps28
    go_wp2_with fail
    go_ret
    exact ⟨rfl, HB.out⟩

set_option maxRecDepth 100000 in
theorem rused_any {w : World} {vl vc : Value} {q : Qs} (hl : Is w vl q.ls) (hc : Is w vc q.cs) (hq : QOk q) (k : Int) :
    Calls Try.prog 18 #[qV vl vc, .int .i64 k] w fun e w' => e = .returned (.int .i64 (usedQ q k)) ∧ Below w.heap.size w w' := by
  have HC := Lib.hid hc
  obtain ⟨A, c, rfl, h1, h2⟩ := hl.shape
  obtain ⟨A', c', rfl, h1', h2'⟩ := hc.shape
  have HB := Lib.hid ((Below.refl w.heap.size w).alloc (Nat.le_refl _) (.cells #[.bool true, .slice A q.ls.length c, .slice A' q.cs.length c'] 28))
  unfold usedQ
  simp only [maxLen] at h2 h2'
  have hle := hq.len
  by_cases hk : kindQ q k
  · rw [if_neg (not_not_intro hk)]
    obtain ⟨i, a, b, rfl, hi, e1, e2, g1, g2, g3, g4, g5⟩ := hq.at hk
    rw [g2]
    obtain ⟨b2, off, rfl, hb, c0⟩ := is_at HC.out HB.out e2
    rw [hle] at HB h1' HC c0 ⊢
    obtain ⟨m, hm⟩ : ∃ m, q.ls.length = m := ⟨_, rfl⟩
    rw [hm] at h1 h1' HB HC hi c0 ⊢
    have q0 : ¬ (i : Int) < 0 := by omega
    have q1 : ¬ (m : Int) ≤ (i : Int) := by omega
    have q2 : (0 : Int) ≤ i := by omega
    have q3 : (i : Int) < m := by omega
    clear hl hc hle hm hk e1 e2 g1 g2
    go_enter Try.func18, Try.ntmps18
    go_wp2_with fail
    go_ret
    exact ⟨rfl, HB.out⟩
  · rw [if_pos hk]
    unfold kindQ at hk
    rw [hle] at HB h1' ⊢
    obtain ⟨m, hm⟩ : ∃ m, q.ls.length = m := ⟨_, rfl⟩
    rw [hm] at h1 h1' HB hk ⊢
    clear hl hc hle hm HC
    by_cases k0 : k < 0
    · clear hk
      go_enter Try.func18, Try.ntmps18
      go_wp2_with fail
      go_ret
      exact ⟨rfl, HB.out⟩
    · have k1 : (m : Int) ≤ k := by omega
      clear hk
      go_enter Try.func18, Try.ntmps18
      go_wp2_with fail
      go_ret
      exact ⟨rfl, HB.out⟩

theorem ownI_empty (w : World) {base : Nat} (hb : base ≤ w.heap.size) : OwnI (w.alloc (.cells #[] 3)) base (.slice (some ⟨w.heap.size, 0, none⟩) 0 0) [] :=
  World.ownsRow_made w #[] 0 hb (Nat.zero_le _) rfl
theorem own_formI {w : World} {base : Nat} {v : Value} {L : List Int} (h : OwnI w base v L) (h0 : 0 < L.length) : ∃ b c, v = .slice (some ⟨b, 0, none⟩) L.length c := by
  rcases h.2 with ⟨_, h1⟩ | ⟨g, cap, cur, hv, _⟩
  · omega
  · exact ⟨g, cap, hv⟩
theorem ownI_set {w : World} {base b cap n : Nat} {L : List Int} (h : OwnI w base (.slice (some ⟨b, 0, none⟩) n cap) L) (hn : L.length = n) (i : Nat) (x : Int) :
    OwnI (w.setCell ⟨b, i, none⟩ (.int .i64 x)) base (.slice (some ⟨b, 0, none⟩) n cap) (L.set i x) := by
  subst hn
  have h1 := (World.ownsRow.stored h i (.int .i64 x)).1
  unfold OwnI
  rw [List.length_set, show ils (L.set i x) = (ils L).set i (.int .i64 x) from List.map_set]
  exact h1

set_option maxRecDepth 100000 in
set_option maxHeartbeats 4000000 in
theorem rset_any {w : World} {vl vc : Value} {ls cs : List Int} (hl : Is w vl ls) (hc : Is w vc cs) (hn : cs.length ≤ 100000) {i : Nat} (hi : i < cs.length) (x : Int) :
    Calls Try.prog 29 #[qV vl vc, .int .i64 (i : Int), .int .i64 x] w fun e w' => ∃ u, e = .returned (qV vl u) ∧ OwnI w' w.heap.size u (cs.set i x) ∧ Below w.heap.size w w' := by
  have HC := Lib.hid hc
  obtain ⟨A, c, rfl, h1, h2⟩ := hl.shape
  obtain ⟨A', c', rfl, h1', h2'⟩ := hc.shape
  have J0 := Lib.hid (show HO w ((w.alloc (.cells #[.bool true, .slice A ls.length c, .slice A' cs.length c'] 28)).alloc (.cells #[.bool false, .slice none 0 0, .slice none 0 0] 28)) [boxO (w.heap.size + 1) [.bool false, .slice none 0 0, .slice none 0 0], boxO w.heap.size [.bool true, .slice A ls.length c, .slice A' cs.length c']] from by
    have h := ((HO.nil w).alloc [.bool true, .slice A ls.length c, .slice A' cs.length c'] 28).alloc [.bool false, .slice none 0 0, .slice none 0 0] 28
    rw [World.size_alloc] at h
    exact h)
  simp only [maxLen] at h2 h2'
  have HNN : Hid (cs.length ≤ 100000) := Lib.hid hn
  obtain ⟨m, hm⟩ : ∃ m, ls.length = m := ⟨_, rfl⟩
  obtain ⟨n, hn'⟩ : ∃ n, cs.length = n := ⟨_, rfl⟩
  have HN := Lib.hid hn'
  rw [hm] at h1 J0 ⊢
  rw [hn'] at h1' J0 HC hi ⊢
  clear hl hc hm hn hn'
  go_enter Try.func29, Try.ntmps29
  go_wp2_with fail
  generalize (w.alloc (.cells #[.bool true, .slice A m c, .slice A' n c'] 28)).alloc (.cells #[.bool false, .slice none 0 0, .slice none 0 0] 28) = w1 at *
  go_cut [7] from 8 to 14 (fun s7 wx => ∃ kz b6 c6, s7 = .pointer (some ⟨kz, 0, none⟩) ∧ Hid (HO w wx [rowO w.heap.size 3 1 (.slice (some ⟨b6, 0, none⟩) n c6) n (ils cs), boxO kz [.bool true, .slice A m c, .slice (some ⟨b6, 0, none⟩) n c6], boxO (w.heap.size + 1) [.bool false, .slice none 0 0, .slice none 0 0], boxO w.heap.size [.bool true, .slice A m c, .slice A' n c']]))
  case first =>
    have J := Lib.hid J0.out.drew
    have sk := (show HO w _ ([_] ++ boxO w.heap.size _ :: []) from J.out).c3.2
    replace sk := And.intro sk.1 sk.2.1
    refine wp_region_held_drew (S := (fun W => W.cell? ⟨w.heap.size, 1, none⟩ = some (.slice A m c) ∧ W.cell? ⟨w.heap.size, 2, none⟩ = some (.slice A' n c'))) (by kernel_rfl) sk (fun hHeld => ?_)
    generalize w1.drew = u0 at *
    refine wpAnyH_take (i := 0) (oi := ({ dst := some 8, op := Go.Op.fieldAddr 28 (Go.Operand.tmp 3) 1, type := 0, pos := "ref.go:38", after := #[], guard := none } : Oper)) (v := ?_) rfl (by kernel_rfl) (by kernel_rfl) (by kernel_rfl) (fun _ _ _ h => h) (Or.inl ⟨by kernel_rfl, ?_⟩) hHeld ?_
    rotate_left 1
    · (intro W hSw; (try dsimp only at hSw); go_simp; try with_reducible rfl)
    try simp only [Act.put, List.setIfInBounds_toArray, List.set_cons_zero, List.set_cons_succ]
    refine wpAnyH_take (i := 1) (oi := ({ dst := some 9, op := Go.Op.load 22 (Go.Operand.tmp 8), type := 22, pos := "ref.go:38", after := #[{ on := 0, ground := Go.Ground.data }], guard := none } : Oper)) (v := ?_) rfl (by kernel_rfl) (by kernel_rfl) (by kernel_rfl) (fun _ _ _ h => h) (Or.inl ⟨by kernel_rfl, ?_⟩) hHeld ?_
    rotate_left 1
    · (intro W hSw; (try dsimp only at hSw); go_simp; try with_reducible rfl)
    try simp only [Act.put, List.setIfInBounds_toArray, List.set_cons_zero, List.set_cons_succ]
    refine wpAnyH_take (i := 3) (oi := ({ dst := some 11, op := Go.Op.fieldAddr 28 (Go.Operand.tmp 3) 2, type := 0, pos := "ref.go:38", after := #[], guard := none } : Oper)) (v := ?_) rfl (by kernel_rfl) (by kernel_rfl) (by kernel_rfl) (fun _ _ _ h => h) (Or.inl ⟨by kernel_rfl, ?_⟩) hHeld ?_
    rotate_left 1
    · (intro W hSw; (try dsimp only at hSw); go_simp; try with_reducible rfl)
    try simp only [Act.put, List.setIfInBounds_toArray, List.set_cons_zero, List.set_cons_succ]
    refine wpAnyH_take (i := 4) (oi := ({ dst := some 12, op := Go.Op.load 22 (Go.Operand.tmp 11), type := 22, pos := "ref.go:38", after := #[{ on := 3, ground := Go.Ground.data }], guard := none } : Oper)) (v := ?_) rfl (by kernel_rfl) (by kernel_rfl) (by kernel_rfl) (fun _ _ _ h => h) (Or.inl ⟨by kernel_rfl, ?_⟩) hHeld ?_
    rotate_left 1
    · (intro W hSw; (try dsimp only at hSw); go_simp; try with_reducible rfl)
    try simp only [Act.put, List.setIfInBounds_toArray, List.set_cons_zero, List.set_cons_succ]
    refine wpAnyH_ready (rs := [2, 7]) (by kernel_rfl) (by simp) (AllReadyH.cons (o := ({ dst := some 10, op := Go.Op.buildSlice 22 0 #[], type := 22, pos := "ref.go:38", after := #[], guard := none } : Oper)) rfl (fun K hK => ?_) (AllReadyH.cons (o := ({ dst := some 7, op := Go.Op.alloc 28, type := 0, pos := "ref.go:38", after := #[], guard := none } : Oper)) rfl (fun K hK => ?_) AllReadyH.nil))
    · go_simp
      replace J := Lib.hid (J.out.rowB ((Below.refl _ _).alloc (Nat.le_refl _) _) (ownI_empty u0 J.out.below.size) (fun k hk => by injection hk with hk; exact Nat.le_of_eq hk))
      generalize u0.alloc (.cells #[] 3) = u1 at *
      generalize u0.heap.size = kb at *
      clear sk
      have sk := (show HO w u1 ([_, _] ++ boxO w.heap.size _ :: []) from J.out).c3.2
      replace sk := And.intro sk.1 sk.2.1
      refine hK.out _ _ sk (fun hHeld2 => ?_)
      clear hK K hHeld
      have hHeld := hHeld2
      clear hHeld2
      try simp only [Act.put, List.setIfInBounds_toArray, List.set_cons_zero, List.set_cons_succ]
      refine wpAnyH_ready (rs := [5, 7]) (by kernel_rfl) (by simp) (AllReadyH.cons (o := ({ dst := some 13, op := Go.Op.call { callee := Go.Callee.builtin Go.Builtin.append, args := #[Go.Operand.tmp 10, Go.Operand.tmp 12], argTypes := #[22, 22] }, type := 22, pos := "ref.go:38", after := #[{ on := 2, ground := Go.Ground.data }, { on := 4, ground := Go.Ground.data }], guard := none } : Oper)) rfl (fun K hK => ?_) (AllReadyH.cons (o := ({ dst := some 7, op := Go.Op.alloc 28, type := 0, pos := "ref.go:38", after := #[], guard := none } : Oper)) rfl (fun K hK => ?_) AllReadyH.nil))
      · refine step_appI (by rfl) _ _ (by rfl) (base := w.heap.size) (l := []) (m := cs) (by rfl) (by exact (show HO w u1 ([] ++ rowO w.heap.size 3 1 _ 0 [] :: _) from J.out).at) (by rfl) (by exact HC.out.below J.out.below) (by have := HNN.out; simp; omega) (by exact J.out.below.size) ?_
        intro v6 u2 ho6 hg6 hw6 _
        rw [List.nil_append] at ho6
        obtain ⟨b6, c6, hv6⟩ := own_formI ho6 (by have := HN.out; omega)
        rw [HN.out] at hv6
        subst hv6
        have ho7 : u2.ownsRow w.heap.size 3 1 (.slice (some ⟨b6, 0, none⟩) n c6) n (ils cs) := by have h := ho6; unfold OwnI at h; rw [HN.out] at h; exact h
        replace J := Lib.hid ((show HO w u1 ([] ++ rowO w.heap.size 3 1 _ 0 [] :: _) from J.out).grow ho7 hg6 hw6)
        clear ho6 ho7 hg6 hw6 sk
        have sk := (show HO w u2 ([_, _] ++ boxO w.heap.size _ :: []) from J.out).c3.2
        replace sk := And.intro sk.1 sk.2.1
        refine hK.out _ _ sk (fun hHeld2 => ?_)
        clear hK K hHeld
        have hHeld := hHeld2
        clear hHeld2
        try simp only [Act.put, List.setIfInBounds_toArray, List.set_cons_zero, List.set_cons_succ]
        refine wpAnyH_take (i := 6) (oi := ({ dst := some 14, op := Go.Op.build 28 #[(0, Go.Operand.const (Go.Value.bool true)), (1, Go.Operand.tmp 9), (2, Go.Operand.tmp 13)], type := 28, pos := "ref.go:38", after := #[{ on := 1, ground := Go.Ground.data }, { on := 5, ground := Go.Ground.data }], guard := none } : Oper)) (v := ?_) rfl (by kernel_rfl) (by kernel_rfl) (by kernel_rfl) (fun _ _ _ h => h) (Or.inl ⟨by kernel_rfl, ?_⟩) hHeld ?_
        rotate_left 1
        · (intro W hSw; (try dsimp only at hSw); go_simp; try with_reducible rfl)
        try simp only [Act.put, List.setIfInBounds_toArray, List.set_cons_zero, List.set_cons_succ]
        refine wpAnyH_ready (rs := [7]) (by kernel_rfl) (by simp) (AllReadyH.cons (o := ({ dst := some 7, op := Go.Op.alloc 28, type := 0, pos := "ref.go:38", after := #[], guard := none } : Oper)) rfl (fun K hK => ?_) AllReadyH.nil)
        go_simp
        replace J := Lib.hid (J.out.alloc [.bool false, .slice none 0 0, .slice none 0 0] 28)
        generalize u2.alloc (.cells #[.bool false, .slice none 0 0, .slice none 0 0] 28) = u3 at *
        generalize u2.heap.size = kz at *
        clear sk
        have sk := (show HO w u3 ([_, _, _] ++ boxO w.heap.size _ :: []) from J.out).c3.2
        replace sk := And.intro sk.1 sk.2.1
        refine hK.out _ _ sk (fun hHeld2 => ?_)
        clear hK K hHeld
        have hHeld := hHeld2
        clear hHeld2
        try simp only [Act.put, List.setIfInBounds_toArray, List.set_cons_zero, List.set_cons_succ]
        refine wpAnyH_ready (rs := [8]) (by kernel_rfl) (by simp) (AllReadyH.cons (o := ({ dst := none, op := Go.Op.store 28 (Go.Operand.tmp 7) (Go.Operand.tmp 14), type := 0, pos := "ref.go:38", after := #[{ on := 7, ground := Go.Ground.data }, { on := 6, ground := Go.Ground.data }, { on := 5, ground := Go.Ground.chain }, { on := 0, ground := Go.Ground.phase }, { on := 1, ground := Go.Ground.phase }, { on := 2, ground := Go.Ground.phase }, { on := 3, ground := Go.Ground.phase }, { on := 4, ground := Go.Ground.phase }, { on := 5, ground := Go.Ground.phase }, { on := 6, ground := Go.Ground.phase }, { on := 7, ground := Go.Ground.phase }], guard := none } : Oper)) rfl (fun K hK => ?_) AllReadyH.nil)
        obtain ⟨z0, z1, z2, zf, zl⟩ := (show HO w u3 ([] ++ boxO kz _ :: _) from J.out).c3
        go_simp
        replace J := Lib.hid ((show HO w u3 ([] ++ boxO kz _ :: _) from J.out).set3 (.bool true) (.slice A m c) (.slice (some ⟨b6, 0, none⟩) n c6))
        clear z0 z1 z2 zf zl sk
        have sk := (show HO w _ ([_, _, _] ++ boxO w.heap.size _ :: []) from J.out).c3.2
        replace sk := And.intro sk.1 sk.2.1
        refine hK.out _ _ sk (fun hHeld2 => ?_)
        clear hK K hHeld
        have hHeld := hHeld2
        clear hHeld2
        try simp only [Act.put, List.setIfInBounds_toArray, List.set_cons_zero, List.set_cons_succ]
        refine wpAnyH_done (by kernel_rfl) ?_ _
        go_wp2_with fail
        go_meet
        case rel => exact ⟨kz, b6, c6, rfl, Lib.hid J.out.swap⟩
      · go_simp
        replace J := Lib.hid (J.out.alloc [.bool false, .slice none 0 0, .slice none 0 0] 28)
        generalize u1.alloc (.cells #[.bool false, .slice none 0 0, .slice none 0 0] 28) = u2 at *
        generalize u1.heap.size = kz at *
        clear sk
        have sk := (show HO w u2 ([_, _, _] ++ boxO w.heap.size _ :: []) from J.out).c3.2
        replace sk := And.intro sk.1 sk.2.1
        refine hK.out _ _ sk (fun hHeld2 => ?_)
        clear hK K hHeld
        have hHeld := hHeld2
        clear hHeld2
        try simp only [Act.put, List.setIfInBounds_toArray, List.set_cons_zero, List.set_cons_succ]
        refine wpAnyH_ready (rs := [5]) (by kernel_rfl) (by simp) (AllReadyH.cons (o := ({ dst := some 13, op := Go.Op.call { callee := Go.Callee.builtin Go.Builtin.append, args := #[Go.Operand.tmp 10, Go.Operand.tmp 12], argTypes := #[22, 22] }, type := 22, pos := "ref.go:38", after := #[{ on := 2, ground := Go.Ground.data }, { on := 4, ground := Go.Ground.data }], guard := none } : Oper)) rfl (fun K hK => ?_) AllReadyH.nil)
        refine step_appI (by rfl) _ _ (by rfl) (base := w.heap.size) (l := []) (m := cs) (by rfl) (by exact (show HO w u2 ([_] ++ rowO w.heap.size 3 1 _ 0 [] :: _) from J.out).at) (by rfl) (by exact HC.out.below J.out.below) (by have := HNN.out; simp; omega) (by exact J.out.below.size) ?_
        intro v6 u3 ho6 hg6 hw6 _
        rw [List.nil_append] at ho6
        obtain ⟨b6, c6, hv6⟩ := own_formI ho6 (by have := HN.out; omega)
        rw [HN.out] at hv6
        subst hv6
        have ho7 : u3.ownsRow w.heap.size 3 1 (.slice (some ⟨b6, 0, none⟩) n c6) n (ils cs) := by have h := ho6; unfold OwnI at h; rw [HN.out] at h; exact h
        replace J := Lib.hid ((show HO w u2 ([_] ++ rowO w.heap.size 3 1 _ 0 [] :: _) from J.out).grow ho7 hg6 hw6)
        clear ho6 ho7 hg6 hw6 sk
        have sk := (show HO w u3 ([_, _, _] ++ boxO w.heap.size _ :: []) from J.out).c3.2
        replace sk := And.intro sk.1 sk.2.1
        refine hK.out _ _ sk (fun hHeld2 => ?_)
        clear hK K hHeld
        have hHeld := hHeld2
        clear hHeld2
        try simp only [Act.put, List.setIfInBounds_toArray, List.set_cons_zero, List.set_cons_succ]
        refine wpAnyH_take (i := 6) (oi := ({ dst := some 14, op := Go.Op.build 28 #[(0, Go.Operand.const (Go.Value.bool true)), (1, Go.Operand.tmp 9), (2, Go.Operand.tmp 13)], type := 28, pos := "ref.go:38", after := #[{ on := 1, ground := Go.Ground.data }, { on := 5, ground := Go.Ground.data }], guard := none } : Oper)) (v := ?_) rfl (by kernel_rfl) (by kernel_rfl) (by kernel_rfl) (fun _ _ _ h => h) (Or.inl ⟨by kernel_rfl, ?_⟩) hHeld ?_
        rotate_left 1
        · (intro W hSw; (try dsimp only at hSw); go_simp; try with_reducible rfl)
        try simp only [Act.put, List.setIfInBounds_toArray, List.set_cons_zero, List.set_cons_succ]
        refine wpAnyH_ready (rs := [8]) (by kernel_rfl) (by simp) (AllReadyH.cons (o := ({ dst := none, op := Go.Op.store 28 (Go.Operand.tmp 7) (Go.Operand.tmp 14), type := 0, pos := "ref.go:38", after := #[{ on := 7, ground := Go.Ground.data }, { on := 6, ground := Go.Ground.data }, { on := 5, ground := Go.Ground.chain }, { on := 0, ground := Go.Ground.phase }, { on := 1, ground := Go.Ground.phase }, { on := 2, ground := Go.Ground.phase }, { on := 3, ground := Go.Ground.phase }, { on := 4, ground := Go.Ground.phase }, { on := 5, ground := Go.Ground.phase }, { on := 6, ground := Go.Ground.phase }, { on := 7, ground := Go.Ground.phase }], guard := none } : Oper)) rfl (fun K hK => ?_) AllReadyH.nil)
        obtain ⟨z0, z1, z2, zf, zl⟩ := (show HO w u3 ([] ++ boxO kz _ :: _) from J.out).c3
        go_simp
        replace J := Lib.hid ((show HO w u3 ([] ++ boxO kz _ :: _) from J.out).set3 (.bool true) (.slice A m c) (.slice (some ⟨b6, 0, none⟩) n c6))
        clear z0 z1 z2 zf zl sk
        have sk := (show HO w _ ([_, _, _] ++ boxO w.heap.size _ :: []) from J.out).c3.2
        replace sk := And.intro sk.1 sk.2.1
        refine hK.out _ _ sk (fun hHeld2 => ?_)
        clear hK K hHeld
        have hHeld := hHeld2
        clear hHeld2
        try simp only [Act.put, List.setIfInBounds_toArray, List.set_cons_zero, List.set_cons_succ]
        refine wpAnyH_done (by kernel_rfl) ?_ _
        go_wp2_with fail
        go_meet
        case rel => exact ⟨kz, b6, c6, rfl, Lib.hid J.out.swap⟩
    · go_simp
      replace J := Lib.hid (J.out.alloc [.bool false, .slice none 0 0, .slice none 0 0] 28)
      generalize u0.alloc (.cells #[.bool false, .slice none 0 0, .slice none 0 0] 28) = u1 at *
      generalize u0.heap.size = kz at *
      clear sk
      have sk := (show HO w u1 ([_, _] ++ boxO w.heap.size _ :: []) from J.out).c3.2
      replace sk := And.intro sk.1 sk.2.1
      refine hK.out _ _ sk (fun hHeld2 => ?_)
      clear hK K hHeld
      have hHeld := hHeld2
      clear hHeld2
      try simp only [Act.put, List.setIfInBounds_toArray, List.set_cons_zero, List.set_cons_succ]
      refine wpAnyH_ready (rs := [2]) (by kernel_rfl) (by simp) (AllReadyH.cons (o := ({ dst := some 10, op := Go.Op.buildSlice 22 0 #[], type := 22, pos := "ref.go:38", after := #[], guard := none } : Oper)) rfl (fun K hK => ?_) AllReadyH.nil)
      go_simp
      replace J := Lib.hid (J.out.rowB ((Below.refl _ _).alloc (Nat.le_refl _) _) (ownI_empty u1 J.out.below.size) (fun k hk => by injection hk with hk; exact Nat.le_of_eq hk))
      generalize u1.alloc (.cells #[] 3) = u2 at *
      generalize u1.heap.size = kb at *
      clear sk
      have sk := (show HO w u2 ([_, _, _] ++ boxO w.heap.size _ :: []) from J.out).c3.2
      replace sk := And.intro sk.1 sk.2.1
      refine hK.out _ _ sk (fun hHeld2 => ?_)
      clear hK K hHeld
      have hHeld := hHeld2
      clear hHeld2
      try simp only [Act.put, List.setIfInBounds_toArray, List.set_cons_zero, List.set_cons_succ]
      refine wpAnyH_ready (rs := [5]) (by kernel_rfl) (by simp) (AllReadyH.cons (o := ({ dst := some 13, op := Go.Op.call { callee := Go.Callee.builtin Go.Builtin.append, args := #[Go.Operand.tmp 10, Go.Operand.tmp 12], argTypes := #[22, 22] }, type := 22, pos := "ref.go:38", after := #[{ on := 2, ground := Go.Ground.data }, { on := 4, ground := Go.Ground.data }], guard := none } : Oper)) rfl (fun K hK => ?_) AllReadyH.nil)
      refine step_appI (by rfl) _ _ (by rfl) (base := w.heap.size) (l := []) (m := cs) (by rfl) (by exact (show HO w u2 ([] ++ rowO w.heap.size 3 1 _ 0 [] :: _) from J.out).at) (by rfl) (by exact HC.out.below J.out.below) (by have := HNN.out; simp; omega) (by exact J.out.below.size) ?_
      intro v6 u3 ho6 hg6 hw6 _
      rw [List.nil_append] at ho6
      obtain ⟨b6, c6, hv6⟩ := own_formI ho6 (by have := HN.out; omega)
      rw [HN.out] at hv6
      subst hv6
      have ho7 : u3.ownsRow w.heap.size 3 1 (.slice (some ⟨b6, 0, none⟩) n c6) n (ils cs) := by have h := ho6; unfold OwnI at h; rw [HN.out] at h; exact h
      replace J := Lib.hid ((show HO w u2 ([] ++ rowO w.heap.size 3 1 _ 0 [] :: _) from J.out).grow ho7 hg6 hw6)
      clear ho6 ho7 hg6 hw6 sk
      have sk := (show HO w u3 ([_, _, _] ++ boxO w.heap.size _ :: []) from J.out).c3.2
      replace sk := And.intro sk.1 sk.2.1
      refine hK.out _ _ sk (fun hHeld2 => ?_)
      clear hK K hHeld
      have hHeld := hHeld2
      clear hHeld2
      try simp only [Act.put, List.setIfInBounds_toArray, List.set_cons_zero, List.set_cons_succ]
      refine wpAnyH_take (i := 6) (oi := ({ dst := some 14, op := Go.Op.build 28 #[(0, Go.Operand.const (Go.Value.bool true)), (1, Go.Operand.tmp 9), (2, Go.Operand.tmp 13)], type := 28, pos := "ref.go:38", after := #[{ on := 1, ground := Go.Ground.data }, { on := 5, ground := Go.Ground.data }], guard := none } : Oper)) (v := ?_) rfl (by kernel_rfl) (by kernel_rfl) (by kernel_rfl) (fun _ _ _ h => h) (Or.inl ⟨by kernel_rfl, ?_⟩) hHeld ?_
      rotate_left 1
      · (intro W hSw; (try dsimp only at hSw); go_simp; try with_reducible rfl)
      try simp only [Act.put, List.setIfInBounds_toArray, List.set_cons_zero, List.set_cons_succ]
      refine wpAnyH_ready (rs := [8]) (by kernel_rfl) (by simp) (AllReadyH.cons (o := ({ dst := none, op := Go.Op.store 28 (Go.Operand.tmp 7) (Go.Operand.tmp 14), type := 0, pos := "ref.go:38", after := #[{ on := 7, ground := Go.Ground.data }, { on := 6, ground := Go.Ground.data }, { on := 5, ground := Go.Ground.chain }, { on := 0, ground := Go.Ground.phase }, { on := 1, ground := Go.Ground.phase }, { on := 2, ground := Go.Ground.phase }, { on := 3, ground := Go.Ground.phase }, { on := 4, ground := Go.Ground.phase }, { on := 5, ground := Go.Ground.phase }, { on := 6, ground := Go.Ground.phase }, { on := 7, ground := Go.Ground.phase }], guard := none } : Oper)) rfl (fun K hK => ?_) AllReadyH.nil)
      obtain ⟨z0, z1, z2, zf, zl⟩ := (show HO w u3 ([_] ++ boxO kz _ :: _) from J.out).c3
      go_simp
      replace J := Lib.hid ((show HO w u3 ([_] ++ boxO kz _ :: _) from J.out).set3 (.bool true) (.slice A m c) (.slice (some ⟨b6, 0, none⟩) n c6))
      clear z0 z1 z2 zf zl sk
      have sk := (show HO w _ ([_, _, _] ++ boxO w.heap.size _ :: []) from J.out).c3.2
      replace sk := And.intro sk.1 sk.2.1
      refine hK.out _ _ sk (fun hHeld2 => ?_)
      clear hK K hHeld
      have hHeld := hHeld2
      clear hHeld2
      try simp only [Act.put, List.setIfInBounds_toArray, List.set_cons_zero, List.set_cons_succ]
      refine wpAnyH_done (by kernel_rfl) ?_ _
      go_wp2_with fail
      go_meet
      case rel => exact ⟨kz, b6, c6, rfl, J⟩
  case rest =>
    obtain ⟨kz, b6, c6, rfl, J⟩ := hcut
    clear J0
    obtain ⟨z0, z1, z2, zf, zl⟩ := (show HO w wc ([_] ++ boxO kz _ :: _) from J.out).c3
    have ho : wc.ownsRow w.heap.size 3 1 (.slice (some ⟨b6, 0, none⟩) n c6) n (ils cs) := (show HO w wc ([] ++ rowO w.heap.size 3 1 _ _ _ :: _) from J.out).at
    have hj : ∃ y, wc.cell? ⟨b6, i, none⟩ = some y := ⟨_, (ho.cellAt i (by omega)).trans (List.getElem?_eq_getElem (by rw [ils_length, HN.out]; omega))⟩
    obtain ⟨y, hy⟩ := hj
    have hfz := World.ownsRow.frozenAt ho
    have ho2 := (World.ownsRow.stored ho i (.int .i64 x)).1
    have J2 := Lib.hid ((show HO w wc ([] ++ rowO w.heap.size 3 1 _ _ _ :: _) from J.out).grow ho2 (grown_setCell wc b6 i (.int .i64 x)) (.inl rfl))
    clear J ho ho2
    have q0 : (0 : Int) ≤ i := by omega
    have q1 : (i : Int) < n := by omega
    go_upto_region 3 with fail
    generalize wc.setCell ⟨b6, i, none⟩ (.int .i64 x) = w2 at *
    clear z0 z1 z2 zf zl hy hfz y
    obtain ⟨z0, z1, z2, zf, zl⟩ := (show HO w w2 ([_] ++ boxO kz _ :: _) from J2.out).c3
    obtain ⟨e0, e1, e2, ef, el⟩ := (show HO w w2 ([_, _] ++ boxO (w.heap.size + 1) _ :: _) from J2.out).c3
    have J3 := Lib.hid ((show HO w w2 ([_, _] ++ boxO (w.heap.size + 1) [.bool false, .slice none 0 0, .slice none 0 0] :: _) from J2.out).set3 (.bool true) (.slice A m c) (.slice (some ⟨b6, 0, none⟩) n c6))
    go_wp2_with fail
    obtain ⟨x0, x1, x2, -, -⟩ := (show HO w _ ([_, _] ++ boxO (w.heap.size + 1) _ :: _) from J3.out).c3
    have hr := (show HO w _ ([] ++ rowO w.heap.size 3 1 _ _ _ :: _) from J3.out).at
    exact bodyPost_ret (v := qV (.slice A m c) (.slice (some ⟨b6, 0, none⟩) n c6)) (by simp [results, Try.results29, go_sem, x0, x1, x2]) rfl ⟨_, rfl, by unfold OwnI; rw [List.length_set, HN.out, show ils (cs.set i x) = (ils cs).set i (.int .i64 x) from List.map_set]; exact hr, J3.out.below⟩

end Go.Proofs.Ytkehdaahlfkiiaa
