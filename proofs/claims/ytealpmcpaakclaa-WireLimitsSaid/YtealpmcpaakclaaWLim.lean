/-
  WireLimits: for every item and every limit, a string or an array of at most 300 bytes is read back exactly if it has at most as many bytes as the limit, and else the error is ErrLimit: the law returns true and leaves its arguments as they were. No condition.
-/
import Derived.Test.YtealpmcpaakclaaBox
namespace Go.Proofs.Ytealpmcpaakclaa
open Go.ChangeShapes Go.WideShapes Go.ChangeAt Go.RowKit Mem Wire

set_option maxHeartbeats 1000000 in
theorem limits_walk {w : World} {t : It} (ht : t.ok w) (most : Int) (hM : most ≤ 9223372036854775807) : Calls Try.prog 8 #[t.val, .int .i64 most] w (Says true w) := by
  have hx1 := boxed_new ht
  obtain ⟨w1, hw1⟩ : ∃ w1, w1 = w.alloc (.cells t.cells 25) := ⟨_, rfl⟩
  rw [← hw1] at hx1
  have hb1 : Below w.heap.size w w1 := by rw [hw1]; exact (Below.refl _ _).alloc (Nat.le_refl _) _
  have hs1 : w.heap.size < w1.heap.size := by rw [hw1]; simp
  obtain ⟨w2, hw2⟩ : ∃ w2, w2 = w1.alloc (.cells t.cells 25) := ⟨_, rfl⟩
  have hb2 : Below w1.heap.size w1 w2 := by rw [hw2]; exact (Below.refl _ _).alloc (Nat.le_refl _) _
  have hx2 := hx1.step hs1 hb2
  have hit : Items w2 (.slice (some ⟨w1.heap.size, 0, none⟩) 1 1) [t] := by rw [hw2]; exact items_one hx1.ok
  have hsz : w1.heap.size = w.heap.size + 1 := by rw [hw1]; simp
  rw [hsz] at hit
  clear hsz
  obtain ⟨k, n, v, b⟩ := t
  obtain ⟨A, c, hv, hc, hm⟩ := hx1.ok.1.shape
  dsimp only at hv hc
  subst hv
  have hm2 : c ≤ 9223372036854775807 := by simpa [maxLen] using hm
  have hbw2 : Below w.heap.size w w2 := hb1.trans (hb2.mono hb1.size)
  have HW1 : Hid (w1 = w.alloc (.cells #[.int .i64 k, .int .u32 (n : Int), .slice A b.length c] 25)) := hw1
  have HW2 : Hid (w2 = w1.alloc (.cells #[.int .i64 k, .int .u32 (n : Int), .slice A b.length c] 25)) := hw2
  have HL := Lib.hid (light_any hit)
  have HRd := Lib.hid (readable_any hx2.ok)
  have c0 := hx1.k
  have c1 := hx1.n
  have c2 := hx1.v
  dsimp only at c0 c1 c2
  have HX1 := Lib.hid hx1
  have HX2 := Lib.hid hx2
  clear hw1 hw2 hit hx1 hx2 ht hb2
  unfold It.val at HRd ⊢
  dsimp only at HRd ⊢
  by_cases hlight : lightB [⟨k, n, .slice A b.length c, b⟩] = true
  · rw [hlight] at HL
    have hsm := (light_small hlight).2 _ (List.mem_singleton_self _)
    dsimp only at hsm
    clear hlight
    by_cases hrd : It.readable ⟨k, n, .slice A b.length c, b⟩ = true
    · rw [hrd] at HRd
      by_cases h01 : k = 0 ∨ k = 1
      · generalize b.length = m at *
        rcases h01 with rfl | rfl
        · clear hrd
          go_enter Try.func8, Try.ntmps8
          go_wp2_with fail
          rw [← HW1.out, ← HW2.out]
          refine HL.out.mono ?_
          rintro e w3 ⟨rfl, rfl⟩
          have c0' := HX2.out.k
          have c1' := HX2.out.n
          have c2' := HX2.out.v
          dsimp only at c0' c1' c2'
          go_wp2_with fail
          refine HRd.out.mono ?_
          rintro e w3 ⟨rfl, h3⟩
          have hb3 := hbw2.trans (h3.mono hbw2.size)
          have hx3 := HX2.out.step hs1 h3
          have d0 := hx3.k
          have d1 := hx3.n
          have d2 := hx3.v
          dsimp only at d0 d1 d2
          have HX3 := Lib.hid hx3
          clear hx3
          go_wp2_with fail
          refine (example_any _).mono ?_
          rintro e w4 ⟨rfl, h4⟩
          go_wp2_with fail
          go_ret
          exact ⟨rfl, hb3.trans (h4.mono hb3.size)⟩
        · clear hrd
          go_enter Try.func8, Try.ntmps8
          go_wp2_with fail
          rw [← HW1.out, ← HW2.out]
          refine HL.out.mono ?_
          rintro e w3 ⟨rfl, rfl⟩
          have c0' := HX2.out.k
          have c1' := HX2.out.n
          have c2' := HX2.out.v
          dsimp only at c0' c1' c2'
          go_wp2_with fail
          refine HRd.out.mono ?_
          rintro e w3 ⟨rfl, h3⟩
          have hb3 := hbw2.trans (h3.mono hbw2.size)
          have hx3 := HX2.out.step hs1 h3
          have d0 := hx3.k
          have d1 := hx3.n
          have d2 := hx3.v
          dsimp only at d0 d1 d2
          have HX3 := Lib.hid hx3
          clear hx3
          go_wp2_with fail
          refine (example_any _).mono ?_
          rintro e w4 ⟨rfl, h4⟩
          go_wp2_with fail
          go_ret
          exact ⟨rfl, hb3.trans (h4.mono hb3.size)⟩
      · have g0 : (k == 0) = false := by rw [beq_eq_false_iff_ne]; omega
        have g1 : (k == 1) = false := by rw [beq_eq_false_iff_ne]; omega
        have rl : max most 0 < (b.length : Int) → readS (It.enc ⟨k, n, .slice A b.length c, b⟩, 0) k most = (([], 5), 0, []) := fun h => by
          have := read_lim ⟨k, n, .slice A b.length c, b⟩ [] (by dsimp only; omega) h01 most h
          simpa using this
        have re : (b.length : Int) ≤ max most 0 → readS (It.enc ⟨k, n, .slice A b.length c, b⟩, 0) k most = (([], 0), 0, b) := fun h => by
          have := read_enc ⟨k, n, .slice A b.length c, b⟩ [] HX2.out.ok.2 (by dsimp only; omega) hrd most h
          dsimp only at this
          rw [if_neg h01] at this
          simpa using this
        have RL := Lib.hid rl
        have RE := Lib.hid re
        clear rl re
        have hele := enc_le ⟨k, n, .slice A b.length c, b⟩ (by dsimp only; omega)
        clear hrd
        go_enter Try.func8, Try.ntmps8
        go_wp2_with fail
        rw [← HW1.out, ← HW2.out]
        refine HL.out.mono ?_
        rintro e w3 ⟨rfl, rfl⟩
        have c0' := HX2.out.k
        have c1' := HX2.out.n
        have c2' := HX2.out.v
        dsimp only at c0' c1' c2'
        go_wp2_with fail
        refine HRd.out.mono ?_
        rintro e w3 ⟨rfl, h3⟩
        have hb3 := hbw2.trans (h3.mono hbw2.size)
        have hx3 := HX2.out.step hs1 h3
        have d0 := hx3.k
        have d1 := hx3.n
        have d2 := hx3.v
        dsimp only at d0 d1 d2
        have HX3 := Lib.hid hx3
        clear hx3
        go_wp2_with fail
        refine (put_any (sees_nil w3) HX3.out.ok (by omega) (by dsimp only; omega)).mono ?_
        rintro e w4 ⟨v4, rfl, ho4, h4⟩
        rw [List.nil_append] at ho4
        have hx4 := HX3.out.step hs1 h4
        have hb4 := hb3.trans (h4.mono hb3.size)
        have hse4 := ho4.sees
        obtain ⟨A4, c4, rfl, _, _⟩ := hse4.shape
        have HF := Lib.hid (from_any hse4 (by omega))
        clear ho4 hse4
        generalize hE : It.enc ⟨k, n, .slice A b.length c, b⟩ = E at *
        clear hE
        go_wp2_with fail
        refine HF.out.mono ?_
        rintro e w5 ⟨g, rfl, hg5, hr5, h5⟩
        have hx5 := hx4.step hs1 h5
        have hb5 := hb4.trans (h5.mono hb4.size)
        have hgw : w1.heap.size ≤ g := Nat.le_trans hx4.below.size hg5
        have e0 := hx5.k
        have e1 := hx5.n
        have e2 := hx5.v
        dsimp only at e0 e1 e2
        have HX5 := Lib.hid hx5
        have HR5 := Lib.hid hr5
        clear hx4 hx5 hr5 hg5 h4 h5
        have HRD := Lib.hid (read_any k most HR5.out hM (by dsimp only; omega))
        by_cases hlim : max most 0 < (b.length : Int)
        · rw [RL.out hlim] at HRD
          go_wp2_with fail
          refine HRD.out.mono ?_
          rintro e w6 ⟨v6, rfl, hs6, hr6, hg6⟩
          dsimp only at hs6 hr6
          obtain ⟨A6, c6, rfl, _, _⟩ := hs6.shape
          have hx6 := HX5.out.grown hs1 hg6 HR5.out hgw
          have f0 := hx6.k
          have f1 := hx6.n
          have f2 := hx6.v
          dsimp only at f0 f1 f2
          have hlt6 : w.heap.size < w6.heap.size := Nat.lt_of_lt_of_le hs1 hx6.below.size
          have HX6 := Lib.hid hx6
          have HR6 := Lib.hid hr6
          have hb6 := hb5.grown hg6 hb5.size (fun k hk => by injection hk with hk; have := hb1.size; omega)
          clear hx6 hr6 hg6 hs6
          go_wp2_with fail
          have hb7 : Below w6.heap.size w6 (w6.alloc (.cells #[.int .i64 k, .int .u32 0, .slice A6 0 c6] 25)) := (Below.refl _ _).alloc (Nat.le_refl _) _
          refine (err_any (HR6.out.below hb7)).mono ?_
          rintro e w7 ⟨rfl, rfl⟩
          have hb7w := hb6.trans (hb7.mono hb6.size)
          go_wp2_with fail
          refine (example_any _).mono ?_
          rintro e w7 ⟨rfl, h7⟩
          go_wp2_with fail
          go_ret
          exact ⟨rfl, hb7w.trans (h7.mono hb7w.size)⟩
        · rw [RE.out (by omega)] at HRD
          have htest : ¬((most < (b.length : Int)) ∧ 0 < b.length) := by omega
          go_wp2_with fail
          refine HRD.out.mono ?_
          rintro e w6 ⟨v6, rfl, hs6, hr6, hg6⟩
          dsimp only at hs6 hr6
          obtain ⟨A6, c6, rfl, _, hc6⟩ := hs6.shape
          have hx6 := HX5.out.grown hs1 hg6 HR5.out hgw
          have f0 := hx6.k
          have f1 := hx6.n
          have f2 := hx6.v
          dsimp only at f0 f1 f2
          have hlt6 : w.heap.size < w6.heap.size := Nat.lt_of_lt_of_le hs1 hx6.below.size
          have HX6 := Lib.hid hx6
          have HR6 := Lib.hid hr6
          have HS6 := Lib.hid hs6
          have hb6 := hb5.grown hg6 hb5.size (fun k hk => by injection hk with hk; have := hb1.size; omega)
          have hb7 : Below w6.heap.size w6 (w6.alloc (.cells #[.int .i64 k, .int .u32 0, .slice A6 b.length c6] 25)) := (Below.refl _ _).alloc (Nat.le_refl _) _
          have hb7w := hb6.trans (hb7.mono hb6.size)
          have HB7 := Lib.hid hb7
          clear hx6 hr6 hg6 hs6 hb7
          have hsam := Lib.hid (same_any (HS6.out.below HB7.out) (HX6.out.ok.1.below HB7.out))
          have hend := Lib.hid (end_any (HR6.out.below HB7.out))
          dsimp only at hsam
          rw [show decide (b = b) = true by simp] at hsam
          rw [show endS ([], 0) = 0 by decide] at hend
          generalize b.length = m at *
          by_cases hmb : most < (m : Int)
          · obtain rfl : m = 0 := by omega
            go_wp2_with fail
            refine hend.out.mono ?_
            rintro e w7 ⟨rfl, rfl⟩
            go_wp2_with fail
            refine hsam.out.mono ?_
            rintro e w7 ⟨rfl, q, rfl⟩
            have hb8 := below_draws hb7w q
            go_wp2_with fail
            refine (example_any _).mono ?_
            rintro e w8 ⟨rfl, h8⟩
            go_wp2_with fail
            go_ret
            exact ⟨rfl, hb8.trans (h8.mono hb8.size)⟩
          · go_wp2_with fail
            refine hend.out.mono ?_
            rintro e w7 ⟨rfl, rfl⟩
            go_wp2_with fail
            refine hsam.out.mono ?_
            rintro e w7 ⟨rfl, q, rfl⟩
            have hb8 := below_draws hb7w q
            go_wp2_with fail
            refine (example_any _).mono ?_
            rintro e w8 ⟨rfl, h8⟩
            go_wp2_with fail
            go_ret
            exact ⟨rfl, hb8.trans (h8.mono hb8.size)⟩
    · have hrf : It.readable ⟨k, n, .slice A b.length c, b⟩ = false := by simpa using hrd
      rw [hrf] at HRd
      clear hrd hrf
      generalize b.length = m at *
      go_enter Try.func8, Try.ntmps8
      go_wp2_with fail
      rw [← HW1.out, ← HW2.out]
      refine HL.out.mono ?_
      rintro e w3 ⟨rfl, rfl⟩
      have c0' := HX2.out.k
      have c1' := HX2.out.n
      have c2' := HX2.out.v
      dsimp only at c0' c1' c2'
      go_wp2_with fail
      refine HRd.out.mono ?_
      rintro e w3 ⟨rfl, h3⟩
      have hb3 := hbw2.trans (h3.mono hbw2.size)
      go_wp2_with fail
      refine (example_any _).mono ?_
      rintro e w4 ⟨rfl, h4⟩
      go_wp2_with fail
      go_ret
      exact ⟨rfl, hb3.trans (h4.mono hb3.size)⟩
  · have hlf : lightB [⟨k, n, .slice A b.length c, b⟩] = false := by simpa using hlight
    rw [hlf] at HL
    clear hlight hlf
    generalize b.length = m at *
    go_enter Try.func8, Try.ntmps8
    go_wp2_with fail
    rw [← HW1.out, ← HW2.out]
    refine HL.out.mono ?_
    rintro e w3 ⟨rfl, rfl⟩
    go_wp2_with fail
    refine (example_any _).mono ?_
    rintro e w3 ⟨rfl, h3⟩
    go_wp2_with fail
    go_ret
    exact ⟨rfl, hbw2.trans (h3.mono hbw2.size)⟩


set_option maxRecDepth 100000 in
theorem limits_lifted (os : Os) (started : os.Started) (H : Type) (enc : TypeId × Value → H) :
    ReturnsInHanded {} Try.checked os 8 .any (Rows.wireLimitsSpec.pre6 enc Try.prog Try.f8 Rows.wireLimitsRow.domain false) (Rows.wireLimitsSpec.post enc Try.prog Try.f8 false true false false) := by
  refine returnsInHanded_of_change (C := Try.checked) own started (by kernel_rfl) Try.func8
    (ChangeSpec.witness6 (enc := enc) (C := Try.checked) false ⟨#[], #[.agg #[.int .i64 0, .int .u32 0, .slice none 0 0], .int .i64 0], []⟩ 8 (by kernel_rfl) (by kernel_rfl) (by kernel_rfl) (by kernel_rfl)) ?_
  intro W base args ds gs before hval0 hW _ _
  have hval : ∀ (j : Nat) t v, Try.f8.params[j]? = some t → args[j]? = some v → Value.okWide Try.prog W .any base t v := hval0
  have hW' := hW
  obtain ⟨p, q, hA0, hV, rfl, _, _⟩ := hW
  have hA : DataW.TrodAll enc Try.prog W 0 (fun _ => true) true Try.f8.params.toList args.toList ds p := hA0
  rw [Try.params8] at hA hval
  obtain ⟨v0, v1, d0, d1, p0, p1, rfl, rfl, rfl, h0, h1⟩ := trodAll_two hA
  obtain ⟨rfl, rfl⟩ := trodVars_none hV
  clear hA0 hval0
  simp only [List.append_nil] at hW'
  have hlt0 : ∀ x ∈ p0, x.block < W.heap.size := fun x hx => hW'.lt x (by simp [hx])
  have hlt1 : ∀ x ∈ p1, x.block < W.heap.size := fun x hx => hW'.lt x (by simp [hx])
  obtain ⟨t, rfl, hok⟩ := open_item (hval 0 25 v0 rfl rfl) h0
  have k1 := h1
  obtain ⟨m, rfl, _, _, wm⟩ := open_int Try.underlying3 (hval 1 3 v1 rfl rfl) h1
  have hM : m ≤ 9223372036854775807 := by
    have g2 : IntKind.i64.max = 9223372036854775807 := rfl
    simp only [Lit.wf, Bool.and_eq_true, decide_eq_true_eq, g2] at wm
    exact wm.2
  refine (limits_walk hok m hM).mono fun e W' ⟨he, hg⟩ => ?_
  subst he
  exact ⟨_, rfl, _, _, _, [], _, [], hW', trodAll_cons_mk (shut_bool Try.underlying4 _) trodAll_mk0,
    trodAll_mk2 (Below.trod laidOut (by kernel_rfl) (of_decide_eq_true (by kernel_rfl)) h0 hg hlt0) (Below.trod laidOut (by kernel_rfl) (of_decide_eq_true (by kernel_rfl)) k1 hg hlt1), rfl, hg.frame _, fun h => by cases h⟩

theorem limits_holds : Rows.WireLimitsSaid :=
  OpenClaim.holds_of_wide 8 Try.f8 rfl rfl rfl rfl rfl rfl rfl ⟨rfl, rfl, rfl, rfl, rfl⟩ rfl rfl rfl rfl rfl (by kernel_rfl) Try.func8 (by kernel_rfl)
    (of_decide_eq_true (by kernel_rfl)) (by unfold Func.isWrapper; first | (rw [if_pos (by decide +kernel)]; kernel_rfl) | (rw [if_neg (by decide +kernel)]; exact ⟨rfl, rfl⟩))
    (fun os started H enc _ => limits_lifted os started H enc)

end Go.Proofs.Ytealpmcpaakclaa
