/-
  valid of the reference: whether a buffer is valid.
-/
import Derived.Test.YtphgjfkmnohjlaaDoorVld
namespace Go.Proofs.YtphgjfkmnohjlaaDoor
open Go.RowKit

set_option maxRecDepth 100000 in
set_option maxHeartbeats 4000000 in
theorem rvalid_buf_any (a b : Int) {v : Value} {l : List Px} {w : World} (h : Pxs w v l) : Calls Tryd.prog 46 #[.agg #[.int .i64 a, .int .i64 b, v]] w fun e w' => e = .returned (.bool (vBuf a b l)) ∧ Below w.heap.size w w' := by
  obtain ⟨A, c, rfl, hc, hm, hcell⟩ := h
  simp only [maxLen] at hm
  have HC := Lib.hid hcell
  obtain ⟨n, hn⟩ : ∃ n, l.length = n := ⟨_, rfl⟩
  have HN := Lib.hid hn
  rw [hn] at hc ⊢
  clear hcell hn
  have J := Lib.hid (HeldV.new w a b A n c)
  by_cases h0 : 1 ≤ a ∧ a ≤ 256
  · by_cases h1 : 1 ≤ b ∧ b ≤ 256
    · have hp := mul_small h0 h1
      have g0 : ¬ a < 1 := by omega
      have g1 : ¬ 256 < a := by omega
      have g2 : ¬ b < 1 := by omega
      have g3 : ¬ 256 < b := by omega
      by_cases h2 : (n : Int) = a * b
      · have hv := vBuf_cut h0 h1 (l := l) (by rw [HN.out]; exact h2)
        rw [hv]
        have hdz : (l.drop 0).all okPx = l.all okPx := by rw [List.drop_zero]
        have hw2 : wrap64 (a * b) = (n : Int) := by rw [IntWalk.wrap64_in _ (by omega), h2]
        have hn0 : 0 < n := by omega
        have hn6 : n ≤ 65536 := by omega
        obtain ⟨bb, off, rfl, hbb, hcs⟩ := HC.out (by rw [HN.out]; exact hn0)
        have HC2 := Lib.hid hcs
        obtain ⟨res, hres⟩ : ∃ res, l.all okPx = res := ⟨_, rfl⟩
        rw [hres] at hdz ⊢
        replace hdz := Lib.hid hdz
        clear hv hres HC hcs h2 hp h0 h1
        go_enter Tryd.func46, Tryd.ntmps46
        go_wp2_with fail
        go_loopw [3] (fun s3 wr => ∃ k : Nat, k ≤ n ∧ s3 = .int .i64 (k : Int) ∧ Hid ((l.drop k).all okPx = res ∧ HeldV w wr a b (some ⟨bb, off, none⟩) n c)) (fun s3 _ => leftN n s3)
        case atStart => exact ⟨0, by omega, rfl, hdz.out, J.out⟩
        case round =>
          obtain ⟨k, hk, rfl, HR⟩ := hrel
          have o0 := HR.out.2.c0
          have o1 := HR.out.2.c1
          have o2 := HR.out.2.c2
          have hz := HR.out.2.there
          by_cases hlt : k < n
          · obtain ⟨p, hpx⟩ : ∃ p, l[k]? = some p := ⟨_, List.getElem?_eq_getElem (by rw [HN.out]; exact hlt)⟩
            obtain ⟨c0, c1, c2, c3⟩ := (HC2.out k p hpx).keep HR.out.2.below hbb
            have hd := HR.out.1
            rw [drop_at hpx] at hd
            have q0 : (k : Int) < n := by omega
            have q1 : (0 : Int) ≤ k := by omega
            have JN := Lib.hid (HR.out.2.step ((Below.refl _ _).alloc (Nat.le_refl _) (.cells #[.int .u8 p.r, .int .u8 p.g, .int .u8 p.b, .int .u8 p.a] 60)))
            clear hpx
            by_cases r0 : p.a < p.r <;> by_cases r1 : p.a < p.g <;> by_cases r2 : p.a < p.b
            rotate_right 1
            · have hok : okPx p = true := by
                simp only [okPx, Bool.and_eq_true, decide_eq_true_eq]
                omega
              rw [hok] at hd
              simp only [Bool.true_and] at hd
              replace hd := Lib.hid hd
              clear hok
              go_wp2_with fail
              go_roundw
              case rel => exact ⟨k + 1, by omega, by go_num, hd.out, JN.out⟩
              case measure =>
                unfold leftN
                simp [intOf]
                omega
            all_goals
              have hok : okPx p = false := by
                simp only [okPx, Bool.and_eq_false_iff, decide_eq_false_iff_not]
                omega
              rw [hok] at hd
              simp only [Bool.false_and] at hd
              subst hd
              clear hok
              go_wp2_with fail
              go_ret
              exact ⟨rfl, JN.out.below⟩
          · obtain rfl : k = n := by omega
            have q0 : ¬ (k : Int) < k := by omega
            have hd := HR.out.1
            rw [List.drop_of_length_le (by rw [HN.out]; exact Nat.le_refl _)] at hd
            simp only [List.all_nil] at hd
            subst hd
            go_wp2_with fail
            go_ret
            exact ⟨rfl, HR.out.2.below⟩
      · have hv : vBuf a b l = false := by unfold vBuf; rw [HN.out, decide_eq_false h2]; simp
        rw [hv]
        have hw2 : wrap64 (a * b) = a * b := IntWalk.wrap64_in _ (by omega)
        obtain ⟨ab, hab⟩ : ∃ ab, a * b = ab := ⟨_, rfl⟩
        rw [hab] at h2
        replace hw2 := hw2.trans hab
        have h3 : ((n : Int) == ab) = false := by simpa using h2
        have h4 : ((n : Int) != ab) = true := by simpa using h2
        clear hv h0 h1 hab hp
        go_enter Tryd.func46, Tryd.ntmps46
        go_wp2_with fail
        go_ret
        exact ⟨rfl, J.out.below⟩
    · have hv : vBuf a b l = false := by unfold vBuf; rw [decide_eq_false h1]; simp
      rw [hv]
      have g0 : ¬ a < 1 := by omega
      have g1 : ¬ 256 < a := by omega
      clear hv h0
      by_cases g2 : b < 1 <;> by_cases g3 : 256 < b
      all_goals first
        | (exfalso; omega)
        | (clear h1
           go_enter Tryd.func46, Tryd.ntmps46
           go_wp2_with fail
           go_ret
           exact ⟨ret_bool (by simp [*]), J.out.below⟩)
  · have hv : vBuf a b l = false := by unfold vBuf; rw [decide_eq_false h0]; simp
    rw [hv]
    clear hv
    by_cases g0 : a < 1 <;> by_cases g1 : 256 < a
    all_goals first
      | (exfalso; omega)
      | (clear h0
         go_enter Tryd.func46, Tryd.ntmps46
         go_wp2_with fail
         go_ret
         exact ⟨rfl, J.out.below⟩)

end Go.Proofs.YtphgjfkmnohjlaaDoor
