/-
  sized, Valid and check of the reference of package scale.
-/
import Derived.Test.YtnkbejbpkjkgeaaVali
import Derived.Test.YtnkbejbpkjkgeaaScl
namespace Go.Proofs.Ytnkbejbpkjkgeaa
open Go.RowKit

set_option maxHeartbeats 1000000 in
theorem rsized_any (a b : Int) (w : World) : Calls Try.prog 45 #[.int .i64 a, .int .i64 b] w fun e w' => e = .returned (.bool (sizB a b)) ∧ w = w' := by
  obtain ⟨v, hv⟩ : ∃ v, sizB a b = v := ⟨_, rfl⟩
  rw [hv]
  unfold sizB at hv
  by_cases h0 : 1 ≤ a <;> by_cases h1 : a ≤ 256 <;> by_cases h2 : 1 ≤ b <;> by_cases h3 : b ≤ 256 <;> (simp [h0, h1, h2, h3] at hv; subst hv)
  all_goals
    go_enter Try.func45, Try.ntmps45
    go_wp2
    go_ret
    exact ⟨ret_bool (by simp [*]), rfl⟩

theorem ok_no_r {p : Px} (h : ¬ p.r ≤ p.a) : okPx p = false := by simp [okPx]; omega
theorem ok_no_g {p : Px} (h : ¬ p.g ≤ p.a) : okPx p = false := by simp [okPx]; omega
theorem ok_no_b {p : Px} (h : ¬ p.b ≤ p.a) : okPx p = false := by simp [okPx]; omega

set_option maxRecDepth 100000 in
set_option maxHeartbeats 4000000 in
theorem rvalid10_any (a b : Int) {v : Value} {l : List Px} {w : World} (h : Pxs w v l) : Calls Try.prog 24 #[.agg #[.int .i64 a, .int .i64 b, v]] w fun e w' => e = .returned (.bool (vBuf a b l)) ∧ Below w.heap.size w w' := by
  obtain ⟨A, c, rfl, hc, hm, hcell⟩ := h
  simp only [maxLen] at hm
  have HC := Lib.hid hcell
  obtain ⟨n, hn⟩ : ∃ n, l.length = n := ⟨_, rfl⟩
  have HN := Lib.hid hn
  rw [hn] at hc ⊢
  clear hcell hn
  have J := Lib.hid ((Held.nil w).alloc [.int .i64 a, .int .i64 b, .slice A n c] 24)
  have C1 := fun W => Lib.hid (rsized_any a b W)
  cases h0 : sizB a b
  · have hv : vBuf a b l = false := by unfold vBuf; rw [h0]; simp
    rw [hv]
    rw [h0] at C1
    clear hv h0
    go_enter Try.func24, Try.ntmps24
    go_wp2_with (go_at_call 45; (with_reducible refine (C1 _).out.mono ?_); rintro e wq ⟨rfl, rfl⟩)
    go_ret
    exact ⟨rfl, J.out.below⟩
  · obtain ⟨g0, g1⟩ := siz_iff.1 h0
    rw [h0] at C1
    have hp := mul_int g0 g1
    by_cases h2 : (n : Int) = a * b
    · have hv := vBuf_cut h0 (l := l) (by rw [HN.out]; exact h2)
      rw [hv]
      have hdz : (l.drop 0).all okPx = l.all okPx := by rw [List.drop_zero]
      have hw2 : wrap64 (a * b) = (n : Int) := by rw [IntWalk.wrap64_in _ (by omega), h2]
      have hn0 : 0 < n := by omega
      have hn6 : n ≤ 65536 := by omega
      obtain ⟨bb, off, rfl, hbb, hcs⟩ := HC.out (by rw [HN.out]; exact hn0)
      have HC2 := Lib.hid hcs
      obtain ⟨res, hres⟩ : ∃ res, l.all okPx = res := ⟨_, rfl⟩
      rw [hres] at hdz ⊢
      replace hdz := Lib.hid hdz
      clear hv hres HC hcs h2 hp h0 g0 g1
      go_enter Try.func24, Try.ntmps24
      go_wp2_with (go_at_call 45; (with_reducible refine (C1 _).out.mono ?_); rintro e wq ⟨rfl, rfl⟩)
      clear hw2
      go_loopw [3] (fun st wr => ∃ k : Nat, k ≤ n ∧ st = .int .i64 (k : Int) ∧ Hid ((l.drop k).all okPx = res ∧ Held w wr [(w.heap.size, [.int .i64 a, .int .i64 b, .slice (some ⟨bb, off, none⟩) n c])])) (fun st _ => leftN n st)
      case atStart => exact ⟨0, by omega, rfl, hdz.out, J.out⟩
      case round =>
        obtain ⟨k, hk, rfl, HR⟩ := hrel
        obtain ⟨o0, o1, o2, _, hz⟩ := HR.out.2.tri (l1 := [])
        by_cases hlt : k < n
        · obtain ⟨p, hpx⟩ : ∃ p, l[k]? = some p := ⟨_, List.getElem?_eq_getElem (by rw [HN.out]; exact hlt)⟩
          obtain ⟨c0, c1, c2, c3⟩ := (HC2.out k p hpx).keep HR.out.2.below hbb
          have hd := HR.out.1
          rw [drop_at hpx] at hd
          have q0 : (k : Int) < n := by omega
          have q1 : (0 : Int) ≤ k := by omega
          have K := Lib.hid (HR.out.2.made (.cells #[.int .u8 (p.r : Int), .int .u8 (p.g : Int), .int .u8 (p.b : Int), .int .u8 (p.a : Int)] 43))
          clear hpx HR
          by_cases r0 : p.r ≤ p.a
          · by_cases r1 : p.g ≤ p.a
            · by_cases r2 : p.b ≤ p.a
              · rw [okPx_iff.2 ⟨r0, r1, r2⟩] at hd
                simp only [Bool.true_and] at hd
                replace hd := Lib.hid hd
                have s0 : ¬ (p.a : Int) < p.r := by omega
                have s1 : ¬ (p.a : Int) < p.g := by omega
                have s2 : ¬ (p.a : Int) < p.b := by omega
                go_wp2_with fail
                go_roundw
                case rel => exact ⟨k + 1, by omega, by go_num, hd.out, K.out⟩
                case measure =>
                  unfold leftN
                  simp [intOf]
                  omega
              · rw [ok_no_b r2] at hd
                simp only [Bool.false_and] at hd
                subst hd
                have s0 : ¬ (p.a : Int) < p.r := by omega
                have s1 : ¬ (p.a : Int) < p.g := by omega
                have s2 : (p.a : Int) < p.b := by omega
                go_wp2_with fail
                go_ret
                exact ⟨rfl, K.out.below⟩
            · rw [ok_no_g r1] at hd
              simp only [Bool.false_and] at hd
              subst hd
              have s0 : ¬ (p.a : Int) < p.r := by omega
              have s1 : (p.a : Int) < p.g := by omega
              go_wp2_with fail
              go_ret
              exact ⟨rfl, K.out.below⟩
          · rw [ok_no_r r0] at hd
            simp only [Bool.false_and] at hd
            subst hd
            have s0 : (p.a : Int) < p.r := by omega
            go_wp2_with fail
            go_ret
            exact ⟨rfl, K.out.below⟩
        · obtain rfl : k = n := by omega
          have q0 : ¬ (k : Int) < k := by omega
          have hd := HR.out.1
          rw [List.drop_of_length_le (by rw [HN.out]; exact Nat.le_refl _)] at hd
          simp only [List.all_nil] at hd
          subst hd
          go_wp2_with fail
          go_ret
          exact ⟨rfl, HR.out.2.below⟩
    · have hv : vBuf a b l = false := by unfold vBuf; rw [HN.out, decide_eq_false h2]; simp
      rw [hv]
      have hw2 : wrap64 (a * b) = a * b := IntWalk.wrap64_in _ (by omega)
      obtain ⟨ab, hab⟩ : ∃ ab, a * b = ab := ⟨_, rfl⟩
      rw [hab] at h2
      replace hw2 := hw2.trans hab
      have h3 : ((n : Int) == ab) = false := by simpa using h2
      have h4 : ((n : Int) != ab) = true := by simpa using h2
      clear hv h0 hab hp
      go_enter Try.func24, Try.ntmps24
      go_wp2_with (go_at_call 45; (with_reducible refine (C1 _).out.mono ?_); rintro e wq ⟨rfl, rfl⟩)
      go_ret
      exact ⟨rfl, J.out.below⟩

/-- the error of a buffer and a size -/
def chkE (a b : Int) (l : List Px) (w h : Int) : Int := if vBuf a b l = true then (if sizB w h = true then 0 else 6) else 15

set_option maxRecDepth 100000 in
set_option maxHeartbeats 4000000 in
theorem rcheck_any (a b p q : Int) {v : Value} {l : List Px} {w : World} (h : Pxs w v l) : Calls Try.prog 35 #[.agg #[.int .i64 a, .int .i64 b, v], .int .i64 p, .int .i64 q] w fun e w' => e = .returned (.int .i64 (chkE a b l p q)) ∧ Below w.heap.size w w' := by
  have H := Lib.hid h
  obtain ⟨A, c, rfl, _⟩ := h.shape
  have J := Lib.hid ((Held.nil w).alloc [.int .i64 a, .int .i64 b, .slice A l.length c] 24)
  have C1 := fun W (hb : Below w.heap.size w W) => Lib.hid (rvalid10_any a b (H.out.below hb))
  have C2 := fun W => Lib.hid (rsized_any p q W)
  unfold chkE
  generalize l.length = n at *
  clear h
  cases hv : vBuf a b l
  · rw [hv] at C1
    clear hv
    go_enter Try.func35, Try.ntmps35
    go_wp2_with fail
    refine (C1 _ J.out.below).out.mono ?_
    rintro e w1 ⟨rfl, hb⟩
    replace J := Lib.hid (J.out.step hb)
    clear hb
    go_wp2_with fail
    go_ret
    exact ⟨rfl, J.out.below⟩
  · rw [hv] at C1
    cases hs : sizB p q
    all_goals
      rw [hs] at C2
      clear hv hs
      go_enter Try.func35, Try.ntmps35
      go_wp2_with fail
      refine (C1 _ J.out.below).out.mono ?_
      rintro e w1 ⟨rfl, hb⟩
      replace J := Lib.hid (J.out.step hb)
      clear hb
      go_wp2_with fail
      refine (C2 _).out.mono ?_
      rintro e w2 ⟨rfl, rfl⟩
      go_wp2_with fail
      go_ret
      exact ⟨rfl, J.out.below⟩

end Go.Proofs.Ytnkbejbpkjkgeaa
