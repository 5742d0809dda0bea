/-
  QuotaConservation, over the contracts of the package's functions.
-/
import Derived.Test.YtkehdaahlfkiiaaTls
namespace Go.Proofs.Ytkehdaahlfkiiaa
open Go.RowKit

def qS (l s : Int) : Qs := ⟨[l], [s]⟩
theorem qS_new {l : Int} (h : 0 ≤ l) : newQ [l] = qS l 0 := by
  unfold newQ qS
  simp only [List.map_cons, List.map_nil]
  congr 2
  omega
theorem qS_ok {l s : Int} (h0 : 0 ≤ s) (h1 : s ≤ l) (h2 : l ≤ 9223372036854775807) : QOk (qS l s) := by
  refine ⟨rfl, fun i a b ha hb => ?_⟩
  match i, ha, hb with
  | 0, ha, hb =>
    simp only [qS, List.getElem?_cons_zero, Option.some.injEq] at ha hb
    subst ha hb
    exact ⟨h0, h1, h2⟩
theorem qS_kind (l s : Int) : kindQ (qS l s) 0 := by simp [kindQ, qS]
theorem qS_lim (l s : Int) : limQ (qS l s) 0 = l := rfl
theorem qS_cnt (l s : Int) : cntQ (qS l s) 0 = s := rfl
theorem qS_use {l s n : Int} (hn : 0 ≤ n) : useQ (qS l s) 0 n = if n ≤ l - s then (qS l (s + n), 0) else (qS l s, 5) := by
  unfold useQ
  rw [if_neg (not_not_intro (qS_kind l s)), if_neg (by omega), qS_lim, qS_cnt]
  by_cases h : n ≤ l - s
  · rw [if_pos h, if_neg (show ¬ l - s < n by omega)]
    rfl
  · rw [if_neg h, if_pos (show l - s < n by omega)]
theorem qS_rel {l s n : Int} (hn : 0 ≤ n) : relQ (qS l s) 0 n = if n ≤ s then (qS l (s - n), 0) else (qS l s, 14) := by
  unfold relQ
  rw [if_neg (not_not_intro (qS_kind l s)), if_neg (by omega), qS_cnt]
  by_cases h : n ≤ s
  · rw [if_pos h, if_neg (show ¬ s < n by omega)]
    rfl
  · rw [if_neg h, if_pos (show s < n by omega)]
theorem qS_used (l s : Int) : usedQ (qS l s) 0 = s := by
  unfold usedQ
  rw [if_neg (not_not_intro (qS_kind l s))]
  rfl
section
variable {T : World → Prop} {R : World → World → Value → Qs → (Nat → Prop) → Prop} {RB : World → World → Value → Bk → (Nat → Prop) → Prop}
set_option maxRecDepth 100000 in
set_option maxHeartbeats 16000000 in
theorem cons_walk (K : PQ T R) (KB : PB T RB) {w : World} (hT : T w) {lim : Int} (hl0 : I64 lim) {v : Value} {l : List Tr} (hl : Trs w v l) : Calls Try.prog 4 #[.int .i64 lim, v] w (SaysB true w) := by
  have HT := Lib.hid hT
  have EX := fun (W : World) (hb : Below w.heap.size w W) => Lib.hid (ex_any K KB (K.below HT.out hb))
  have J := Lib.hid (HO.nil w)
  have HA := Lib.hid hl
  obtain ⟨A, cap, rfl, hcap, hm⟩ := hl.shape
  simp only [maxLen] at hm
  obtain ⟨n, hn⟩ : ∃ n, l.length = n := ⟨_, rfl⟩
  have HN := Lib.hid hn
  rw [hn] at hcap HA ⊢
  clear hT hl hn
  by_cases h1 : 300 < n
  · have q1 : (300 : Int) < n := by omega
    go_enter Try.func4, Try.ntmps4
    go_wp2_with fail
    refine (EX _ J.out.below).out.mono ?_
    rintro e wq2 ⟨rfl, hb⟩
    replace J := Lib.hid (J.out.step hb)
    clear hb
    go_wp2_with fail
    go_ret
    exact ⟨rfl, J.out.below⟩
  have q1 : ¬ (300 : Int) < n := by omega
  by_cases h2 : lim < 0
  · go_enter Try.func4, Try.ntmps4
    go_wp2_with fail
    refine (EX _ J.out.below).out.mono ?_
    rintro e wq2 ⟨rfl, hb⟩
    replace J := Lib.hid (J.out.step hb)
    clear hb
    go_wp2_with fail
    go_ret
    exact ⟨rfl, J.out.below⟩
  by_cases h3 : 1099511627776 < lim
  · go_enter Try.func4, Try.ntmps4
    go_wp2_with fail
    refine (EX _ J.out.below).out.mono ?_
    rintro e wq2 ⟨rfl, hb⟩
    replace J := Lib.hid (J.out.step hb)
    clear hb
    go_wp2_with fail
    go_ret
    exact ⟨rfl, J.out.below⟩
  have HI := Lib.hid (is_lit w [lim] (by simp [maxLen]))
  replace J := Lib.hid ((HO.nil w).alloc (ils [lim]) 3).tail
  go_enter Try.func4, Try.ntmps4
  go_wp2_with fail
  refine (K.new (K.below HT.out J.out.below) J.out.below HI.out (by simp) (i64s_one hl0)).mono ?_
  rintro e w1 ⟨rv, S, rfl, hr, hs, hb⟩
  rw [qS_new (by omega)] at hr
  replace J := Lib.hid (J.out.newQ K hr hs hb)
  obtain ⟨pa, rfl⟩ := K.some hr
  clear HI hr hs hb
  go_wp2_with fail
  go_loopw [6, 7] (fun s6 s7 wr => ∃ (i : Nat) (s : Int) (Sq : Nat → Prop), i ≤ n ∧ (0 ≤ s ∧ s ≤ lim) ∧ s6 = .int .i64 s ∧ s7 = .int .i64 (i : Int) ∧ Hid (HO w wr [objO R w (.pointer (some pa)) (qS lim s) Sq])) (fun _ s7 _ => leftN n s7)
  case atStart => exact ⟨0, 0, _, Nat.zero_le _, by omega, rfl, rfl, J⟩
  case round =>
    clear J
    obtain ⟨i, s, Sq, hi, ⟨hs0, hs1⟩, rfl, rfl, J⟩ := hrel
    by_cases hlt : i < n
    · have q0 : (0 : Int) ≤ i := by omega
      have q2 : (i : Int) < n := by omega
      obtain ⟨x, hx⟩ : ∃ x, l[i]? = some x := ⟨_, List.getElem?_eq_getElem (by rw [HN.out]; exact hlt)⟩
      obtain ⟨ia, ib, bb, off, rfl, TR⟩ := trs_at HA.out hx
      obtain ⟨t, m, c⟩ := x
      dsimp only at ia ib
      obtain ⟨c0, c1, c2⟩ := TR _ J.out.below
      clear hx
      by_cases g1 : m < 0
      · go_wp2_with fail
        go_roundw
        case rel => exact ⟨i + 1, s, Sq, by omega, by omega, rfl, by go_num, J⟩
        case measure =>
          unfold leftN
          simp [intOf]
          omega
      by_cases g2 : 1099511627776 < m
      · go_wp2_with fail
        go_roundw
        case rel => exact ⟨i + 1, s, Sq, by omega, by omega, rfl, by go_num, J⟩
        case measure =>
          unfold leftN
          simp [intOf]
          omega
      have g0 : 0 ≤ m := by omega
      cases c with
      | true =>
        by_cases hc : m ≤ s
        · go_wp2_with fail
          refine (K.rel (K.below HT.out J.out.below) (show HO w _ ([] ++ objO R w (.pointer (some pa)) (qS lim s) _ :: _) from J.out).at (qS_ok (by omega) (by omega) (by omega)) 0 m (i64_lit (by decide) (by decide)) ib).mono ?_
          rintro e wq ⟨S1, he, hr, hs, ht⟩
          rw [qS_rel g0, if_pos hc] at he hr
          obtain rfl : e = .returned (.int .i64 0) := he
          replace J := Lib.hid ((show HO w _ ([] ++ objO R w (.pointer (some pa)) (qS lim s) _ :: _) from J.out).turnQ K (q' := qS lim (s - m)) hr hs ht)
          clear hr hs ht
          go_wp2_with fail
          refine (K.used (K.below HT.out J.out.below) (show HO w _ ([] ++ objO R w (.pointer (some pa)) (qS lim (s - m)) _ :: _) from J.out).at (qS_ok (by omega) (by omega) (by omega)) 0 (i64_lit (by decide) (by decide))).mono ?_
          rintro e wq2 ⟨rfl, hb⟩
          rw [qS_used]
          replace J := Lib.hid (J.out.step hb)
          clear hb
          have ez : ((s - m) != (s - m)) = false := by simp
          go_wp2_with fail
          go_roundw
          case rel => exact ⟨i + 1, (s - m), _, by omega, by omega, rfl, by go_num, J⟩
          case measure =>
            unfold leftN
            simp [intOf]
            omega
        · go_wp2_with fail
          refine (K.rel (K.below HT.out J.out.below) (show HO w _ ([] ++ objO R w (.pointer (some pa)) (qS lim s) _ :: _) from J.out).at (qS_ok (by omega) (by omega) (by omega)) 0 m (i64_lit (by decide) (by decide)) ib).mono ?_
          rintro e wq ⟨S1, he, hr, hs, ht⟩
          rw [qS_rel g0, if_neg (by omega)] at he hr
          obtain rfl : e = .returned (.int .i64 14) := he
          replace J := Lib.hid ((show HO w _ ([] ++ objO R w (.pointer (some pa)) (qS lim s) _ :: _) from J.out).turnQ K (q' := qS lim s) hr hs ht)
          clear hr hs ht
          go_wp2_with fail
          refine (K.used (K.below HT.out J.out.below) (show HO w _ ([] ++ objO R w (.pointer (some pa)) (qS lim s) _ :: _) from J.out).at (qS_ok (by omega) (by omega) (by omega)) 0 (i64_lit (by decide) (by decide))).mono ?_
          rintro e wq2 ⟨rfl, hb⟩
          rw [qS_used]
          replace J := Lib.hid (J.out.step hb)
          clear hb
          have ez : (s != s) = false := by simp
          go_wp2_with fail
          go_roundw
          case rel => exact ⟨i + 1, s, _, by omega, by omega, rfl, by go_num, J⟩
          case measure =>
            unfold leftN
            simp [intOf]
            omega
      | false =>
        by_cases hc : m ≤ lim - s
        · go_wp2_with fail
          refine (K.use (K.below HT.out J.out.below) (show HO w _ ([] ++ objO R w (.pointer (some pa)) (qS lim s) _ :: _) from J.out).at (qS_ok (by omega) (by omega) (by omega)) 0 m (i64_lit (by decide) (by decide)) ib).mono ?_
          rintro e wq ⟨S1, he, hr, hs, ht⟩
          rw [qS_use g0, if_pos hc] at he hr
          obtain rfl : e = .returned (.int .i64 0) := he
          replace J := Lib.hid ((show HO w _ ([] ++ objO R w (.pointer (some pa)) (qS lim s) _ :: _) from J.out).turnQ K (q' := qS lim (s + m)) hr hs ht)
          clear hr hs ht
          go_wp2_with fail
          refine (K.used (K.below HT.out J.out.below) (show HO w _ ([] ++ objO R w (.pointer (some pa)) (qS lim (s + m)) _ :: _) from J.out).at (qS_ok (by omega) (by omega) (by omega)) 0 (i64_lit (by decide) (by decide))).mono ?_
          rintro e wq2 ⟨rfl, hb⟩
          rw [qS_used]
          replace J := Lib.hid (J.out.step hb)
          clear hb
          have ez : ((s + m) != (s + m)) = false := by simp
          go_wp2_with fail
          go_roundw
          case rel => exact ⟨i + 1, (s + m), _, by omega, by omega, rfl, by go_num, J⟩
          case measure =>
            unfold leftN
            simp [intOf]
            omega
        · go_wp2_with fail
          refine (K.use (K.below HT.out J.out.below) (show HO w _ ([] ++ objO R w (.pointer (some pa)) (qS lim s) _ :: _) from J.out).at (qS_ok (by omega) (by omega) (by omega)) 0 m (i64_lit (by decide) (by decide)) ib).mono ?_
          rintro e wq ⟨S1, he, hr, hs, ht⟩
          rw [qS_use g0, if_neg (by omega)] at he hr
          obtain rfl : e = .returned (.int .i64 5) := he
          replace J := Lib.hid ((show HO w _ ([] ++ objO R w (.pointer (some pa)) (qS lim s) _ :: _) from J.out).turnQ K (q' := qS lim s) hr hs ht)
          clear hr hs ht
          go_wp2_with fail
          refine (K.used (K.below HT.out J.out.below) (show HO w _ ([] ++ objO R w (.pointer (some pa)) (qS lim s) _ :: _) from J.out).at (qS_ok (by omega) (by omega) (by omega)) 0 (i64_lit (by decide) (by decide))).mono ?_
          rintro e wq2 ⟨rfl, hb⟩
          rw [qS_used]
          replace J := Lib.hid (J.out.step hb)
          clear hb
          have ez : (s != s) = false := by simp
          go_wp2_with fail
          go_roundw
          case rel => exact ⟨i + 1, s, _, by omega, by omega, rfl, by go_num, J⟩
          case measure =>
            unfold leftN
            simp [intOf]
            omega
    · obtain rfl : n = i := by omega
      go_wp2_with fail
      refine (EX _ J.out.below).out.mono ?_
      rintro e wq2 ⟨rfl, hb⟩
      replace J := Lib.hid (J.out.step hb)
      clear hb
      go_wp2_with fail
      go_ret
      exact ⟨rfl, J.out.below⟩
end

end Go.Proofs.Ytkehdaahlfkiiaa
