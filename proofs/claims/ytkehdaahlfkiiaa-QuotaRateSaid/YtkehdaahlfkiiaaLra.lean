/-
  QuotaRate, over the contracts of the package's functions.
-/
import Derived.Test.YtkehdaahlfkiiaaTls
namespace Go.Proofs.Ytkehdaahlfkiiaa
open Go.RowKit

/-- what the law's loop keeps: the tokens that were taken and those that are left are within what came in -/
structure RI (rt bu : Int) (b : Bk) (now taken : Int) : Prop where
  at' : AtB b now
  rt' : b.rt = rt
  bu' : b.bu = bu
  pot : 1000 * taken + b.fi ≤ 1000 * bu + rt * now
theorem adv_pot {b : Bk} {u t : Int} (h : AtB b u) (ht : u ≤ t) : (advB b t).fi ≤ b.fi + b.rt * (t - u) ∧ (advB b t).st = true ∧ (advB b t).la = t := by
  obtain ⟨r0, r1⟩ := h.ok.rt
  obtain ⟨f0, f1⟩ := h.ok.fi
  have hla := h.la
  have hp : 0 ≤ b.rt * (t - u) := Int.mul_nonneg r0 (by omega)
  unfold advB
  rw [if_neg (by rw [h.st]; simp)]
  by_cases hle : t ≤ b.la
  · rw [if_pos hle]
    exact ⟨by omega, h.st, by omega⟩
  · rw [if_neg hle]
    refine ⟨?_, h.st, rfl⟩
    dsimp only
    unfold fillB
    rw [hla]
    by_cases h0 : 0 < b.rt
    · rw [if_pos h0]
      have h1 : t - u ≤ b.rt * (t - u) := by
        have := Int.mul_le_mul_of_nonneg_right (show 1 ≤ b.rt by omega) (show 0 ≤ t - u by omega)
        omega
      have hc : (t - u) * b.rt = b.rt * (t - u) := Int.mul_comm _ _
      rw [hc]
      split
      · omega
      · omega
    · rw [if_neg h0]
      omega
theorem ri_step {rt bu : Int} {b : Bk} {now taken d : Int} (h : RI rt bu b now taken) (hd : 0 ≤ d) (hn : I64 (now + d)) : RI rt bu (advB b (now + d)) (now + d) taken := by
  obtain ⟨p1, p2, p3⟩ := adv_pot h.at' (show now ≤ now + d by omega)
  obtain ⟨s1, s2, s3⟩ := advB_same b (now + d)
  refine ⟨⟨s1.trans h.at'.md, p2, p3, advB_ok h.at'.ok hn⟩, s3.trans h.rt', s2.trans h.bu', ?_⟩
  have := h.pot
  rw [show now + d - now = d by omega, h.rt'] at p1
  rw [Int.mul_add]
  omega
theorem tk_le {b : Bk} {u : Int} (h : AtB b u) {n : Int} (hn : 0 ≤ n) : (tkB b n).2 = decide (n ≤ b.fi / 1000) := by
  obtain ⟨f0, f1⟩ := h.ok.fi
  unfold tkB
  by_cases hc : n ≤ b.fi / 1000
  · rw [if_neg (by omega), decide_eq_true hc]
  · rw [if_pos (by omega), decide_eq_false hc]
theorem ri_take {rt bu : Int} {b : Bk} {now taken n : Int} (h : RI rt bu b now taken) (hn : 0 ≤ n) : RI rt bu (tkB b n).1 now (if n ≤ b.fi / 1000 then taken + n else taken) := by
  obtain ⟨f0, f1⟩ := h.at'.ok.fi
  have ha := tk_at h.at' n
  have hp := h.pot
  unfold tkB at ha ⊢
  by_cases hc : n ≤ b.fi / 1000
  · rw [if_pos hc]
    rw [if_neg (by omega)] at ha ⊢
    exact ⟨ha, h.rt', h.bu', by dsimp only; omega⟩
  · rw [if_neg hc, if_pos (by omega)]
    exact h
section
variable {T : World → Prop} {R : World → World → Value → Qs → (Nat → Prop) → Prop} {RB : World → World → Value → Bk → (Nat → Prop) → Prop}
set_option maxRecDepth 100000 in
set_option maxHeartbeats 16000000 in
theorem rate_walk (K : PQ T R) (KB : PB T RB) {w : World} (hT : T w) {r b : Nat} (hr0 : r < 256) (hb0 : b < 256) {v : Value} {l : List Tr} (hl : Trs w v l) : Calls Try.prog 7 #[.int .u8 (r : Int), .int .u8 (b : Int), v] w (SaysB true w) := by
  have HT := Lib.hid hT
  have EX := fun (W : World) (hb : Below w.heap.size w W) => Lib.hid (ex_any K KB (K.below HT.out hb))
  have J := Lib.hid (HO.nil w)
  have HA := Lib.hid hl
  obtain ⟨A, cap, rfl, hcap, hm⟩ := hl.shape
  simp only [maxLen] at hm
  obtain ⟨n, hn⟩ : ∃ n, l.length = n := ⟨_, rfl⟩
  have HN := Lib.hid hn
  rw [hn] at hcap HA ⊢
  clear hT hl hn
  by_cases h1 : 300 < n
  · have q1 : (300 : Int) < n := by omega
    go_enter Try.func7, Try.ntmps7
    go_wp2_with fail
    refine (EX _ J.out.below).out.mono ?_
    rintro e wq2 ⟨rfl, hb⟩
    replace J := Lib.hid (J.out.step hb)
    clear hb
    go_wp2_with fail
    go_ret
    exact ⟨rfl, J.out.below⟩
  have q1 : ¬ (300 : Int) < n := by omega
  have hnb : newB (r : Int) ((b : Int) + 1) = ⟨true, false, r, (b : Int) + 1, ((b : Int) + 1) * 1000, 0⟩ := by unfold newB; rw [if_neg (by omega)]
  have hbo := newB_ok (r : Int) ((b : Int) + 1)
  rw [hnb] at hbo
  have htk : takeB ⟨true, false, (r : Int), (b : Int) + 1, ((b : Int) + 1) * 1000, 0⟩ 0 0 = (⟨true, true, r, (b : Int) + 1, ((b : Int) + 1) * 1000, 0⟩, true) := by
    unfold takeB advB
    rw [if_neg (by simp), if_pos rfl, if_neg (by dsimp only; omega)]
    simp
  have HBO := Lib.hid hbo
  have HTK := Lib.hid htk
  have HNB := Lib.hid hnb
  have HI0 : Hid (RI (r : Int) ((b : Int) + 1) ⟨true, true, r, (b : Int) + 1, ((b : Int) + 1) * 1000, 0⟩ 0 0) := Lib.hid ⟨⟨rfl, rfl, rfl, by have := takeB_ok hbo (now := 0) (i64_lit (by decide) (by decide)) 0; rw [htk] at this; exact this⟩, rfl, rfl, by simp; omega⟩
  clear hnb hbo htk
  go_enter Try.func7, Try.ntmps7
  go_wp2_with fail
  refine (KB.new (K.below HT.out J.out.below) J.out.below (r : Int) ((b : Int) + 1) ⟨by omega, by omega⟩ ⟨by omega, by omega⟩).mono ?_
  rintro e w1 ⟨rv, Sq, rfl, hr, hs, hb⟩
  rw [HNB.out] at hr
  obtain ⟨pa, rfl⟩ := KB.made hr rfl
  replace J := Lib.hid (J.out.newB KB hr hs hb)
  clear hr hs hb HNB
  go_wp2_with fail
  refine (KB.take (K.below HT.out J.out.below) (show HO w _ ([] ++ objO RB w (.pointer (some pa)) _ _ :: _) from J.out).at HBO.out 0 0 (i64_lit (by decide) (by decide)) (i64_lit (by decide) (by decide))).mono ?_
  rintro e wq ⟨S1, he, hr, hs, ht⟩
  rw [HTK.out] at he hr
  obtain rfl : e = .returned (.bool true) := he
  replace J := Lib.hid ((show HO w _ ([] ++ objO RB w (.pointer (some pa)) _ _ :: _) from J.out).turnB KB hr hs ht)
  clear hr hs ht HTK HBO
  go_wp2_with fail
  go_loopw [8, 9, 10] (fun s8 s9 s10 wr => ∃ (i : Nat) (now taken : Int) (bk : Bk) (Sq : Nat → Prop), i ≤ n ∧ (0 ≤ now ∧ now ≤ 10000 * i) ∧ (0 ≤ taken ∧ taken ≤ 10000 * i) ∧ s8 = .int .i64 now ∧ s9 = .int .i64 taken ∧ s10 = .int .i64 (i : Int) ∧ Hid (RI (r : Int) ((b : Int) + 1) bk now taken) ∧ Hid (HO w wr [objO RB w (.pointer (some pa)) bk Sq])) (fun _ _ s10 _ => leftN n s10)
  case atStart => exact ⟨0, 0, 0, _, _, Nat.zero_le _, by simp, by simp, rfl, rfl, rfl, HI0, J⟩
  case round =>
    clear J HI0
    obtain ⟨i, now, taken, bk, Sq, hi, ⟨hn0, hn1⟩, ⟨ht0, ht1⟩, rfl, rfl, rfl, HI, J⟩ := hrel
    by_cases hlt : i < n
    · have q0 : (0 : Int) ≤ i := by omega
      have q2 : (i : Int) < n := by omega
      obtain ⟨x, hx⟩ : ∃ x, l[i]? = some x := ⟨_, List.getElem?_eq_getElem (by rw [HN.out]; exact hlt)⟩
      obtain ⟨ia, ib, bb, off, rfl, TR⟩ := trs_at HA.out hx
      obtain ⟨t, m, c⟩ := x
      dsimp only at ia ib
      obtain ⟨c0, c1, c2⟩ := TR _ J.out.below
      clear hx
      by_cases g1 : t < 0
      · go_wp2_with fail
        go_roundw
        case rel => exact ⟨i + 1, now, taken, bk, Sq, by omega, by omega, by omega, rfl, rfl, by go_num, HI, J⟩
        case measure =>
          unfold leftN
          simp [intOf]
          omega
      by_cases g2 : 10000 < t
      · go_wp2_with fail
        go_roundw
        case rel => exact ⟨i + 1, now, taken, bk, Sq, by omega, by omega, by omega, rfl, rfl, by go_num, HI, J⟩
        case measure =>
          unfold leftN
          simp [intOf]
          omega
      by_cases g3 : m < 0
      · go_wp2_with fail
        go_roundw
        case rel => exact ⟨i + 1, now, taken, bk, Sq, by omega, by omega, by omega, rfl, rfl, by go_num, HI, J⟩
        case measure =>
          unfold leftN
          simp [intOf]
          omega
      by_cases g4 : 10000 < m
      · go_wp2_with fail
        go_roundw
        case rel => exact ⟨i + 1, now, taken, bk, Sq, by omega, by omega, by omega, rfl, rfl, by go_num, HI, J⟩
        case measure =>
          unfold leftN
          simp [intOf]
          omega
      have hI1 := ri_step HI.out (show 0 ≤ t by omega) (show I64 (now + t) from ⟨by omega, by omega⟩)
      have hL : lvlB bk (now + t) = (advB bk (now + t), (advB bk (now + t)).fi / 1000) := by unfold lvlB; rw [if_neg (by rw [HI.out.at'.md]; simp)]
      have hokb := HI.out.at'.ok
      obtain ⟨x, hx⟩ : ∃ x, advB bk (now + t) = x := ⟨_, rfl⟩
      rw [hx] at hI1 hL
      have hI2 := ri_take hI1 (show 0 ≤ m by omega)
      have hT2 := take_old hI1.at' (Int.le_refl _) m
      have hT3 := tk_le hI1.at' (show 0 ≤ m by omega)
      obtain ⟨f0, f1⟩ := hI1.at'.ok.fi
      rw [hI1.bu'] at f1
      obtain ⟨z, hz⟩ : ∃ z, x.fi / 1000 = z := ⟨_, rfl⟩
      have z0 : 0 ≤ z := by omega
      have z1 : z ≤ (b : Int) + 1 := by omega
      rw [hz] at hI2 hL hT3
      obtain ⟨⟨y, k⟩, hy⟩ : ∃ q, tkB x m = q := ⟨_, rfl⟩
      rw [hy] at hI2 hT2 hT3
      dsimp only at hI2 hT3
      have HL := Lib.hid hL
      have HT2 := Lib.hid hT2
      have HOK := Lib.hid hokb
      have HOX := Lib.hid hI1.at'.ok
      have hn9 : I64 (now + t) := ⟨by omega, by omega⟩
      have hp0 : 0 ≤ (r : Int) * (now + t) := Int.mul_nonneg (by omega) (by omega)
      have hp1 : (r : Int) * (now + t) ≤ 255 * 3010000 := Int.le_trans (Int.mul_le_mul_of_nonneg_right (show (r : Int) ≤ 255 by omega) (by omega)) (Int.mul_le_mul_of_nonneg_left (by omega) (by decide))
      have hpot := hI2.pot
      have hyf := hI2.at'.ok.fi.1
      obtain ⟨P, hP⟩ : ∃ P, (r : Int) * (now + t) = P := ⟨_, rfl⟩
      rw [hP] at hp0 hp1 hpot
      have z2 : ¬ z < 0 := by omega
      have z3 : ¬ (b : Int) + 1 < z := by omega
      by_cases hc : m ≤ z
      · rw [if_pos hc] at hI2 hpot
        rw [decide_eq_true hc] at hT3
        subst hT3
        have HI2 := Lib.hid hI2
        have q9 : ¬ 1000 * ((b : Int) + 1) + P < 1000 * (taken + m) := by omega
        clear hI1 hI2 hL hT2 hx hy hz hpot hyf hokb
        go_wp2_with fail
        refine (KB.lvl (K.below HT.out J.out.below) (show HO w _ ([] ++ objO RB w (.pointer (some pa)) _ _ :: _) from J.out).at HOK.out (now + t) hn9).mono ?_
        rintro e wq ⟨S1, he, hr, hs, ht⟩
        rw [HL.out] at he hr
        obtain rfl : e = .returned (.int .i64 z) := he
        replace J := Lib.hid ((show HO w _ ([] ++ objO RB w (.pointer (some pa)) _ _ :: _) from J.out).turnB KB (b' := x) hr hs ht)
        clear hr hs ht c0 c1 c2
        obtain ⟨c0, c1, c2⟩ := TR _ J.out.below
        go_wp2_with fail
        refine (KB.take (K.below HT.out J.out.below) (show HO w _ ([] ++ objO RB w (.pointer (some pa)) x _ :: _) from J.out).at HOX.out (now + t) m hn9 ib).mono ?_
        rintro e wq2 ⟨S2, he, hr, hs, ht⟩
        rw [HT2.out] at he hr
        obtain rfl : e = .returned (.bool true) := he
        replace J := Lib.hid ((show HO w _ ([] ++ objO RB w (.pointer (some pa)) x _ :: _) from J.out).turnB KB (b' := y) hr hs ht)
        clear hr hs ht c0 c1 c2
        obtain ⟨c0, c1, c2⟩ := TR _ J.out.below
        go_wp2_with fail
        go_roundw
        case rel => exact ⟨i + 1, now + t, taken + m, y, S2, by omega, by omega, by omega, rfl, rfl, by go_num, HI2, J⟩
        case measure =>
          unfold leftN
          simp [intOf]
          omega
      · rw [if_neg hc] at hI2 hpot
        rw [decide_eq_false hc] at hT3
        subst hT3
        have HI2 := Lib.hid hI2
        have q9 : ¬ 1000 * ((b : Int) + 1) + P < 1000 * taken := by omega
        clear hI1 hI2 hL hT2 hx hy hz hpot hyf hokb
        go_wp2_with fail
        refine (KB.lvl (K.below HT.out J.out.below) (show HO w _ ([] ++ objO RB w (.pointer (some pa)) _ _ :: _) from J.out).at HOK.out (now + t) hn9).mono ?_
        rintro e wq ⟨S1, he, hr, hs, ht⟩
        rw [HL.out] at he hr
        obtain rfl : e = .returned (.int .i64 z) := he
        replace J := Lib.hid ((show HO w _ ([] ++ objO RB w (.pointer (some pa)) _ _ :: _) from J.out).turnB KB (b' := x) hr hs ht)
        clear hr hs ht c0 c1 c2
        obtain ⟨c0, c1, c2⟩ := TR _ J.out.below
        go_wp2_with fail
        refine (KB.take (K.below HT.out J.out.below) (show HO w _ ([] ++ objO RB w (.pointer (some pa)) x _ :: _) from J.out).at HOX.out (now + t) m hn9 ib).mono ?_
        rintro e wq2 ⟨S2, he, hr, hs, ht⟩
        rw [HT2.out] at he hr
        obtain rfl : e = .returned (.bool false) := he
        replace J := Lib.hid ((show HO w _ ([] ++ objO RB w (.pointer (some pa)) x _ :: _) from J.out).turnB KB (b' := y) hr hs ht)
        clear hr hs ht c0 c1 c2
        obtain ⟨c0, c1, c2⟩ := TR _ J.out.below
        go_wp2_with fail
        go_roundw
        case rel => exact ⟨i + 1, now + t, taken, y, S2, by omega, by omega, by omega, rfl, rfl, by go_num, HI2, J⟩
        case measure =>
          unfold leftN
          simp [intOf]
          omega
    · obtain rfl : n = i := by omega
      go_wp2_with fail
      refine (EX _ J.out.below).out.mono ?_
      rintro e wq2 ⟨rfl, hb⟩
      replace J := Lib.hid (J.out.step hb)
      clear hb
      go_wp2_with fail
      go_ret
      exact ⟨rfl, J.out.below⟩
end

end Go.Proofs.Ytkehdaahlfkiiaa
