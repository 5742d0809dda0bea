/-
  QuotaIndependent, over the contracts of the package's functions.
-/
import Derived.Test.YtkehdaahlfkiiaaTls
namespace Go.Proofs.Ytkehdaahlfkiiaa
open Go.RowKit

def opQ (q : Qs) (x : Tr) : Qs × Int := if x.c = true then relQ q x.a x.b else useQ q x.a x.b
theorem opQ_ok {q : Qs} (h : QOk q) (x : Tr) : QOk (opQ q x).1 := by
  unfold opQ
  split
  · exact relQ_ok h _ _
  · exact useQ_ok h _ _
theorem opQ_ls (q : Qs) (x : Tr) : (opQ q x).1.ls = q.ls := by
  unfold opQ
  split
  · exact relQ_ls _ _ _
  · exact useQ_ls _ _ _
theorem setQ_cnt (q : Qs) {k n : Int} (hk : kindQ q k) (hq : QOk q) {j : Int} (hj : kindQ q j) : cntQ (setQ q k n) j = if k = j then n else cntQ q j := by
  obtain ⟨h0, h1⟩ := hk
  obtain ⟨j0, j1⟩ := hj
  have hlen := hq.len
  unfold cntQ setQ
  dsimp only
  rw [List.getD_eq_getElem?_getD, List.getD_eq_getElem?_getD]
  by_cases e : k = j
  · subst e
    rw [if_pos rfl, List.getElem?_set_self (by omega)]
    rfl
  · rw [if_neg e, List.getElem?_set_ne (by omega)]
/-- other kinds: a count is left alone -/
theorem opQ_far {q : Qs} (hq : QOk q) {x : Tr} {j : Int} (hj : kindQ q j) (hne : x.a ≠ j) : cntQ (opQ q x).1 j = cntQ q j := by
  unfold opQ
  split
  · unfold relQ
    by_cases hk : kindQ q x.a
    · rw [if_neg (not_not_intro hk)]
      split
      · rfl
      · split
        · rfl
        · rw [setQ_cnt q hk hq hj, if_neg hne]
    · rw [if_pos hk]
  · unfold useQ
    by_cases hk : kindQ q x.a
    · rw [if_neg (not_not_intro hk)]
      split
      · rfl
      · split
        · rfl
        · rw [setQ_cnt q hk hq hj, if_neg hne]
    · rw [if_pos hk]
/-- two quotas with the same limits and the same count of a kind: the same answer, and the same count behind it -/
theorem opQ_same {q p : Qs} (hq : QOk q) (hp : QOk p) (hl : p.ls = q.ls) {x : Tr} (hk : kindQ q x.a) (hc : cntQ p x.a = cntQ q x.a) : (opQ p x).2 = (opQ q x).2 ∧ cntQ (opQ p x).1 x.a = cntQ (opQ q x).1 x.a := by
  have hkp : kindQ p x.a := by unfold kindQ; rw [hl]; exact hk
  have hll : limQ p x.a = limQ q x.a := by unfold limQ; rw [hl]
  unfold opQ
  split
  · unfold relQ
    rw [if_neg (not_not_intro hk), if_neg (not_not_intro hkp), hc]
    split
    · exact ⟨rfl, hc⟩
    · split
      · exact ⟨rfl, hc⟩
      · exact ⟨rfl, by rw [setQ_cnt q hk hq hk, setQ_cnt p hkp hp hkp, if_pos rfl, if_pos rfl]⟩
  · unfold useQ
    rw [if_neg (not_not_intro hk), if_neg (not_not_intro hkp), hc, hll]
    split
    · exact ⟨rfl, hc⟩
    · split
      · exact ⟨rfl, hc⟩
      · exact ⟨rfl, by rw [setQ_cnt q hk hq hk, setQ_cnt p hkp hp hkp, if_pos rfl, if_pos rfl]⟩
theorem usedQ_same {q p : Qs} (hl : p.ls = q.ls) {j : Int} (hc : cntQ p j = cntQ q j) : usedQ p j = usedQ q j := by
  unfold usedQ kindQ
  rw [hl, hc]
theorem four_i64 {x : Int} (h : I64 x) : ∀ y ∈ [x, x, x, x], I64 y := fun y hy => by
  simp only [List.mem_cons, List.not_mem_nil, or_false] at hy
  rcases hy with rfl | rfl | rfl | rfl <;> exact h
section
variable {T : World → Prop} {R : World → World → Value → Qs → (Nat → Prop) → Prop} {RB : World → World → Value → Bk → (Nat → Prop) → Prop}
set_option maxRecDepth 100000 in
set_option maxHeartbeats 4000000 in
theorem do_any (K : PQ T R) {w0 W : World} {rv : Value} {q : Qs} {S : Nat → Prop} (hT : T W) (hR : R w0 W rv q S) (hq : QOk q) (x : Tr) (ha : I64 x.a) (hb : I64 x.b) :
    Calls Try.prog 16 #[rv, .agg #[.int .i64 x.a, .int .i64 x.b, .bool x.c]] W fun e w' => ∃ S', e = .returned (.int .i64 (opQ q x).2) ∧ R w0 w' rv (opQ q x).1 S' ∧ (∀ k, S' k → S k ∨ W.heap.size ≤ k) ∧ Turns S W w' := by
  obtain ⟨a, b, c⟩ := x
  dsimp only at ha hb ⊢
  have hb1 : Below W.heap.size W (W.alloc (.cells #[.int .i64 a, .int .i64 b, .bool c] 31)) := (Below.refl _ _).alloc (Nat.le_refl _) _
  have HR1 := Lib.hid (K.keep hR hb1.size (fun k hk => hb1.block k (K.lt hR k hk).2))
  have HT1 := Lib.hid (K.below hT hb1)
  have HB1 := Lib.hid hb1
  have hz : (W.alloc (.cells #[.int .i64 a, .int .i64 b, .bool c] 31)).heap.size = W.heap.size + 1 := by simp
  have HZ := Lib.hid hz
  have fin : ∀ {S' : Nat → Prop} {w' : World}, Turns S (W.alloc (.cells #[.int .i64 a, .int .i64 b, .bool c] 31)) w' → Turns S W w' := fun ht =>
    ⟨ht.os.trans HB1.out.os, ht.tape.trans HB1.out.tape, ht.output.trans HB1.out.output, Nat.le_trans HB1.out.size ht.size, fun k hk hn => (ht.block k (Nat.lt_of_lt_of_le hk HB1.out.size) hn).trans (HB1.out.block k hk)⟩
  have FIN := Lib.hid (fun (S' : Nat → Prop) (w' : World) => @fin S' w')
  obtain ⟨r, hr⟩ : ∃ r, opQ q ⟨a, b, c⟩ = r := ⟨_, rfl⟩
  rw [hr]
  unfold opQ at hr
  dsimp only at hr
  have HRR := Lib.hid hr
  clear fin hb1 hz hR hT hr
  cases c with
  | true =>
    go_enter Try.func16, Try.ntmps16
    go_wp2_with fail
    refine (K.rel HT1.out HR1.out hq a b ha hb).mono ?_
    rintro e w1 ⟨S', he, hr, hs, ht⟩
    rw [show relQ q a b = r from HRR.out] at he hr
    obtain rfl := he
    have H1 := Lib.hid hr
    have H2 := Lib.hid hs
    have H3 := Lib.hid ht
    clear hr hs ht
    go_wp2_with fail
    go_ret
    exact ⟨S', rfl, H1.out, fun k hk => (H2.out k hk).imp id (fun h => by have := HZ.out; omega), FIN.out S' _ H3.out⟩
  | false =>
    go_enter Try.func16, Try.ntmps16
    go_wp2_with fail
    refine (K.use HT1.out HR1.out hq a b ha hb).mono ?_
    rintro e w1 ⟨S', he, hr, hs, ht⟩
    rw [show useQ q a b = r from HRR.out] at he hr
    obtain rfl := he
    have H1 := Lib.hid hr
    have H2 := Lib.hid hs
    have H3 := Lib.hid ht
    clear hr hs ht
    go_wp2_with fail
    go_ret
    exact ⟨S', rfl, H1.out, fun k hk => (H2.out k hk).imp id (fun h => by have := HZ.out; omega), FIN.out S' _ H3.out⟩
set_option maxRecDepth 100000 in
set_option maxHeartbeats 16000000 in
theorem indep_walk (K : PQ T R) (KB : PB T RB) {w : World} (hT : T w) {lim : Int} (hl0 : I64 lim) {v : Value} {l : List Tr} (hl : Trs w v l) : Calls Try.prog 5 #[.int .i64 lim, v] w (SaysB true w) := by
  have HT := Lib.hid hT
  have EX := fun (W : World) (hb : Below w.heap.size w W) => Lib.hid (ex_any K KB (K.below HT.out hb))
  have HA := Lib.hid hl
  obtain ⟨A, cap, rfl, hcap, hm⟩ := hl.shape
  simp only [maxLen] at hm
  obtain ⟨n, hn⟩ : ∃ n, l.length = n := ⟨_, rfl⟩
  have HN := Lib.hid hn
  rw [hn] at hcap HA ⊢
  clear hT hl hn
  by_cases h1 : 200 < n
  · have q1 : (200 : Int) < n := by omega
    have J := Lib.hid (HO.nil w)
    go_enter Try.func5, Try.ntmps5
    go_wp2_with fail
    refine (EX _ J.out.below).out.mono ?_
    rintro e wq2 ⟨rfl, hb⟩
    replace J := Lib.hid (J.out.step hb)
    clear hb
    go_wp2_with fail
    go_ret
    exact ⟨rfl, J.out.below⟩
  have q1 : ¬ (200 : Int) < n := by omega
  obtain ⟨q0, hq0⟩ : ∃ q, newQ [lim, lim, lim, lim] = q := ⟨_, rfl⟩
  have HQ0 := Lib.hid hq0
  have HOK0 := Lib.hid (by have := newQ_ok (four_i64 hl0); rw [hq0] at this; exact this)
  have HLS : Hid (q0.ls.length = 4) := Lib.hid (by rw [← hq0]; rfl)
  have HI1 := Lib.hid (is_lit w [lim, lim, lim, lim] (by simp [maxLen]))
  have J := Lib.hid ((HO.nil w).alloc (ils [lim, lim, lim, lim]) 3).tail
  clear hq0
  go_enter Try.func5, Try.ntmps5
  go_wp2_with fail
  refine (K.new (K.below HT.out J.out.below) J.out.below HI1.out (by simp) (four_i64 hl0)).mono ?_
  rintro e w1 ⟨rv1, S1, rfl, hr, hs, hb⟩
  rw [HQ0.out] at hr
  replace J := Lib.hid (J.out.newQ K hr hs hb)
  obtain ⟨p1, rfl⟩ := K.some hr
  clear hr hs hb
  have HI2 := Lib.hid (is_lit w1 [lim, lim, lim, lim] (by simp [maxLen]))
  replace J := Lib.hid (J.out.alloc (ils [lim, lim, lim, lim]) 3).tail
  clear HI1
  go_wp2_with fail
  refine (K.new (K.below HT.out J.out.below) J.out.below HI2.out (by simp) (four_i64 hl0)).mono ?_
  rintro e w2 ⟨rv2, S2, rfl, hr, hs, hb⟩
  rw [HQ0.out] at hr
  replace J := Lib.hid (J.out.newQ K hr hs hb)
  obtain ⟨p2, rfl⟩ := K.some hr
  clear hr hs hb
  clear HI2 HQ0
  go_wp2_with fail
  go_loopw [7] (fun s7 wr => ∃ (i : Nat) (qa qb : Qs) (Sa Sb : Nat → Prop), i ≤ n ∧ s7 = .int .i64 (i : Int) ∧ Hid (QOk qa) ∧ Hid (QOk qb) ∧ Hid (qb.ls = qa.ls ∧ qa.ls.length = 4 ∧ cntQ qb 1 = cntQ qa 1) ∧ Hid (HO w wr [objO R w (.pointer (some p2)) qb Sb, objO R w (.pointer (some p1)) qa Sa])) (fun s7 _ => leftN n s7)
  case atStart => exact ⟨0, _, _, _, _, Nat.zero_le _, rfl, HOK0, HOK0, Lib.hid ⟨rfl, HLS.out, rfl⟩, J⟩
  case round =>
    clear J HOK0 HLS
    obtain ⟨i, qa, qb, Sa, Sb, hi, rfl, qaok, qbok, HE, J⟩ := hrel
    by_cases hlt : i < n
    · have q0 : (0 : Int) ≤ i := by omega
      have q2 : (i : Int) < n := by omega
      obtain ⟨x, hx⟩ : ∃ x, l[i]? = some x := ⟨_, List.getElem?_eq_getElem (by rw [HN.out]; exact hlt)⟩
      obtain ⟨ia, ib, bb, off, rfl, TR⟩ := trs_at HA.out hx
      obtain ⟨t, m, c⟩ := x
      dsimp only at ia ib
      obtain ⟨c0, c1, c2⟩ := TR _ J.out.below
      clear hx
      obtain ⟨he1, he2, he3⟩ := HE.out
      have hk1 : kindQ qa 1 := ⟨by decide, by rw [he2]; decide⟩
      obtain ⟨⟨na, ea⟩, hqa⟩ : ∃ z, opQ qa ⟨t, m, c⟩ = z := ⟨_, rfl⟩
      have naok := Lib.hid (by have := opQ_ok qaok.out ⟨t, m, c⟩; rw [hqa] at this; exact this)
      have hls1 := opQ_ls qa ⟨t, m, c⟩
      rw [hqa] at hls1
      dsimp only at naok hls1
      have HQA := Lib.hid hqa
      by_cases ht1 : t = 1
      · subst ht1
        obtain ⟨s1, s2⟩ := opQ_same (x := ⟨1, m, c⟩) qaok.out qbok.out he1 hk1 he3
        obtain ⟨⟨nb, eb⟩, hqb⟩ : ∃ z, opQ qb ⟨1, m, c⟩ = z := ⟨_, rfl⟩
        have nbok := Lib.hid (by have := opQ_ok qbok.out ⟨1, m, c⟩; rw [hqb] at this; exact this)
        have hls2 := opQ_ls qb ⟨1, m, c⟩
        rw [hqb] at hls2
        rw [hqa, hqb] at s1 s2
        dsimp only at nbok hls2 s1 s2
        subst s1
        have HQB := Lib.hid hqb
        have HE2 : Hid (nb.ls = na.ls ∧ na.ls.length = 4 ∧ cntQ nb 1 = cntQ na 1) := Lib.hid ⟨hls2.trans (he1.trans hls1.symm), by rw [hls1]; exact he2, s2⟩
        have ez : (eb != eb) = false := by simp
        clear hqa hqb hls1 hls2 s2 he1 he2 he3 hk1
        go_wp2_with fail
        refine (do_any K (K.below HT.out J.out.below) (show HO w _ ([_] ++ objO R w (.pointer (some p1)) qa _ :: _) from J.out).at qaok.out ⟨1, m, c⟩ ia ib).mono ?_
        rintro e wq ⟨Sq, he, hr, hs, ht⟩
        rw [HQA.out] at he hr
        obtain rfl := he
        replace J := Lib.hid ((show HO w _ ([_] ++ objO R w (.pointer (some p1)) qa _ :: _) from J.out).turnQ K (q' := na) hr hs ht)
        clear hr hs ht
        clear c0 c1 c2
        obtain ⟨c0, c1, c2⟩ := TR _ J.out.below
        go_wp2_with fail
        refine (do_any K (K.below HT.out J.out.below) (show HO w _ ([] ++ objO R w (.pointer (some p2)) qb _ :: _) from J.out).at qbok.out ⟨1, m, c⟩ ia ib).mono ?_
        rintro e wq ⟨Sq, he, hr, hs, ht⟩
        rw [HQB.out] at he hr
        obtain rfl := he
        replace J := Lib.hid ((show HO w _ ([] ++ objO R w (.pointer (some p2)) qb _ :: _) from J.out).turnQ K (q' := nb) hr hs ht)
        clear hr hs ht
        go_wp2_with fail
        go_roundw
        case rel => exact ⟨i + 1, na, nb, _, _, by omega, by go_num, naok, nbok, HE2, J⟩
        case measure =>
          unfold leftN
          simp [intOf]
          omega
      · have hf := opQ_far (x := ⟨t, m, c⟩) qaok.out hk1 ht1
        rw [hqa] at hf
        dsimp only at hf
        have HE2 : Hid (qb.ls = na.ls ∧ na.ls.length = 4 ∧ cntQ qb 1 = cntQ na 1) := Lib.hid ⟨he1.trans hls1.symm, by rw [hls1]; exact he2, he3.trans hf.symm⟩
        have et : (t == 1) = false := beq_eq_false_iff_ne.2 ht1
        clear hqa hls1 hf he1 he2 he3 hk1
        go_wp2_with fail
        refine (do_any K (K.below HT.out J.out.below) (show HO w _ ([_] ++ objO R w (.pointer (some p1)) qa _ :: _) from J.out).at qaok.out ⟨t, m, c⟩ ia ib).mono ?_
        rintro e wq ⟨Sq, he, hr, hs, ht⟩
        rw [HQA.out] at he hr
        obtain rfl := he
        replace J := Lib.hid ((show HO w _ ([_] ++ objO R w (.pointer (some p1)) qa _ :: _) from J.out).turnQ K (q' := na) hr hs ht)
        clear hr hs ht
        clear c0 c1 c2
        obtain ⟨c0, c1, c2⟩ := TR _ J.out.below
        go_wp2_with fail
        go_roundw
        case rel => exact ⟨i + 1, na, qb, _, _, by omega, by go_num, naok, qbok, HE2, J⟩
        case measure =>
          unfold leftN
          simp [intOf]
          omega
    · obtain rfl : n = i := by omega
      have hu := usedQ_same HE.out.1 HE.out.2.2
      obtain ⟨z, hz⟩ : ∃ z, usedQ qa 1 = z := ⟨_, rfl⟩
      rw [hz] at hu
      have HU := Lib.hid hu
      have HZ := Lib.hid hz
      have ez : (z == z) = true := by simp
      clear hu hz
      go_wp2_with fail
      refine (K.used (K.below HT.out J.out.below) (show HO w _ ([_] ++ objO R w (.pointer (some p1)) qa _ :: _) from J.out).at qaok.out 1 (i64_lit (by decide) (by decide))).mono ?_
      rintro e w3 ⟨rfl, hb⟩
      rw [HZ.out]
      replace J := Lib.hid (J.out.step hb)
      clear hb
      go_wp2_with fail
      refine (K.used (K.below HT.out J.out.below) (show HO w _ ([] ++ objO R w (.pointer (some p2)) qb _ :: _) from J.out).at qbok.out 1 (i64_lit (by decide) (by decide))).mono ?_
      rintro e w4 ⟨rfl, hb⟩
      rw [HU.out]
      replace J := Lib.hid (J.out.step hb)
      clear hb
      go_wp2_with fail
      refine (EX _ J.out.below).out.mono ?_
      rintro e wq2 ⟨rfl, hb⟩
      replace J := Lib.hid (J.out.step hb)
      clear hb
      go_wp2_with fail
      go_ret
      exact ⟨rfl, J.out.below⟩
end

end Go.Proofs.Ytkehdaahlfkiiaa
