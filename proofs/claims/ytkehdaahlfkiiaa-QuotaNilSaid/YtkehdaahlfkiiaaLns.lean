/-
  QuotaNil and QuotaSplit, over the contracts of the package's functions.
-/
import Derived.Test.YtkehdaahlfkiiaaQex
namespace Go.Proofs.Ytkehdaahlfkiiaa
open Go.RowKit

section
variable {T : World → Prop} {R : World → World → Value → Qs → (Nat → Prop) → Prop} {RB : World → World → Value → Bk → (Nat → Prop) → Prop}
set_option maxRecDepth 100000 in
set_option maxHeartbeats 16000000 in
theorem nil_walk (K : PQ T R) (KB : PB T RB) (N : PNQ T) {w : World} (hT : T w) {k n r b : Int} (hk : I64 k) (hn : I64 n) (hr : I64 r) (hb0 : I64 b) : Calls Try.prog 10 #[.int .i64 k, .int .i64 n, .agg #[.int .i64 r, .int .i64 b]] w (SaysB true w) := by
  have HT := Lib.hid hT
  have EX := fun (W : World) (hb : Below w.heap.size w W) => Lib.hid (ex_any K KB (K.below HT.out hb))
  have J := Lib.hid ((HO.nil w).alloc [.int .i64 r, .int .i64 b] 58)
  clear hT
  by_cases h0 : r < 0
  · have hnb : newB r b = zeroB := by unfold newB; rw [if_pos (.inl h0)]
    go_enter Try.func10, Try.ntmps10
    go_wp2_with fail
    replace J := Lib.hid J.out.drew
    have sk := (show HO w _ ([] ++ boxO w.heap.size _ :: []) from J.out).c2
    go_region_held3 (fun W => W.cell? ⟨w.heap.size, 0, none⟩ = some (.int .i64 r) ∧ W.cell? ⟨w.heap.size, 1, none⟩ = some (.int .i64 b))
      (first
        | exact ⟨sk.1, sk.2.1⟩
        | go_keep)
      (first
        | fail
        | fail)
    go_wp2_with fail
    refine (N.use (K.below HT.out J.out.below) k n hk hn).mono ?_
    rintro e wq ⟨rfl, hb⟩
    replace J := Lib.hid (J.out.step hb)
    clear hb
    go_wp2_with fail
    refine (N.rel (K.below HT.out J.out.below) k n hk hn).mono ?_
    rintro e wq ⟨rfl, hb⟩
    replace J := Lib.hid (J.out.step hb)
    clear hb
    go_wp2_with fail
    refine (N.used (K.below HT.out J.out.below) k hk).mono ?_
    rintro e wq ⟨rfl, hb⟩
    replace J := Lib.hid (J.out.step hb)
    clear hb
    go_wp2_with fail
    refine (N.take (K.below HT.out J.out.below) k n hk hn).mono ?_
    rintro e wq ⟨rfl, hb⟩
    replace J := Lib.hid (J.out.step hb)
    clear hb
    go_wp2_with fail
    refine (N.lvl (K.below HT.out J.out.below) k hk).mono ?_
    rintro e wq ⟨rfl, hb⟩
    replace J := Lib.hid (J.out.step hb)
    clear hb
    go_wp2_with fail
    refine (KB.new (K.below HT.out J.out.below) J.out.below r b hr hb0).mono ?_
    rintro e wq ⟨rv, S, rfl, hrb, hs, hb⟩
    replace J := Lib.hid (J.out.newB KB hrb hs hb)
    obtain rfl := KB.nil hrb (by rw [hnb]; rfl)
    clear hrb hs hb hnb
    go_wp2_with fail
    refine (EX _ J.out.below).out.mono ?_
    rintro e wq2 ⟨rfl, hb⟩
    replace J := Lib.hid (J.out.step hb)
    clear hb
    go_wp2_with fail
    go_ret
    exact ⟨rfl, J.out.below⟩
  by_cases h1 : 1048576 < r
  · have hnb : newB r b = zeroB := by unfold newB; rw [if_pos (.inr (.inl h1))]
    go_enter Try.func10, Try.ntmps10
    go_wp2_with fail
    replace J := Lib.hid J.out.drew
    have sk := (show HO w _ ([] ++ boxO w.heap.size _ :: []) from J.out).c2
    go_region_held3 (fun W => W.cell? ⟨w.heap.size, 0, none⟩ = some (.int .i64 r) ∧ W.cell? ⟨w.heap.size, 1, none⟩ = some (.int .i64 b))
      (first
        | exact ⟨sk.1, sk.2.1⟩
        | go_keep)
      (first
        | fail
        | fail)
    go_wp2_with fail
    refine (N.use (K.below HT.out J.out.below) k n hk hn).mono ?_
    rintro e wq ⟨rfl, hb⟩
    replace J := Lib.hid (J.out.step hb)
    clear hb
    go_wp2_with fail
    refine (N.rel (K.below HT.out J.out.below) k n hk hn).mono ?_
    rintro e wq ⟨rfl, hb⟩
    replace J := Lib.hid (J.out.step hb)
    clear hb
    go_wp2_with fail
    refine (N.used (K.below HT.out J.out.below) k hk).mono ?_
    rintro e wq ⟨rfl, hb⟩
    replace J := Lib.hid (J.out.step hb)
    clear hb
    go_wp2_with fail
    refine (N.take (K.below HT.out J.out.below) k n hk hn).mono ?_
    rintro e wq ⟨rfl, hb⟩
    replace J := Lib.hid (J.out.step hb)
    clear hb
    go_wp2_with fail
    refine (N.lvl (K.below HT.out J.out.below) k hk).mono ?_
    rintro e wq ⟨rfl, hb⟩
    replace J := Lib.hid (J.out.step hb)
    clear hb
    go_wp2_with fail
    refine (KB.new (K.below HT.out J.out.below) J.out.below r b hr hb0).mono ?_
    rintro e wq ⟨rv, S, rfl, hrb, hs, hb⟩
    replace J := Lib.hid (J.out.newB KB hrb hs hb)
    obtain rfl := KB.nil hrb (by rw [hnb]; rfl)
    clear hrb hs hb hnb
    go_wp2_with fail
    refine (EX _ J.out.below).out.mono ?_
    rintro e wq2 ⟨rfl, hb⟩
    replace J := Lib.hid (J.out.step hb)
    clear hb
    go_wp2_with fail
    go_ret
    exact ⟨rfl, J.out.below⟩
  by_cases h2 : b < 1
  · have hnb : newB r b = zeroB := by unfold newB; rw [if_pos (.inr (.inr (.inl h2)))]
    go_enter Try.func10, Try.ntmps10
    go_wp2_with fail
    replace J := Lib.hid J.out.drew
    have sk := (show HO w _ ([] ++ boxO w.heap.size _ :: []) from J.out).c2
    go_region_held3 (fun W => W.cell? ⟨w.heap.size, 0, none⟩ = some (.int .i64 r) ∧ W.cell? ⟨w.heap.size, 1, none⟩ = some (.int .i64 b))
      (first
        | exact ⟨sk.1, sk.2.1⟩
        | go_keep)
      (first
        | fail
        | fail)
    go_wp2_with fail
    refine (N.use (K.below HT.out J.out.below) k n hk hn).mono ?_
    rintro e wq ⟨rfl, hb⟩
    replace J := Lib.hid (J.out.step hb)
    clear hb
    go_wp2_with fail
    refine (N.rel (K.below HT.out J.out.below) k n hk hn).mono ?_
    rintro e wq ⟨rfl, hb⟩
    replace J := Lib.hid (J.out.step hb)
    clear hb
    go_wp2_with fail
    refine (N.used (K.below HT.out J.out.below) k hk).mono ?_
    rintro e wq ⟨rfl, hb⟩
    replace J := Lib.hid (J.out.step hb)
    clear hb
    go_wp2_with fail
    refine (N.take (K.below HT.out J.out.below) k n hk hn).mono ?_
    rintro e wq ⟨rfl, hb⟩
    replace J := Lib.hid (J.out.step hb)
    clear hb
    go_wp2_with fail
    refine (N.lvl (K.below HT.out J.out.below) k hk).mono ?_
    rintro e wq ⟨rfl, hb⟩
    replace J := Lib.hid (J.out.step hb)
    clear hb
    go_wp2_with fail
    refine (KB.new (K.below HT.out J.out.below) J.out.below r b hr hb0).mono ?_
    rintro e wq ⟨rv, S, rfl, hrb, hs, hb⟩
    replace J := Lib.hid (J.out.newB KB hrb hs hb)
    obtain rfl := KB.nil hrb (by rw [hnb]; rfl)
    clear hrb hs hb hnb
    go_wp2_with fail
    refine (EX _ J.out.below).out.mono ?_
    rintro e wq2 ⟨rfl, hb⟩
    replace J := Lib.hid (J.out.step hb)
    clear hb
    go_wp2_with fail
    go_ret
    exact ⟨rfl, J.out.below⟩
  by_cases h3 : 1048576 < b
  · have hnb : newB r b = zeroB := by unfold newB; rw [if_pos (.inr (.inr (.inr h3)))]
    have d3 : decide (b ≤ 1048576) = false := decide_eq_false (by omega)
    go_enter Try.func10, Try.ntmps10
    go_wp2_with fail
    replace J := Lib.hid J.out.drew
    have sk := (show HO w _ ([] ++ boxO w.heap.size _ :: []) from J.out).c2
    go_region_held3 (fun W => W.cell? ⟨w.heap.size, 0, none⟩ = some (.int .i64 r) ∧ W.cell? ⟨w.heap.size, 1, none⟩ = some (.int .i64 b))
      (first
        | exact ⟨sk.1, sk.2.1⟩
        | go_keep)
      (first
        | fail
        | fail)
    go_wp2_with fail
    refine (N.use (K.below HT.out J.out.below) k n hk hn).mono ?_
    rintro e wq ⟨rfl, hb⟩
    replace J := Lib.hid (J.out.step hb)
    clear hb
    go_wp2_with fail
    refine (N.rel (K.below HT.out J.out.below) k n hk hn).mono ?_
    rintro e wq ⟨rfl, hb⟩
    replace J := Lib.hid (J.out.step hb)
    clear hb
    go_wp2_with fail
    refine (N.used (K.below HT.out J.out.below) k hk).mono ?_
    rintro e wq ⟨rfl, hb⟩
    replace J := Lib.hid (J.out.step hb)
    clear hb
    go_wp2_with fail
    refine (N.take (K.below HT.out J.out.below) k n hk hn).mono ?_
    rintro e wq ⟨rfl, hb⟩
    replace J := Lib.hid (J.out.step hb)
    clear hb
    go_wp2_with fail
    refine (N.lvl (K.below HT.out J.out.below) k hk).mono ?_
    rintro e wq ⟨rfl, hb⟩
    replace J := Lib.hid (J.out.step hb)
    clear hb
    go_wp2_with fail
    refine (KB.new (K.below HT.out J.out.below) J.out.below r b hr hb0).mono ?_
    rintro e wq ⟨rv, S, rfl, hrb, hs, hb⟩
    replace J := Lib.hid (J.out.newB KB hrb hs hb)
    obtain rfl := KB.nil hrb (by rw [hnb]; rfl)
    clear hrb hs hb hnb
    go_wp2_with fail
    refine (EX _ J.out.below).out.mono ?_
    rintro e wq2 ⟨rfl, hb⟩
    replace J := Lib.hid (J.out.step hb)
    clear hb
    go_wp2_with fail
    go_ret
    exact ⟨rfl, J.out.below⟩
  have hnb : newB r b = ⟨true, false, r, b, b * 1000, 0⟩ := by unfold newB; rw [if_neg (by omega)]
  have g0 : 0 ≤ r := by omega
  have g1 : r ≤ 1048576 := by omega
  have g2 : 1 ≤ b := by omega
  have g3 : b ≤ 1048576 := by omega
  clear h0 h1 h2 h3
  go_enter Try.func10, Try.ntmps10
  go_wp2_with fail
  replace J := Lib.hid J.out.drew
  have sk := (show HO w _ ([] ++ boxO w.heap.size _ :: []) from J.out).c2
  go_region_held3 (fun W => W.cell? ⟨w.heap.size, 0, none⟩ = some (.int .i64 r) ∧ W.cell? ⟨w.heap.size, 1, none⟩ = some (.int .i64 b))
    (first
      | exact ⟨sk.1, sk.2.1⟩
      | go_keep)
    (first
      | fail
      | fail)
  go_wp2_with fail
  refine (N.use (K.below HT.out J.out.below) k n hk hn).mono ?_
  rintro e wq ⟨rfl, hb⟩
  replace J := Lib.hid (J.out.step hb)
  clear hb
  go_wp2_with fail
  refine (N.rel (K.below HT.out J.out.below) k n hk hn).mono ?_
  rintro e wq ⟨rfl, hb⟩
  replace J := Lib.hid (J.out.step hb)
  clear hb
  go_wp2_with fail
  refine (N.used (K.below HT.out J.out.below) k hk).mono ?_
  rintro e wq ⟨rfl, hb⟩
  replace J := Lib.hid (J.out.step hb)
  clear hb
  go_wp2_with fail
  refine (N.take (K.below HT.out J.out.below) k n hk hn).mono ?_
  rintro e wq ⟨rfl, hb⟩
  replace J := Lib.hid (J.out.step hb)
  clear hb
  go_wp2_with fail
  refine (N.lvl (K.below HT.out J.out.below) k hk).mono ?_
  rintro e wq ⟨rfl, hb⟩
  replace J := Lib.hid (J.out.step hb)
  clear hb
  go_wp2_with fail
  refine (KB.new (K.below HT.out J.out.below) J.out.below r b hr hb0).mono ?_
  rintro e wq ⟨rv, S, rfl, hrb, hs, hb⟩
  replace J := Lib.hid (J.out.newB KB hrb hs hb)
  obtain ⟨pa, rfl⟩ := KB.made hrb (by rw [hnb])
  clear hrb hs hb hnb
  go_wp2_with fail
  refine (EX _ J.out.below).out.mono ?_
  rintro e wq2 ⟨rfl, hb⟩
  replace J := Lib.hid (J.out.step hb)
  clear hb
  go_wp2_with fail
  go_ret
  exact ⟨rfl, J.out.below⟩

/-- the buckets of the law -/
def sB (st : Bool) (f t : Int) : Bk := ⟨true, st, 7, 300, f, t⟩
theorem sB_new : newB 7 300 = sB false 300000 0 := by unfold newB; rw [if_neg (by omega)]; rfl
theorem sB_ok {st : Bool} {f t : Int} (h0 : 0 ≤ f) (h1 : f ≤ 300000) (ht : I64 t) : BOk (sB st f t) := ⟨by simp [sB], by simp [sB], by simp only [sB]; omega, ht⟩
theorem sB_adv {st : Bool} {f t0 t : Int} (h : st = false ∨ t0 = t) : advB (sB st f t0) t = sB true f t := by
  unfold advB sB
  cases st with
  | false => rfl
  | true =>
    obtain rfl : t0 = t := by rcases h with h | h; cases h; exact h
    simp
theorem sB_take {st : Bool} {f t0 t m : Int} (h : st = false ∨ t0 = t) (hm : 0 ≤ m) (h3 : f ≤ 300000) : takeB (sB st f t0) t m = if m * 1000 ≤ f then (sB true (f - m * 1000) t, true) else (sB true f t, false) := by
  unfold takeB
  rw [if_neg (by simp [sB]), sB_adv h]
  by_cases hc : m * 1000 ≤ f
  · rw [if_pos hc, if_neg (by simp only [sB]; omega)]
    rfl
  · rw [if_neg hc, if_pos (by simp only [sB]; omega)]
theorem sB_lvl {f t : Int} : lvlB (sB true f t) t = (sB true f t, f / 1000) := by
  unfold lvlB
  rw [if_neg (by simp [sB]), sB_adv (.inr rfl)]
  rfl

set_option maxRecDepth 100000 in
set_option maxHeartbeats 16000000 in
theorem split_walk (K : PQ T R) (KB : PB T RB) {w : World} (hT : T w) {now : Int} (ht0 : I64 now) {x y : Nat} (hx : x < 256) (hy : y < 256) : Calls Try.prog 8 #[.int .i64 now, .int .u8 (x : Int), .int .u8 (y : Int)] w (SaysB true w) := by
  have HT := Lib.hid hT
  have EX := fun (W : World) (hb : Below w.heap.size w W) => Lib.hid (ex_any K KB (K.below HT.out hb))
  have J := Lib.hid (HO.nil w)
  clear hT
  by_cases hc : x + y ≤ 300
  · have hc2 : (x : Int) + y ≤ 300 := by omega
    go_enter Try.func8, Try.ntmps8
    go_wp2_with fail
    refine (KB.new (K.below HT.out J.out.below) J.out.below 7 300 (i64_lit (by decide) (by decide)) (i64_lit (by decide) (by decide))).mono ?_
    rintro e w1 ⟨rv1, S1, rfl, hr, hs, hb⟩
    rw [sB_new] at hr
    replace J := Lib.hid (J.out.newB KB hr hs hb)
    obtain ⟨p1, rfl⟩ := KB.made hr rfl
    clear hr hs hb
    go_wp2_with fail
    refine (KB.new (K.below HT.out J.out.below) J.out.below 7 300 (i64_lit (by decide) (by decide)) (i64_lit (by decide) (by decide))).mono ?_
    rintro e w2 ⟨rv2, S2, rfl, hr, hs, hb⟩
    rw [sB_new] at hr
    replace J := Lib.hid (J.out.newB KB hr hs hb)
    obtain ⟨p2, rfl⟩ := KB.made hr rfl
    clear hr hs hb
    go_wp2_with fail
    refine (KB.take (K.below HT.out J.out.below) (show HO w _ ([_] ++ objO RB w _ (sB false 300000 0) _ :: _) from J.out).at (sB_ok (by omega) (by omega) ⟨by omega, by omega⟩) now ((x : Int) + y) ht0 ⟨by omega, by omega⟩).mono ?_
    rintro e wq ⟨Sq, he, hr, hs, ht⟩
    rw [sB_take (.inl rfl) (by omega) (by omega), if_pos (by omega)] at he hr
    obtain rfl : e = .returned (.bool true) := he
    replace J := Lib.hid ((show HO w _ ([_] ++ objO RB w _ (sB false 300000 0) _ :: _) from J.out).turnB KB (b' := sB true (300000 - ((x : Int) + y) * 1000) now) hr hs ht)
    clear hr hs ht
    go_wp2_with fail
    refine (KB.take (K.below HT.out J.out.below) (show HO w _ ([] ++ objO RB w _ (sB false 300000 0) _ :: _) from J.out).at (sB_ok (by omega) (by omega) ⟨by omega, by omega⟩) now (x : Int) ht0 ⟨by omega, by omega⟩).mono ?_
    rintro e wq ⟨Sq, he, hr, hs, ht⟩
    rw [sB_take (.inl rfl) (by omega) (by omega), if_pos (by omega)] at he hr
    obtain rfl : e = .returned (.bool true) := he
    replace J := Lib.hid ((show HO w _ ([] ++ objO RB w _ (sB false 300000 0) _ :: _) from J.out).turnB KB (b' := sB true (300000 - (x : Int) * 1000) now) hr hs ht)
    clear hr hs ht
    go_wp2_with fail
    refine (KB.take (K.below HT.out J.out.below) (show HO w _ ([] ++ objO RB w _ (sB true (300000 - (x : Int) * 1000) now) _ :: _) from J.out).at (sB_ok (by omega) (by omega) ht0) now (y : Int) ht0 ⟨by omega, by omega⟩).mono ?_
    rintro e wq ⟨Sq, he, hr, hs, ht⟩
    rw [sB_take (.inr rfl) (by omega) (by omega), if_pos (by omega)] at he hr
    obtain rfl : e = .returned (.bool true) := he
    replace J := Lib.hid ((show HO w _ ([] ++ objO RB w _ (sB true (300000 - (x : Int) * 1000) now) _ :: _) from J.out).turnB KB (b' := sB true (300000 - (x : Int) * 1000 - (y : Int) * 1000) now) hr hs ht)
    clear hr hs ht
    go_wp2_with fail
    refine (KB.lvl (K.below HT.out J.out.below) (show HO w _ ([_] ++ objO RB w _ (sB true (300000 - ((x : Int) + y) * 1000) now) _ :: _) from J.out).at (sB_ok (by omega) (by omega) ht0) now ht0).mono ?_
    rintro e wq ⟨Sq, he, hr, hs, ht⟩
    rw [sB_lvl] at he hr
    obtain rfl : e = .returned (.int .i64 (300 - (x : Int) - y)) := by rw [he]; exact ret_int (by omega)
    replace J := Lib.hid ((show HO w _ ([_] ++ objO RB w _ (sB true (300000 - ((x : Int) + y) * 1000) now) _ :: _) from J.out).turnB KB (b' := sB true (300000 - ((x : Int) + y) * 1000) now) hr hs ht)
    clear hr hs ht he
    go_wp2_with fail
    refine (KB.lvl (K.below HT.out J.out.below) (show HO w _ ([] ++ objO RB w _ (sB true (300000 - (x : Int) * 1000 - (y : Int) * 1000) now) _ :: _) from J.out).at (sB_ok (by omega) (by omega) ht0) now ht0).mono ?_
    rintro e wq ⟨Sq, he, hr, hs, ht⟩
    rw [sB_lvl] at he hr
    obtain rfl : e = .returned (.int .i64 (300 - (x : Int) - y)) := by rw [he]; exact ret_int (by omega)
    replace J := Lib.hid ((show HO w _ ([] ++ objO RB w _ (sB true (300000 - (x : Int) * 1000 - (y : Int) * 1000) now) _ :: _) from J.out).turnB KB (b' := sB true (300000 - (x : Int) * 1000 - (y : Int) * 1000) now) hr hs ht)
    clear hr hs ht he
    go_wp2_with fail
    refine (EX _ J.out.below).out.mono ?_
    rintro e wq2 ⟨rfl, hb⟩
    replace J := Lib.hid (J.out.step hb)
    clear hb
    go_wp2_with fail
    go_ret
    exact ⟨rfl, J.out.below⟩
  · have hc2 : ¬ (x : Int) + y ≤ 300 := by omega
    go_enter Try.func8, Try.ntmps8
    go_wp2_with fail
    refine (KB.new (K.below HT.out J.out.below) J.out.below 7 300 (i64_lit (by decide) (by decide)) (i64_lit (by decide) (by decide))).mono ?_
    rintro e w1 ⟨rv1, S1, rfl, hr, hs, hb⟩
    rw [sB_new] at hr
    replace J := Lib.hid (J.out.newB KB hr hs hb)
    obtain ⟨p1, rfl⟩ := KB.made hr rfl
    clear hr hs hb
    go_wp2_with fail
    refine (KB.new (K.below HT.out J.out.below) J.out.below 7 300 (i64_lit (by decide) (by decide)) (i64_lit (by decide) (by decide))).mono ?_
    rintro e w2 ⟨rv2, S2, rfl, hr, hs, hb⟩
    rw [sB_new] at hr
    replace J := Lib.hid (J.out.newB KB hr hs hb)
    obtain ⟨p2, rfl⟩ := KB.made hr rfl
    clear hr hs hb
    go_wp2_with fail
    refine (KB.take (K.below HT.out J.out.below) (show HO w _ ([_] ++ objO RB w _ (sB false 300000 0) _ :: _) from J.out).at (sB_ok (by omega) (by omega) ⟨by omega, by omega⟩) now ((x : Int) + y) ht0 ⟨by omega, by omega⟩).mono ?_
    rintro e wq ⟨Sq, he, hr, hs, ht⟩
    rw [sB_take (.inl rfl) (by omega) (by omega), if_neg (by omega)] at he hr
    obtain rfl : e = .returned (.bool false) := he
    replace J := Lib.hid ((show HO w _ ([_] ++ objO RB w _ (sB false 300000 0) _ :: _) from J.out).turnB KB (b' := sB true 300000 now) hr hs ht)
    clear hr hs ht
    go_wp2_with fail
    refine (KB.take (K.below HT.out J.out.below) (show HO w _ ([] ++ objO RB w _ (sB false 300000 0) _ :: _) from J.out).at (sB_ok (by omega) (by omega) ⟨by omega, by omega⟩) now (x : Int) ht0 ⟨by omega, by omega⟩).mono ?_
    rintro e wq ⟨Sq, he, hr, hs, ht⟩
    rw [sB_take (.inl rfl) (by omega) (by omega), if_pos (by omega)] at he hr
    obtain rfl : e = .returned (.bool true) := he
    replace J := Lib.hid ((show HO w _ ([] ++ objO RB w _ (sB false 300000 0) _ :: _) from J.out).turnB KB (b' := sB true (300000 - (x : Int) * 1000) now) hr hs ht)
    clear hr hs ht
    go_wp2_with fail
    refine (KB.take (K.below HT.out J.out.below) (show HO w _ ([] ++ objO RB w _ (sB true (300000 - (x : Int) * 1000) now) _ :: _) from J.out).at (sB_ok (by omega) (by omega) ht0) now (y : Int) ht0 ⟨by omega, by omega⟩).mono ?_
    rintro e wq ⟨Sq, he, hr, hs, ht⟩
    rw [sB_take (.inr rfl) (by omega) (by omega), if_neg (by omega)] at he hr
    obtain rfl : e = .returned (.bool false) := he
    replace J := Lib.hid ((show HO w _ ([] ++ objO RB w _ (sB true (300000 - (x : Int) * 1000) now) _ :: _) from J.out).turnB KB (b' := sB true (300000 - (x : Int) * 1000) now) hr hs ht)
    clear hr hs ht
    go_wp2_with fail
    refine (EX _ J.out.below).out.mono ?_
    rintro e wq2 ⟨rfl, hb⟩
    replace J := Lib.hid (J.out.step hb)
    clear hb
    go_wp2_with fail
    go_ret
    exact ⟨rfl, J.out.below⟩
end

end Go.Proofs.Ytkehdaahlfkiiaa
