/-
  The small functions of package fixed: magnitude, quotient, the check of the range, and what is built of them.
-/
import Derived.Test.YtnlkcdbeoeaalaaDoorDiv
import Derived.Test.YtnlkcdbeoeaalaaDoorShelf
import Derived.Test.YtnlkcdbeoeaalaaDoorPure
namespace Go.Proofs.YtnlkcdbeoeaalaaDoor
open Go.RowKit

/-- a word, moved up by its leading zeros -/
theorem bitLen_top (y : Nat) (h0 : 0 < y) (h : y < 18446744073709551616) : 1 ≤ Lib.bitLen y ∧ Lib.bitLen y ≤ 64 ∧ 9223372036854775808 ≤ y * 2 ^ (64 - Lib.bitLen y) ∧ y * 2 ^ (64 - Lib.bitLen y) < 18446744073709551616 := by
  obtain ⟨h1, h2, h3⟩ := Lib.bitLenAux_bounds 64 y h (by omega)
  have h4 : Lib.bitLen y ≤ 64 := Lib.bitLen_le y 64 (Nat.le_refl _) h
  have e : Lib.bitLen y = Lib.bitLenAux 64 y := rfl
  rw [← e] at h1 h2 h3
  obtain ⟨l, hl⟩ : ∃ l, Lib.bitLen y = l := ⟨_, rfl⟩
  rw [hl] at h1 h2 h3 h4 ⊢
  have hp := Nat.two_pow_pos (64 - l)
  have e1 : 2 ^ (l - 1) * 2 ^ (64 - l) = 9223372036854775808 := by rw [← Nat.pow_add, show l - 1 + (64 - l) = 63 by omega]
  have e2 : 2 ^ l * 2 ^ (64 - l) = 18446744073709551616 := by rw [← Nat.pow_add, show l + (64 - l) = 64 by omega]
  refine ⟨h1, h4, ?_, ?_⟩
  · rw [← e1]; exact Nat.mul_le_mul_right _ h2
  · rw [← e2]; exact Nat.mul_lt_mul_of_pos_right h3 hp

theorem lz_any (y s : Nat) (hy : y < 18446744073709551616) (hs : 64 - Lib.bitLen y = s) (hl : Lib.bitLen y ≤ 64) (w : World) :
    Calls Tryd.prog 73 #[.int .u64 y] w fun e w' => e = .returned (.int .i64 (s : Int)) ∧ w' = w := by
  have C := Tryd.bits_Len64 y w (by omega) (by omega)
  rw [Int.toNat_natCast] at C
  obtain ⟨l, hl'⟩ : ∃ l, Lib.bitLen y = l := ⟨_, rfl⟩
  rw [hl'] at C hs hl
  have CC := Lib.hid C
  have q : (64 : Int) - (l : Int) = s := by omega
  clear C hl' hs
  go_enter Tryd.func73, Tryd.ntmps73
  go_wp2_with fail
  refine CC.out.mono ?_
  rintro e w' ⟨rfl, rfl⟩
  go_wp2_with fail
  go_ret
  exact ⟨rfl, rfl⟩

set_option maxRecDepth 100000 in
set_option maxHeartbeats 4000000 in
theorem div_any (hi lo y : Nat) (w : World) (hy : hi < y) (hyw : y < 18446744073709551616) (hlo : lo < 18446744073709551616) :
    Calls Tryd.prog 60 #[.int .u64 hi, .int .u64 lo, .int .u64 y] w fun e w' => e = .returned (.tuple #[.int .u64 (((hi * 18446744073709551616 + lo) / y : Nat) : Int), .int .u64 (((hi * 18446744073709551616 + lo) % y : Nat) : Int)]) ∧ Below w.heap.size w w' := by
  by_cases hhi : 0 < hi
  · obtain ⟨h1, h4, h2, h3⟩ := bitLen_top y (by omega) hyw
    exact (div_big hi lo y (64 - Lib.bitLen y) w hhi hy hyw hlo (by omega) h2 h3 (fun w => lz_any y _ hyw rfl h4 w)).mono fun e w' ⟨he, hw⟩ => ⟨he, by rw [hw]; exact Below.refl _ _⟩
  · obtain rfl : hi = 0 := by omega
    have q1 : ((y : Int) == 0) = false := by rw [beq_eq_false_iff_ne]; omega
    have q0 : (y : Int) ≠ 0 := by omega
    have q2 : (((0 : Nat) : Int) == 0) = true := rfl
    have q3 : ¬ (y : Int) ≤ ((0 : Nat) : Int) := by omega
    rw [Nat.zero_mul, Nat.zero_add]
    obtain ⟨q, hq⟩ : ∃ q, lo / y = q := ⟨_, rfl⟩
    obtain ⟨r, hr⟩ : ∃ r, lo % y = r := ⟨_, rfl⟩
    have k1 : (lo : Int) / (y : Int) = (q : Int) := by rw [← Int.natCast_ediv, hq]
    have k2 : (lo : Int) % (y : Int) = (r : Int) := by rw [← Int.natCast_emod, hr]
    have hql : q ≤ lo := by rw [← hq]; exact Nat.div_le_self _ _
    have k3 : IntKind.u64.wrap (q : Int) = (q : Int) := wrap_nat (by omega)
    rw [hq, hr]
    clear hq hr
    go_enter Tryd.func60, Tryd.ntmps60
    go_wp2_with fail
    go_quiet (fail)
    go_wp2_with fail
    go_ret2
    refine ⟨?_, below_draws (Below.refl _ _) _⟩
    show Ending.returned (.tuple #[.int .u64 (q : Int), .int .u64 ((lo : Int) % (y : Int))]) = _
    rw [k2]

theorem ret_i64 {x y : Int} (h : x = y) : Ending.returned (.int .i64 x) = Ending.returned (.int .i64 y) := by rw [h]

theorem mag_any (n : Int) (h1 : -9223372036854775808 ≤ n) (h2 : n ≤ 9223372036854775807) (w : World) :
    Calls Tryd.prog 28 #[.int .i64 n] w fun e w' => e = .returned (.int .u64 ((n.natAbs : Nat) : Int)) ∧ w' = w := by
  have e1 : IntKind.u64.wrap (-IntKind.u64.wrap n) = IntKind.u64.wrap (-n) := by rw [IntKind.wrap_u64, IntKind.wrap_u64, IntKind.wrap_u64]; omega
  by_cases h : n < 0
  · have e2 : IntKind.u64.wrap (-IntKind.u64.wrap n) = ((n.natAbs : Nat) : Int) := by rw [e1, IntKind.wrap_u64]; omega
    clear e1
    go_enter Tryd.func28, Tryd.ntmps28
    go_wp2_with fail
    go_ret
    exact ⟨rfl, rfl⟩
  · have e2 : IntKind.u64.wrap n = ((n.natAbs : Nat) : Int) := by rw [IntKind.wrap_u64]; omega
    have e3 : n = ((n.natAbs : Nat) : Int) := by omega
    clear e1
    have H3 := Lib.hid e3
    clear e3
    go_enter Tryd.func28, Tryd.ntmps28
    go_wp2_with fail
    go_ret
    exact ⟨by first | rfl | (rw [← H3.out]), rfl⟩

set_option maxHeartbeats 4000000 in
set_option maxRecDepth 100000 in
theorem quo_any (a b : Int) (ha1 : -9223372036854775808 ≤ a) (ha2 : a ≤ 9223372036854775807) (hb1 : -9223372036854775808 ≤ b) (hb2 : b ≤ 9223372036854775807) (hb : b ≠ 0) (w : World) :
    Calls Tryd.prog 38 #[.agg #[.int .i64 a, .int .i64 b]] w fun e w' => e = .returned (.int .i64 (if decide (a < 0) != decide (b < 0) then -((quoP a.natAbs b.natAbs : Nat) : Int) else ((quoP a.natAbs b.natAbs : Nat) : Int))) ∧ Below w.heap.size w w' := by
  obtain ⟨x, hx⟩ : ∃ x, a.natAbs = x := ⟨_, rfl⟩
  obtain ⟨y, hy⟩ : ∃ y, b.natAbs = y := ⟨_, rfl⟩
  have hx2 : x ≤ 9223372036854775808 := by omega
  have hy2 : y ≤ 9223372036854775808 := by omega
  have hy0 : 0 < y := by omega
  have M1 := Lib.hid (mag_any a ha1 ha2)
  have M2 := Lib.hid (mag_any b hb1 hb2)
  rw [hx] at M1
  rw [hy] at M2
  rw [hx, hy]
  have hp := part_lt x y hy0
  have hm := Nat.mod_lt x hy0
  have hr := Nat.mod_lt (x % y * 256) hy0
  unfold quoP
  obtain ⟨m, hm'⟩ : ∃ m, x % y = m := ⟨_, rfl⟩
  rw [hm'] at hp hm hr ⊢
  have ML := Lib.hid (fun w hx hy => Tryd.bits_Mul64 m 256 hx hy w)
  have DV := Lib.hid (div_any (m * 256 / 18446744073709551616) (m * 256 % 18446744073709551616) y)
  have hdm : m * 256 / 18446744073709551616 * 18446744073709551616 + m * 256 % 18446744073709551616 = m * 256 := by omega
  rw [hdm] at DV
  have hhi : m * 256 / 18446744073709551616 < y := by omega
  have hlo : m * 256 % 18446744073709551616 < 18446744073709551616 := by omega
  obtain ⟨hi, hhi'⟩ : ∃ m2, m * 256 / 18446744073709551616 = m2 := ⟨_, rfl⟩
  obtain ⟨lo, hlo'⟩ : ∃ m2, m * 256 % 18446744073709551616 = m2 := ⟨_, rfl⟩
  obtain ⟨p, hp'⟩ : ∃ m2, m * 256 / y = m2 := ⟨_, rfl⟩
  obtain ⟨r, hr'⟩ : ∃ m2, m * 256 % y = m2 := ⟨_, rfl⟩
  obtain ⟨q, hq'⟩ : ∃ m2, x / y = m2 := ⟨_, rfl⟩
  have hq : q ≤ x := by rw [← hq']; exact Nat.div_le_self _ _
  rw [hhi', hlo', hp', hr'] at DV
  rw [hhi', hlo'] at ML
  rw [hhi'] at hhi
  rw [hlo'] at hlo
  rw [hp'] at hp ⊢
  rw [hr'] at hr ⊢
  rw [hq']
  have k1 : (x : Int) / (y : Int) = (q : Int) := by rw [← Int.natCast_ediv, hq']
  have k2 : (x : Int) % (y : Int) = (m : Int) := by rw [← Int.natCast_emod, hm']
  have k3 : (y : Int) ≠ 0 := by omega
  clear hdm hhi' hlo' hp' hr' hq' hm'
  obtain ⟨wh, hwh⟩ : ∃ m2, min q 16777216 = m2 := ⟨_, rfl⟩
  have k4 : min (q : Int) 16777216 = (wh : Int) := by omega
  have hwl : wh ≤ 16777216 := by omega
  have hpick : ∃ c : Nat, (if y ≤ 2 * r then 1 else 0) = c ∧ c ≤ 1 := ⟨_, rfl, by split <;> omega⟩
  obtain ⟨c, hc, hc1⟩ := hpick
  rw [hwh, hc]
  obtain ⟨res, hres⟩ : ∃ z : Int, (if (decide (a < 0) != decide (b < 0)) = true then -((wh * 256 + (p + c) : Nat) : Int) else ((wh * 256 + (p + c) : Nat) : Int)) = z := ⟨_, rfl⟩
  rw [hres]
  have HRES := Lib.hid hres
  have HC := Lib.hid hc
  clear hres
  clear hwh hc
  have kb : (256 : Nat) < 18446744073709551616 := by omega
  have km : m < 18446744073709551616 := by omega
  have ky : y < 18446744073709551616 := by omega
  have k5 : (y : Int) - (r : Int) = ((y - r : Nat) : Int) := by omega
  obtain ⟨yr, hyr⟩ : ∃ m2, y - r = m2 := ⟨_, rfl⟩
  rw [hyr] at k5
  have HYR := Lib.hid hyr
  have hyr2 : yr ≤ y := by omega
  clear hyr
  go_enter Tryd.func38, Tryd.ntmps38
  go_wp2_with fail
  have hz : w.heap.size < (w.alloc (Obj.cells #[Value.int IntKind.i64 a, Value.int IntKind.i64 b] 52)).heap.size := by simp
  have K : Hid (Below w.heap.size w (w.alloc (Obj.cells #[Value.int IntKind.i64 a, Value.int IntKind.i64 b] 52))) := Lib.hid ((Below.refl _ _).alloc (Nat.le_refl _) _)
  go_quiet ((go_at_call 28; exact Calls.quiet_of_same (mag_any _ (by omega) (by omega) _)))
  rename_i nq
  obtain ⟨w1, hw1⟩ : ∃ w1, w1 = (w.alloc (Obj.cells #[Value.int IntKind.i64 a, Value.int IntKind.i64 b] 52)).drewN nq := ⟨_, rfl⟩
  have hc0 : w1.cell? ⟨w.heap.size, 0, none⟩ = some (.int .i64 a) := by rw [hw1, World.cell?_drewN, World.cell?_alloc_at _ _ _ _ rfl]; rfl
  have hc1' : w1.cell? ⟨w.heap.size, 1, none⟩ = some (.int .i64 b) := by rw [hw1, World.cell?_drewN, World.cell?_alloc_at _ _ _ _ rfl]; rfl
  have K1 : Hid (Below w.heap.size w w1) := Lib.hid (by rw [hw1]; exact below_draws K.out _)
  have hz1 : w.heap.size < w1.heap.size := by rw [hw1]; simp
  rw [← hw1]
  have HW1 := Lib.hid hw1
  clear hw1 K hz M1 M2
  have ML2 : Hid (Calls Tryd.prog 59 #[.int .u64 (m : Int), .int .u64 256] w1 fun e w' => e = .returned (.tuple #[.int .u64 (hi : Int), .int .u64 (lo : Int)]) ∧ w' = w1) := Lib.hid (ML.out w1 km kb)
  go_wp2_with fail
  refine ML2.out.mono ?_
  rintro e w' ⟨rfl, rfl⟩
  clear ML2 ML
  have DV2 := Lib.hid (DV.out w' hhi ky hlo)
  go_wp2_with fail
  refine DV2.out.mono ?_
  rintro e w2 ⟨rfl, hb2'⟩
  have hd0 : w2.cell? ⟨w.heap.size, 0, none⟩ = some (.int .i64 a) := by rw [hb2'.cell (p := ⟨w.heap.size, 0, none⟩) hz1]; exact hc0
  have hd1 : w2.cell? ⟨w.heap.size, 1, none⟩ = some (.int .i64 b) := by rw [hb2'.cell (p := ⟨w.heap.size, 1, none⟩) hz1]; exact hc1'
  have K2 : Hid (Below w.heap.size w w2) := Lib.hid (Below.next K1.out hb2')
  clear DV2 DV hb2' hc0 hc1' K1 HW1 hx hy k1 k2 k3 k4 hz1
  have hcc : (c = 1 ∧ (yr : Int) ≤ r) ∨ (c = 0 ∧ ¬ (yr : Int) ≤ r) := by
    have h1 := HC.out
    have h2 := HYR.out
    split at h1
    · exact .inl ⟨h1.symm, by omega⟩
    · exact .inr ⟨h1.symm, by omega⟩
  clear HC HYR hc1
  have hwhb : wh * 256 ≤ 4294967296 := by omega
  rcases hcc with ⟨rfl, hcy⟩ | ⟨rfl, hcy⟩
  · by_cases sa : a < 0
    · have da : decide (a < 0) = true := by simpa using sa
      by_cases sb : b < 0
      · have db : decide (b < 0) = true := by simpa using sb
        have hr := HRES.out
        rw [da, db, if_neg (by decide)] at hr
        have HR := Lib.hid hr
        clear hr HRES
        go_wp2_with fail
        go_ret
        exact ⟨ret_i64 (by have := HR.out; omega), K2.out⟩
      · have db : decide (b < 0) = false := by simpa using sb
        have hr := HRES.out
        rw [da, db, if_pos (by decide)] at hr
        have HR := Lib.hid hr
        clear hr HRES
        go_wp2_with fail
        go_ret
        exact ⟨ret_i64 (by have := HR.out; omega), K2.out⟩
    · have da : decide (a < 0) = false := by simpa using sa
      by_cases sb : b < 0
      · have db : decide (b < 0) = true := by simpa using sb
        have hr := HRES.out
        rw [da, db, if_pos (by decide)] at hr
        have HR := Lib.hid hr
        clear hr HRES
        go_wp2_with fail
        go_ret
        exact ⟨ret_i64 (by have := HR.out; omega), K2.out⟩
      · have db : decide (b < 0) = false := by simpa using sb
        have hr := HRES.out
        rw [da, db, if_neg (by decide)] at hr
        have HR := Lib.hid hr
        clear hr HRES
        go_wp2_with fail
        go_ret
        exact ⟨ret_i64 (by have := HR.out; omega), K2.out⟩
  · by_cases sa : a < 0
    · have da : decide (a < 0) = true := by simpa using sa
      by_cases sb : b < 0
      · have db : decide (b < 0) = true := by simpa using sb
        have hr := HRES.out
        rw [da, db, if_neg (by decide)] at hr
        have HR := Lib.hid hr
        clear hr HRES
        go_wp2_with fail
        go_ret
        exact ⟨ret_i64 (by have := HR.out; omega), K2.out⟩
      · have db : decide (b < 0) = false := by simpa using sb
        have hr := HRES.out
        rw [da, db, if_pos (by decide)] at hr
        have HR := Lib.hid hr
        clear hr HRES
        go_wp2_with fail
        go_ret
        exact ⟨ret_i64 (by have := HR.out; omega), K2.out⟩
    · have da : decide (a < 0) = false := by simpa using sa
      by_cases sb : b < 0
      · have db : decide (b < 0) = true := by simpa using sb
        have hr := HRES.out
        rw [da, db, if_pos (by decide)] at hr
        have HR := Lib.hid hr
        clear hr HRES
        go_wp2_with fail
        go_ret
        exact ⟨ret_i64 (by have := HR.out; omega), K2.out⟩
      · have db : decide (b < 0) = false := by simpa using sb
        have hr := HRES.out
        rw [da, db, if_neg (by decide)] at hr
        have HR := Lib.hid hr
        clear hr HRES
        go_wp2_with fail
        go_ret
        exact ⟨ret_i64 (by have := HR.out; omega), K2.out⟩

end Go.Proofs.YtnlkcdbeoeaalaaDoor
