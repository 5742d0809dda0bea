/-
  The walks of the laws.
-/
import Derived.Test.YtnlkcdbeoeaalaaDoorExam
import Derived.Test.YtnlkcdbeoeaalaaDoorRpa
namespace Go.Proofs.YtnlkcdbeoeaalaaDoor
open Go.RowKit

set_option maxHeartbeats 2000000 in
theorem trip_walk (f : Int) (hf : In32 f) (w : World) (htab : Tab w) : Calls Tryd.prog 3 #[.int .i32 f] w (Says true w) := by
  have HT := Lib.hid htab
  clear htab
  have C1 := fun (w : World) (h : Tab w) => Lib.hid (fmt_any f hf w h)
  have hlen : (fmtP f).length ≤ 100 := by
    have h1 := hf.1
    have h2 := hf.2
    unfold fmtP
    have h3 : (Lib.decDigits (f.natAbs / 256)).length ≤ 20 := by
      rw [Lib.decDigits_length]
      by_cases h0 : f.natAbs / 256 = 0
      · rw [h0]; decide +kernel
      · have := Lib.numDigits_eq (f.natAbs / 256) (by omega) (by omega)
        split at this <;> omega
    have h4 : (fracP (f.natAbs % 256)).length ≤ 9 := by
      unfold fracP
      split
      · simp
      · have := trim_len (digs 8 (f.natAbs % 256 * 390625))
        rw [digs_len] at this
        rw [List.length_cons]
        omega
    rw [List.length_append, List.length_append]
    split <;> simp only [List.length_cons, List.length_nil] <;> omega
  have C2 := fun w => Lib.hid (parse_any ⟨(fmtP f).toArray⟩ (by rw [Lib.size_mk]; omega) w)
  rw [show parseP (⟨(fmtP f).toArray⟩ : ByteArray).data.toList = (f, 0) from parse_fmt f hf.1 hf.2] at C2
  have C3 := fun w => Lib.hid (rfmt_any f hf w)
  obtain ⟨T, hT⟩ : ∃ T : ByteArray, ⟨(fmtP f).toArray⟩ = T := ⟨_, rfl⟩
  rw [hT] at C1 C2 C3
  clear hT hlen
  obtain ⟨a1, a2⟩ := hf
  go_enter Tryd.func3, Tryd.ntmps3
  go_wp2_with fail
  refine (C1 _ HT.out).out.mono ?_
  rintro e w1 ⟨rfl, hb⟩
  have K := Lib.hid hb
  clear hb
  go_wp2_with fail
  refine (C2 _).out.mono ?_
  rintro e w2 ⟨rfl, hb⟩
  replace K := Lib.hid (Below.next K.out hb)
  clear hb
  go_wp2_with fail
  refine (C3 _).out.mono ?_
  rintro e w3 ⟨rfl, hb⟩
  replace K := Lib.hid (Below.next K.out hb)
  clear hb
  go_wp2_with fail
  refine (example_any _ (HT.out.below K.out)).mono ?_
  rintro e w4 ⟨rfl, hb⟩
  replace K := Lib.hid (Below.next K.out hb)
  clear hb
  go_wp2_with fail
  go_ret
  exact ⟨rfl, K.out⟩

set_option maxHeartbeats 2000000 in
theorem parse_walk (s : ByteArray) (_ : s.size ≤ 9223372036854775807) (w : World) (htab : Tab w) : Calls Tryd.prog 4 #[.string s] w (Says true w) := by
  have HT := Lib.hid htab
  clear htab
  by_cases hbig : 1000 < s.size
  · have c1 : (1000 : Int) < s.size := by omega
    go_enter Tryd.func4, Tryd.ntmps4
    go_wp2_with fail
    refine (example_any _ HT.out).mono ?_
    rintro e w1 ⟨rfl, hb⟩
    go_wp2_with fail
    go_ret
    exact ⟨rfl, hb⟩
  have c1 : ¬ (1000 : Int) < s.size := by omega
  have C1 := fun w => Lib.hid (parse_any s (by omega) w)
  have C2 := fun w => Lib.hid (rparse_any s (by omega) w)
  have hback : ∀ v, parseP s.data.toList = (v, 0) → fmtP v = s.data.toList := fun v h => fmt_parse _ v h
  have hin : (parseP s.data.toList).2 = 0 → In32 (parseP s.data.toList).1 := fun h => by
    have hr : ∀ neg t, (restP neg t).2 = 0 → In32 (restP neg t).1 := fun neg t h => by
      unfold restP bodyP at *
      split at h
      · rename_i h1
        rw [if_pos h1]
        split at h
        · rename_i h2
          rw [if_pos h2]
          exact (fit_ok h).2
        · cases h
      · cases h
    unfold parseP at *
    split at h
    · rename_i h1; rw [if_pos h1]; exact hr _ _ h
    · rename_i h1; rw [if_neg h1]; exact hr _ _ h
  obtain ⟨⟨v, c⟩, hp⟩ : ∃ p, parseP s.data.toList = p := ⟨_, rfl⟩
  rw [hp] at C1 C2 hback hin
  clear hp hbig
  by_cases hc : c = 0
  · subst hc
    have hi := hin rfl
    have hf := hback v rfl
    have C3 := fun (w : World) (h : Tab w) => Lib.hid (fmt_any v hi w h)
    rw [hf] at C3
    have hmk : (⟨s.data.toList.toArray⟩ : ByteArray) = s := Lib.mk_data s
    rw [hmk] at C3
    clear hin hback hf hmk
    obtain ⟨a1, a2⟩ := hi
    go_enter Tryd.func4, Tryd.ntmps4
    go_wp2_with fail
    refine (C1 _).out.mono ?_
    rintro e w1 ⟨rfl, hb⟩
    have K := Lib.hid hb
    clear hb
    go_wp2_with fail
    refine (C2 _).out.mono ?_
    rintro e w2 ⟨rfl, rfl⟩
    go_wp2_with fail
    refine (C3 _ (HT.out.below K.out)).out.mono ?_
    rintro e w3 ⟨rfl, hb⟩
    replace K := Lib.hid (Below.next K.out hb)
    clear hb
    go_wp2_with fail
    refine (example_any _ (HT.out.below K.out)).mono ?_
    rintro e w4 ⟨rfl, hb⟩
    replace K := Lib.hid (Below.next K.out hb)
    clear hb
    go_wp2_with fail
    go_ret
    exact ⟨rfl, K.out⟩
  · have hcf : (c == 0) = false := by rw [beq_eq_false_iff_ne]; exact hc
    clear hin hback hc
    go_enter Tryd.func4, Tryd.ntmps4
    go_wp2_with fail
    refine (C1 _).out.mono ?_
    rintro e w1 ⟨rfl, hb⟩
    have K := Lib.hid hb
    clear hb
    go_wp2_with fail
    refine (C2 _).out.mono ?_
    rintro e w2 ⟨rfl, rfl⟩
    go_wp2_with fail
    refine (example_any _ (HT.out.below K.out)).mono ?_
    rintro e w4 ⟨rfl, hb⟩
    replace K := Lib.hid (Below.next K.out hb)
    clear hb
    go_wp2_with fail
    go_ret
    exact ⟨rfl, K.out⟩

set_option maxHeartbeats 2000000 in
theorem int_walk (n : Int) (h1 : -9223372036854775808 ≤ n) (h2 : n ≤ 9223372036854775807) (w : World) (htab : Tab w) : Calls Tryd.prog 5 #[.int .i64 n] w (Says true w) := by
  have HT := Lib.hid htab
  clear htab
  have C1 := fun w => Lib.hid (fromint_any n h1 h2 w)
  have C2 := fun w => Lib.hid (rint_any n h1 h2 w)
  have hok : (intP n).2 = 0 → _ := fun h => int_ok h
  obtain ⟨⟨v, c⟩, hp⟩ : ∃ p, intP n = p := ⟨_, rfl⟩
  rw [hp] at C1 C2 hok
  clear hp
  by_cases hc : c = 0
  · subst hc
    obtain ⟨hv, h3, h4⟩ := hok rfl
    have hv' : v = n * 256 := hv
    have hi : In32 v := ⟨by omega, by omega⟩
    have C3 := fun w => Lib.hid (floor_any v hi w)
    have C4 := fun w => Lib.hid (round_any v hi w)
    rw [show v / 256 = n by omega] at C3
    rw [show (v + 128) / 256 = n by omega] at C4
    clear hok hv hv'
    obtain ⟨a1, a2⟩ := hi
    go_enter Tryd.func5, Tryd.ntmps5
    go_wp2_with fail
    refine (C1 _).out.mono ?_
    rintro e w1 ⟨rfl, hb⟩
    have K := Lib.hid hb
    clear hb
    go_wp2_with fail
    refine (C2 _).out.mono ?_
    rintro e w2 ⟨rfl, rfl⟩
    go_wp2_with fail
    refine (C3 _).out.mono ?_
    rintro e w3 ⟨rfl, rfl⟩
    go_wp2_with fail
    refine (C4 _).out.mono ?_
    rintro e w3 ⟨rfl, rfl⟩
    go_wp2_with fail
    refine (example_any _ (HT.out.below K.out)).mono ?_
    rintro e w4 ⟨rfl, hb⟩
    replace K := Lib.hid (Below.next K.out hb)
    clear hb
    go_wp2_with fail
    go_ret
    exact ⟨rfl, K.out⟩
  · have hcf : (c == 0) = false := by rw [beq_eq_false_iff_ne]; exact hc
    clear hok hc
    go_enter Tryd.func5, Tryd.ntmps5
    go_wp2_with fail
    refine (C1 _).out.mono ?_
    rintro e w1 ⟨rfl, hb⟩
    have K := Lib.hid hb
    clear hb
    go_wp2_with fail
    refine (C2 _).out.mono ?_
    rintro e w2 ⟨rfl, rfl⟩
    go_wp2_with fail
    refine (example_any _ (HT.out.below K.out)).mono ?_
    rintro e w4 ⟨rfl, hb⟩
    replace K := Lib.hid (Below.next K.out hb)
    clear hb
    go_wp2_with fail
    go_ret
    exact ⟨rfl, K.out⟩

set_option maxHeartbeats 2000000 in
theorem ratio_walk (a b : Int) (ha1 : -9223372036854775808 ≤ a) (ha2 : a ≤ 9223372036854775807) (hb1 : -9223372036854775808 ≤ b) (hb2 : b ≤ 9223372036854775807) (w : World) (htab : Tab w) :
    Calls Tryd.prog 6 #[.int .i64 a, .int .i64 b] w (Says true w) := by
  have HT := Lib.hid htab
  clear htab
  have C1 := fun w => Lib.hid (ratio_any a b ha1 ha2 hb1 hb2 w)
  have C2 := fun w => Lib.hid (rratio_any a b ha1 ha2 hb1 hb2 w)
  obtain ⟨⟨v, c⟩, hp⟩ : ∃ p, ratP a b = p := ⟨_, rfl⟩
  rw [hp] at C1 C2
  clear hp
  go_enter Tryd.func6, Tryd.ntmps6
  go_wp2_with fail
  refine (C1 _).out.mono ?_
  rintro e w1 ⟨rfl, hb⟩
  have K := Lib.hid hb
  clear hb
  go_wp2_with fail
  refine (C2 _).out.mono ?_
  rintro e w2 ⟨rfl, hb⟩
  replace K := Lib.hid (Below.next K.out hb)
  clear hb
  go_wp2_with fail
  refine (example_any _ (HT.out.below K.out)).mono ?_
  rintro e w4 ⟨rfl, hb⟩
  replace K := Lib.hid (Below.next K.out hb)
  clear hb
  go_wp2_with fail
  go_ret
  exact ⟨rfl, K.out⟩

set_option maxHeartbeats 4000000 in
theorem arith_walk (a b : Int) (ha : In32 a) (hb : In32 b) (w : World) (htab : Tab w) : Calls Tryd.prog 8 #[.int .i32 a, .int .i32 b] w (Says true w) := by
  have HT := Lib.hid htab
  clear htab
  have C1 := fun w => Lib.hid (add_any a b ha hb w)
  have C2 := fun w => Lib.hid (radd_any a b ha hb w)
  have C3 := fun w => Lib.hid (mul_any a b ha hb w)
  have C4 := fun w => Lib.hid (rmul_any a b ha hb w)
  have C5 := fun w => Lib.hid (div_walk a b ha hb w)
  have C6 := fun w => Lib.hid (rdiv_any a b ha hb w)
  obtain ⟨⟨v1, c1⟩, hp1⟩ : ∃ p, sumP a b = p := ⟨_, rfl⟩
  obtain ⟨⟨v2, c2⟩, hp2⟩ : ∃ p, mulP a b = p := ⟨_, rfl⟩
  obtain ⟨⟨v3, c3⟩, hp3⟩ : ∃ p, ratP a b = p := ⟨_, rfl⟩
  rw [hp1] at C1 C2
  rw [hp2] at C3 C4
  rw [hp3] at C5 C6
  clear hp1 hp2 hp3 ha hb
  go_enter Tryd.func8, Tryd.ntmps8
  go_wp2_with fail
  refine (C1 _).out.mono ?_
  rintro e w1 ⟨rfl, hb⟩
  have K := Lib.hid hb
  clear hb
  go_wp2_with fail
  refine (C2 _).out.mono ?_
  rintro e w2 ⟨rfl, rfl⟩
  go_wp2_with fail
  refine (C3 _).out.mono ?_
  rintro e w3 ⟨rfl, hb⟩
  replace K := Lib.hid (Below.next K.out hb)
  clear hb
  go_wp2_with fail
  refine (C4 _).out.mono ?_
  rintro e w4 ⟨rfl, rfl⟩
  go_wp2_with fail
  refine (C5 _).out.mono ?_
  rintro e w5 ⟨rfl, hb⟩
  replace K := Lib.hid (Below.next K.out hb)
  clear hb
  go_wp2_with fail
  refine (C6 _).out.mono ?_
  rintro e w6 ⟨rfl, hb⟩
  replace K := Lib.hid (Below.next K.out hb)
  clear hb
  go_wp2_with fail
  refine (example_any _ (HT.out.below K.out)).mono ?_
  rintro e w7 ⟨rfl, hb⟩
  replace K := Lib.hid (Below.next K.out hb)
  clear hb
  go_wp2_with fail
  go_ret
  exact ⟨rfl, K.out⟩

set_option maxRecDepth 100000 in
set_option maxHeartbeats 4000000 in
theorem alg_walk (a b : Int) (ha : In32 a) (hb : In32 b) (w : World) (htab : Tab w) : Calls Tryd.prog 9 #[.int .i32 a, .int .i32 b] w (Says true w) := by
  have HT := Lib.hid htab
  clear htab
  have C1 := fun w => Lib.hid (add_any a b ha hb w)
  have C2 := fun w => Lib.hid (add_any b a hb ha w)
  have C3 := fun w => Lib.hid (mul_any a b ha hb w)
  have C4 := fun w => Lib.hid (mul_any b a hb ha w)
  have C5 := fun w => Lib.hid (add_any a 0 ha ⟨by decide, by decide⟩ w)
  have C6 := fun w => Lib.hid (mul_any a 256 ha ⟨by decide, by decide⟩ w)
  have C7 := fun w => Lib.hid (div_walk a 256 ha ⟨by decide, by decide⟩ w)
  rw [sum_comm b a] at C2
  rw [mul_comm' b a] at C4
  rw [sum_zero a ha.1 ha.2] at C5
  rw [mul_one' a ha.1 ha.2] at C6
  rw [div_one' a ha.1 ha.2] at C7
  obtain ⟨⟨v1, c1⟩, hp1⟩ : ∃ p, sumP a b = p := ⟨_, rfl⟩
  obtain ⟨⟨v2, c2⟩, hp2⟩ : ∃ p, mulP a b = p := ⟨_, rfl⟩
  rw [hp1] at C1 C2
  rw [hp2] at C3 C4
  clear hp1 hp2 ha hb
  go_enter Tryd.func9, Tryd.ntmps9
  go_wp2_with fail
  refine (C1 _).out.mono ?_
  rintro e w1 ⟨rfl, hb⟩
  have K := Lib.hid hb
  clear hb
  go_wp2_with fail
  refine (C2 _).out.mono ?_
  rintro e w2 ⟨rfl, hb⟩
  replace K := Lib.hid (Below.next K.out hb)
  clear hb
  go_wp2_with fail
  refine (C3 _).out.mono ?_
  rintro e w3 ⟨rfl, hb⟩
  replace K := Lib.hid (Below.next K.out hb)
  clear hb
  go_wp2_with fail
  refine (C4 _).out.mono ?_
  rintro e w4 ⟨rfl, hb⟩
  replace K := Lib.hid (Below.next K.out hb)
  clear hb
  go_wp2_with fail
  refine (C5 _).out.mono ?_
  rintro e w5 ⟨rfl, hb⟩
  replace K := Lib.hid (Below.next K.out hb)
  clear hb
  go_wp2_with fail
  refine (C6 _).out.mono ?_
  rintro e w6 ⟨rfl, hb⟩
  replace K := Lib.hid (Below.next K.out hb)
  clear hb
  go_wp2_with fail
  refine (C7 _).out.mono ?_
  rintro e w7 ⟨rfl, hb⟩
  replace K := Lib.hid (Below.next K.out hb)
  clear hb
  go_wp2_with fail
  refine (example_any _ (HT.out.below K.out)).mono ?_
  rintro e w8 ⟨rfl, hb⟩
  replace K := Lib.hid (Below.next K.out hb)
  clear hb
  go_wp2_with fail
  go_ret
  exact ⟨rfl, K.out⟩

set_option maxHeartbeats 4000000 in
theorem floor_walk (f : Int) (hf : In32 f) (w : World) (htab : Tab w) : Calls Tryd.prog 10 #[.int .i32 f] w (Says true w) := by
  have HT := Lib.hid htab
  clear htab
  have C1 := fun w => Lib.hid (floor_any f hf w)
  have C2 := fun w => Lib.hid (round_any f hf w)
  obtain ⟨a1, a2⟩ := hf
  obtain ⟨lo, hlo⟩ : ∃ z, f / 256 = z := ⟨_, rfl⟩
  obtain ⟨nr, hnr⟩ : ∃ z, (f + 128) / 256 = z := ⟨_, rfl⟩
  rw [hlo] at C1
  rw [hnr] at C2
  have k1 : -8388608 ≤ lo := by omega
  have k2 : lo ≤ 8388608 := by omega
  have k3 : -8388608 ≤ nr := by omega
  have k4 : nr ≤ 8388608 := by omega
  have k5 : lo * 256 ≤ f := by omega
  have k6 : f < lo * 256 + 256 := by omega
  have k7 : nr * 256 ≤ f + 128 := by omega
  have k8 : f + 128 < nr * 256 + 256 := by omega
  have d1 : decide (lo < -8388608) = false := decide_eq_false (by omega)
  have d2 : decide (8388608 < lo) = false := decide_eq_false (by omega)
  have d3 : decide (nr < -8388608) = false := decide_eq_false (by omega)
  have d4 : decide (8388608 < nr) = false := decide_eq_false (by omega)
  have d5 : decide (lo * 256 ≤ f) = true := decide_eq_true k5
  have d6 : decide (f < lo * 256 + 256) = true := decide_eq_true k6
  have d7 : decide (nr * 256 ≤ f + 128) = true := decide_eq_true k7
  have d8 : decide (f + 128 < nr * 256 + 256) = true := decide_eq_true k8
  clear hlo hnr
  go_enter Tryd.func10, Tryd.ntmps10
  go_wp2_with fail
  refine (C1 _).out.mono ?_
  rintro e w1 ⟨rfl, rfl⟩
  go_wp2_with fail
  refine (C2 _).out.mono ?_
  rintro e w1 ⟨rfl, rfl⟩
  go_wp2_with fail
  refine (example_any _ HT.out).mono ?_
  rintro e w8 ⟨rfl, hb⟩
  go_wp2_with fail
  go_ret
  exact ⟨rfl, hb⟩

end Go.Proofs.YtnlkcdbeoeaalaaDoor
