/-
  The small functions on texts: whole parts, fractions, their numbers.
-/
import Derived.Test.YtnlkcdbeoeaalaaDoorStr
namespace Go.Proofs.YtnlkcdbeoeaalaaDoor
open Go.RowKit

theorem digits_pos {s : ByteArray} (h : digitsB s.data.toList = true) : 0 < s.size := by
  unfold digitsB at h
  rw [Lib.size_eq]
  cases e : s.data.toList with
  | nil => rw [e] at h; cases h
  | cons _ _ => simp

theorem head_byte (s : ByteArray) (h : 0 < s.size) : s.data.toList.head? = some s[0] := by
  have hl : 0 < s.data.toList.length := by rw [← Lib.size_eq]; exact h
  rw [List.head?_eq_getElem?, List.getElem?_eq_getElem hl]
  rfl

theorem last_byte (s : ByteArray) (k : Nat) (hk : k + 1 = s.size) (h : k < s.size) : s.data.toList.getLast? = some s[k] := by
  have hl : k < s.data.toList.length := by rw [← Lib.size_eq]; exact h
  rw [List.getLast?_eq_getElem?, ← Lib.size_eq, ← hk, Nat.add_sub_cancel, List.getElem?_eq_getElem hl]
  rfl

theorem byte_ne (c : UInt8) : (some c != some (48 : UInt8)) = ((c.toNat : Int) != 48) := by
  by_cases h : c = 48
  · subst h; rfl
  · have h2 : c.toNat ≠ 48 := fun e => h (UInt8.toNat_inj.1 (by simpa using e))
    have h3 : ((c.toNat : Int) != 48) = true := by rw [bne_iff_ne]; omega
    rw [h3]
    simpa using h

set_option maxHeartbeats 1000000 in
theorem whole_any (s : ByteArray) (hs : s.size ≤ 1000000) (w : World) : Calls Tryd.prog 33 #[.string s] w fun e w' => e = .returned (.bool (wholeB s.data.toList)) ∧ w' = w := by
  have C := digits_any s hs w
  obtain ⟨R, hR⟩ : ∃ R, wholeB s.data.toList = R := ⟨_, rfl⟩
  obtain ⟨D, hD⟩ : ∃ D, digitsB s.data.toList = D := ⟨_, rfl⟩
  rw [hD] at C
  rw [hR]
  unfold wholeB at hR
  rw [hD] at hR
  have CC := Lib.hid C
  clear C
  cases D
  · have HR := Lib.hid hR
    clear hD hR
    go_enter Tryd.func33, Tryd.ntmps33
    go_wp2_with fail
    refine CC.out.mono ?_
    rintro e w' ⟨rfl, rfl⟩
    go_wp2_with fail
    go_ret
    exact ⟨by rw [← HR.out]; rfl, rfl⟩
  · have hpos := digits_pos hD
    rw [Bool.true_and, head_byte s hpos, byte_ne, ← toList_data] at hR
    have HR := Lib.hid hR
    clear hR hD
    by_cases h1 : s.toList = [48]
    · go_enter Tryd.func33, Tryd.ntmps33
      go_wp2_with fail
      refine CC.out.mono ?_
      rintro e w' ⟨rfl, rfl⟩
      go_wp2_with fail
      go_ret
      exact ⟨by rw [← HR.out, h1]; rfl, rfl⟩
    · go_enter Tryd.func33, Tryd.ntmps33
      go_wp2_with fail
      refine CC.out.mono ?_
      rintro e w' ⟨rfl, rfl⟩
      go_wp2_with fail
      go_ret
      exact ⟨by rw [← HR.out]; rfl, rfl⟩

set_option maxHeartbeats 1000000 in
theorem frac_any (s : ByteArray) (hs : s.size ≤ 1000000) (w : World) : Calls Tryd.prog 34 #[.string s] w fun e w' => e = .returned (.bool (fracB s.data.toList)) ∧ w' = w := by
  have C := digits_any s hs w
  obtain ⟨R, hR⟩ : ∃ R, fracB s.data.toList = R := ⟨_, rfl⟩
  obtain ⟨D, hD⟩ : ∃ D, digitsB s.data.toList = D := ⟨_, rfl⟩
  rw [hD] at C
  rw [hR]
  unfold fracB at hR
  rw [hD] at hR
  have CC := Lib.hid C
  clear C
  cases D
  · have HR := Lib.hid hR
    clear hD hR
    go_enter Tryd.func34, Tryd.ntmps34
    go_wp2_with fail
    refine CC.out.mono ?_
    rintro e w' ⟨rfl, rfl⟩
    go_wp2_with fail
    go_ret
    exact ⟨by rw [← HR.out]; rfl, rfl⟩
  · have hpos := digits_pos hD
    by_cases h8 : s.size ≤ 8
    · rw [Bool.true_and, ← Lib.size_eq, decide_eq_true h8, Bool.true_and, last_byte s (s.size - 1) (by omega) (by omega), byte_ne] at hR
      have HR := Lib.hid hR
      clear hR hD
      have h8' : (s.size : Int) ≤ 8 := by omega
      have h9 : (1 : Int) ≤ s.size := by omega
      have h10 : ((s.size : Int) - 1).toNat = s.size - 1 := by omega
      go_enter Tryd.func34, Tryd.ntmps34
      go_wp2_with fail
      refine CC.out.mono ?_
      rintro e w' ⟨rfl, rfl⟩
      go_wp2_with fail
      go_ret
      exact ⟨by rw [← HR.out]; rfl, rfl⟩
    · rw [Bool.true_and, ← Lib.size_eq, decide_eq_false h8, Bool.false_and] at hR
      subst hR
      have h8' : ¬ (s.size : Int) ≤ 8 := by omega
      clear hD
      go_enter Tryd.func34, Tryd.ntmps34
      go_wp2_with fail
      refine CC.out.mono ?_
      rintro e w' ⟨rfl, rfl⟩
      go_wp2_with fail
      go_ret
      exact ⟨rfl, rfl⟩

theorem num_step (s : ByteArray) (k : Nat) (h : k < s.size) : numN (s.data.toList.take (k + 1)) = numN (s.data.toList.take k) * 10 + (s[k].toNat - 48) := by
  rw [take_byte s k h, numN_snoc]

theorem byte_dig {s : ByteArray} (hd : s.data.toList.all isDig = true) (k : Nat) (h : k < s.size) : 48 ≤ s[k].toNat ∧ s[k].toNat ≤ 57 :=
  dig_iff.1 (List.all_eq_true.1 hd _ (byte_mem s k h))

set_option maxHeartbeats 1000000 in
theorem number_any (s : ByteArray) (hs : s.size ≤ 1000000) (hd : s.data.toList.all isDig = true) (w : World) : Calls Tryd.prog 35 #[.string s] w fun e w' => e = .returned (.int .i64 ((min (numN s.data.toList) 100000000 : Nat) : Int)) ∧ w' = w := by
  obtain ⟨R, hR⟩ : ∃ R, min (numN s.data.toList) 100000000 = R := ⟨_, rfl⟩
  rw [hR]
  have HR := Lib.hid hR
  have HD := Lib.hid hd
  clear hR hd
  go_enter Tryd.func35, Tryd.ntmps35
  go_upto_block 0 with (fail)
  go_cut [3] (fun s3 wx => wx = w ∧ s3 = .int .i64 (R : Int))
  case first =>
    go_wp2_with fail
    go_loop [3, 7] (fun s3 s7 => ∃ k m : Nat, k ≤ s.size ∧ s7 = .int .i64 (k : Int) ∧ s3 = .int .i64 (m : Int) ∧ m ≤ 100000000 ∧ Hid (min (numN (s.data.toList.take k)) 100000000 = m)) (fun _ s7 => s.size - (intOf s7).toNat)
    case atStart => exact ⟨0, 0, by omega, rfl, rfl, by omega, Lib.hid rfl⟩
    case round =>
      obtain ⟨k, m, hk, rfl, rfl, hm, H⟩ := hrel
      by_cases hlt : k < s.size
      · obtain ⟨b1, b2⟩ := byte_dig HD.out k hlt
        have hst := num_step s k hlt
        obtain ⟨m', hm'⟩ : ∃ m', min (m * 10 + (s[k].toNat - 48)) 100000000 = m' := ⟨_, rfl⟩
        have hmn : min (numN (s.data.toList.take (k + 1))) 100000000 = m' := by
          have h1 := H.out
          rw [hst]
          omega
        have HM := Lib.hid hmn
        have e1 : min ((m : Int) * 10 + ((s[k].toNat : Int) - 48)) 100000000 = (m' : Int) := by omega
        have hm2 : m' ≤ 100000000 := by omega
        have c1 : (48 : Int) ≤ s[k].toNat := by omega
        have c2 : (s[k].toNat : Int) ≤ 57 := by omega
        clear hst hm' hmn b1 b2
        go_wp2_with fail
        refine ⟨⟨k + 1, m', by omega, rfl, rfl, hm2, HM⟩, ?_⟩
        simp only [intOf]
        omega
      · obtain rfl : k = s.size := by omega
        have hlt' : ¬ (s.size : Int) < s.size := by omega
        have hmr : m = R := by
          rw [← H.out, ← HR.out, List.take_of_length_le (by rw [← Lib.size_eq]; exact Nat.le_refl _)]
        subst hmr
        go_wp2_with fail
        go_meet
        exact ⟨rfl, rfl⟩
  case rest =>
    obtain ⟨rfl, rfl⟩ := hcut
    go_wp2_with fail
    go_ret
    exact ⟨rfl, rfl⟩

end Go.Proofs.YtnlkcdbeoeaalaaDoor
