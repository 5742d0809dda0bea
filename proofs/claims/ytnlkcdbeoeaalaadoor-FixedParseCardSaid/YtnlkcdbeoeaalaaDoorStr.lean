/-
  The small functions on texts: digits, whole parts, fractions, their numbers.
-/
import Derived.Test.YtnlkcdbeoeaalaaDoorRef
import Derived.Test.YtnlkcdbeoeaalaaDoorTxt
import Derived.Test.YtnlkcdbeoeaalaaDoorShelf
namespace Go.Proofs.YtnlkcdbeoeaalaaDoor
open Go.RowKit

theorem toList_data (s : ByteArray) : s.toList = s.data.toList := by first | exact ByteArray.toList_eq s | exact ByteArray.toList_data s | simp

theorem take_byte (s : ByteArray) (k : Nat) (h : k < s.size) : s.data.toList.take (k + 1) = s.data.toList.take k ++ [s[k]] := by
  have hl : k < s.data.toList.length := by rw [← Lib.size_eq]; exact h
  rw [List.take_succ_eq_append_getElem hl]
  rfl

theorem byte_mem (s : ByteArray) (k : Nat) (h : k < s.size) : s[k] ∈ s.data.toList := by
  have hl : k < s.data.toList.length := by rw [← Lib.size_eq]; exact h
  have : s.data.toList[k] ∈ s.data.toList := List.getElem_mem hl
  exact this

theorem all_no_dig (s : ByteArray) (k : Nat) (h : k < s.size) (hd : isDig s[k] = false) : s.data.toList.all isDig = false := by
  rw [List.all_eq_false]
  exact ⟨s[k], byte_mem s k h, by rw [hd]; decide⟩

theorem not_dig_low {c : UInt8} (h : c.toNat < 48) : isDig c = false := by unfold isDig; rw [decide_eq_false (by omega)]; rfl
theorem not_dig_high {c : UInt8} (h : 57 < c.toNat) : isDig c = false := by unfold isDig; rw [decide_eq_false (show ¬ c.toNat ≤ 57 by omega), Bool.and_false]

set_option maxHeartbeats 1000000 in
theorem digits_any (s : ByteArray) (hs : s.size ≤ 1000000) (w : World) : Calls Tryd.prog 52 #[.string s] w fun e w' => e = .returned (.bool (digitsB s.data.toList)) ∧ w' = w := by
  obtain ⟨D, hD⟩ : ∃ D, digitsB s.data.toList = D := ⟨_, rfl⟩
  have HD := Lib.hid hD
  rw [hD]
  clear hD
  go_enter Tryd.func52, Tryd.ntmps52
  go_upto_block 0 with (fail)
  go_cut [] (fun wx => wx = w ∧ Hid (s.data.toList.all isDig = true))
  case first =>
    go_wp2_with fail
    go_loop [6] (fun sk => ∃ k : Nat, k ≤ s.size ∧ sk = .int .i64 (k : Int) ∧ Hid ((s.data.toList.take k).all isDig = true)) (fun sk => s.size - (intOf sk).toNat)
    case atStart => exact ⟨0, by omega, rfl, rfl⟩
    case round =>
      obtain ⟨k, hk, rfl, H⟩ := hrel
      by_cases hlt : k < s.size
      · have hks : k < s.size := hlt
        have hneg : isDig s[k] = false → D = false := fun h => by
          rw [← HD.out, digitsB, all_no_dig s k hks h]; rfl
        have hpos : isDig s[k] = true → (s.data.toList.take (k + 1)).all isDig = true := fun h => by
          rw [take_byte s k hks, all_snoc, H.out, h]; rfl
        have HNEG := Lib.hid hneg
        have HPOS := Lib.hid hpos
        clear hneg hpos
        by_cases c1 : s[k].toNat < 48
        · have HX := Lib.hid c1
          have c1' : (s[k].toNat : Int) < 48 := by omega
          clear c1
          go_wp2_with fail
          go_ret
          exact ⟨by rw [HNEG.out (not_dig_low HX.out)]; rfl, rfl⟩
        · by_cases c2 : 57 < s[k].toNat
          · have HX := Lib.hid c2
            have c2' : (57 : Int) < s[k].toNat := by omega
            have c1' : ¬ (s[k].toNat : Int) < 48 := by omega
            clear c1 c2
            go_wp2_with fail
            go_ret
            exact ⟨by rw [HNEG.out (not_dig_high HX.out)]; rfl, rfl⟩
          · have HX := Lib.hid (show isDig s[k] = true from dig_iff.2 ⟨by omega, by omega⟩)
            have c2' : ¬ (57 : Int) < s[k].toNat := by omega
            have c1' : ¬ (s[k].toNat : Int) < 48 := by omega
            clear c1 c2
            go_wp2_with fail
            refine ⟨⟨k + 1, by omega, rfl, Lib.hid (HPOS.out HX.out)⟩, ?_⟩
            simp only [intOf]
            omega
      · obtain rfl : k = s.size := by omega
        have HA := Lib.hid (show s.data.toList.all isDig = true by
          have h := H.out
          rwa [List.take_of_length_le (by rw [← Lib.size_eq]; omega)] at h)
        clear H
        have hlt' : ¬ (s.size : Int) < s.size := by omega
        go_wp2_with fail
        go_meet
        exact ⟨rfl, HA⟩
  case rest =>
    obtain ⟨rfl, HA⟩ := hcut
    have hD : (!s.data.toList.isEmpty) = D := by
      rw [← HD.out, digitsB, HA.out, Bool.true_and]
    by_cases h0 : s.size = 0
    · have h1 : s.data.toList = [] := by
        apply List.eq_nil_of_length_eq_zero
        rw [← Lib.size_eq, h0]
      have h2 : s = ⟨#[]⟩ := by
        rw [← Lib.mk_data s, h1]
      subst h2
      have hDf : D = false := by rw [← hD]; rfl
      subst hDf
      clear hD HD HA
      go_wp2_with fail
      go_ret
      exact ⟨rfl, rfl⟩
    · have h1 : s.toList ≠ [] := by
        intro h
        have h2 := congrArg List.length h
        rw [toList_data, ← Lib.size_eq] at h2
        exact h0 h2
      have h1' : (s.toList == []) = false := by simpa using h1
      have hDt : D = true := by
        rw [← hD]
        cases e : s.data.toList with
        | nil => exact absurd (by rw [toList_data, e]) h1
        | cons _ _ => rfl
      subst hDt
      have h1'' : (!s.toList.isEmpty) = true := by
        cases e : s.toList with
        | nil => exact absurd e h1
        | cons _ _ => rfl
      clear hD HD HA
      go_wp2_with fail
      go_ret
      exact ⟨rfl, rfl⟩

set_option maxHeartbeats 1000000 in
theorem rnumber_any (s : ByteArray) (hs : s.size ≤ 1000000) (w : World) : Calls Tryd.prog 41 #[.string s] w fun e w' => e = .returned (.bool (digitsB s.data.toList)) ∧ w' = w := by
  obtain ⟨D, hD⟩ : ∃ D, digitsB s.data.toList = D := ⟨_, rfl⟩
  have HD := Lib.hid hD
  rw [hD]
  clear hD
  go_enter Tryd.func41, Tryd.ntmps41
  go_upto_block 0 with (fail)
  go_cut [] (fun wx => wx = w ∧ Hid (s.data.toList.all isDig = true))
  case first =>
    go_wp2_with fail
    go_loop [3] (fun sk => ∃ k : Nat, k ≤ s.size ∧ sk = .int .i64 (k : Int) ∧ Hid ((s.data.toList.take k).all isDig = true)) (fun sk => s.size - (intOf sk).toNat)
    case atStart => exact ⟨0, by omega, rfl, rfl⟩
    case round =>
      obtain ⟨k, hk, rfl, H⟩ := hrel
      by_cases hlt : k < s.size
      · have hks : k < s.size := hlt
        have hneg : isDig s[k] = false → D = false := fun h => by
          rw [← HD.out, digitsB, all_no_dig s k hks h]; rfl
        have hpos : isDig s[k] = true → (s.data.toList.take (k + 1)).all isDig = true := fun h => by
          rw [take_byte s k hks, all_snoc, H.out, h]; rfl
        have HNEG := Lib.hid hneg
        have HPOS := Lib.hid hpos
        clear hneg hpos
        by_cases c1 : s[k].toNat < 48
        · have HX := Lib.hid c1
          have c1' : (s[k].toNat : Int) < 48 := by omega
          clear c1
          go_wp2_with fail
          go_ret
          exact ⟨by rw [HNEG.out (not_dig_low HX.out)]; rfl, rfl⟩
        · by_cases c2 : 57 < s[k].toNat
          · have HX := Lib.hid c2
            have c2' : (57 : Int) < s[k].toNat := by omega
            have c1' : ¬ (s[k].toNat : Int) < 48 := by omega
            clear c1 c2
            go_wp2_with fail
            go_ret
            exact ⟨by rw [HNEG.out (not_dig_high HX.out)]; rfl, rfl⟩
          · have HX := Lib.hid (show isDig s[k] = true from dig_iff.2 ⟨by omega, by omega⟩)
            have c2' : ¬ (57 : Int) < s[k].toNat := by omega
            have c1' : ¬ (s[k].toNat : Int) < 48 := by omega
            clear c1 c2
            go_wp2_with fail
            refine ⟨⟨k + 1, by omega, rfl, Lib.hid (HPOS.out HX.out)⟩, ?_⟩
            simp only [intOf]
            omega
      · obtain rfl : k = s.size := by omega
        have HA := Lib.hid (show s.data.toList.all isDig = true by
          have h := H.out
          rwa [List.take_of_length_le (by rw [← Lib.size_eq]; omega)] at h)
        clear H
        have hlt' : ¬ (s.size : Int) < s.size := by omega
        go_wp2_with fail
        go_meet
        exact ⟨rfl, HA⟩
  case rest =>
    obtain ⟨rfl, HA⟩ := hcut
    have hD : (!s.data.toList.isEmpty) = D := by
      rw [← HD.out, digitsB, HA.out, Bool.true_and]
    by_cases h0 : s.size = 0
    · have h1 : s.data.toList = [] := by
        apply List.eq_nil_of_length_eq_zero
        rw [← Lib.size_eq, h0]
      have h2 : s = ⟨#[]⟩ := by
        rw [← Lib.mk_data s, h1]
      subst h2
      have hDf : D = false := by rw [← hD]; rfl
      subst hDf
      clear hD HD HA
      go_wp2_with fail
      go_ret
      exact ⟨rfl, rfl⟩
    · have h1 : s.toList ≠ [] := by
        intro h
        have h2 := congrArg List.length h
        rw [toList_data, ← Lib.size_eq] at h2
        exact h0 h2
      have h1' : (s.toList == []) = false := by simpa using h1
      have hDt : D = true := by
        rw [← hD]
        cases e : s.data.toList with
        | nil => exact absurd (by rw [toList_data, e]) h1
        | cons _ _ => rfl
      subst hDt
      have h1'' : (!s.toList.isEmpty) = true := by
        cases e : s.toList with
        | nil => exact absurd e h1
        | cons _ _ => rfl
      clear hD HD HA
      go_wp2_with fail
      go_ret
      exact ⟨rfl, rfl⟩

end Go.Proofs.YtnlkcdbeoeaalaaDoor
