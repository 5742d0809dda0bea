/-
  strings.Cut at a point, and FormatUint.
-/
import Derived.Test.YtnlkcdbeoeaalaaDoorPrs
import Derived.Lib.ItoaMem
namespace Go.Proofs.YtnlkcdbeoeaalaaDoor
open Go.RowKit

theorem index_cut (l : List UInt8) : (Lib.indexByte l 46 = -1 ∧ l.takeWhile (· != 46) = l ∧ l.dropWhile (· != 46) = []) ∨
    ∃ i : Nat, Lib.indexByte l 46 = i ∧ i < l.length ∧ l.takeWhile (· != 46) = l.take i ∧ l.dropWhile (· != 46) = 46 :: l.drop (i + 1) := by
  induction l with
  | nil => exact .inl ⟨rfl, rfl, rfl⟩
  | cons b l ih =>
    unfold Lib.indexByte
    by_cases h : b = 46
    · subst h
      exact .inr ⟨0, rfl, by simp, rfl, rfl⟩
    · have h1 : (b == 46) = false := by simpa using h
      have h2 : (b != 46) = true := by simpa using h
      rw [h1, List.takeWhile_cons, List.dropWhile_cons, h2]
      simp only [Bool.false_eq_true, if_false, if_true]
      rcases ih with ⟨e1, e2, e3⟩ | ⟨i, e1, e2, e3, e4⟩
      · rw [e1, e2, e3]
        exact .inl ⟨rfl, rfl, rfl⟩
      · rw [e1, e3, e4]
        have h3 : ((i : Int) == -1) = false := by rw [beq_eq_false_iff_ne]; omega
        rw [h3]
        exact .inr ⟨i + 1, rfl, by simpa using e2, rfl, rfl⟩

set_option maxHeartbeats 1000000 in
theorem cut_any (s : ByteArray) (hs : s.size ≤ 1000000) (w : World) :
    Calls Tryd.prog 51 #[.string s, .string ⟨#[46]⟩] w fun e w' => e = .returned (.tuple #[.string ⟨(s.data.toList.takeWhile (· != 46)).toArray⟩, .string ⟨(s.data.toList.dropWhile (· != 46)).tail.toArray⟩, .bool (!(s.data.toList.dropWhile (· != 46)).isEmpty)]) ∧ Below w.heap.size w w' := by
  have C := Tryd.stringslite_Index_one s 46 w
  rcases index_cut s.data.toList with ⟨e1, e2, e3⟩ | ⟨i, e1, e2, e3, e4⟩
  · rw [e1] at C
    rw [e2, e3]
    have CC := Lib.hid C
    have E : (⟨s.data.toList.toArray⟩ : ByteArray) = s := Lib.mk_data s
    rw [E]
    clear C e1 e2 e3 E
    go_enter Tryd.func51, Tryd.ntmps51
    go_wp2_with fail
    refine CC.out.mono ?_
    rintro e w' ⟨rfl, rfl⟩
    go_wp2_with fail
    go_ret3
    exact ⟨rfl, Below.refl _ _⟩
  · rw [e1] at C
    rw [← Lib.size_eq] at e2
    have x1 : s.extract 0 i = ⟨(s.data.toList.take i).toArray⟩ := Lib.extract_upto s i
    have x2 : s.extract (i + 1) s.size = ⟨(s.data.toList.drop (i + 1)).toArray⟩ := Lib.extract_from s (i + 1)
    rw [e3, e4, List.tail_cons, ← x1, ← x2]
    have CC := Lib.hid C
    have c1 : (0 : Int) ≤ i := by omega
    have c2 : (i : Int) ≤ s.size := by omega
    have c3 : (0 : Int) ≤ (i : Int) + 1 := by omega
    have c4 : (i : Int) + 1 ≤ s.size := by omega
    have c5 : IntKind.i64.wrap ((i : Int) + 1) = (i : Int) + 1 := IntWalk.i64_in _ (by omega)
    have c6 : ((i : Int) + 1).toNat = i + 1 := by omega
    clear C e1 e2 e3 e4 x1 x2
    go_enter Tryd.func51, Tryd.ntmps51
    go_wp2_with fail
    refine CC.out.mono ?_
    rintro e w' ⟨rfl, rfl⟩
    go_wp2_with fail
    go_quiet (fail)
    go_wp2_with fail
    go_ret3
    exact ⟨rfl, below_draws (Below.refl _ _) _⟩

theorem scut_any (s : ByteArray) (hs : s.size ≤ 1000000) (w : World) :
    Calls Tryd.prog 32 #[.string s, .string ⟨#[46]⟩] w fun e w' => e = .returned (.tuple #[.string ⟨(s.data.toList.takeWhile (· != 46)).toArray⟩, .string ⟨(s.data.toList.dropWhile (· != 46)).tail.toArray⟩, .bool (!(s.data.toList.dropWhile (· != 46)).isEmpty)]) ∧ Below w.heap.size w w' := by
  have CC := Lib.hid (cut_any s hs w)
  obtain ⟨a, ha⟩ : ∃ a : ByteArray, ⟨(s.data.toList.takeWhile (· != 46)).toArray⟩ = a := ⟨_, rfl⟩
  obtain ⟨b, hb⟩ : ∃ a : ByteArray, ⟨(s.data.toList.dropWhile (· != 46)).tail.toArray⟩ = a := ⟨_, rfl⟩
  obtain ⟨c, hc⟩ : ∃ c, (!(s.data.toList.dropWhile (· != 46)).isEmpty) = c := ⟨_, rfl⟩
  rw [ha, hb, hc] at CC ⊢
  clear ha hb hc
  go_enter Tryd.func32, Tryd.ntmps32
  go_wp2_with fail
  refine CC.out.mono ?_
  rintro e w' ⟨rfl, hw⟩
  have K := Lib.hid hw
  clear hw
  go_wp2_with fail
  go_ret3
  exact ⟨rfl, K.out⟩

end Go.Proofs.YtnlkcdbeoeaalaaDoor
