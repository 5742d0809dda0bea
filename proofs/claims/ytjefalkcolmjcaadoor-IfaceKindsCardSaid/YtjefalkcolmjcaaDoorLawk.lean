/-
  The law IfaceKinds.
-/
import Derived.Test.YtjefalkcolmjcaaDoorLawi
namespace Go.Proofs.YtjefalkcolmjcaaDoor
open Go.RowKit

theorem sigT_cat {s t : ByteArray} (hs : sigT s = true) (ht : sigT t = true) (h : s.size + t.size ≤ 16) : sigT (s ++ t) = true := by
  unfold sigT at hs ht ⊢
  simp only [Bool.and_eq_true, decide_eq_true_eq] at hs ht ⊢
  refine ⟨by rw [ByteArray.size_append]; exact h, ?_⟩
  rw [ByteArray.data_append, Array.toList_append, List.all_append, hs.2, ht.2]
  rfl
theorem kds_cat (s t : ByteArray) : kdsT (s ++ t).data.toList = kdsT s.data.toList ++ kdsT t.data.toList := by
  unfold kdsT
  rw [ByteArray.data_append, Array.toList_append, List.map_append]
theorem kds_in {s : ByteArray} (h : sigT s = true) : ∀ x ∈ kdsT s.data.toList, 1 ≤ x ∧ x ≤ 7 := by
  unfold sigT at h
  simp only [Bool.and_eq_true, List.all_eq_true, bne_iff_ne, ne_eq] at h
  intro x hx
  obtain ⟨c, hc, rfl⟩ := List.mem_map.1 hx
  have := h.2 c hc
  have h7 := kindN_le c.toNat
  exact ⟨by omega, h7⟩

def kindsBad (s t : ByteArray) : Prop := 16 < s.size ∨ 16 < t.size ∨ 16 < s.size + t.size ∨ sigT s = false ∨ sigT t = false

theorem kinds_far (s t : ByteArray) (h : kindsBad s t) {w : World} (T : Tab w) : Calls Tryd.prog 8 #[.string s, .string t] w (Says true w) := by
  have E := fun W (T : Tab W) => Lib.hid (exam_any T)
  have A := fun W => Lib.hid (valid_any s W)
  have B := fun W => Lib.hid (valid_any t W)
  by_cases h1 : 16 < s.size
  · have e1 : (16 : Int) < s.size := by omega
    clear A B
    go_enter Tryd.func8, Tryd.ntmps8
    go_wp2_with fail
    refine (E _ (by first | exact T | exact T.below ((Below.refl _ _).alloc (Nat.le_refl _) _) | exact T.below J.out.below | exact T.below J.out | exact T.below J0.out | exact T.below J1.out | exact T.below J2.out | exact T.below J4.out | exact T.below J6.out | exact T.below J7.out | exact T.below HB.out)).out.mono ?_
    rintro e w1 ⟨rfl, hb⟩
    clear E
    go_wp2_with fail
    go_ret
    exact ⟨rfl, hb⟩
  have e1 : ¬ (16 : Int) < s.size := by omega
  by_cases h2 : 16 < t.size
  · have e2 : (16 : Int) < t.size := by omega
    clear A B
    go_enter Tryd.func8, Tryd.ntmps8
    go_wp2_with fail
    refine (E _ (by first | exact T | exact T.below ((Below.refl _ _).alloc (Nat.le_refl _) _) | exact T.below J.out.below | exact T.below J.out | exact T.below J0.out | exact T.below J1.out | exact T.below J2.out | exact T.below J4.out | exact T.below J6.out | exact T.below J7.out | exact T.below HB.out)).out.mono ?_
    rintro e w1 ⟨rfl, hb⟩
    clear E
    go_wp2_with fail
    go_ret
    exact ⟨rfl, hb⟩
  have e2 : ¬ (16 : Int) < t.size := by omega
  by_cases h3 : 16 < s.size + t.size
  · have e3 : (16 : Int) < (s.size : Int) + (t.size : Int) := by omega
    clear A B
    go_enter Tryd.func8, Tryd.ntmps8
    go_wp2_with fail
    refine (E _ (by first | exact T | exact T.below ((Below.refl _ _).alloc (Nat.le_refl _) _) | exact T.below J.out.below | exact T.below J.out | exact T.below J0.out | exact T.below J1.out | exact T.below J2.out | exact T.below J4.out | exact T.below J6.out | exact T.below J7.out | exact T.below HB.out)).out.mono ?_
    rintro e w1 ⟨rfl, hb⟩
    clear E
    go_wp2_with fail
    go_ret
    exact ⟨rfl, hb⟩
  have e3 : ¬ (16 : Int) < (s.size : Int) + (t.size : Int) := by omega
  cases hs : sigT s with
  | false =>
    rw [hs] at A
    clear B hs h
    go_enter Tryd.func8, Tryd.ntmps8
    go_wp2_with fail
    refine (A _).out.mono ?_
    rintro e w1 ⟨rfl, rfl⟩
    go_wp2_with fail
    refine (E _ (by first | exact T | exact T.below ((Below.refl _ _).alloc (Nat.le_refl _) _) | exact T.below J.out.below | exact T.below J.out | exact T.below J0.out | exact T.below J1.out | exact T.below J2.out | exact T.below J4.out | exact T.below J6.out | exact T.below J7.out | exact T.below HB.out)).out.mono ?_
    rintro e w1 ⟨rfl, hb⟩
    clear E
    go_wp2_with fail
    go_ret
    exact ⟨rfl, hb⟩
  | true =>
    have ht : sigT t = false := by
      rcases h with h | h | h | h | h
      · exact absurd h h1
      · exact absurd h h2
      · exact absurd h h3
      · rw [hs] at h; cases h
      · exact h
    rw [hs] at A
    rw [ht] at B
    clear hs ht h
    go_enter Tryd.func8, Tryd.ntmps8
    go_wp2_with fail
    refine (A _).out.mono ?_
    rintro e w1 ⟨rfl, rfl⟩
    go_wp2_with fail
    refine (B _).out.mono ?_
    rintro e w1 ⟨rfl, rfl⟩
    go_wp2_with fail
    refine (E _ (by first | exact T | exact T.below ((Below.refl _ _).alloc (Nat.le_refl _) _) | exact T.below J.out.below | exact T.below J.out | exact T.below J0.out | exact T.below J1.out | exact T.below J2.out | exact T.below J4.out | exact T.below J6.out | exact T.below J7.out | exact T.below HB.out)).out.mono ?_
    rintro e w1 ⟨rfl, hb⟩
    clear E
    go_wp2_with fail
    go_ret
    exact ⟨rfl, hb⟩

theorem ownI_empty (w : World) {base : Nat} (hb : base ≤ w.heap.size) : OwnI (w.alloc (.cells #[] 3)) base (.slice (some ⟨w.heap.size, 0, none⟩) 0 0) [] :=
  World.ownsRow_made w #[] 0 hb (Nat.zero_le _) rfl

set_option maxHeartbeats 4000000 in
theorem kinds_walk_in (s t : ByteArray) (h3 : s.size + t.size ≤ 16) (hs : sigT s = true) (ht : sigT t = true) {w : World} (T : Tab w) : Calls Tryd.prog 8 #[.string s, .string t] w (Says true w) := by
  have E := fun W (T : Tab W) => Lib.hid (exam_any T)
  have A := fun W => Lib.hid (valid_any s W)
  have B := fun W => Lib.hid (valid_any t W)
  have C := fun W (T : Tab W) => Lib.hid (p_kinds_any hs T)
  have D := fun W (T : Tab W) => Lib.hid (p_kinds_any ht T)
  have F := fun W (T : Tab W) => Lib.hid (p_valid_any T (s ++ t))
  have G := fun W (T : Tab W) => Lib.hid (p_kinds_any (sigT_cat hs ht h3) T)
  rw [sigT_cat hs ht h3] at F
  rw [kds_cat] at G
  rw [hs] at A
  rw [ht] at B
  have ls : (kdsT s.data.toList).length = s.size := by rw [kdsT_len, ← sizeL_eq]
  have lt : (kdsT t.data.toList).length = t.size := by rw [kdsT_len, ← sizeL_eq]
  have hin : ∀ x ∈ kdsT s.data.toList ++ kdsT t.data.toList, 1 ≤ x ∧ x ≤ 7 := by
    intro x hx
    rcases List.mem_append.1 hx with hx | hx
    · exact kds_in hs x hx
    · exact kds_in ht x hx
  have e1 : ¬ (16 : Int) < s.size := by omega
  have e2 : ¬ (16 : Int) < t.size := by omega
  have e3 : ¬ (16 : Int) < (s.size : Int) + (t.size : Int) := by omega
  generalize kdsT s.data.toList = l at *
  generalize kdsT t.data.toList = m at *
  have HL := Lib.hid ls
  have HM := Lib.hid lt
  have HIN := Lib.hid hin
  have HI := fun (W : World) (u v : Value) (h1 : Is W u (l ++ m)) (h2 : Is W v (l ++ m)) => Lib.hid (ints_same h1 h2 (by rw [List.length_append]; omega))
  have b1 : ([] : List Nat).length + l.length ≤ 4000000 := by simp; omega
  have b2 : ([] ++ l).length + m.length ≤ 4000000 := by simp; omega
  have B1 := Lib.hid b1
  have B2 := Lib.hid b2
  clear ls lt hin b1 b2 hs ht
  go_enter Tryd.func8, Tryd.ntmps8
  go_wp2_with fail
  refine (A _).out.mono ?_
  rintro e w1 ⟨rfl, rfl⟩
  go_wp2_with fail
  refine (B _).out.mono ?_
  rintro e w1 ⟨rfl, rfl⟩
  clear A B
  go_wp2_with fail
  refine (C _ (by first | exact T | exact T.below ((Below.refl _ _).alloc (Nat.le_refl _) _) | exact T.below J.out.below | exact T.below J.out | exact T.below J0.out | exact T.below J1.out | exact T.below J2.out | exact T.below J4.out | exact T.below J6.out | exact T.below J7.out | exact T.below HB.out)).out.mono ?_
  rintro e w1 ⟨u, rfl, hu, hb⟩
  have H0 := Lib.hid ((Below.refl w.heap.size w).alloc (Nat.le_refl _) (.cells #[] 3))
  have O0 := Lib.hid ((ownI_empty w (Nat.le_refl _)).below hb)
  have J0 := Lib.hid (Below.next H0.out hb)
  have I0 := hu.is
  obtain ⟨A1, c1, rfl, _, _⟩ := hu.is.shape
  have I1 := Lib.hid I0
  have hz := J0.out.size
  clear C hb hu I0 H0
  go_wp2_with (at_builtin; refine wpList_appI rfl _ _ rfl (base := w.heap.size) (l := []) (m := l) rfl O0.out rfl I1.out B1.out (by omega) ?_; intro v2 w2 ho2 hg2 hl2 _)
  have J1 := Lib.hid (below_grownI J0.out hg2 O0.out)
  have O1 := Lib.hid ho2
  obtain ⟨A2, c2, rfl, _, _⟩ := ho2.is.shape
  clear ho2 hg2 hl2 I1 O0 J0 hz
  go_wp2_with fail
  refine (D _ (by first | exact T | exact T.below ((Below.refl _ _).alloc (Nat.le_refl _) _) | exact T.below J.out.below | exact T.below J.out | exact T.below J0.out | exact T.below J1.out | exact T.below J2.out | exact T.below J4.out | exact T.below J6.out | exact T.below J7.out | exact T.below HB.out)).out.mono ?_
  rintro e w3 ⟨u, rfl, hu, hb⟩
  have O2 := Lib.hid (O1.out.below hb)
  have J2 := Lib.hid (Below.next J1.out hb)
  have I0 := hu.is
  obtain ⟨A3, c3, rfl, _, _⟩ := hu.is.shape
  have I2 := Lib.hid I0
  have hz := J2.out.size
  clear D hb hu I0 O1 J1
  go_wp2_with (at_builtin; refine wpList_appI rfl _ _ rfl (base := w.heap.size) (l := [] ++ l) (m := m) rfl O2.out rfl I2.out B2.out (by omega) ?_; intro v4 w4 ho4 hg4 hl4 _)
  have J4 := Lib.hid (below_grownI J2.out hg4 O2.out)
  rw [List.nil_append] at ho4
  have hi := ho4.is
  obtain ⟨A4, c4, rfl, hc4, hm4⟩ := ho4.is.shape
  have I4 := Lib.hid hi
  obtain ⟨len, hlen⟩ : ∃ len, (l ++ m).length = len := ⟨_, rfl⟩
  have hlen2 : (len : Int) = (s.size : Int) + (t.size : Int) := by
    rw [← hlen, List.length_append, HL.out, HM.out]
    omega
  rw [hlen] at hc4 I4 ⊢
  have HLEN := Lib.hid hlen
  simp only [maxLen] at hm4
  clear ho4 hg4 hl4 I2 O2 J2 hz hi hlen B1 B2 HL HM
  go_wp2_with fail
  go_loopw [6] (fun s6 wr => ∃ i : Nat, i ≤ len ∧ s6 = .int .i64 (i : Int) ∧ wr = w4) (fun s6 _ => leftN len s6)
  case atStart => exact ⟨0, Nat.zero_le _, rfl, rfl⟩
  case round =>
    obtain ⟨i, hi, rfl, rfl⟩ := hrel
    by_cases hlt : i < len
    · have q0 : (0 : Int) ≤ i := by omega
      have q1 : (i : Int) < len := by omega
      obtain ⟨x, hx⟩ : ∃ x, (l ++ m)[i]? = some x := ⟨_, List.getElem?_eq_getElem (by rw [HLEN.out]; exact hlt)⟩
      obtain ⟨A', cap', hv, _, _, hcs⟩ := I4.out
      simp only [Value.slice.injEq] at hv
      obtain ⟨rfl, -, rfl⟩ := hv
      obtain ⟨b, off, rfl, -, hcs⟩ := hcs (by rw [HLEN.out]; omega)
      have t0 := hcs i x hx
      obtain ⟨x1, x2⟩ := HIN.out x (List.mem_of_getElem? hx)
      have y1 : ¬ (x : Int) < 1 := by omega
      have y2 : ¬ (7 : Int) < x := by omega
      clear hcs hx
      go_wp2_with fail
      go_roundw
      case rel => exact ⟨i + 1, by omega, by go_num, trivial⟩
      case measure =>
        unfold leftN
        simp [intOf]
        omega
    · obtain rfl : i = len := by omega
      have e5 : decide ((i : Int) = (s.size : Int) + (t.size : Int)) = true := decide_eq_true hlen2
      go_wp2_with fail
      refine (F _ (by first | exact T | exact T.below ((Below.refl _ _).alloc (Nat.le_refl _) _) | exact T.below J.out.below | exact T.below J.out | exact T.below J0.out | exact T.below J1.out | exact T.below J2.out | exact T.below J4.out | exact T.below J6.out | exact T.below J7.out | exact T.below HB.out)).out.mono ?_
      rintro e w5 ⟨rfl, rfl⟩
      clear F
      go_wp2_with fail
      refine (G _ (by first | exact T | exact T.below ((Below.refl _ _).alloc (Nat.le_refl _) _) | exact T.below J.out.below | exact T.below J.out | exact T.below J0.out | exact T.below J1.out | exact T.below J2.out | exact T.below J4.out | exact T.below J6.out | exact T.below J7.out | exact T.below HB.out)).out.mono ?_
      rintro e w6 ⟨u, rfl, hu, hb⟩
      have J6 := Lib.hid (Below.next J4.out hb)
      have K := HI _ _ _ hu.is (I4.out.below hb)
      clear G HI hu hb J4
      go_wp2_with fail
      refine K.out.mono ?_
      rintro e w7 ⟨rfl, hb⟩
      have J7 := Lib.hid (Below.next J6.out hb)
      clear K hb J6
      go_wp2_with fail
      refine (E _ (by first | exact T | exact T.below ((Below.refl _ _).alloc (Nat.le_refl _) _) | exact T.below J.out.below | exact T.below J.out | exact T.below J0.out | exact T.below J1.out | exact T.below J2.out | exact T.below J4.out | exact T.below J6.out | exact T.below J7.out | exact T.below HB.out)).out.mono ?_
      rintro e w8 ⟨rfl, hb⟩
      have J8 := Lib.hid (Below.next J7.out hb)
      clear E hb J7
      go_wp2_with fail
      go_ret
      exact ⟨rfl, J8.out⟩

theorem kinds_walk (s t : ByteArray) {w : World} (T : Tab w) : Calls Tryd.prog 8 #[.string s, .string t] w (Says true w) := by
  by_cases h : kindsBad s t
  · exact kinds_far s t h T
  · unfold kindsBad at h
    simp only [not_or, Bool.not_eq_false] at h
    exact kinds_walk_in s t (Nat.not_lt.1 h.2.2.1) h.2.2.2.1 h.2.2.2.2 T

end Go.Proofs.YtjefalkcolmjcaaDoor
