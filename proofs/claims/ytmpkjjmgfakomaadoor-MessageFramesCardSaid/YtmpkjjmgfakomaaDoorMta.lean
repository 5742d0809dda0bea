/-
  The reference's text of an argument.
-/
import Derived.Test.YtmpkjjmgfakomaaDoorMfi
import Derived.Lib.ItoaLen
namespace Go.Proofs.YtmpkjjmgfakomaaDoor
open Go.RowKit Mem Wire Go.Lib

def In64 (n : Int) : Prop := -9223372036854775808 ≤ n ∧ n ≤ 9223372036854775807

theorem take_byte (s : ByteArray) (i : Nat) (h : i < s.size) : (sl s).take (i + 1) = (sl s).take i ++ [s[i]] := by
  have e : (sl s)[i]? = some s[i] := by
    have h2 : i < s.data.toList.length := by rw [← sizeL_eq]; exact h
    unfold sl
    rw [List.getElem?_eq_getElem h2]
    rfl
  rw [List.take_add_one, e]
  rfl
theorem esc_hex (s : ByteArray) (i : Nat) (h : i < s.size) (hb : badB s[i] = true) :
    ((⟨(34 :: ((sl s).take i).flatMap escB).toArray⟩ : ByteArray) ++ ⟨#[92, 120]⟩) ++ ⟨(hexB s[i]).toArray⟩ = ⟨(34 :: ((sl s).take (i + 1)).flatMap escB).toArray⟩ := by
  rw [show (⟨#[92, 120]⟩ : ByteArray) = ⟨([92, 120] : List UInt8).toArray⟩ from rfl, app_mk, app_mk, take_byte s i h]
  simp [escB, hb]
theorem ext_one (s : ByteArray) (i : Nat) (h : i < s.size) : s.extract i (i + 1) = ⟨([s[i]] : List UInt8).toArray⟩ := by
  have e : (sl s)[i]? = some s[i] := by
    have h2 : i < s.data.toList.length := by rw [← sizeL_eq]; exact h
    unfold sl
    rw [List.getElem?_eq_getElem h2]
    rfl
  obtain ⟨hl, e2⟩ := List.getElem?_eq_some_iff.1 e
  apply ByteArray.ext
  rw [ByteArray.data_extract]
  apply Array.ext'
  rw [Array.toList_extract]
  unfold sl at hl e2
  simp only [List.extract]
  rw [List.drop_eq_getElem_cons hl, e2, show i + 1 - i = 1 by omega]
  rfl
theorem hexs_len (l : List UInt8) : (l.flatMap hexB).length = 2 * l.length := by
  induction l with
  | nil => rfl
  | cons c l ih => rw [List.flatMap_cons, List.length_append, ih]; simp [hexB]; omega
theorem escs_len (l : List UInt8) : (l.flatMap escB).length ≤ 4 * l.length := by
  induction l with
  | nil => exact Nat.le_refl _
  | cons c l ih =>
    have : (escB c).length ≤ 4 := by
      unfold escB
      split <;> simp [hexB]
    rw [List.flatMap_cons, List.length_append, List.length_cons]
    omega
theorem mk_size (l : List UInt8) : (⟨l.toArray⟩ : ByteArray).size = l.length := by
  show l.toArray.size = _
  simp
theorem esc_one (s : ByteArray) (i : Nat) (h : i < s.size) (hb : badB s[i] = false) :
    (⟨(34 :: ((sl s).take i).flatMap escB).toArray⟩ : ByteArray) ++ s.extract i (i + 1) = ⟨(34 :: ((sl s).take (i + 1)).flatMap escB).toArray⟩ := by
  rw [ext_one s i h, app_mk, take_byte s i h]
  simp [escB, hb]
theorem bad_iff (c : UInt8) : badB c = true ↔ c.toNat < 32 ∨ 126 < c.toNat ∨ c.toNat = 34 ∨ c.toNat = 92 := by
  simp [badB, or_assoc]

/-- a text, and nothing older turned -/
def Tells (l : List UInt8) (w : World) (e : Ending) (w' : World) : Prop := e = .returned (.string ⟨l.toArray⟩) ∧ Below w.heap.size w w'

set_option maxRecDepth 100000 in
set_option maxHeartbeats 4000000 in
theorem text_str {w : World} {A : Option Addr} {bl cap : Nat} (ss : ByteArray) (hs : ss.size ≤ 4000) {nn : Int} (hn : In64 nn) (htab : Tbp w) :
    Calls Tryd.prog 45 #[.agg #[.int .i64 4, .int .i64 nn, .string ss, .slice A bl cap]] w (Tells (34 :: ((sl ss).flatMap escB ++ [34])) w) := by
  have J0 := Lib.hid ((Held.nil w).alloc [.int .i64 4, .int .i64 nn, .string ss, .slice A bl cap] 43)
  have F := Lib.hid (fint_any nn hn.1 hn.2 _ (htab.below J0.out.below))
  have HX0 := fun (x : UInt8) (W : World) => hex_any x W
  unfold byte at HX0
  have HX := Lib.hid HX0
  clear htab HX0
  obtain ⟨N, hN⟩ : ∃ N : ByteArray, (⟨(itoa nn).toArray⟩ : ByteArray) = N := ⟨_, rfl⟩
  rw [hN] at F
  clear hN
  obtain ⟨y0, y1, y2, y3, -, -⟩ := (show Held w _ ([] ++ (w.heap.size, _) :: []) from J0.out).four
  go_enter Tryd.func45, Tryd.ntmps45
  go_wp2_with fail
  refine F.out.mono ?_
  rintro e w1 ⟨rfl, hb⟩
  replace J0 := Lib.hid (J0.out.step hb)
  clear hb F y0 y1 y2 y3
  obtain ⟨y0, y1, y2, y3, -, -⟩ := (show Held w _ ([] ++ (w.heap.size, _) :: []) from J0.out).four
  go_wp2_with fail
  clear y0 y1 y2 y3
  go_loopw [4, 5] (fun s4 s5 wr => ∃ i : Nat, i ≤ ss.size ∧ s4 = .string ⟨(34 :: ((sl ss).take i).flatMap escB).toArray⟩ ∧ s5 = .int .i64 (i : Int) ∧ Hid (Held w wr [(w.heap.size, [.int .i64 4, .int .i64 nn, .string ss, .slice A bl cap])])) (fun _ s5 _ => leftN ss.size s5)
  case atStart => exact ⟨0, Nat.zero_le _, rfl, rfl, J0⟩
  case round =>
    clear J0
    obtain ⟨i, hi, rfl, rfl, J⟩ := hrel
    obtain ⟨y0, y1, y2, y3, -, -⟩ := (show Held w wr ([] ++ (w.heap.size, _) :: []) from J.out).four
    by_cases hlt : i < ss.size
    · have q0 : (0 : Int) ≤ i := by omega
      have q1 : (i : Int) < ss.size := by omega
      have E1 := Lib.hid (esc_hex ss i hlt)
      have E2 := Lib.hid (esc_one ss i hlt)
      have BI := Lib.hid (bad_iff ss[i])
      obtain ⟨T, hT⟩ : ∃ T : ByteArray, ⟨(34 :: ((sl ss).take i).flatMap escB).toArray⟩ = T := ⟨_, rfl⟩
      have hTs : T.size ≤ 16001 := by
        rw [← hT, mk_size, List.length_cons]
        have := escs_len ((sl ss).take i)
        have h2 : ((sl ss).take i).length ≤ i := by rw [List.length_take]; omega
        omega
      have hHs : (⟨(hexB ss[i]).toArray⟩ : ByteArray).size = 2 := rfl
      rw [hT] at E1 E2 ⊢
      clear hT
      by_cases c1 : ss[i].toNat < 32
      · have d1 : ((ss[i].toNat : Nat) : Int) < 32 := by omega
        have EE := Lib.hid (E1.out (BI.out.2 (.inl c1)))
        clear E1 E2 BI
        go_wp2_with fail
        refine (HX.out _ _).mono ?_
        rintro e wq ⟨rfl, q, rfl⟩
        replace J := Lib.hid (J.out.step (below_draws (Below.refl _ _) q))
        go_wp2_with fail
        go_roundw
        case rel => exact ⟨i + 1, by omega, congrArg Value.string EE.out, by go_num, J⟩
        case measure =>
          unfold leftN
          simp [RowKit.intOf]
          omega
      have d1 : ¬ ((ss[i].toNat : Nat) : Int) < 32 := by omega
      by_cases c2 : 126 < ss[i].toNat
      · have d2 : 126 < ((ss[i].toNat : Nat) : Int) := by omega
        have f2 : decide (126 < ((ss[i].toNat : Nat) : Int)) = true := decide_eq_true d2
        have EE := Lib.hid (E1.out (BI.out.2 (.inr (.inl c2))))
        clear E1 E2 BI
        go_wp2_with fail
        refine (HX.out _ _).mono ?_
        rintro e wq ⟨rfl, q, rfl⟩
        replace J := Lib.hid (J.out.step (below_draws (Below.refl _ _) q))
        go_wp2_with fail
        go_roundw
        case rel => exact ⟨i + 1, by omega, congrArg Value.string EE.out, by go_num, J⟩
        case measure =>
          unfold leftN
          simp [RowKit.intOf]
          omega
      have d2 : ¬ 126 < ((ss[i].toNat : Nat) : Int) := by omega
      have f2 : decide (126 < ((ss[i].toNat : Nat) : Int)) = false := decide_eq_false d2
      by_cases c3 : ss[i].toNat = 34
      · have d3 : (((ss[i].toNat : Nat) : Int) == 34) = true := by rw [c3]; rfl
        have hx3 := HX.out ss[i]
        rw [c3] at hx3
        have HX3 := Lib.hid hx3
        clear hx3
        have EE := Lib.hid (E1.out (BI.out.2 (.inr (.inr (.inl c3)))))
        clear E1 E2 BI
        go_wp2_with fail
        refine (HX3.out _).mono ?_
        rintro e wq ⟨rfl, q, rfl⟩
        replace J := Lib.hid (J.out.step (below_draws (Below.refl _ _) q))
        go_wp2_with fail
        go_roundw
        case rel => exact ⟨i + 1, by omega, congrArg Value.string EE.out, by go_num, J⟩
        case measure =>
          unfold leftN
          simp [RowKit.intOf]
          omega
      have d3 : (((ss[i].toNat : Nat) : Int) == 34) = false := by
        rw [beq_eq_false_iff_ne]
        omega
      by_cases c4 : ss[i].toNat = 92
      · have d4 : (((ss[i].toNat : Nat) : Int) == 92) = true := by rw [c4]; rfl
        have hx3 := HX.out ss[i]
        rw [c4] at hx3
        have HX3 := Lib.hid hx3
        clear hx3
        have EE := Lib.hid (E1.out (BI.out.2 (.inr (.inr (.inr c4)))))
        clear E1 E2 BI
        go_wp2_with fail
        refine (HX3.out _).mono ?_
        rintro e wq ⟨rfl, q, rfl⟩
        replace J := Lib.hid (J.out.step (below_draws (Below.refl _ _) q))
        go_wp2_with fail
        go_roundw
        case rel => exact ⟨i + 1, by omega, congrArg Value.string EE.out, by go_num, J⟩
        case measure =>
          unfold leftN
          simp [RowKit.intOf]
          omega
      have d4 : (((ss[i].toNat : Nat) : Int) == 92) = false := by
        rw [beq_eq_false_iff_ne]
        omega
      have hb : badB ss[i] = false := by
        rw [Bool.eq_false_iff]
        intro h
        have := BI.out.1 h
        omega
      have EE := Lib.hid (E2.out hb)
      clear E1 E2 BI hb
      go_wp2_with fail
      go_roundw
      case rel => exact ⟨i + 1, by omega, congrArg Value.string EE.out, by go_num, J⟩
      case measure =>
        unfold leftN
        simp [RowKit.intOf]
        omega
    · obtain rfl : i = ss.size := by omega
      have e9 : (⟨(34 :: ((sl ss).take ss.size).flatMap escB).toArray⟩ : ByteArray) ++ ⟨#[34]⟩ = ⟨(34 :: ((sl ss).flatMap escB ++ [34])).toArray⟩ := by
        rw [List.take_of_length_le (by rw [sl_len]; exact Nat.le_refl _), show (⟨#[34]⟩ : ByteArray) = ⟨([34] : List UInt8).toArray⟩ from rfl, app_mk]
        rfl
      obtain ⟨T, hT⟩ : ∃ T : ByteArray, ⟨(34 :: ((sl ss).take ss.size).flatMap escB).toArray⟩ = T := ⟨_, rfl⟩
      have hTs : T.size ≤ 16001 := by
        rw [← hT, mk_size, List.length_cons]
        have := escs_len ((sl ss).take ss.size)
        have h2 : ((sl ss).take ss.size).length ≤ ss.size := by rw [List.length_take]; omega
        omega
      rw [hT] at e9 ⊢
      have EE := Lib.hid e9
      clear hT e9
      go_wp2_with fail
      go_ret
      exact ⟨congrArg (fun s => Ending.returned (.string s)) EE.out, J.out.below⟩

theorem sees_cell {w W : World} {A : Option Addr} {n cap i : Nat} {bs : List UInt8} (h : Sees w (.slice A n cap) bs) (hb : Below w.heap.size w W) (hi : i < n) :
    ∃ b off, A = some ⟨b, off, none⟩ ∧ W.cell? ⟨b, off + i, none⟩ = some (.int .u8 ((bs.getD i 0).toNat : Int)) := by
  obtain ⟨A', cap', hv, _, _, h3⟩ := h
  injection hv with e1 e2 e3
  subst e1 e2 e3
  obtain ⟨b, off, hA, hlt, hc⟩ := h3 (by omega)
  refine ⟨b, off, hA, ?_⟩
  rw [hb.cell (p := ⟨b, off + i, none⟩) hlt]
  exact hc i hi
theorem hex_step (bb : List UInt8) (i : Nat) (h : i < bb.length) :
    (⟨(91 :: (bb.take i).flatMap hexB).toArray⟩ : ByteArray) ++ ⟨(hexB (bb.getD i 0)).toArray⟩ = ⟨(91 :: (bb.take (i + 1)).flatMap hexB).toArray⟩ := by
  have e : bb.take (i + 1) = bb.take i ++ [bb.getD i 0] := by
    rw [List.take_add_one, List.getElem?_eq_getElem h]
    simp [List.getD, List.getElem?_eq_getElem h]
  rw [e, app_mk, List.flatMap_append, List.flatMap_singleton]
  rfl

set_option maxRecDepth 100000 in
set_option maxHeartbeats 4000000 in
theorem text_arr {w : World} {A : Option Addr} {bl cap : Nat} {bb : List UInt8} (hS : Sees w (.slice A bl cap) bb) (hs : bl ≤ 4000) (ss : ByteArray) {nn : Int} (hn : In64 nn) (htab : Tbp w) :
    Calls Tryd.prog 45 #[.agg #[.int .i64 7, .int .i64 nn, .string ss, .slice A bl cap]] w (Tells (91 :: (bb.flatMap hexB ++ [93])) w) := by
  have J0 := Lib.hid ((Held.nil w).alloc [.int .i64 7, .int .i64 nn, .string ss, .slice A bl cap] 43)
  have F := Lib.hid (fint_any nn hn.1 hn.2 _ (htab.below J0.out.below))
  have HX0 := fun (x : UInt8) (W : World) => hex_any x W
  unfold byte at HX0
  have HX := Lib.hid HX0
  have HS := Lib.hid hS
  obtain ⟨_, _, hv, hbc, hcm⟩ := hS.shape
  simp only [Value.slice.injEq] at hv
  obtain ⟨-, hlen, rfl⟩ := hv
  rw [← hlen] at hbc
  simp only [maxLen] at hcm
  have HL := Lib.hid hlen
  clear htab HX0 hS hlen
  obtain ⟨N, hN⟩ : ∃ N : ByteArray, (⟨(itoa nn).toArray⟩ : ByteArray) = N := ⟨_, rfl⟩
  rw [hN] at F
  clear hN
  obtain ⟨y0, y1, y2, y3, -, -⟩ := (show Held w _ ([] ++ (w.heap.size, _) :: []) from J0.out).four
  go_enter Tryd.func45, Tryd.ntmps45
  go_wp2_with fail
  refine F.out.mono ?_
  rintro e w1 ⟨rfl, hb⟩
  replace J0 := Lib.hid (J0.out.step hb)
  clear hb F y0 y1 y2 y3
  obtain ⟨y0, y1, y2, y3, -, -⟩ := (show Held w _ ([] ++ (w.heap.size, _) :: []) from J0.out).four
  go_wp2_with fail
  clear y0 y1 y2 y3
  go_loopw [6, 7] (fun s6 s7 wr => ∃ i : Nat, i ≤ bl ∧ s6 = .string ⟨(91 :: (bb.take i).flatMap hexB).toArray⟩ ∧ s7 = .int .i64 (i : Int) ∧ Hid (Held w wr [(w.heap.size, [.int .i64 7, .int .i64 nn, .string ss, .slice A bl cap])])) (fun _ s7 _ => leftN bl s7)
  case atStart => exact ⟨0, Nat.zero_le _, rfl, rfl, J0⟩
  case round =>
    clear J0
    obtain ⟨i, hi, rfl, rfl, J⟩ := hrel
    obtain ⟨y0, y1, y2, y3, -, -⟩ := (show Held w wr ([] ++ (w.heap.size, _) :: []) from J.out).four
    obtain ⟨T, hT⟩ : ∃ T : ByteArray, ⟨(91 :: (bb.take i).flatMap hexB).toArray⟩ = T := ⟨_, rfl⟩
    have hTs : T.size ≤ 16001 := by
      rw [← hT, mk_size, List.length_cons, hexs_len, List.length_take]
      omega
    by_cases hlt : i < bl
    · have q0 : (0 : Int) ≤ i := by omega
      have q1 : (i : Int) < bl := by omega
      obtain ⟨b, off, rfl, hc⟩ := sees_cell HS.out J.out.below hlt
      have EE := Lib.hid (hex_step bb i (by rw [← HL.out]; exact hlt))
      obtain ⟨x, hx⟩ : ∃ x, bb.getD i 0 = x := ⟨_, rfl⟩
      have hHs : (⟨(hexB x).toArray⟩ : ByteArray).size = 2 := rfl
      rw [hx] at EE hc
      rw [hT] at EE ⊢
      clear hT hx
      go_wp2_with fail
      refine (HX.out x _).mono ?_
      rintro e wq ⟨rfl, q, rfl⟩
      replace J := Lib.hid (J.out.step (below_draws (Below.refl _ _) q))
      go_wp2_with fail
      go_roundw
      case rel => exact ⟨i + 1, by omega, congrArg Value.string EE.out, by go_num, J⟩
      case measure =>
        unfold leftN
        simp [RowKit.intOf]
        omega
    · obtain rfl : bl = i := by omega
      have e9 : (⟨(91 :: (bb.take bl).flatMap hexB).toArray⟩ : ByteArray) ++ ⟨#[93]⟩ = ⟨(91 :: (bb.flatMap hexB ++ [93])).toArray⟩ := by
        rw [List.take_of_length_le (by rw [HL.out]; exact Nat.le_refl _), show (⟨#[93]⟩ : ByteArray) = ⟨([93] : List UInt8).toArray⟩ from rfl, app_mk]
        rfl
      rw [hT] at e9 ⊢
      have EE := Lib.hid e9
      clear hT e9
      go_wp2_with fail
      go_ret
      exact ⟨congrArg (fun s => Ending.returned (.string s)) EE.out, J.out.below⟩

set_option maxRecDepth 100000 in
set_option maxHeartbeats 4000000 in
theorem text_rest {w : World} {A : Option Addr} {bl cap : Nat} (ss : ByteArray) {kd nn : Int} (h4 : kd ≠ 4) (h7 : kd ≠ 7) (bb : List UInt8) (hn : In64 nn) (hN20 : (itoa nn).length ≤ 21) (htab : Tbp w) :
    Calls Tryd.prog 45 #[.agg #[.int .i64 kd, .int .i64 nn, .string ss, .slice A bl cap]] w (Tells (txtG ⟨kd, nn, ss, bb⟩) w) := by
  have J0 := Lib.hid ((Held.nil w).alloc [.int .i64 kd, .int .i64 nn, .string ss, .slice A bl cap] 43)
  have F := Lib.hid (fint_any nn hn.1 hn.2 _ (htab.below J0.out.below))
  clear htab
  obtain ⟨L, hL⟩ : ∃ L, itoa nn = L := ⟨_, rfl⟩
  obtain ⟨X, hX⟩ : ∃ X, txtG ⟨kd, nn, ss, bb⟩ = X := ⟨_, rfl⟩
  rw [hX]
  unfold txtG at hX
  dsimp only at hX
  rw [hL] at F hN20 hX
  have HX := Lib.hid hX
  have a1 := app_mk L [117]
  have a2 := app_mk L [102]
  have a3 := app_mk [35] L
  have a4 := app_mk [43] L
  have hs : (⟨L.toArray⟩ : ByteArray).size ≤ 21 := by rw [mk_size]; exact hN20
  obtain ⟨N, hN⟩ : ∃ N : ByteArray, (⟨L.toArray⟩ : ByteArray) = N := ⟨_, rfl⟩
  have HN := Lib.hid hN
  rw [hN] at F a1 a2 a3 a4 hs
  have HA := Lib.hid (And.intro a1 (And.intro a2 (And.intro a3 a4)))
  clear hN hL hX a1 a2 a3 a4
  obtain ⟨y0, y1, y2, y3, -, -⟩ := (show Held w _ ([] ++ (w.heap.size, _) :: []) from J0.out).four
  go_enter Tryd.func45, Tryd.ntmps45
  go_wp2_with fail
  refine F.out.mono ?_
  rintro e w1 ⟨rfl, hb⟩
  replace J0 := Lib.hid (J0.out.step hb)
  clear hb F y0 y1 y2 y3
  obtain ⟨y0, y1, y2, y3, -, -⟩ := (show Held w _ ([] ++ (w.heap.size, _) :: []) from J0.out).four
  by_cases k1 : kd = 1
  · have hx := HX.out
    rw [if_pos k1] at hx
    subst hx k1
    clear HX
    go_wp2_with fail
    go_ret
    exact ⟨congrArg (fun s => Ending.returned (.string s)) HN.out.symm, J0.out.below⟩
  have d1 : (kd == 1) = false := beq_eq_false_iff_ne.2 k1
  by_cases k2 : kd = 2
  · have hx := HX.out
    rw [if_neg k1, if_pos k2] at hx
    subst hx k2
    clear HX
    go_wp2_with fail
    go_ret
    exact ⟨congrArg (fun s => Ending.returned (.string s)) HA.out.1, J0.out.below⟩
  have d2 : (kd == 2) = false := beq_eq_false_iff_ne.2 k2
  by_cases k3 : kd = 3
  · have hx := HX.out
    rw [if_neg k1, if_neg k2, if_pos k3] at hx
    subst hx k3
    clear HX
    go_wp2_with fail
    go_ret
    exact ⟨congrArg (fun s => Ending.returned (.string s)) HA.out.2.1, J0.out.below⟩
  have d3 : (kd == 3) = false := beq_eq_false_iff_ne.2 k3
  by_cases k5 : kd = 5
  · have hx := HX.out
    rw [if_neg k1, if_neg k2, if_neg k3, if_pos k5] at hx
    subst hx k5
    clear HX
    go_wp2_with fail
    go_ret
    exact ⟨congrArg (fun s => Ending.returned (.string s)) HA.out.2.2.1, J0.out.below⟩
  have d5 : (kd == 5) = false := beq_eq_false_iff_ne.2 k5
  by_cases k6 : kd = 6
  · have hx := HX.out
    rw [if_neg k1, if_neg k2, if_neg k3, if_neg k5, if_pos k6] at hx
    subst hx k6
    clear HX
    go_wp2_with fail
    go_ret
    exact ⟨congrArg (fun s => Ending.returned (.string s)) HA.out.2.2.2, J0.out.below⟩
  have hx := HX.out
  rw [if_neg k1, if_neg k2, if_neg k3, if_neg k5, if_neg k6, if_neg h4, if_neg h7] at hx
  subst hx
  clear HX
  have d6 : (kd == 6) = false := beq_eq_false_iff_ne.2 k6
  have d4 : (kd == 4) = false := beq_eq_false_iff_ne.2 h4
  have d7 : (kd == 7) = false := beq_eq_false_iff_ne.2 h7
  clear k1 k2 k3 k5 k6 h4 h7
  go_wp2_with fail
  go_ret
  exact ⟨rfl, J0.out.below⟩

theorem itoa_len {n : Int} (h : In64 n) : (itoa n).length ≤ 21 := itoa_length_le n h.1 h.2

set_option maxRecDepth 100000 in
theorem text_any {w : World} (a : AgV) (ha : AgOk w a) (hn : In64 a.1.nn) (hs : a.1.ss.size ≤ 4000 ∧ a.1.bb.length ≤ 4000) (htab : Tbp w) :
    Calls Tryd.prog 45 #[agVal a] w (Tells (txtG a.1) w) := by
  obtain ⟨A, cap, hv, hc, hm⟩ := ha.shape
  obtain ⟨⟨kd, nn, ss, bb⟩, v⟩ := a
  dsimp only at hv hc hm hn hs ⊢
  subst hv
  by_cases h4 : kd = 4
  · subst h4
    exact text_str ss hs.1 hn htab
  · by_cases h7 : kd = 7
    · subst h7
      exact text_arr ha.1 hs.2 ss hn htab
    · exact text_rest ss h4 h7 bb hn (itoa_len hn) htab

end Go.Proofs.YtmpkjjmgfakomaaDoor
