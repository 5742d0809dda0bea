/-
  ValidSignature and Kinds of package iface.
-/
import Derived.Test.YtmpkjjmgfakomaaDoorPtb
import Derived.Test.YtmpkjjmgfakomaaDoorIfz
namespace Go.Proofs.YtmpkjjmgfakomaaDoor
open Go.RowKit

set_option maxRecDepth 100000 in
set_option maxHeartbeats 2000000 in
theorem p_valid_any {w : World} (T : Tab w) (s : ByteArray) : Calls Tryd.prog 26 #[.string s] w fun e w' => e = .returned (.bool (sigT s)) ∧ w = w' := by
  have C := fun c hc => Lib.hid (p_kind_any T c hc)
  by_cases hs : s.size ≤ 16
  · have h0 : ¬ (16 : Int) < s.size := by omega
    obtain ⟨r, hr⟩ : ∃ r, sigF s.data.toList = r := ⟨_, rfl⟩
    have HI0 : Hid (sigF (s.data.toList.drop 0) = r) := Lib.hid hr
    have e : sigT s = r := by
      unfold sigT
      rw [decide_eq_true hs, ← sigF_all, hr]
      rfl
    rw [e]
    clear e hr T
    go_enter Tryd.func26, Tryd.ntmps26
    go_wp2_with fail
    go_loopw [9] (fun s9 wr => ∃ i : Nat, i ≤ s.size ∧ s9 = .int .i64 (i : Int) ∧ Hid (sigF (s.data.toList.drop i) = r) ∧ wr = w) (fun s9 _ => leftN s.size s9)
    case atStart => exact ⟨0, Nat.zero_le _, rfl, HI0, rfl⟩
    case round =>
      obtain ⟨i, hi, rfl, HI, rfl⟩ := hrel
      by_cases hlt : i < s.size
      · have q0 : (0 : Int) ≤ i := by omega
        have q1 : (i : Int) < s.size := by omega
        have he := HI.out
        rw [drop_byte s i hlt] at he
        unfold sigF at he
        obtain ⟨x, hx⟩ : ∃ x : Nat, kindN s[i].toNat = x := ⟨_, rfl⟩
        have D := Lib.hid (by have := (C s[i].toNat (UInt8.toNat_lt _)).out; rw [hx] at this; exact this)
        rw [hx] at he
        have HX : Hid (kindN s[i].toNat = x) := Lib.hid hx
        have hx7 : x ≤ 7 := by rw [← hx]; exact kindN_le _
        clear HI HI0 C hx
        by_cases hk : x = 0
        · rw [if_pos hk] at he
          subst hk
          subst he
          go_wp2_with fail
          refine D.out.mono ?_
          rintro e w1 ⟨rfl, rfl⟩
          go_wp2_with fail
          go_ret
          exact ⟨rfl, rfl⟩
        · rw [if_neg hk] at he
          have e0 : ¬ (x : Int) = 0 := by omega
          have HI2 := Lib.hid he
          clear he
          go_wp2_with fail
          refine D.out.mono ?_
          rintro e w1 ⟨rfl, rfl⟩
          go_wp2_with fail
          go_roundw
          case rel => exact ⟨i + 1, by omega, by go_num, HI2, trivial⟩
          case measure =>
            unfold leftN
            simp [intOf]
            omega
      · obtain rfl : i = s.size := by omega
        have he := HI.out
        rw [List.drop_of_length_le (by rw [← sizeL_eq]; omega)] at he
        unfold sigF at he
        subst he
        clear HI HI0 C
        go_wp2_with fail
        go_ret
        exact ⟨rfl, rfl⟩
  · have h0 : (16 : Int) < s.size := by omega
    have e : sigT s = false := by
      unfold sigT
      rw [decide_eq_false hs]
      rfl
    rw [e]
    clear C T
    go_enter Tryd.func26, Tryd.ntmps26
    go_wp2_with fail
    go_ret
    exact ⟨rfl, rfl⟩

set_option maxRecDepth 100000 in
theorem p_kinds_bad {s : ByteArray} (h : sigT s = false) {w : World} (T : Tab w) : Calls Tryd.prog 29 #[.string s] w fun e w' => e = .returned (.slice none 0 0) ∧ w = w' := by
  have C := Lib.hid (p_valid_any T s)
  rw [h] at C
  clear h T
  go_enter Tryd.func29, Tryd.ntmps29
  go_wp2_with fail
  refine C.out.mono ?_
  rintro e w1 ⟨rfl, rfl⟩
  go_wp2_with fail
  go_ret
  exact ⟨rfl, rfl⟩

set_option maxRecDepth 100000 in
theorem make_ints (n : Nat) (hn : n ≤ 1000000) (w : World) : (Instr.makeSlice 52 (.int .i64 (n : Int)) (.int .i64 (n : Int))).run Tryd.prog w = .ok (.slice (some ⟨w.heap.size, 0, none⟩) n n) (w.alloc (.cells (madeCells #[.int .i64 0] n) 3)) := by
  obtain ⟨i, hi, hz, hsz, hby⟩ := infoI_parts i64_info
  have h := run_make (P := Tryd.prog) w 52 3 i (.int .i64 0) Tryd.underlying52 hi hz .i64 .i64 (n : Int) (n : Int) (by omega) (by omega) (by rw [hby]; omega) (by omega)
  rw [hsz] at h
  simp only [Int.toNat_natCast, Nat.mul_one] at h
  exact h
theorem made_ints (n : Nat) : (madeCells #[.int .i64 0] n).toList = ils (List.replicate n 0) := by
  apply List.ext_getElem?
  intro j
  unfold madeCells ils
  by_cases hj : j < n
  · simp [hj, Nat.mod_one]
  · simp [hj]
theorem own_full (w : World) (n : Nat) (hn : n ≤ 1000000) : OwnI (w.alloc (.cells (madeCells #[.int .i64 0] n) 3)) w.heap.size (.slice (some ⟨w.heap.size, 0, none⟩) n n) (List.replicate n 0) := by
  unfold OwnI
  rw [List.length_replicate]
  refine ⟨by simp [ils], .inr ⟨w.heap.size, n, _, rfl, Nat.le_refl _, heap_alloc_new w _, Nat.le_refl _, by simp only [maxLen]; omega, by rw [size_madeCells]; simp, ?_⟩⟩
  rw [made_ints, List.take_of_length_le (by simp [ils])]

/-- the row of which i numbers are written -/
def filI (s : ByteArray) (i : Nat) : List Nat := kdsT (s.data.toList.take i) ++ List.replicate (s.size - i) 0
theorem fil_len (s : ByteArray) {i : Nat} (hi : i ≤ s.size) : (filI s i).length = s.size := by
  unfold filI kdsT
  rw [List.length_append, List.length_map, List.length_take, List.length_replicate, ← sizeL_eq]
  omega
theorem fil_zero (s : ByteArray) : filI s 0 = List.replicate s.size 0 := rfl
theorem fil_all (s : ByteArray) : filI s s.size = kdsT s.data.toList := by
  unfold filI
  rw [Nat.sub_self, List.replicate_zero, List.append_nil, List.take_of_length_le (by rw [← sizeL_eq]; omega)]
theorem fil_set (s : ByteArray) {i : Nat} (hi : i < s.size) : (filI s i).set i (kindN s[i].toNat) = filI s (i + 1) := by
  have hl : (kdsT (s.data.toList.take i)).length = i := by
    unfold kdsT
    rw [List.length_map, List.length_take, ← sizeL_eq]
    omega
  unfold filI
  rw [kds_step s i hi, List.set_append_right _ _ (by omega), hl, Nat.sub_self, show s.size - i = (s.size - (i + 1)) + 1 by omega, List.replicate_succ, List.set_cons_zero, List.append_assoc]
  rfl
theorem ils_set (l : List Nat) (i x : Nat) : ils (l.set i x) = (ils l).set i (.int .i64 (x : Int)) := by
  unfold ils
  rw [List.map_set]

/-- the numbers i to be written next lie in the row -/
theorem OwnI.set {w : World} {base g n c : Nat} {l : List Nat} (h : w.ownsRow base 3 1 (.slice (some ⟨g, 0, none⟩) n c) n (ils l)) (i x : Nat) : (w.setCell ⟨g, i, none⟩ (.int .i64 (x : Int))).ownsRow base 3 1 (.slice (some ⟨g, 0, none⟩) n c) n (ils (l.set i x)) := by
  rw [ils_set]
  exact (h.stored i _).1

set_option maxRecDepth 100000 in
set_option maxHeartbeats 2000000 in
theorem p_kinds_any {s : ByteArray} (h : sigT s = true) {w : World} (T : Tab w) : Calls Tryd.prog 29 #[.string s] w fun e w' => ∃ v, e = .returned v ∧ OwnI w' w.heap.size v (kdsT s.data.toList) ∧ Below w.heap.size w w' := by
  have hs : s.size ≤ 16 := by
    unfold sigT at h
    simp at h
    exact h.1
  have C := Lib.hid (p_valid_any T s)
  rw [h] at C
  have K := fun (W : World) (hb : Below w.heap.size w W) c hc => Lib.hid (p_kind_any (T.below hb) c hc)
  have MK := make_ints s.size (by omega)
  have O0 := Lib.hid (show (w.alloc (.cells (madeCells #[.int .i64 0] s.size) 3)).ownsRow w.heap.size 3 1 (.slice (some ⟨w.heap.size, 0, none⟩) s.size s.size) s.size (ils (filI s 0)) from by
    have := own_full w s.size (by omega)
    unfold OwnI at this
    rw [List.length_replicate] at this
    exact this)
  have HB0 := Lib.hid ((Below.refl w.heap.size w).alloc (Nat.le_refl _) (.cells (madeCells #[.int .i64 0] s.size) 3))
  obtain ⟨g, hg⟩ : ∃ g, w.heap.size = g := ⟨_, rfl⟩
  have HG := Lib.hid hg
  rw [hg] at O0
  clear h T
  go_enter Tryd.func29, Tryd.ntmps29
  go_wp2_with fail
  refine C.out.mono ?_
  rintro e w1 ⟨rfl, rfl⟩
  clear C
  go_wp2_with fail
  go_loopw [13] (fun s13 wr => ∃ i : Nat, i ≤ s.size ∧ s13 = .int .i64 (i : Int) ∧ Hid (wr.ownsRow g 3 1 (.slice (some ⟨g, 0, none⟩) s.size s.size) s.size (ils (filI s i))) ∧ Hid (Below w.heap.size w wr)) (fun s13 _ => leftN s.size s13)
  case atStart => exact ⟨0, Nat.zero_le _, rfl, O0, HB0⟩
  case round =>
    clear O0 HB0 MK
    obtain ⟨i, hi, rfl, HO, HB⟩ := hrel
    by_cases hlt : i < s.size
    · have q0 : (0 : Int) ≤ i := by omega
      have q1 : (i : Int) < s.size := by omega
      have K1 := K _ HB.out s[i].toNat (UInt8.toNat_lt _)
      have hset := OwnI.set HO.out i (kindN s[i].toNat)
      rw [fil_set s hlt] at hset
      have HO2 := Lib.hid hset
      have hgs : w.heap.size ≤ g := by rw [hg]; exact Nat.le_refl _
      have cf := HO.out.frozenAt i
      have c0 : ∃ u, wr.cell? ⟨g, i, none⟩ = some u := by
        rw [HO.out.cellAt i (by omega)]
        exact ⟨_, List.getElem?_eq_getElem (by unfold ils; rw [List.length_map, fil_len s hi]; exact hlt)⟩
      obtain ⟨u, c0⟩ := c0
      generalize kindN s[i].toNat = x at *
      have HB2 := Lib.hid (HB.out.setCell (p := ⟨g, i, none⟩) hgs (.int .i64 (x : Int)))
      clear hset hgs K HO HB
      go_wp2_with fail
      refine K1.out.mono ?_
      rintro e w2 ⟨rfl, rfl⟩
      clear K1
      go_wp2_with fail
      go_roundw
      case rel => exact ⟨i + 1, by omega, by go_num, HO2, HB2⟩
      case measure =>
        unfold leftN
        simp [intOf]
        omega
    · obtain rfl : i = s.size := by omega
      have he : OwnI wr w.heap.size (.slice (some ⟨g, 0, none⟩) s.size s.size) (kdsT s.data.toList) := by
        have := HO.out
        have hl := fil_len s (Nat.le_refl _)
        rw [fil_all] at this hl
        unfold OwnI
        rw [hl, HG.out]
        exact this
      have HE := Lib.hid he
      clear he HO K
      go_wp2_with fail
      go_ret
      exact ⟨_, rfl, HE.out, HB.out⟩

end Go.Proofs.YtmpkjjmgfakomaaDoor
