/-
  RegistryRemoval over the contracts of the registry's functions.
-/
import Derived.Test.YtcecicmihdcjgaaDoorRfn
namespace Go.Proofs.YtcecicmihdcjgaaDoor
open Go.RowKit

theorem rem_at {i : Nat} (hi : i < 41) : bindF (remL i) 1 s_display 1 = (if i < 16 then 0 else 8) ∧ addF (remL i) s_display 1 = (remL i ++ [⟨i + 2, s_display, 1⟩], i + 2, 0) ∧
    bindF (remL i ++ [⟨i + 2, s_display, 1⟩]) (i + 2) s_display 1 = 0 ∧ remF (remL i ++ [⟨i + 2, s_display, 1⟩]) (i + 2) = (remL (i + 1), 0) ∧ knownF (remL i) 1 = (if i < 16 then (⟨1, s_display, 1⟩, true) else (zeroG, false)) := by
  have h := rem_all i hi
  simp only [remOk, Bool.and_eq_true, decide_eq_true_eq] at h
  exact ⟨h.1.1.1.1, h.1.1.1.2, h.1.1.2, h.1.2, h.2⟩
section
variable {T : World → Prop} {R : World → World → Value → List Gl → (Nat → Prop) → Prop}
set_option maxRecDepth 100000 in
set_option maxHeartbeats 16000000 in
theorem removal_walk (K : PR T R) {w : World} (hT : T w) {fu : Nat} (hf : fu < 256) (v : Int) : Calls Tryd.prog 5 #[.int .u8 (fu : Int), .int .i64 v] w (SaysB true w) := by
  have HT := Lib.hid hT
  have EX := fun (W : World) (hb : Below w.heap.size w W) => Lib.hid (ex_any K (K.below HT.out hb))
  have NW := fun (W : World) (hb : Below w.heap.size w W) => Lib.hid (K.new (w0 := w) (K.below HT.out hb) hb)
  have F := fun W => Lib.hid (first_any W)
  have A1 := fun (W : World) (hb : Below w.heap.size w W) rv S (hr : R w W rv [] S) => Lib.hid (K.add (K.below HT.out hb) hr (by simp) s_display 1)
  have M1 := fun (W : World) (hb : Below w.heap.size w W) rv S (hr : R w W rv e_l1 S) => Lib.hid (K.rem (K.below HT.out hb) hr (by simp [e_l1]) 1 (by omega))
  rw [ex_add1] at A1
  rw [ex_rem1] at M1
  simp only [Int.natCast_one] at A1 M1
  obtain ⟨n, hn⟩ : ∃ n, fu % 41 = n := ⟨_, rfl⟩
  have hn1 : n < 41 := by omega
  have qn : (fu : Int) % 41 = n := by omega
  have qw : (n : Int) % 256 = n := by omega
  clear hn hT
  go_enter Tryd.func5, Tryd.ntmps5
  go_wp2_with fail
  refine (NW _ (Below.refl _ _)).out.mono ?_
  rintro e w1 ⟨rv, S, rfl, hr, -, hb⟩
  have H := Lib.hid (⟨(Held.nil w).step hb, hr, by simp⟩ : HR R w w1 [] rv [] S)
  clear hb hr NW
  go_wp2_with fail
  refine (F _).out.mono ?_
  rintro e wq ⟨rfl, hb⟩
  replace H := Lib.hid (H.out.step K hb)
  clear hb
  go_wp2_with fail
  refine (A1 _ H.out.held.below _ _ H.out.reg).out.mono ?_
  rintro e wq ⟨S1, rfl, hr, hs, ht⟩
  replace H := Lib.hid (H.out.turn K hr hs ht)
  clear hr hs ht
  go_wp2_with fail
  refine (M1 _ H.out.held.below _ _ H.out.reg).out.mono ?_
  rintro e wq ⟨S1, rfl, hr, hs, ht⟩
  replace H := Lib.hid (H.out.turn K hr hs ht)
  clear hr hs ht
  go_wp2_with fail
  replace H := Lib.hid (show HR R w _ [] rv (remL 0) _ from H.out)
  clear A1 M1
  go_loopw [32] (fun s32 wr => ∃ (i : Nat) (S' : Nat → Prop), i ≤ n ∧ s32 = .int .i64 (i : Int) ∧ Hid (HR R w wr [] rv (remL i) S')) (fun s32 _ => leftN n s32)
  case atStart => exact ⟨0, _, Nat.zero_le _, rfl, H⟩
  case round =>
    clear H
    obtain ⟨i, S', hi, rfl, H⟩ := hrel
    obtain ⟨f1, f2, f3, f4, f5⟩ := rem_at (show i < 41 by omega)
    by_cases hlt : i < n
    · have q0 : (0 : Int) ≤ i := by omega
      have q2 : (i : Int) < n := by omega
      have hl := remL_len i
      have B1 := fun (W : World) (hb : Below w.heap.size w W) rv S (hr : R w W rv (remL i) S) => Lib.hid (K.bind (K.below HT.out hb) hr (by omega) 1 (by omega) s_display 1)
      have A2 := fun (W : World) (hb : Below w.heap.size w W) rv S (hr : R w W rv (remL i) S) => Lib.hid (K.add (K.below HT.out hb) hr (by omega) s_display 1)
      have B2 := fun (W : World) (hb : Below w.heap.size w W) rv S (hr : R w W rv (remL i ++ [⟨i + 2, s_display, 1⟩]) S) => Lib.hid (K.bind (K.below HT.out hb) hr (by simp; omega) (i + 2) (by omega) s_display 1)
      have M2 := fun (W : World) (hb : Below w.heap.size w W) rv S (hr : R w W rv (remL i ++ [⟨i + 2, s_display, 1⟩]) S) => Lib.hid (K.rem (K.below HT.out hb) hr (by simp; omega) (i + 2) (by omega))
      rw [f1] at B1
      rw [f2] at A2
      rw [f3] at B2
      rw [f4] at M2
      simp only [Int.natCast_one] at B1
      obtain ⟨q, hq⟩ : ∃ q : Nat, i + 2 = q := ⟨_, rfl⟩
      simp only [hq] at A2 B2 M2
      clear f1 f2 f3 f4 f5 hl hq
      by_cases h16 : i < 16
      · have e1 : decide ((i : Int) < 16) = true := decide_eq_true (by omega)
        simp only [if_pos h16] at B1
        go_wp2_with fail
        refine (F _).out.mono ?_
        rintro e wq ⟨rfl, hb⟩
        replace H := Lib.hid (H.out.step K hb)
        clear hb
        go_wp2_with fail
        refine (B1 _ H.out.held.below _ _ H.out.reg).out.mono ?_
        rintro e wq ⟨rfl, hb⟩
        replace H := Lib.hid (H.out.step K hb)
        clear hb
        go_wp2_with fail
        refine (F _).out.mono ?_
        rintro e wq ⟨rfl, hb⟩
        replace H := Lib.hid (H.out.step K hb)
        clear hb
        go_wp2_with fail
        refine (A2 _ H.out.held.below _ _ H.out.reg).out.mono ?_
        rintro e wq ⟨S1, rfl, hr, hs, ht⟩
        replace H := Lib.hid (H.out.turn K hr hs ht)
        clear hr hs ht
        go_wp2_with fail
        refine (F _).out.mono ?_
        rintro e wq ⟨rfl, hb⟩
        replace H := Lib.hid (H.out.step K hb)
        clear hb
        go_wp2_with fail
        refine (B2 _ H.out.held.below _ _ H.out.reg).out.mono ?_
        rintro e wq ⟨rfl, hb⟩
        replace H := Lib.hid (H.out.step K hb)
        clear hb
        go_wp2_with fail
        refine (M2 _ H.out.held.below _ _ H.out.reg).out.mono ?_
        rintro e wq ⟨S1, rfl, hr, hs, ht⟩
        replace H := Lib.hid (H.out.turn K hr hs ht)
        clear hr hs ht
        go_wp2_with fail
        go_roundw
        case rel => exact ⟨i + 1, _, by omega, by go_num, H⟩
        case measure =>
          unfold leftN
          simp [intOf]
          omega
      · have e1 : decide ((i : Int) < 16) = false := decide_eq_false (by omega)
        simp only [if_neg h16] at B1
        go_wp2_with fail
        refine (F _).out.mono ?_
        rintro e wq ⟨rfl, hb⟩
        replace H := Lib.hid (H.out.step K hb)
        clear hb
        go_wp2_with fail
        refine (B1 _ H.out.held.below _ _ H.out.reg).out.mono ?_
        rintro e wq ⟨rfl, hb⟩
        replace H := Lib.hid (H.out.step K hb)
        clear hb
        go_wp2_with fail
        refine (F _).out.mono ?_
        rintro e wq ⟨rfl, hb⟩
        replace H := Lib.hid (H.out.step K hb)
        clear hb
        go_wp2_with fail
        refine (A2 _ H.out.held.below _ _ H.out.reg).out.mono ?_
        rintro e wq ⟨S1, rfl, hr, hs, ht⟩
        replace H := Lib.hid (H.out.turn K hr hs ht)
        clear hr hs ht
        go_wp2_with fail
        refine (F _).out.mono ?_
        rintro e wq ⟨rfl, hb⟩
        replace H := Lib.hid (H.out.step K hb)
        clear hb
        go_wp2_with fail
        refine (B2 _ H.out.held.below _ _ H.out.reg).out.mono ?_
        rintro e wq ⟨rfl, hb⟩
        replace H := Lib.hid (H.out.step K hb)
        clear hb
        go_wp2_with fail
        refine (M2 _ H.out.held.below _ _ H.out.reg).out.mono ?_
        rintro e wq ⟨S1, rfl, hr, hs, ht⟩
        replace H := Lib.hid (H.out.turn K hr hs ht)
        clear hr hs ht
        go_wp2_with fail
        go_roundw
        case rel => exact ⟨i + 1, _, by omega, by go_num, H⟩
        case measure =>
          unfold leftN
          simp [intOf]
          omega
    · obtain rfl : n = i := by omega
      have hl := remL_len n
      have B1 := fun (W : World) (hb : Below w.heap.size w W) rv S (hr : R w W rv (remL n) S) => Lib.hid (K.bind (K.below HT.out hb) hr (by omega) 1 (by omega) s_display v)
      simp only [Int.natCast_one, bindF, f5] at B1
      clear f1 f2 f3 f4 f5 hl
      by_cases h16 : n < 16
      · have e1 : decide ((n : Int) < 16) = true := decide_eq_true (by omega)
        simp only [if_pos h16] at B1
        by_cases hv : v = 1
        · subst hv
          simp at B1
          go_wp2_with fail
          refine (F _).out.mono ?_
          rintro e wq ⟨rfl, hb⟩
          replace H := Lib.hid (H.out.step K hb)
          clear hb
          go_wp2_with fail
          refine (B1 _ H.out.held.below _ _ H.out.reg).out.mono ?_
          rintro e wq ⟨rfl, hb⟩
          replace H := Lib.hid (H.out.step K hb)
          clear hb
          go_wp2_with fail
          refine (EX _ H.out.held.below).out.mono ?_
          rintro e wq ⟨rfl, hb⟩
          replace H := Lib.hid (H.out.step K hb)
          clear hb
          go_wp2_with fail
          go_ret
          exact ⟨rfl, H.out.held.below⟩
        · have e2 : (v != 1) = true := bne_iff_ne.2 hv
          have e3 : v < 1 ∨ 1 < v := by omega
          simp [e3] at B1
          clear e3
          go_wp2_with fail
          refine (F _).out.mono ?_
          rintro e wq ⟨rfl, hb⟩
          replace H := Lib.hid (H.out.step K hb)
          clear hb
          go_wp2_with fail
          refine (B1 _ H.out.held.below _ _ H.out.reg).out.mono ?_
          rintro e wq ⟨rfl, hb⟩
          replace H := Lib.hid (H.out.step K hb)
          clear hb
          go_wp2_with fail
          refine (EX _ H.out.held.below).out.mono ?_
          rintro e wq ⟨rfl, hb⟩
          replace H := Lib.hid (H.out.step K hb)
          clear hb
          go_wp2_with fail
          go_ret
          exact ⟨rfl, H.out.held.below⟩
      · have e1 : decide ((n : Int) < 16) = false := decide_eq_false (by omega)
        simp only [if_neg h16] at B1
        simp at B1
        go_wp2_with fail
        refine (F _).out.mono ?_
        rintro e wq ⟨rfl, hb⟩
        replace H := Lib.hid (H.out.step K hb)
        clear hb
        go_wp2_with fail
        refine (B1 _ H.out.held.below _ _ H.out.reg).out.mono ?_
        rintro e wq ⟨rfl, hb⟩
        replace H := Lib.hid (H.out.step K hb)
        clear hb
        go_wp2_with fail
        refine (EX _ H.out.held.below).out.mono ?_
        rintro e wq ⟨rfl, hb⟩
        replace H := Lib.hid (H.out.step K hb)
        clear hb
        go_wp2_with fail
        go_ret
        exact ⟨rfl, H.out.held.below⟩
end
end Go.Proofs.YtcecicmihdcjgaaDoor
