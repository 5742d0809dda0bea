/-
  RegistryLimit over the contracts of the registry's functions.
-/
import Derived.Test.YtcecicmihdcjgaaDoorRfn
namespace Go.Proofs.YtcecicmihdcjgaaDoor
open Go.RowKit

theorem lim_at {x : Nat} (hx : x < 64) : remF (addL 64) (x + 1) = (limL x, 0) ∧ remF (limL x) (x + 1) = (limL x, 8) ∧ addF (limL x) s_display 1 = (limL x ++ [⟨65, s_display, 1⟩], 65, 0) ∧ (listF (limL x ++ [⟨65, s_display, 1⟩])).length = 64 := by
  have h := lim_all x hx
  simp only [limOk, Bool.and_eq_true, decide_eq_true_eq] at h
  exact ⟨h.1.1.1, h.1.1.2, h.1.2, h.2⟩
theorem add_at {i : Nat} (hi : i < 64) : addF (addL i) s_display 1 = (addL (i + 1), i + 1, 0) := by
  have h := add_all i hi
  simpa only [addOk, decide_eq_true_eq] using h
section
variable {T : World → Prop} {R : World → World → Value → List Gl → (Nat → Prop) → Prop}
set_option maxRecDepth 100000 in
set_option maxHeartbeats 16000000 in
theorem limit_walk (K : PR T R) {w : World} (hT : T w) {go : Nat} (hf : go < 256) : Calls Tryd.prog 7 #[.int .u8 (go : Int)] w (SaysB true w) := by
  have HT := Lib.hid hT
  have EX := fun (W : World) (hb : Below w.heap.size w W) => Lib.hid (ex_any K (K.below HT.out hb))
  have NW := fun (W : World) (hb : Below w.heap.size w W) => Lib.hid (K.new (w0 := w) (K.below HT.out hb) hb)
  have F := fun W => Lib.hid (first_any W)
  obtain ⟨n, hn⟩ : ∃ n, go % 64 = n := ⟨_, rfl⟩
  have hn1 : n < 64 := by omega
  have qn : (go : Int) % 64 = n := by omega
  have qw : (n : Int) % 4294967296 = n := by omega
  have qv : ((n : Int) + 1) % 4294967296 = n + 1 := by omega
  clear hn hT
  go_enter Tryd.func7, Tryd.ntmps7
  go_wp2_with fail
  refine (NW _ (Below.refl _ _)).out.mono ?_
  rintro e w1 ⟨rv, S, rfl, hr, -, hb⟩
  have H := Lib.hid (⟨(Held.nil w).step hb, hr, by simp⟩ : HR R w w1 [] rv [] S)
  clear hb hr NW
  go_wp2_with fail
  replace H := Lib.hid (show HR R w _ [] rv (addL 0) _ from H.out)
  go_loopw [11] (fun s11 wr => ∃ (i : Nat) (S' : Nat → Prop), i ≤ 64 ∧ s11 = .int .i64 (i : Int) ∧ Hid (HR R w wr [] rv (addL i) S')) (fun s11 _ => leftN 64 s11)
  case atStart => exact ⟨0, _, Nat.zero_le _, rfl, H⟩
  case round =>
    clear H
    obtain ⟨i, S', hi, rfl, H⟩ := hrel
    by_cases hlt : i < 64
    · have q0 : (0 : Int) ≤ i := by omega
      have q2 : (i : Int) < 64 := by omega
      have qi : ((i : Int) + 1) % 4294967296 = i + 1 := by omega
      have hl := addL_len i
      have A2 := fun (W : World) (hb : Below w.heap.size w W) rv S (hr : R w W rv (addL i) S) => Lib.hid (K.add (K.below HT.out hb) hr (by omega) s_display 1)
      rw [add_at hlt] at A2
      simp only [Int.natCast_add, Int.natCast_one] at A2
      clear hl qn qw qv
      go_wp2_with fail
      refine (F _).out.mono ?_
      rintro e wq ⟨rfl, hb⟩
      replace H := Lib.hid (H.out.step K hb)
      clear hb
      go_wp2_with fail
      refine (A2 _ H.out.held.below _ _ H.out.reg).out.mono ?_
      rintro e wq ⟨S1, rfl, hr, hs, ht⟩
      replace H := Lib.hid (H.out.turn K hr hs ht)
      clear hr hs ht
      go_wp2_with fail
      go_roundw
      case rel => exact ⟨i + 1, _, by omega, by go_num, H⟩
      case measure =>
        unfold leftN
        simp [intOf]
        omega
    · obtain rfl : i = 64 := by omega
      obtain ⟨f1, f2, f3, f4⟩ := lim_at hn1
      have hl := addL_len 64
      have hl2 : (limL n).length = 65 := by simp [limL, hl]
      have hl3 : (limL n ++ ([⟨65, s_display, 1⟩] : List Gl)).length = 66 := by simp [hl2]
      have A1 := fun (W : World) (hb : Below w.heap.size w W) rv S (hr : R w W rv (addL 64) S) => Lib.hid (K.add (K.below HT.out hb) hr (by omega) s_display 1)
      have A2 := fun (W : World) (hb : Below w.heap.size w W) rv S (hr : R w W rv (addL 64) S) => Lib.hid (K.add (K.below HT.out hb) hr (by omega) s_display 0)
      have M1 := fun (W : World) (hb : Below w.heap.size w W) rv S (hr : R w W rv (addL 64) S) => Lib.hid (K.rem (K.below HT.out hb) hr (by omega) (n + 1) (by omega))
      have M2 := fun (W : World) (hb : Below w.heap.size w W) rv S (hr : R w W rv (limL n) S) => Lib.hid (K.rem (K.below HT.out hb) hr (by omega) (n + 1) (by omega))
      have A3 := fun (W : World) (hb : Below w.heap.size w W) rv S (hr : R w W rv (limL n) S) => Lib.hid (K.add (K.below HT.out hb) hr (by omega) s_display 1)
      have LS := fun (W : World) (hb : Below w.heap.size w W) rv S (hr : R w W rv (limL n ++ ([⟨65, s_display, 1⟩] : List Gl)) S) => Lib.hid (K.list (K.below HT.out hb) hr (by omega))
      have LG := fun (W : World) (hb : Below w.heap.size w W) rv S (hr : R w W rv (limL n ++ ([⟨65, s_display, 1⟩] : List Gl)) S) => Lib.hid (K.log (K.below HT.out hb) hr (by omega))
      rw [lim_full.1] at A1
      rw [lim_full.2] at A2
      rw [f1] at M1
      rw [f2] at M2
      rw [f3] at A3
      simp only [Int.natCast_zero, Int.natCast_add, Int.natCast_one, show ((65 : Nat) : Int) = 65 from rfl] at A1 A2 A3 M1 M2
      clear f1 f2 f3 hl hl2
      go_wp2_with fail
      refine (F _).out.mono ?_
      rintro e wq ⟨rfl, hb⟩
      replace H := Lib.hid (H.out.step K hb)
      clear hb
      go_wp2_with fail
      refine (A1 _ H.out.held.below _ _ H.out.reg).out.mono ?_
      rintro e wq ⟨S1, rfl, hr, hs, ht⟩
      replace H := Lib.hid (H.out.turn K hr hs ht)
      clear hr hs ht
      go_wp2_with fail
      refine (F _).out.mono ?_
      rintro e wq ⟨rfl, hb⟩
      replace H := Lib.hid (H.out.step K hb)
      clear hb
      go_wp2_with fail
      refine (A2 _ H.out.held.below _ _ H.out.reg).out.mono ?_
      rintro e wq ⟨S1, rfl, hr, hs, ht⟩
      replace H := Lib.hid (H.out.turn K hr hs ht)
      clear hr hs ht
      go_wp2_with fail
      refine (M1 _ H.out.held.below _ _ H.out.reg).out.mono ?_
      rintro e wq ⟨S1, rfl, hr, hs, ht⟩
      replace H := Lib.hid (H.out.turn K hr hs ht)
      clear hr hs ht
      go_wp2_with fail
      refine (M2 _ H.out.held.below _ _ H.out.reg).out.mono ?_
      rintro e wq ⟨S1, rfl, hr, hs, ht⟩
      replace H := Lib.hid (H.out.turn K hr hs ht)
      clear hr hs ht
      go_wp2_with fail
      refine (F _).out.mono ?_
      rintro e wq ⟨rfl, hb⟩
      replace H := Lib.hid (H.out.step K hb)
      clear hb
      go_wp2_with fail
      refine (A3 _ H.out.held.below _ _ H.out.reg).out.mono ?_
      rintro e wq ⟨S1, rfl, hr, hs, ht⟩
      replace H := Lib.hid (H.out.turn K hr hs ht)
      clear hr hs ht
      go_wp2_with fail
      refine (LS _ H.out.held.below _ _ H.out.reg).out.mono ?_
      rintro e wq ⟨u, rfl, hg, hb⟩
      replace H := Lib.hid (H.out.step K hb)
      obtain ⟨A, c, rfl, -, -⟩ := hg.shape
      rw [f4]
      clear hg hb
      go_wp2_with fail
      refine (LG _ H.out.held.below _ _ H.out.reg).out.mono ?_
      rintro e wq ⟨u, rfl, hg, hb⟩
      replace H := Lib.hid (H.out.step K hb)
      obtain ⟨A, c, rfl, -, -⟩ := hg.shape
      rw [hl3]
      clear hg hb
      go_wp2_with fail
      refine (EX _ H.out.held.below).out.mono ?_
      rintro e wq ⟨rfl, hb⟩
      replace H := Lib.hid (H.out.step K hb)
      clear hb
      go_wp2_with fail
      go_ret
      exact ⟨rfl, H.out.held.below⟩
end
end Go.Proofs.YtcecicmihdcjgaaDoor
