/-
  UpdateCRC32 and CRC32 of the reference: they only read.
-/
import Derived.Test.YtllmdgbokmldnaaUpd
namespace Go.Proofs.Ytllmdgbokmldnaa
open Go.RowKit Mem Crc

/-- what a call that only computes the number v leaves -/
def Only (w : World) (v : Nat) (e : Ending) (w' : World) : Prop := e = .returned (.int .u32 (v : Int)) ∧ w = w'

theorem step_odd {p : Nat} (hp : Poly p) (c : Nat) (hc : c < 4294967296) (ho : c % 2 = 1) : ∃ d, d < 4294967296 ∧ d = stp p c ∧ bits .xor .u32 ((c : Int) / 2) 3988292384 = ((d : Nat) : Int) := by
  have hlt := hp.hi
  rw [u32_pow] at hlt
  refine ⟨stp p c, stp1_lt hp c hc, rfl, ?_⟩
  unfold stp
  rw [if_pos ho]
  have h := u32_xor_nat (c / 2) p (by omega) hlt
  rw [hp.eq] at h ⊢
  exact h

theorem step_even {p : Nat} (hp : Poly p) (c : Nat) (hc : c < 4294967296) (ho : c % 2 = 0) : ∃ d, d < 4294967296 ∧ d = stp p c ∧ (c : Int) / 2 = ((d : Nat) : Int) := by
  refine ⟨stp p c, stp1_lt hp c hc, rfl, ?_⟩
  unfold stp
  rw [if_neg (by omega)]
  rfl

theorem xor_lt32 (c x : Nat) (hc : c < 4294967296) (hx : x < 4294967296) : c ^^^ x < 4294967296 := by
  have h := Nat.xor_lt_two_pow (x := c) (y := x) (n := 32) (by rw [u32_pow]; exact hc) (by rw [u32_pow]; exact hx)
  rwa [u32_pow] at h

set_option maxHeartbeats 2000000 in
theorem rupd_any {p : Nat} (hp : Poly p) {w : World} {A : Option Addr} {n c : Nat} {bs : List UInt8} (s : Nat) (hs : s < 4294967296) (hsee : Sees w (.slice A n c) bs) :
    Calls Try.prog 14 #[.int .u32 (s : Int), .slice A n c] w (Only w (crcu p s bs)) := by
  have hn0 := not_lt32 s hs
  have hb0 := not_bits s hs
  have HV : Hid (∀ d, d = updr p (4294967295 ^^^ s) bs → bits .xor .u32 IntKind.u32.max (d : Int) = ((crcu p s bs : Nat) : Int)) := fun d hd => by
    subst hd
    exact not_bits _ (updr_lt32 hp _ _ hn0)
  generalize 4294967295 ^^^ s = r0 at *
  generalize crcu p s bs = res at *
  have hnl : n = bs.length ∧ n ≤ 9223372036854775807 := by
    obtain ⟨_, _, hv, h1, h2⟩ := hsee.shape
    injection hv with _ e2 e3
    simp only [maxLen] at h2
    omega
  obtain ⟨hnl, hnm⟩ := hnl
  have HNL := Lib.hid hnl
  have HS := Lib.hid hsee
  clear hnl hsee
  go_enter Try.func14, Try.ntmps14
  go_wp2_with fail
  go_loop [5, 6] (fun s5 s6 => ∃ k d : Nat, k ≤ n ∧ d < 4294967296 ∧ s6 = .int .i64 k ∧ s5 = .int .u32 d ∧ Hid (d = updr p r0 (bs.take k))) (fun _ s6 => n - (intOf s6).toNat)
  case atStart => exact ⟨0, r0, by omega, hn0, rfl, rfl, rfl⟩
  case round =>
    obtain ⟨k, d, hk, hd, rfl, rfl, hu⟩ := hrel
    by_cases hlt : k < n
    · obtain ⟨A', c', hv, _, _, h3⟩ := HS.out
      injection hv with e1 e2 e3
      subst e1 e3
      obtain ⟨b, off, rfl, hb, hcell⟩ := h3 (by omega)
      have hc := hcell k (by omega)
      unfold byte at hc
      have hxl := u8_lt (bs.getD k 0)
      have HN : Hid (∀ e, e = stps p 8 (d ^^^ (bs.getD k 0).toNat) → e = updr p r0 (bs.take (k + 1))) := fun e he => by rw [take_snoc bs k (by omega), updr_snoc, ← hu.out]; exact he
      have hxx := u32_xor_nat d (bs.getD k 0).toNat hd (by omega)
      have hxd := xor_lt32 d (bs.getD k 0).toNat hd (by omega)
      clear h3 hcell hu e2
      generalize (bs.getD k 0).toNat = x at *
      generalize d ^^^ x = d0 at *
      go_wp2_with fail
      go_loop [5, 7] (fun s5 s7 => ∃ i e : Nat, i ≤ 8 ∧ e < 4294967296 ∧ s7 = .int .i64 i ∧ s5 = .int .u32 e ∧ Hid (e = stps p i d0)) (fun _ s7 => 8 - (intOf s7).toNat)
      case atStart => exact ⟨0, d0, by omega, hxd, rfl, rfl, rfl⟩
      case round =>
        obtain ⟨i, e, hi, he, rfl, rfl, hee⟩ := hrel
        by_cases hi8 : i < 8
        · rcases (by omega : e % 2 = 1 ∨ e % 2 = 0) with ho | ho
          · have hb : ((e : Int) % 2 == 1) = true := by rw [beq_iff_eq]; omega
            obtain ⟨f, hf, hfs, hfb⟩ := step_odd hp e he ho
            have HF : Hid (f = stps p (i + 1) d0) := by rw [stps_last, ← hee.out]; exact hfs
            clear hfs ho hee
            go_wp2_with fail
            go_round
            case rel => exact ⟨i + 1, f, by omega, hf, by go_num, rfl, HF.out⟩
            case measure => simp [intOf]; omega
          · have hb : ((e : Int) % 2 == 1) = false := by rw [beq_eq_false_iff_ne]; omega
            obtain ⟨f, hf, hfs, hfb⟩ := step_even hp e he ho
            have HF : Hid (f = stps p (i + 1) d0) := by rw [stps_last, ← hee.out]; exact hfs
            clear hfs ho hee
            go_wp2_with fail
            go_round
            case rel => exact ⟨i + 1, f, by omega, hf, by go_num, rfl, HF.out⟩
            case measure => simp [intOf]; omega
        · obtain rfl : i = 8 := by omega
          have HE := Lib.hid (HN.out e hee.out)
          clear hee HN
          go_wp2_with fail
          go_round
          case rel => exact ⟨k + 1, e, by omega, he, by go_num, rfl, HE.out⟩
          case measure => simp [intOf]; omega
    · have hkn : k = n := by omega
      have hr := HV.out d (by rw [hu.out, hkn, HNL.out, List.take_length])
      clear hu
      go_wp2_with fail
      go_ret
      exact ⟨rfl, rfl⟩

set_option maxHeartbeats 400000 in
theorem rcrc_any {p : Nat} (hp : Poly p) {w : World} {A : Option Addr} {n c : Nat} {bs : List UInt8} (hsee : Sees w (.slice A n c) bs) :
    Calls Try.prog 16 #[.slice A n c] w (Only w (crcu p 0 bs)) := by
  have HU := Lib.hid (rupd_any hp 0 (by decide) hsee)
  clear hsee
  generalize crcu p 0 bs = r at *
  go_enter Try.func16, Try.ntmps16
  go_wp2_with fail
  refine HU.out.mono ?_
  rintro e w1 ⟨rfl, rfl⟩
  go_wp2_with fail
  go_ret
  exact ⟨rfl, rfl⟩

end Go.Proofs.Ytllmdgbokmldnaa
