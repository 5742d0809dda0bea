/-
  Adler-32 of the program and of the reference, and its combination.
-/
import Derived.Test.YtllmdgbokmldnaaRupd
import Derived.Test.YtllmdgbokmldnaaSum
namespace Go.Proofs.Ytllmdgbokmldnaa
open Go.RowKit Mem Adler

/-- the two parts of a checksum -/
def p1 (s : Nat) : Nat := s % 65536 % 65521
def p2 (s : Nat) : Nat := s / 65536 % 65521

theorem p1_lt (s : Nat) : p1 s < 65521 := Nat.mod_lt _ (by decide)
theorem p2_lt (s : Nat) : p2 s < 65521 := Nat.mod_lt _ (by decide)

/-- a checksum of two parts -/
def both (x y : Nat) : Nat := y * 65536 + x

theorem p1_both {x y : Nat} (hx : x < 65521) : p1 (both x y) = x := by unfold p1 both; omega
theorem p2_both {x y : Nat} (hx : x < 65521) (hy : y < 65521) : p2 (both x y) = y := by unfold p2 both; omega
theorem both_lt {x y : Nat} (hx : x < 65521) (hy : y < 65521) : both x y < 4294967296 := by unfold both; omega
theorem both_cast (x y : Nat) : (y : Int) * 65536 + (x : Int) = ((both x y : Nat) : Int) := by unfold both; omega

/-- the checksum s, updated -/
def adlu (s : Nat) (bs : List UInt8) : Nat := both (low 65521 (p1 s) bs) (high 65521 (p1 s) (p2 s) bs)

theorem parts_cast (s : Nat) : ((s : Int) % 65536 % 65521 = ((p1 s : Nat) : Int)) ∧ ((s : Int) / 65536 % 65521 = ((p2 s : Nat) : Int)) := by
  unfold p1 p2
  omega

def Pairs (w : World) (x y : Nat) (e : Ending) (w' : World) : Prop := e = .returned (.tuple #[.int .u32 (x : Int), .int .u32 (y : Int)]) ∧ w = w'

theorem parts_any (s : Nat) (hs : s < 4294967296) (w : World) : Calls Try.prog 30 #[.int .u32 (s : Int)] w (Pairs w (p1 s) (p2 s)) := by
  obtain ⟨h1, h2⟩ := parts_cast s
  generalize p1 s = x at *
  generalize p2 s = y at *
  go_enter Try.func30, Try.ntmps30
  go_wp2_with fail
  go_ret2
  exact ⟨by rw [← h1, ← h2]; rfl, rfl⟩

theorem low_step (x : Nat) (bs : List UInt8) (k : Nat) (hk : k < bs.length) : low 65521 x (bs.take (k + 1)) = (low 65521 x (bs.take k) + (bs.getD k 0).toNat) % 65521 := by
  rw [take_snoc bs k hk, low_snoc]
theorem high_step (x y : Nat) (bs : List UInt8) (k : Nat) (hk : k < bs.length) : high 65521 x y (bs.take (k + 1)) = (high 65521 x y (bs.take k) + low 65521 x (bs.take (k + 1))) % 65521 := by
  rw [take_snoc bs k hk, high_snoc]

set_option maxHeartbeats 2000000 in
theorem adu_any {w : World} {A : Option Addr} {n c : Nat} {bs : List UInt8} (s : Nat) (hs : s < 4294967296) (hsee : Sees w (.slice A n c) bs) :
    Calls Try.prog 17 #[.int .u32 (s : Int), .slice A n c] w (Only w (adlu s bs)) := by
  have HP := Lib.hid (parts_any s hs)
  have hx := p1_lt s
  have hy := p2_lt s
  unfold adlu
  generalize p1 s = x at *
  generalize p2 s = y at *
  have hnl : n = bs.length ∧ n ≤ 9223372036854775807 := by
    obtain ⟨_, _, hv, h1, h2⟩ := hsee.shape
    injection hv with _ e2 e3
    simp only [maxLen] at h2
    omega
  obtain ⟨hnl, hnm⟩ := hnl
  have HNL := Lib.hid hnl
  have HS := Lib.hid hsee
  clear hnl hsee
  go_enter Try.func17, Try.ntmps17
  go_wp2_with fail
  refine (HP.out w).mono ?_
  rintro e w1 ⟨rfl, rfl⟩
  go_wp2_with fail
  go_loop [5, 6, 16] (fun s5 s6 s16 => ∃ k u v : Nat, k ≤ n ∧ u < 65521 ∧ v < 65521 ∧ s16 = .int .i64 k ∧ s5 = .int .u32 u ∧ s6 = .int .u32 v ∧ Hid (u = low 65521 x (bs.take k) ∧ v = high 65521 x y (bs.take k))) (fun _ _ s16 => n - (intOf s16).toNat)
  case atStart => exact ⟨0, x, y, by omega, hx, hy, rfl, rfl, rfl, by rw [List.take_zero, low_nil, Nat.mod_eq_of_lt hx], by rw [List.take_zero, high_nil, Nat.mod_eq_of_lt hy]⟩
  case round =>
    obtain ⟨k, u, v, hk, hu, hv, rfl, rfl, rfl, huv⟩ := hrel
    by_cases hlt : k < n
    · obtain ⟨A', c', hvv, _, _, h3⟩ := HS.out
      injection hvv with e1 e2 e3
      subst e1 e3
      obtain ⟨b, off, rfl, hb, hcell⟩ := h3 (by omega)
      have hc := hcell k (by omega)
      unfold byte at hc
      have hxl := u8_lt (bs.getD k 0)
      have hs1 := low_step x bs k (by omega)
      have hs2 := high_step x y bs k (by omega)
      rw [← huv.out.1] at hs1
      rw [← huv.out.2] at hs2
      clear h3 hcell huv e2
      generalize (bs.getD k 0).toNat = z at *
      generalize hg1 : low 65521 x (bs.take (k + 1)) = u' at *
      generalize hg2 : high 65521 x y (bs.take (k + 1)) = v' at *
      have hu' : u' < 65521 := by omega
      have hv' : v' < 65521 := by omega
      have e1 : ((u : Int) + (z : Int)) % 65521 = (u' : Int) := by omega
      have e2 : ((v : Int) + (u' : Int)) % 65521 = (v' : Int) := by omega
      have HG : Hid (u' = low 65521 x (bs.take (k + 1)) ∧ v' = high 65521 x y (bs.take (k + 1))) := ⟨hg1.symm, hg2.symm⟩
      clear hg1 hg2 hs1 hs2
      go_wp2_with fail
      go_round
      case rel => exact ⟨k + 1, u', v', by omega, hu', hv', by go_num, by rw [← e1], by rw [← e2], HG.out⟩
      case measure => simp [intOf]; omega
    · have hkn : k = n := by omega
      have hr := both_cast u v
      have HR : Hid (both u v = both (low 65521 x bs) (high 65521 x y bs)) := by
        show both u v = both (low 65521 x bs) (high 65521 x y bs)
        rw [huv.out.1, huv.out.2, hkn, HNL.out, List.take_length]
      clear huv
      generalize both u v = r at *
      go_wp2_with fail
      go_ret
      exact ⟨by rw [← HR.out]; rfl, rfl⟩

set_option maxHeartbeats 2000000 in
theorem radu_any {w : World} {A : Option Addr} {n c : Nat} {bs : List UInt8} (s : Nat) (hs : s < 4294967296) (hsee : Sees w (.slice A n c) bs) :
    Calls Try.prog 18 #[.int .u32 (s : Int), .slice A n c] w (Only w (adlu s bs)) := by
  obtain ⟨q1, q2⟩ := parts_cast s
  have hx := p1_lt s
  have hy := p2_lt s
  unfold adlu
  generalize p1 s = x at *
  generalize p2 s = y at *
  have hnl : n = bs.length ∧ n ≤ 9223372036854775807 := by
    obtain ⟨_, _, hv, h1, h2⟩ := hsee.shape
    injection hv with _ e2 e3
    simp only [maxLen] at h2
    omega
  obtain ⟨hnl, hnm⟩ := hnl
  have HNL := Lib.hid hnl
  have HS := Lib.hid hsee
  have Q1 := Lib.hid q1
  have Q2 := Lib.hid q2
  clear hnl hsee q1 q2
  go_enter Try.func18, Try.ntmps18
  go_wp2_with fail
  rw [Q1.out, Q2.out]
  go_loop [5, 6, 7] (fun s5 s6 s7 => ∃ k u v : Nat, k ≤ n ∧ u < 65521 ∧ v < 65521 ∧ s7 = .int .i64 k ∧ s5 = .int .u32 u ∧ s6 = .int .u32 v ∧ Hid (u = low 65521 x (bs.take k) ∧ v = high 65521 x y (bs.take k))) (fun _ _ s7 => n - (intOf s7).toNat)
  case atStart => exact ⟨0, x, y, by omega, hx, hy, rfl, rfl, rfl, by rw [List.take_zero, low_nil, Nat.mod_eq_of_lt hx], by rw [List.take_zero, high_nil, Nat.mod_eq_of_lt hy]⟩
  case round =>
    obtain ⟨k, u, v, hk, hu, hv, rfl, rfl, rfl, huv⟩ := hrel
    by_cases hlt : k < n
    · obtain ⟨A', c', hvv, _, _, h3⟩ := HS.out
      injection hvv with e1 e2 e3
      subst e1 e3
      obtain ⟨b, off, rfl, hb, hcell⟩ := h3 (by omega)
      have hc := hcell k (by omega)
      unfold byte at hc
      have hxl := u8_lt (bs.getD k 0)
      have hs1 := low_step x bs k (by omega)
      have hs2 := high_step x y bs k (by omega)
      rw [← huv.out.1] at hs1
      rw [← huv.out.2] at hs2
      clear h3 hcell huv e2
      generalize (bs.getD k 0).toNat = z at *
      generalize hg1 : low 65521 x (bs.take (k + 1)) = u' at *
      generalize hg2 : high 65521 x y (bs.take (k + 1)) = v' at *
      have hu' : u' < 65521 := by omega
      have hv' : v' < 65521 := by omega
      have e1 : ((u : Int) + (z : Int)) % 65521 = (u' : Int) := by omega
      have e2 : ((v : Int) + (u' : Int)) % 65521 = (v' : Int) := by omega
      have HG : Hid (u' = low 65521 x (bs.take (k + 1)) ∧ v' = high 65521 x y (bs.take (k + 1))) := ⟨hg1.symm, hg2.symm⟩
      clear hg1 hg2 hs1 hs2
      go_wp2_with fail
      go_round
      case rel => exact ⟨k + 1, u', v', by omega, hu', hv', by go_num, by rw [← e1], by rw [← e2], HG.out⟩
      case measure => simp [intOf]; omega
    · have hkn : k = n := by omega
      have hr := both_cast u v
      have HR : Hid (both u v = both (low 65521 x bs) (high 65521 x y bs)) := by
        show both u v = both (low 65521 x bs) (high 65521 x y bs)
        rw [huv.out.1, huv.out.2, hkn, HNL.out, List.take_length]
      clear huv
      generalize both u v = r at *
      go_wp2_with fail
      go_ret
      exact ⟨by rw [← HR.out]; rfl, rfl⟩

set_option maxHeartbeats 400000 in
theorem adl_any {w : World} {A : Option Addr} {n c : Nat} {bs : List UInt8} (hsee : Sees w (.slice A n c) bs) :
    Calls Try.prog 19 #[.slice A n c] w (Only w (adlu 1 bs)) := by
  have HU := Lib.hid (adu_any 1 (by decide) hsee)
  clear hsee
  generalize adlu 1 bs = r at *
  go_enter Try.func19, Try.ntmps19
  go_wp2_with fail
  refine HU.out.mono ?_
  rintro e w1 ⟨rfl, rfl⟩
  go_wp2_with fail
  go_ret
  exact ⟨rfl, rfl⟩

set_option maxHeartbeats 400000 in
theorem radl_any {w : World} {A : Option Addr} {n c : Nat} {bs : List UInt8} (hsee : Sees w (.slice A n c) bs) :
    Calls Try.prog 20 #[.slice A n c] w (Only w (adlu 1 bs)) := by
  have HU := Lib.hid (radu_any 1 (by decide) hsee)
  clear hsee
  generalize adlu 1 bs = r at *
  go_enter Try.func20, Try.ntmps20
  go_wp2_with fail
  refine HU.out.mono ?_
  rintro e w1 ⟨rfl, rfl⟩
  go_wp2_with fail
  go_ret
  exact ⟨rfl, rfl⟩

end Go.Proofs.Ytllmdgbokmldnaa
