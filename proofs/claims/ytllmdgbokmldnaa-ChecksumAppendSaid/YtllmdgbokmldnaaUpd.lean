/-
  UpdateCRC32 and CRC32 of the program.
-/
import Derived.Test.YtllmdgbokmldnaaRem
namespace Go.Proofs.Ytllmdgbokmldnaa
open Go.RowKit Mem Crc

/-- the checksum s, updated -/
def crcu (p s : Nat) (bs : List UInt8) : Nat := 4294967295 ^^^ updr p (4294967295 ^^^ s) bs

/-- what a call that hands the number v back leaves -/
def Gives (w : World) (v : Nat) (e : Ending) (w' : World) : Prop := e = .returned (.int .u32 (v : Int)) ∧ Below w.heap.size w w'

theorem not_lt32 (c : Nat) (hc : c < 4294967296) : 4294967295 ^^^ c < 4294967296 := by
  have h := Nat.xor_lt_two_pow (x := 4294967295) (y := c) (n := 32) (by decide) (by rw [u32_pow]; exact hc)
  rwa [u32_pow] at h

theorem not_bits (c : Nat) (hc : c < 4294967296) : bits .xor .u32 IntKind.u32.max (c : Int) = ((4294967295 ^^^ c : Nat) : Int) := u32_xor_nat 4294967295 c (by decide) hc

theorem updr_lt32 {p : Nat} (hp : Poly p) (bs : List UInt8) (c : Nat) (hc : c < 4294967296) : updr p c bs < 4294967296 := by
  have h := updr_lt p 32 hp.hi (by decide) bs c (by rw [u32_pow]; exact hc)
  rwa [u32_pow] at h

theorem crcu_lt {p : Nat} (hp : Poly p) (s : Nat) (bs : List UInt8) (hs : s < 4294967296) : crcu p s bs < 4294967296 := not_lt32 _ (updr_lt32 hp _ _ (not_lt32 s hs))

/-- the table's cells -/
def Cells (W : World) (g p : Nat) : Prop := ∀ j, j < 256 → W.cell? ⟨g, j, none⟩ = some (.int .u32 ((stps p 8 j : Nat) : Int))

theorem take_snoc (bs : List UInt8) (k : Nat) (h : k < bs.length) : bs.take (k + 1) = bs.take k ++ [bs.getD k 0] := by
  rw [List.take_succ_eq_append_getElem h, List.getD, List.getElem?_eq_getElem h]
  rfl

theorem u8_lt (x : UInt8) : x.toNat < 256 := UInt8.toNat_lt x

/-- one byte by the table -/
theorem byte_step {p : Nat} (hp : Poly p) (c x : Nat) (hc : c < 4294967296) (hx : x < 256) :
    ∃ j d, j < 256 ∧ d < 4294967296 ∧ stps p 8 j < 4294967296 ∧ d = stps p 8 (c ^^^ x) ∧ bits .xor .u8 ((c : Int) % 256) (x : Int) = ((j : Nat) : Int) ∧ bits .xor .u32 ((c : Int) / 256) ((stps p 8 j : Nat) : Int) = ((d : Nat) : Int) := by
  have hm : c % 256 < 256 := Nat.mod_lt _ (by decide)
  have e8 : (2 : Nat) ^ 8 = 256 := by decide
  have hj : c % 256 ^^^ x < 256 := by
    have h := Nat.xor_lt_two_pow (x := c % 256) (y := x) (n := 8) (by rw [e8]; exact hm) (by rw [e8]; exact hx)
    rwa [e8] at h
  have hcx : c ^^^ x < 4294967296 := by
    have h := Nat.xor_lt_two_pow (x := c) (y := x) (n := 32) (by rw [u32_pow]; exact hc) (by rw [u32_pow]; omega)
    rwa [u32_pow] at h
  have ht := table_step p c x
  have hl1 := stps8_lt hp 8 _ hcx
  have hl2 := stps8_lt hp 8 (c % 256 ^^^ x) (by omega)
  refine ⟨c % 256 ^^^ x, stps p 8 (c ^^^ x), hj, hl1, hl2, rfl, u8_xor_nat (c % 256) x hm hx, ?_⟩
  rw [← ht]
  exact u32_xor_nat (c / 256) _ (by omega) hl2

set_option maxHeartbeats 2000000 in
theorem upd_any {p : Nat} (hp : Poly p) {w : World} {A : Option Addr} {n c : Nat} {bs : List UInt8} (s : Nat) (hs : s < 4294967296) (hsee : Sees w (.slice A n c) bs) :
    Calls Try.prog 13 #[.int .u32 (s : Int), .slice A n c] w (Gives w (crcu p s bs)) := by
  obtain ⟨z43, i43⟩ := zero_of_info info43
  have HSZ := Lib.hid (show (Array.replicate 256 (Value.int IntKind.u32 0)).size = 256 from Array.size_replicate)
  generalize hZ : Array.replicate 256 (Value.int IntKind.u32 0) = Z at *
  have HI43 := Lib.hid i43
  clear hZ i43
  have hn0 := not_lt32 s hs
  have hb0 := not_bits s hs
  have HV : Hid (∀ d, d = updr p (4294967295 ^^^ s) bs → bits .xor .u32 IntKind.u32.max (d : Int) = ((crcu p s bs : Nat) : Int)) := fun d hd => by
    subst hd
    exact not_bits _ (updr_lt32 hp _ _ hn0)
  generalize 4294967295 ^^^ s = r0 at *
  generalize crcu p s bs = res at *
  have hnl : n = bs.length ∧ n ≤ 9223372036854775807 := by
    obtain ⟨_, _, hv, h1, h2⟩ := hsee.shape
    injection hv with _ e2 e3
    simp only [maxLen] at h2
    omega
  obtain ⟨hnl, hnm⟩ := hnl
  have HNL := Lib.hid hnl
  have HSEE := Lib.hid hsee
  have HRem := Lib.hid (rem_any hp w)
  unfold Hands at HRem
  have hT1 := Lib.hid (tabN_size p 256)
  have hT2 := Lib.hid (tabN_one p 256)
  have hT3 := Lib.hid (fun j (hj : j < 256) => (tabN_at p 256 j hj).trans (by rw [if_pos hj]))
  generalize tabN p 256 = T at *
  clear hnl hsee
  go_enter Try.func13, Try.ntmps13
  go_wp2_with fail
  refine HRem.out.mono ?_
  rintro e w1 ⟨rfl, hb1⟩
  go_wp2_with (first
    | (refine wpList_store_row rfl 43 (.tmp 5) (.tmp 9) rfl w1.heap.size T rfl rfl 43 Z (heap_alloc_last w1 _) (by rw [hT1.out]; exact HI43.out) (by rw [HSZ.out, hT1.out]) hT2.out ?_; rw [World.setRow_alloc_new])
    | fail)
  obtain ⟨W, hW⟩ : ∃ W, W = w1.alloc (.cells T 43) := ⟨_, rfl⟩
  rw [← hW]
  have hB : Below w.heap.size w W := by rw [hW]; exact hb1.alloc hb1.size _
  have hC : Cells W w1.heap.size p := fun j hj => by
    rw [hW, cell_of_row _ _ j _ _ _ (heap_alloc_last w1 _)]
    exact hT3.out j hj
  have HS := Lib.hid (HSEE.out.below hB)
  have HB := Lib.hid hB
  have HC := Lib.hid hC
  clear hW hB hC hT1 hT2 hT3 hb1 HI43 z43 HSZ
  go_loop [6, 14] (fun s6 s14 => ∃ k d : Nat, k ≤ n ∧ d < 4294967296 ∧ s14 = .int .i64 k ∧ s6 = .int .u32 d ∧ Hid (d = updr p r0 (bs.take k))) (fun _ s14 => n - (intOf s14).toNat)
  case atStart => exact ⟨0, r0, by omega, hn0, rfl, rfl, rfl⟩
  case round =>
    obtain ⟨k, d, hk, hd, rfl, rfl, hu⟩ := hrel
    by_cases hlt : k < n
    · obtain ⟨A', c', hv, _, _, h3⟩ := HS.out
      injection hv with e1 e2 e3
      subst e1 e3
      obtain ⟨b, off, rfl, hb, hcell⟩ := h3 (by omega)
      have hc := hcell k (by omega)
      unfold byte at hc
      obtain ⟨j, d', hj, hd', hjl, hde, hx1, hx2⟩ := byte_step hp d (bs.getD k 0).toNat hd (u8_lt _)
      have hct := HC.out j hj
      have HN : Hid (d' = updr p r0 (bs.take (k + 1))) := by rw [take_snoc bs k (by omega), updr_snoc, ← hu.out]; exact hde
      have hxl := u8_lt (bs.getD k 0)
      clear h3 hcell hde hu e2
      generalize stps p 8 j = tj at *
      generalize (bs.getD k 0).toNat = x at *
      go_wp2_with fail
      go_round
      case rel => exact ⟨k + 1, d', by omega, hd', by go_num, rfl, HN.out⟩
      case measure => simp [intOf]; omega
    · have hkn : k = n := by omega
      have hr := HV.out d (by rw [hu.out, hkn, HNL.out, List.take_length])
      clear hu
      go_wp2_with fail
      go_ret
      exact ⟨rfl, HB.out⟩

set_option maxHeartbeats 400000 in
theorem crc_any {p : Nat} (hp : Poly p) {w : World} {A : Option Addr} {n c : Nat} {bs : List UInt8} (hsee : Sees w (.slice A n c) bs) :
    Calls Try.prog 15 #[.slice A n c] w (Gives w (crcu p 0 bs)) := by
  have HU := Lib.hid (upd_any hp 0 (by decide) hsee)
  clear hsee
  generalize crcu p 0 bs = r at *
  go_enter Try.func15, Try.ntmps15
  go_wp2_with fail
  refine HU.out.mono ?_
  rintro e w1 ⟨rfl, hb1⟩
  go_wp2_with fail
  go_ret
  exact ⟨rfl, hb1⟩

end Go.Proofs.Ytllmdgbokmldnaa
