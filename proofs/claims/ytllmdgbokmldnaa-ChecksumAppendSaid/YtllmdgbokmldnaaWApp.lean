/-
  ChecksumAppend: for every byte slice and every bit, Verify inverts Append, detects the bit's inversion, and neither modifies its argument (asked of at most 1,000 bytes): the law returns true and leaves its arguments as they were. No condition.
-/
import Derived.Test.YtllmdgbokmldnaaFlip
namespace Go.Proofs.Ytllmdgbokmldnaa
open Go.ChangeShapes Go.WideShapes Go.ChangeAt Go.RowKit Mem

/-- what a call of Verify leaves of bytes with their checksum -/
def VerY (w : World) (n : Nat) (bs : List UInt8) (e : Ending) (w' : World) : Prop := ∃ A c, e = .returned (.tuple #[.slice A n c, .int .i64 0]) ∧ Sees w' (.slice A n c) bs ∧ Below w.heap.size w w'

theorem ver_yes {w : World} {p n : Nat} {bs : List UInt8} (hn : n = bs.length) (e : Ending) (w' : World) (hv : VerP w p (withSum p bs) e w') : VerY w n bs e w' := by
  obtain ⟨v, he, ho, hb⟩ := hv
  obtain ⟨h1, h2⟩ := ver_with p bs
  rw [h1] at he
  rw [h2] at ho
  obtain ⟨A, c, rfl, _, _⟩ := ho.sees.shape
  have hs := ho.sees
  rw [← hn] at he hs
  exact ⟨A, c, he, hs, hb⟩

theorem same_yes {w : World} {v1 v2 : Value} {xs : List UInt8} (h1 : Sees w v1 xs) (h2 : Sees w v2 xs) : Calls Try.prog 24 #[v1, v2] w (Tells w true) := by
  have h := same_any h1 h2
  rw [decide_eq_true rfl] at h
  exact h

set_option maxRecDepth 20000 in
set_option maxHeartbeats 4000000 in
theorem app_walk {w : World} {A : Option Addr} {n c : Nat} {bs : List UInt8} (bit : Nat) (hbit : bit < 65536) (hs : Sees w (.slice A n c) bs) : Calls Try.prog 10 #[.slice A n c, .int .u16 (bit : Int)] w (Says true w) := by
  obtain ⟨p, hp⟩ := poly
  have hn1 : n ≤ 9223372036854775807 ∧ n = bs.length := by
    obtain ⟨_, _, hv, h1, h2⟩ := hs.shape
    injection hv with _ e2 e3
    simp only [maxLen] at h2
    omega
  obtain ⟨hm1, hl1⟩ := hn1
  have HL := Lib.hid hl1
  clear hl1
  by_cases hbig : 1000 < n
  · clear hs
    go_enter Try.func10, Try.ntmps10
    go_wp2_with fail
    refine (example_any w).mono ?_
    rintro e w2 ⟨rfl, hx⟩
    go_wp2_with fail
    go_ret
    exact ⟨rfl, hx⟩
  obtain ⟨P, hP⟩ : ∃ P, P = withSum p bs := ⟨_, rfl⟩
  have hPl : P.length = n + 4 := by rw [hP, withSum_length, ← HL.out]
  have J := Lib.hid (joined_any hs (sees_nil w) (by rw [← HL.out]; simp only [List.length_nil]; omega))
  rw [List.append_nil] at J
  have HS : Hid (∀ W, Below w.heap.size w W → Sees W (.slice A n c) bs) := fun W hW => hs.below hW
  have AP : Hid (∀ W, Below w.heap.size w W → Calls Try.prog 25 #[.slice A n c] W (Puts W P)) := fun W hW => by
    rw [hP]
    exact append_any hp (hs.below hW) (by omega)
  have VY : Hid (∀ W A2 c2, Sees W (.slice A2 (n + 4) c2) P → Calls Try.prog 26 #[.slice A2 (n + 4) c2] W (VerY W n bs)) := fun W A2 c2 h => (verify_any hp h (by omega)).mono (fun e w' hv => ver_yes HL.out e w' (by rw [← hP]; exact hv))
  have RA : Hid (∀ W A2 c2, Sees W (.slice A2 n c2) bs → Calls Try.prog 27 #[.slice A2 n c2] W (Puts W P)) := fun W A2 c2 h => by
    rw [hP]
    exact rappend_any hp h (by omega)
  obtain ⟨k, hk⟩ : ∃ k, k = bit % (8 * (n + 4)) := ⟨_, rfl⟩
  have hkn : k < 8 * (n + 4) := by rw [hk]; exact Nat.mod_lt _ (by omega)
  have hkm : (bit : Int) % (8 * ((n : Int) + 4)) = (k : Int) := by rw [hk]; push_cast; rfl
  have VN : Hid (∀ W A2 c2, Sees W (.slice A2 (n + 4) c2) (Crc.flip P k) → Calls Try.prog 26 #[.slice A2 (n + 4) c2] W (VerN W 19)) := fun W A2 c2 h => (verify_any hp h (by omega)).mono (fun e w' hv => ver_none (by rw [hP]; exact ver_flip hp bs k (by rw [← hP, hPl]; exact hkn)) e w' hv)
  have HKM := Lib.hid hkm
  have HPL := Lib.hid hPl
  clear hs hP hk hkm hPl
  go_enter Try.func10, Try.ntmps10
  go_wp2_with fail
  refine J.out.mono ?_
  rintro e w1 ⟨v1, rfl, ho1, hb1⟩
  obtain ⟨A1, c1, rfl, _, _⟩ := ho1.sees.shape
  have HO1 := Lib.hid ho1.sees
  rw [← HL.out] at HO1 ⊢
  clear ho1
  go_wp2_with fail
  refine (AP.out w1 hb1).mono ?_
  rintro e w2 ⟨v2, rfl, ho2, hb2⟩
  have hb02 : Below w.heap.size w w2 := hb1.trans (hb2.mono hb1.size)
  obtain ⟨g, c2, rfl, hcap, hmx, hg, _, _⟩ := ho2.lies (by rw [HPL.out]; omega)
  rw [HPL.out] at ho2 hcap ⊢
  simp only [maxLen] at hmx
  have HO2 := Lib.hid (ho2.mono hb1.size)
  have hg2 : w.heap.size ≤ g := Nat.le_trans hb1.size hg
  have HO12 := Lib.hid (HO1.out.below hb2)
  clear ho2 hb2 HO1 hb1 hg
  go_wp2_with fail
  refine (VY.out w2 _ _ HO2.out.sees).mono ?_
  rintro e w3 ⟨A3, c3, rfl, hs3, hb3⟩
  have HS3 := Lib.hid hs3
  have hb03 : Below w.heap.size w w3 := hb02.trans (hb3.mono hb02.size)
  have HO3 := Lib.hid (HO2.out.below hb3)
  have HO13 := Lib.hid (HO12.out.below hb3)
  clear hs3 hb3 hb02 HO2 HO12
  go_wp2_with fail
  refine (same_yes HS3.out HO13.out).mono ?_
  rintro e w4 ⟨rfl, q4, hw4⟩
  have hb34 : Below w3.heap.size w3 w4 := by rw [hw4]; exact below_draws (Below.refl _ _) q4
  have hb04 : Below w.heap.size w w4 := hb03.trans (hb34.mono hb03.size)
  have HO4 := Lib.hid (HO3.out.below hb34)
  have HO14 := Lib.hid (HO13.out.below hb34)
  clear hw4 hb34 hb03 HO3 HO13 HS3
  go_wp2_with fail
  refine (same_yes (HS.out w4 hb04) HO14.out).mono ?_
  rintro e w5 ⟨rfl, q5, hw5⟩
  have hb45 : Below w4.heap.size w4 w5 := by rw [hw5]; exact below_draws (Below.refl _ _) q5
  have hb05 : Below w.heap.size w w5 := hb04.trans (hb45.mono hb04.size)
  have HO5 := Lib.hid (HO4.out.below hb45)
  have HO15 := Lib.hid (HO14.out.below hb45)
  clear hw5 hb45 hb04 HO4 HO14
  go_wp2_with fail
  refine (RA.out w5 _ _ HO15.out).mono ?_
  rintro e w6 ⟨v6, rfl, ho6, hb56⟩
  have hb06 : Below w.heap.size w w6 := hb05.trans (hb56.mono hb05.size)
  have HO6 := Lib.hid (HO5.out.below hb56)
  have HS6 := Lib.hid ho6.sees
  clear hb56 hb05 HO5 HO15 ho6
  go_wp2_with fail
  refine (same_yes HO6.out.sees HS6.out).mono ?_
  rintro e w7 ⟨rfl, q7, hw7⟩
  have hb67 : Below w6.heap.size w6 w7 := by rw [hw7]; exact below_draws (Below.refl _ _) q7
  have hb07 : Below w.heap.size w w7 := hb06.trans (hb67.mono hb06.size)
  have HO7 := Lib.hid (HO6.out.below hb67)
  clear hw7 hb67 hb06 HO6 HS6
  obtain ⟨g', c2', hv7, _, _, _, hfr, hcell⟩ := HO7.out.lies (by rw [HPL.out]; omega)
  injection hv7 with e1 e2 e3
  injection e1 with e1
  injection e1 with e1
  subst e1
  clear e2 e3
  have hc7 := hcell (k / 8) (by rw [HPL.out]; omega)
  have hf7 := hfr (k / 8)
  clear hcell hfr
  have hx8 := u8_lt (P.getD (k / 8) 0)
  have HF := Lib.hid (HO7.out.flipB k _ rfl)
  generalize (P.getD (k / 8) 0).toNat = x at *
  have hkm := HKM.out
  go_wp2_with fail
  have hb08 : Below w.heap.size w (w7.setCell ⟨g, k / 8, none⟩ (.int .u8 (bits .xor .u8 (x : Int) (2 ^ (k % 8) % 256)))) := hb07.setCell hg2 _
  have HB8 := Lib.hid hb08
  clear hb08 hb07 HO7 hkm hc7 hf7
  generalize w7.setCell ⟨g, k / 8, none⟩ (.int .u8 (bits .xor .u8 (x : Int) (2 ^ (k % 8) % 256))) = w8 at *
  refine (VN.out w8 _ _ HF.out.sees).mono ?_
  rintro e w9 ⟨A9, c9, rfl, hb9⟩
  have hb09 : Below w.heap.size w w9 := HB8.out.trans (hb9.mono HB8.out.size)
  clear hb9
  go_wp2_with fail
  refine (example_any w9).mono ?_
  rintro e w10 ⟨rfl, hx⟩
  go_wp2_with fail
  go_ret
  exact ⟨rfl, hb09.trans (hx.mono hb09.size)⟩

set_option maxRecDepth 100000 in
theorem app_lifted (os : Os) (started : os.Started) (H : Type) (enc : TypeId × Value → H) :
    ReturnsInHanded {} Try.checked os 10 .any (Rows.checksumAppendSpec.pre6 enc Try.prog Try.f10 Rows.checksumAppendRow.domain false) (Rows.checksumAppendSpec.post enc Try.prog Try.f10 false true false false) := by
  refine returnsInHanded_of_change (C := Try.checked) own started (by kernel_rfl) Try.func10
    (ChangeSpec.witness6 (enc := enc) (C := Try.checked) false ⟨#[], #[.slice none 0 0, .int .u16 0], []⟩ 8 (by kernel_rfl) (by kernel_rfl) (by kernel_rfl) (by kernel_rfl)) ?_
  intro W base args ds gs before hval0 hW _ _
  have hval : ∀ (j : Nat) t v, Try.f10.params[j]? = some t → args[j]? = some v → Value.okWide Try.prog W .any base t v := hval0
  have hW' := hW
  obtain ⟨p, q, hA0, hV, rfl, _, _⟩ := hW
  have hA : DataW.TrodAll enc Try.prog W 0 (fun _ => true) true Try.f10.params.toList args.toList ds p := hA0
  rw [Try.params10] at hA hval
  obtain ⟨v0, vs0, d0, ds0, p0, q0, hargs, rfl, rfl, h0, r0⟩ := trodAll_cons hA
  obtain ⟨v1, vs1, d1, ds1, p1, q1, rfl, rfl, rfl, h1, r1⟩ := trodAll_cons r0
  obtain ⟨rfl, rfl, rfl⟩ := trodAll_nil r1
  obtain rfl : args = #[v0, v1] := by cases args; simp_all
  obtain ⟨rfl, rfl⟩ := trodVars_none hV
  clear hA0 hval0
  simp only [List.append_nil] at hW'
  have hlt0 : ∀ x ∈ p0, x.block < W.heap.size := fun x hx => hW'.lt x (by simp [hx])
  have k0 := h0
  have hlt1 : ∀ x ∈ p1, x.block < W.heap.size := fun x hx => hW'.lt x (by simp [hx])
  have k1 := h1
  obtain ⟨A0, n0, c0, rfl⟩ := okWide_slice Try.underlying23 (hval 0 23 v0 rfl rfl)
  obtain ⟨fuel0, hf0⟩ := h0
  obtain ⟨bs0, hs0⟩ := open_bytes (by simpa [Value.cells] using hf0)
  obtain ⟨m1, rfl, _, _, w1⟩ := open_int Try.underlying32 (hval 1 32 v1 rfl rfl) h1
  obtain ⟨x1, rfl, b1⟩ := range_u16 w1
  refine (app_walk x1 b1 hs0).mono fun e W' ⟨he, hg⟩ => ?_
  subst he
  exact ⟨_, rfl, _, _, _, [], _, [], hW', trodAll_cons_mk (shut_bool Try.underlying4 _) trodAll_mk0,
    (trodAll_cons_mk (Below.trod laidOut (by kernel_rfl) (of_decide_eq_true (by kernel_rfl)) k0 hg hlt0) (trodAll_cons_mk (Below.trod laidOut (by kernel_rfl) (of_decide_eq_true (by kernel_rfl)) k1 hg hlt1) trodAll_mk0)), rfl, hg.frame _, fun h => by cases h⟩

theorem app_holds : Rows.ChecksumAppendSaid :=
  OpenClaim.holds_of_wide 10 Try.f10 rfl rfl rfl rfl rfl rfl rfl ⟨rfl, rfl, rfl, rfl, rfl⟩ rfl rfl rfl rfl rfl (by kernel_rfl) Try.func10 (by kernel_rfl)
    (of_decide_eq_true (by kernel_rfl)) (by unfold Func.isWrapper; first | (rw [if_pos (by decide +kernel)]; kernel_rfl) | (rw [if_neg (by decide +kernel)]; exact ⟨rfl, rfl⟩))
    (fun os started H enc _ => app_lifted os started H enc)

end Go.Proofs.Ytllmdgbokmldnaa
