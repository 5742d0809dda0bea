/-
  ChecksumByte: for every byte slice, place and change, two byte sequences that differ in that one byte have different Adler-32 checksums (asked of 1 to 1,000 bytes): the law returns true and leaves its arguments as they were. No condition.
-/
import Derived.Test.YtllmdgbokmldnaaTurn
namespace Go.Proofs.Ytllmdgbokmldnaa
open Go.ChangeShapes Go.WideShapes Go.ChangeAt Go.RowKit Mem Adler

theorem adl_turn (bs : List UInt8) (k v : Nat) (hk : k < bs.length) (hv : v < 256) (h0 : v ≠ 0) : ¬ adlu 1 bs = adlu 1 (bs.set k (UInt8.ofNat ((bs.getD k 0).toNat ^^^ v))) := by
  intro h
  have h1 : p1 (adlu 1 bs) = p1 (adlu 1 (bs.set k (UInt8.ofNat ((bs.getD k 0).toNat ^^^ v)))) := by rw [← h]
  unfold adlu at h1
  rw [p1_both (low_lt _ _ _ (by decide)), p1_both (low_lt _ _ _ (by decide))] at h1
  have h2 := low_set 65521 (p1 1) (by decide) bs k _ hk h1
  have h3 := Nat.xor_lt_two_pow (x := (bs.getD k 0).toNat) (y := v) (n := 8) (u8_lt _) hv
  have h4 : (bs.getD k 0).toNat ^^^ v = (bs.getD k 0).toNat := by
    have := congrArg UInt8.toNat h2
    rwa [UInt8.toNat_ofNat', Nat.mod_eq_of_lt h3] at this
  have h5 : (bs.getD k 0).toNat ^^^ ((bs.getD k 0).toNat ^^^ v) = (bs.getD k 0).toNat ^^^ (bs.getD k 0).toNat := by rw [h4]
  rw [Crc.xor_self_left, Nat.xor_self] at h5
  exact h0 h5

set_option maxRecDepth 10000 in
set_option maxHeartbeats 2000000 in
theorem byte_walk {w : World} {A : Option Addr} {n c : Nat} {bs : List UInt8} (at' v : Nat) (hat : at' < 65536) (hv : v < 256) (hs : Sees w (.slice A n c) bs) : Calls Try.prog 9 #[.slice A n c, .int .u16 (at' : Int), .int .u8 (v : Int)] w (Says true w) := by
  have hn1 : n ≤ 9223372036854775807 ∧ n = bs.length := by
    obtain ⟨_, _, hv, h1, h2⟩ := hs.shape
    injection hv with _ e2 e3
    simp only [maxLen] at h2
    omega
  obtain ⟨hm1, hl1⟩ := hn1
  have HL := Lib.hid hl1
  clear hl1
  by_cases h0 : n = 0
  · subst h0
    clear hs
    go_enter Try.func9, Try.ntmps9
    go_wp2_with fail
    refine (example_any w).mono ?_
    rintro e w2 ⟨rfl, hx⟩
    go_wp2_with fail
    go_ret
    exact ⟨rfl, hx⟩
  have hz : ((n : Int) == 0) = false := by rw [beq_eq_false_iff_ne]; omega
  by_cases hbig : 1000 < n
  · clear hs h0
    go_enter Try.func9, Try.ntmps9
    go_wp2_with fail
    refine (example_any w).mono ?_
    rintro e w2 ⟨rfl, hx⟩
    go_wp2_with fail
    go_ret
    exact ⟨rfl, hx⟩
  by_cases hv0 : v = 0
  · subst hv0
    clear hs h0
    go_enter Try.func9, Try.ntmps9
    go_wp2_with fail
    refine (example_any w).mono ?_
    rintro e w2 ⟨rfl, hx⟩
    go_wp2_with fail
    go_ret
    exact ⟨rfl, hx⟩
  have hvz : ((v : Int) == 0) = false := by rw [beq_eq_false_iff_ne]; omega
  have J := Lib.hid (joined_any hs (sees_nil w) (by rw [← HL.out]; simp only [List.length_nil]; omega))
  rw [List.append_nil] at J
  obtain ⟨k, hk⟩ : ∃ k, k = at' % n := ⟨_, rfl⟩
  have hkn : k < n := by rw [hk]; exact Nat.mod_lt _ (by omega)
  have hkm : (at' : Int) % (n : Int) = (k : Int) := by rw [hk]; rfl
  have hne := adl_turn bs k v (by rw [← HL.out]; exact hkn) hv hv0
  have X1 : Hid (∀ W, Below w.heap.size w W → Calls Try.prog 19 #[.slice A n c] W (Only W (adlu 1 bs))) := fun W hW => adl_any (hs.below hW)
  obtain ⟨y, hy⟩ : ∃ y, y = UInt8.ofNat ((bs.getD k 0).toNat ^^^ v) := ⟨_, rfl⟩
  rw [← hy] at hne
  have X2 : Hid (∀ W g cap, Owns W w.heap.size (.slice (some ⟨g, 0, none⟩) n cap) (bs.set k y) → Calls Try.prog 19 #[.slice (some ⟨g, 0, none⟩) n cap] W (Only W (adlu 1 (bs.set k y)))) := fun W g cap hW => adl_any hW.sees
  have hxb := xor_byte (bs.getD k 0).toNat v (u8_lt _) hv
  rw [← hy] at hxb
  have HXB := Lib.hid hxb
  generalize adlu 1 bs = r1 at *
  generalize adlu 1 (bs.set k y) = r2 at *
  have hnb : ((r1 : Int) == (r2 : Int)) = false := by rw [beq_eq_false_iff_ne]; omega
  have hnb2 : ((r1 : Int) != (r2 : Int)) = true := by rw [bne, hnb]; rfl
  have HV0 := Lib.hid hv0
  have HK := Lib.hid hk
  have HKM := Lib.hid hkm
  clear hs hk hv0 h0 hkm hne hy hxb
  go_enter Try.func9, Try.ntmps9
  go_wp2_with fail
  refine J.out.mono ?_
  rintro e w1 ⟨v1, rfl, ho1, hb1⟩
  obtain ⟨g, cap, rfl, hcap, hmx, hg, hfr, hcell⟩ := ho1.lies (by rw [← HL.out]; omega)
  have hc1 := hcell k (by rw [← HL.out]; exact hkn)
  have hf1 := hfr k
  have HO := Lib.hid (ho1.setB k y)
  unfold byte at HO
  rw [← HL.out] at HO hcap ⊢
  simp only [maxLen] at hmx
  have hxb := HXB.out
  clear hcell hfr ho1
  generalize (bs.getD k 0).toNat = x at *
  generalize y.toNat = yn at *
  have hkm := HKM.out
  go_wp2_with fail
  have hb2 : Below w.heap.size w (w1.setCell ⟨g, k, none⟩ (.int .u8 (yn : Int))) := hb1.setCell hg _
  have HB2 := Lib.hid hb2
  clear hb1 hkm hxb hc1 hf1
  generalize w1.setCell ⟨g, k, none⟩ (.int .u8 (yn : Int)) = w2 at *
  refine (X1.out w2 HB2.out).mono ?_
  rintro e w3 ⟨rfl, rfl⟩
  go_wp2_with fail
  refine (X2.out w2 _ _ HO.out).mono ?_
  rintro e w3 ⟨rfl, rfl⟩
  go_wp2_with fail
  refine (example_any w2).mono ?_
  rintro e w3 ⟨rfl, hx⟩
  go_wp2_with fail
  go_ret
  exact ⟨rfl, HB2.out.trans (hx.mono HB2.out.size)⟩

set_option maxRecDepth 100000 in
theorem byte_lifted (os : Os) (started : os.Started) (H : Type) (enc : TypeId × Value → H) :
    ReturnsInHanded {} Try.checked os 9 .any (Rows.checksumByteSpec.pre6 enc Try.prog Try.f9 Rows.checksumByteRow.domain false) (Rows.checksumByteSpec.post enc Try.prog Try.f9 false true false false) := by
  refine returnsInHanded_of_change (C := Try.checked) own started (by kernel_rfl) Try.func9
    (ChangeSpec.witness6 (enc := enc) (C := Try.checked) false ⟨#[], #[.slice none 0 0, .int .u16 0, .int .u8 0], []⟩ 8 (by kernel_rfl) (by kernel_rfl) (by kernel_rfl) (by kernel_rfl)) ?_
  intro W base args ds gs before hval0 hW _ _
  have hval : ∀ (j : Nat) t v, Try.f9.params[j]? = some t → args[j]? = some v → Value.okWide Try.prog W .any base t v := hval0
  have hW' := hW
  obtain ⟨p, q, hA0, hV, rfl, _, _⟩ := hW
  have hA : DataW.TrodAll enc Try.prog W 0 (fun _ => true) true Try.f9.params.toList args.toList ds p := hA0
  rw [Try.params9] at hA hval
  obtain ⟨v0, vs0, d0, ds0, p0, q0, hargs, rfl, rfl, h0, r0⟩ := trodAll_cons hA
  obtain ⟨v1, vs1, d1, ds1, p1, q1, rfl, rfl, rfl, h1, r1⟩ := trodAll_cons r0
  obtain ⟨v2, vs2, d2, ds2, p2, q2, rfl, rfl, rfl, h2, r2⟩ := trodAll_cons r1
  obtain ⟨rfl, rfl, rfl⟩ := trodAll_nil r2
  obtain rfl : args = #[v0, v1, v2] := by cases args; simp_all
  obtain ⟨rfl, rfl⟩ := trodVars_none hV
  clear hA0 hval0
  simp only [List.append_nil] at hW'
  have hlt0 : ∀ x ∈ p0, x.block < W.heap.size := fun x hx => hW'.lt x (by simp [hx])
  have k0 := h0
  have hlt1 : ∀ x ∈ p1, x.block < W.heap.size := fun x hx => hW'.lt x (by simp [hx])
  have k1 := h1
  have hlt2 : ∀ x ∈ p2, x.block < W.heap.size := fun x hx => hW'.lt x (by simp [hx])
  have k2 := h2
  obtain ⟨A0, n0, c0, rfl⟩ := okWide_slice Try.underlying23 (hval 0 23 v0 rfl rfl)
  obtain ⟨fuel0, hf0⟩ := h0
  obtain ⟨bs0, hs0⟩ := open_bytes (by simpa [Value.cells] using hf0)
  obtain ⟨m1, rfl, _, _, w1⟩ := open_int Try.underlying32 (hval 1 32 v1 rfl rfl) h1
  obtain ⟨x1, rfl, b1⟩ := range_u16 w1
  obtain ⟨m2, rfl, _, _, w2⟩ := open_int Try.underlying5 (hval 2 5 v2 rfl rfl) h2
  obtain ⟨x2, rfl, b2⟩ := range_u8 w2
  refine (byte_walk x1 x2 b1 b2 hs0).mono fun e W' ⟨he, hg⟩ => ?_
  subst he
  exact ⟨_, rfl, _, _, _, [], _, [], hW', trodAll_cons_mk (shut_bool Try.underlying4 _) trodAll_mk0,
    (trodAll_cons_mk (Below.trod laidOut (by kernel_rfl) (of_decide_eq_true (by kernel_rfl)) k0 hg hlt0) (trodAll_cons_mk (Below.trod laidOut (by kernel_rfl) (of_decide_eq_true (by kernel_rfl)) k1 hg hlt1) (trodAll_cons_mk (Below.trod laidOut (by kernel_rfl) (of_decide_eq_true (by kernel_rfl)) k2 hg hlt2) trodAll_mk0))), rfl, hg.frame _, fun h => by cases h⟩

theorem byte_holds : Rows.ChecksumByteSaid :=
  OpenClaim.holds_of_wide 9 Try.f9 rfl rfl rfl rfl rfl rfl rfl ⟨rfl, rfl, rfl, rfl, rfl⟩ rfl rfl rfl rfl rfl (by kernel_rfl) Try.func9 (by kernel_rfl)
    (of_decide_eq_true (by kernel_rfl)) (by unfold Func.isWrapper; first | (rw [if_pos (by decide +kernel)]; kernel_rfl) | (rw [if_neg (by decide +kernel)]; exact ⟨rfl, rfl⟩))
    (fun os started H enc _ => byte_lifted os started H enc)

end Go.Proofs.Ytllmdgbokmldnaa
