/-
  ChecksumBurst: for every byte slice, place and pattern, two byte sequences that differ only within 32 consecutive bits have different CRC-32 checksums (asked of 1 to 1,000 bytes): the law returns true and leaves its arguments as they were. No condition.
-/
import Derived.Test.YtllmdgbokmldnaaFlip
namespace Go.Proofs.Ytllmdgbokmldnaa
open Go.ChangeShapes Go.WideShapes Go.ChangeAt Go.RowKit Mem Crc

/-- what the loop keeps: the copy at block g differs from bs in the bits from s on, by the number F of at most i bits -/
def Burst (w : World) (bs : List UInt8) (s g n cap i : Nat) (wr : World) : Prop :=
  Below w.heap.size w wr ∧ ∃ (cs : List UInt8) (F : Nat), cs.length = n ∧ Owns wr w.heap.size (.slice (some ⟨g, 0, none⟩) n cap) cs ∧ F < 2 ^ i ∧ num cs = num bs ^^^ 2 ^ s * F

theorem Burst.skip {w wr : World} {bs : List UInt8} {s g n cap i : Nat} (h : Burst w bs s g n cap i wr) : Burst w bs s g n cap (i + 1) wr := by
  obtain ⟨hb, cs, F, hl, ho, hF, hn⟩ := h
  exact ⟨hb, cs, F, hl, ho, Nat.lt_trans hF (Nat.pow_lt_pow_right (by decide) (Nat.lt_succ_self i)), hn⟩

theorem Burst.turn {w wr : World} {bs : List UInt8} {s g n cap i k : Nat} (h : Burst w bs s g n cap i wr) (hk : k = s + i) (hkn : k < 8 * n) :
    ∃ x : Nat, x < 256 ∧ wr.cell? ⟨g, k / 8, none⟩ = some (.int .u8 (x : Int)) ∧ wr.frozen? ⟨g, k / 8, none⟩ = false ∧
      Burst w bs s g n cap (i + 1) (wr.setCell ⟨g, k / 8, none⟩ (.int .u8 (bits .xor .u8 (x : Int) (2 ^ (k % 8) % 256)))) := by
  obtain ⟨hb, cs, F, hl, ho, hF, hn⟩ := h
  obtain ⟨g', c', hv, _, _, hg, hf, hc⟩ := ho.lies (by omega)
  injection hv with e1 e2 e3
  injection e1 with e1
  injection e1 with e1
  subst e1
  refine ⟨_, u8_lt _, hc (k / 8) (by omega), hf _, hb.setCell hg _, Crc.flip cs k, F ^^^ 2 ^ i, by rw [flip_length]; exact hl, ho.flipB k _ rfl, ?_, ?_⟩
  · exact Nat.xor_lt_two_pow (Nat.lt_trans hF (Nat.pow_lt_pow_right (by decide) (Nat.lt_succ_self i))) (Nat.pow_lt_pow_right (by decide) (Nat.lt_succ_self i))
  · rw [num_flip cs k (by omega), hn, mul_xor, Nat.xor_assoc, hk, Nat.pow_add]

theorem burst_crc {p : Nat} (hp : Poly p) {w wr : World} {bs : List UInt8} {s g n cap : Nat} (h : Burst w bs s g n cap 32 wr) (hl : n = bs.length) (hs : s < 8 * n) :
    ∃ cs : List UInt8, cs.length = n ∧ Owns wr w.heap.size (.slice (some ⟨g, 0, none⟩) n cap) cs ∧ (bs = cs ∨ (¬ bs = cs ∧ ¬ crcu p 0 bs = crcu p 0 cs)) := by
  obtain ⟨hb, cs, F, hcl, ho, hF, hn⟩ := h
  refine ⟨cs, hcl, ho, ?_⟩
  by_cases he : crcu p 0 bs = crcu p 0 cs
  · left
    have h0 := burst p _ hp.lo hp.hi bs cs (by omega) s F hF (by omega) hn (crcu_inj p _ _ he)
    rw [h0, Nat.mul_zero, Nat.xor_zero] at hn
    exact num_inj bs cs (by omega) hn.symm
  · right
    exact ⟨fun e => he (by rw [e]), he⟩

set_option maxRecDepth 20000 in
set_option maxHeartbeats 4000000 in
theorem bur_walk {w : World} {A : Option Addr} {n c : Nat} {bs : List UInt8} (at' v : Nat) (hat : at' < 65536) (_ : v < 4294967296) (hs : Sees w (.slice A n c) bs) : Calls Try.prog 7 #[.slice A n c, .int .u16 (at' : Int), .int .u32 (v : Int)] w (Says true w) := by
  obtain ⟨p, hp⟩ := poly
  have hn1 : n ≤ 9223372036854775807 ∧ n = bs.length := by
    obtain ⟨_, _, hv, h1, h2⟩ := hs.shape
    injection hv with _ e2 e3
    simp only [maxLen] at h2
    omega
  obtain ⟨hm1, hl1⟩ := hn1
  have HL := Lib.hid hl1
  clear hl1
  by_cases h0 : n = 0
  · subst h0
    clear hs
    go_enter Try.func7, Try.ntmps7
    go_wp2_with fail
    refine (example_any w).mono ?_
    rintro e w2 ⟨rfl, hx⟩
    go_wp2_with fail
    go_ret
    exact ⟨rfl, hx⟩
  have hz : ((n : Int) == 0) = false := by rw [beq_eq_false_iff_ne]; omega
  by_cases hbig : 1000 < n
  · clear hs h0
    go_enter Try.func7, Try.ntmps7
    go_wp2_with fail
    refine (example_any w).mono ?_
    rintro e w2 ⟨rfl, hx⟩
    go_wp2_with fail
    go_ret
    exact ⟨rfl, hx⟩
  have J := Lib.hid (joined_any hs (sees_nil w) (by rw [← HL.out]; simp only [List.length_nil]; omega))
  rw [List.append_nil] at J
  obtain ⟨s, hsd⟩ : ∃ s, s = at' % (8 * n) := ⟨_, rfl⟩
  have hsn : s < 8 * n := by rw [hsd]; exact Nat.mod_lt _ (by omega)
  have hsm : (at' : Int) % (8 * (n : Int)) = (s : Int) := by rw [hsd]; push_cast; rfl
  have HS : Hid (∀ W, Below w.heap.size w W → Sees W (.slice A n c) bs) := fun W hW => hs.below hW
  have X1 : Hid (∀ W, Below w.heap.size w W → Calls Try.prog 15 #[.slice A n c] W (Gives W (crcu p 0 bs))) := fun W hW => crc_any hp (hs.below hW)
  have HSM := Lib.hid hsm
  clear hs hsd h0 hsm
  go_enter Try.func7, Try.ntmps7
  go_wp2_with fail
  rw [HSM.out]
  refine J.out.mono ?_
  rintro e w1 ⟨v1, rfl, ho1, hb1⟩
  obtain ⟨g, cap, rfl, hcap, hmx, hg, _, _⟩ := ho1.lies (by rw [← HL.out]; omega)
  have HB0 : Hid (Burst w bs s g n cap 0 w1) := by
    refine ⟨hb1, bs, 0, HL.out.symm, ?_, by decide, by rw [Nat.mul_zero, Nat.xor_zero]⟩
    have h := ho1
    rw [← HL.out] at h
    exact h
  rw [← HL.out] at hcap ⊢
  simp only [maxLen] at hmx
  clear ho1 hb1
  go_wp2_with fail
  go_loopw [9] (fun s9 wr => ∃ i : Nat, i ≤ 32 ∧ s9 = .int .i64 i ∧ Hid (Burst w bs s g n cap i wr)) (fun s9 _ => 32 - (intOf s9).toNat)
  case atStart => exact ⟨0, by omega, rfl, HB0.out⟩
  case round =>
    obtain ⟨i, hi, rfl, hbu⟩ := hrel
    by_cases hlt : i < 32
    · by_cases hk : s + i < 8 * n
      · obtain ⟨x, hx8, hc, hf, ht⟩ := hbu.out.turn (k := s + i) rfl hk
        have HSK := Lib.hid hbu.out.skip
        have HT := Lib.hid ht
        clear ht hbu
        go_wp2_with fail
        all_goals
          go_roundw
          case rel => first | exact ⟨i + 1, by omega, by go_num, HT.out⟩ | exact ⟨i + 1, by omega, by go_num, HSK.out⟩
          case measure => simp [intOf]; omega
      · have HSK := Lib.hid hbu.out.skip
        clear hbu
        go_wp2_with fail
        all_goals
          go_roundw
          case rel => exact ⟨i + 1, by omega, by go_num, HSK.out⟩
          case measure => simp [intOf]; omega
    · obtain rfl : i = 32 := by omega
      obtain ⟨cs, hcl, ho, hor⟩ := burst_crc hp hbu.out HL.out hsn
      have hb := hbu.out.1
      have hsame := same_any (HS.out wr hb) ho.sees
      have HO := Lib.hid ho
      have X2 : Hid (∀ W, Owns W w.heap.size (.slice (some ⟨g, 0, none⟩) n cap) cs → Calls Try.prog 15 #[.slice (some ⟨g, 0, none⟩) n cap] W (Gives W (crcu p 0 cs))) := fun W hW => crc_any hp hW.sees
      rcases hor with rfl | ⟨hne, hcn⟩
      · rw [decide_eq_true rfl] at hsame
        have SB := Lib.hid hsame
        clear hsame hbu ho hcl
        go_wp2_with fail
        refine SB.out.mono ?_
        rintro e w5 ⟨rfl, q5, hw5⟩
        have hb5 : Below w.heap.size w w5 := by rw [hw5]; exact below_draws hb q5
        clear hw5
        go_wp2_with fail
        refine (example_any w5).mono ?_
        rintro e w6 ⟨rfl, hx⟩
        go_wp2_with fail
        go_ret
        exact ⟨rfl, hb5.trans (hx.mono hb5.size)⟩
      · rw [decide_eq_false hne] at hsame
        have SB := Lib.hid hsame
        generalize crcu p 0 cs = r2 at *
        generalize crcu p 0 bs = r1 at *
        have hnb : ((r1 : Int) == (r2 : Int)) = false := by rw [beq_eq_false_iff_ne]; omega
        have hnb2 : ((r1 : Int) != (r2 : Int)) = true := by rw [bne, hnb]; rfl
        clear hsame hbu ho hcl hne hcn
        go_wp2_with fail
        refine SB.out.mono ?_
        rintro e w5 ⟨rfl, q5, hw5⟩
        have hbq : Below wr.heap.size wr w5 := by rw [hw5]; exact below_draws (Below.refl _ _) q5
        have hb5 : Below w.heap.size w w5 := hb.trans (hbq.mono hb.size)
        have HO5 := Lib.hid (HO.out.below hbq)
        clear hw5 hbq hb
        go_wp2_with fail
        refine (X1.out w5 hb5).mono ?_
        rintro e w6 ⟨rfl, hb56⟩
        have hb6 : Below w.heap.size w w6 := hb5.trans (hb56.mono hb5.size)
        have HO6 := Lib.hid (HO5.out.below hb56)
        clear hb56 hb5
        go_wp2_with fail
        refine (X2.out w6 HO6.out).mono ?_
        rintro e w7 ⟨rfl, hb67⟩
        have hb7 : Below w.heap.size w w7 := hb6.trans (hb67.mono hb6.size)
        clear hb67 hb6
        go_wp2_with fail
        refine (example_any w7).mono ?_
        rintro e w8 ⟨rfl, hx⟩
        go_wp2_with fail
        go_ret
        exact ⟨rfl, hb7.trans (hx.mono hb7.size)⟩

set_option maxRecDepth 100000 in
theorem bur_lifted (os : Os) (started : os.Started) (H : Type) (enc : TypeId × Value → H) :
    ReturnsInHanded {} Try.checked os 7 .any (Rows.checksumBurstSpec.pre6 enc Try.prog Try.f7 Rows.checksumBurstRow.domain false) (Rows.checksumBurstSpec.post enc Try.prog Try.f7 false true false false) := by
  refine returnsInHanded_of_change (C := Try.checked) own started (by kernel_rfl) Try.func7
    (ChangeSpec.witness6 (enc := enc) (C := Try.checked) false ⟨#[], #[.slice none 0 0, .int .u16 0, .int .u32 0], []⟩ 8 (by kernel_rfl) (by kernel_rfl) (by kernel_rfl) (by kernel_rfl)) ?_
  intro W base args ds gs before hval0 hW _ _
  have hval : ∀ (j : Nat) t v, Try.f7.params[j]? = some t → args[j]? = some v → Value.okWide Try.prog W .any base t v := hval0
  have hW' := hW
  obtain ⟨p, q, hA0, hV, rfl, _, _⟩ := hW
  have hA : DataW.TrodAll enc Try.prog W 0 (fun _ => true) true Try.f7.params.toList args.toList ds p := hA0
  rw [Try.params7] at hA hval
  obtain ⟨v0, vs0, d0, ds0, p0, q0, hargs, rfl, rfl, h0, r0⟩ := trodAll_cons hA
  obtain ⟨v1, vs1, d1, ds1, p1, q1, rfl, rfl, rfl, h1, r1⟩ := trodAll_cons r0
  obtain ⟨v2, vs2, d2, ds2, p2, q2, rfl, rfl, rfl, h2, r2⟩ := trodAll_cons r1
  obtain ⟨rfl, rfl, rfl⟩ := trodAll_nil r2
  obtain rfl : args = #[v0, v1, v2] := by cases args; simp_all
  obtain ⟨rfl, rfl⟩ := trodVars_none hV
  clear hA0 hval0
  simp only [List.append_nil] at hW'
  have hlt0 : ∀ x ∈ p0, x.block < W.heap.size := fun x hx => hW'.lt x (by simp [hx])
  have k0 := h0
  have hlt1 : ∀ x ∈ p1, x.block < W.heap.size := fun x hx => hW'.lt x (by simp [hx])
  have k1 := h1
  have hlt2 : ∀ x ∈ p2, x.block < W.heap.size := fun x hx => hW'.lt x (by simp [hx])
  have k2 := h2
  obtain ⟨A0, n0, c0, rfl⟩ := okWide_slice Try.underlying23 (hval 0 23 v0 rfl rfl)
  obtain ⟨fuel0, hf0⟩ := h0
  obtain ⟨bs0, hs0⟩ := open_bytes (by simpa [Value.cells] using hf0)
  obtain ⟨m1, rfl, _, _, w1⟩ := open_int Try.underlying32 (hval 1 32 v1 rfl rfl) h1
  obtain ⟨x1, rfl, b1⟩ := range_u16 w1
  obtain ⟨m2, rfl, _, _, w2⟩ := open_int Try.underlying22 (hval 2 22 v2 rfl rfl) h2
  obtain ⟨x2, rfl, b2⟩ := range_u32 w2
  refine (bur_walk x1 x2 b1 b2 hs0).mono fun e W' ⟨he, hg⟩ => ?_
  subst he
  exact ⟨_, rfl, _, _, _, [], _, [], hW', trodAll_cons_mk (shut_bool Try.underlying4 _) trodAll_mk0,
    (trodAll_cons_mk (Below.trod laidOut (by kernel_rfl) (of_decide_eq_true (by kernel_rfl)) k0 hg hlt0) (trodAll_cons_mk (Below.trod laidOut (by kernel_rfl) (of_decide_eq_true (by kernel_rfl)) k1 hg hlt1) (trodAll_cons_mk (Below.trod laidOut (by kernel_rfl) (of_decide_eq_true (by kernel_rfl)) k2 hg hlt2) trodAll_mk0))), rfl, hg.frame _, fun h => by cases h⟩

theorem bur_holds : Rows.ChecksumBurstSaid :=
  OpenClaim.holds_of_wide 7 Try.f7 rfl rfl rfl rfl rfl rfl rfl ⟨rfl, rfl, rfl, rfl, rfl⟩ rfl rfl rfl rfl rfl (by kernel_rfl) Try.func7 (by kernel_rfl)
    (of_decide_eq_true (by kernel_rfl)) (by unfold Func.isWrapper; first | (rw [if_pos (by decide +kernel)]; kernel_rfl) | (rw [if_neg (by decide +kernel)]; exact ⟨rfl, rfl⟩))
    (fun os started H enc _ => bur_lifted os started H enc)

end Go.Proofs.Ytllmdgbokmldnaa
