/-
  ChecksumConcat: for all pairs of byte slices, the checksums of a concatenation are those of the first part updated by the second, and CombineAdler32 agrees (asked of at most 1,000 bytes each): the law returns true and leaves its arguments as they were. No condition.
-/
import Derived.Test.YtllmdgbokmldnaaOpen
import Derived.Test.YtllmdgbokmldnaaComb
namespace Go.Proofs.Ytllmdgbokmldnaa
open Go.ChangeShapes Go.WideShapes Go.ChangeAt Go.RowKit Mem Crc Adler

theorem crc_cat (p : Nat) (xs bs : List UInt8) : crcu p 0 (xs ++ bs) = crcu p (crcu p 0 xs) bs := by
  unfold crcu
  rw [updr_append, xor_self_left]

theorem adl_parts (s : Nat) (bs : List UInt8) : p1 (adlu s bs) = low 65521 (p1 s) bs ∧ p2 (adlu s bs) = high 65521 (p1 s) (p2 s) bs := by
  have h1 := low_lt 65521 (p1 s) bs (by decide)
  have h2 := high_lt 65521 (p1 s) (p2 s) bs (by decide)
  exact ⟨p1_both h1, p2_both h1 h2⟩

theorem adl_cat (s : Nat) (xs bs : List UInt8) : adlu s (xs ++ bs) = adlu (adlu s xs) bs := by
  obtain ⟨h1, h2⟩ := adl_parts s xs
  unfold adlu at *
  rw [h1, h2, ← low_append, ← high_append]

theorem adl_comb (xs bs : List UInt8) : adlu 1 (xs ++ bs) = comb (adlu 1 xs) (adlu 1 bs) bs.length := by
  rw [adl_cat]
  obtain ⟨h1, h2⟩ := adl_parts 1 bs
  have e1 : p1 1 = 1 := rfl
  have e2 : p2 1 = 0 := rfl
  rw [e1] at h1 h2
  rw [e2] at h2
  generalize adlu 1 xs = a
  unfold comb
  rw [h1, h2, low_join 65521 65520 rfl, high_join 65521 65520 rfl]
  rfl

theorem adl_lt (s : Nat) (bs : List UInt8) : adlu s bs < 4294967296 := both_lt (low_lt _ _ _ (by decide)) (high_lt _ _ _ _ (by decide))

theorem cnt_nat (n : Nat) : cnt (n : Int) = n := by unfold cnt; omega

set_option maxHeartbeats 2000000 in
theorem cat_walk {w : World} {A A' : Option Addr} {n c n' c' : Nat} {xs bs : List UInt8} (ha : Sees w (.slice A n c) xs) (hb : Sees w (.slice A' n' c') bs) : Calls Try.prog 6 #[.slice A n c, .slice A' n' c'] w (Says true w) := by
  obtain ⟨p, hp⟩ := poly
  have hn1 : n ≤ 9223372036854775807 ∧ n = xs.length := by
    obtain ⟨_, _, hv, h1, h2⟩ := ha.shape
    injection hv with _ e2 e3
    simp only [maxLen] at h2
    omega
  have hn2 : n' ≤ 9223372036854775807 ∧ n' = bs.length := by
    obtain ⟨_, _, hv, h1, h2⟩ := hb.shape
    injection hv with _ e2 e3
    simp only [maxLen] at h2
    omega
  obtain ⟨hm1, hl1⟩ := hn1
  obtain ⟨hm2, hl2⟩ := hn2
  have HL1 := Lib.hid hl1
  have HL2 := Lib.hid hl2
  clear hl1 hl2
  by_cases hbig : 1000 < n
  · clear ha hb
    go_enter Try.func6, Try.ntmps6
    go_wp2_with fail
    refine (example_any w).mono ?_
    rintro e w2 ⟨rfl, hx⟩
    go_wp2_with fail
    go_ret
    exact ⟨rfl, hx⟩
  · by_cases hbig2 : 1000 < n'
    · clear ha hb
      go_enter Try.func6, Try.ntmps6
      go_wp2_with fail
      refine (example_any w).mono ?_
      rintro e w2 ⟨rfl, hx⟩
      go_wp2_with fail
      go_ret
      exact ⟨rfl, hx⟩
    · have J := Lib.hid (joined_any ha hb (by rw [← HL1.out, ← HL2.out]; omega))
      have X1 : Hid (∀ W, Below w.heap.size w W → Calls Try.prog 19 #[.slice A n c] W (Only W (adlu 1 xs))) := fun W hW => adl_any (ha.below hW)
      have X2 : Hid (∀ W, Below w.heap.size w W → Calls Try.prog 19 #[.slice A' n' c'] W (Only W (adlu 1 bs))) := fun W hW => adl_any (hb.below hW)
      have Y1 : Hid (∀ W, Below w.heap.size w W → Calls Try.prog 15 #[.slice A n c] W (Gives W (crcu p 0 xs))) := fun W hW => crc_any hp (ha.below hW)
      have Y2 : Hid (∀ W, Below w.heap.size w W → Calls Try.prog 13 #[.int .u32 ((crcu p 0 xs : Nat) : Int), .slice A' n' c'] W (Gives W (crcu p 0 (xs ++ bs)))) := fun W hW => by
        rw [crc_cat]
        exact upd_any hp _ (crcu_lt hp 0 xs (by decide)) (hb.below hW)
      have Z1 : Hid (∀ W, Below w.heap.size w W → Calls Try.prog 17 #[.int .u32 ((adlu 1 xs : Nat) : Int), .slice A' n' c'] W (Only W (adlu 1 (xs ++ bs)))) := fun W hW => by
        rw [adl_cat]
        exact adu_any _ (adl_lt _ _) (hb.below hW)
      have Z2 : Hid (∀ W, Calls Try.prog 21 #[.int .u32 ((adlu 1 xs : Nat) : Int), .int .u32 ((adlu 1 bs : Nat) : Int), .int .i64 (n' : Int)] W (Only W (adlu 1 (xs ++ bs)))) := fun W => by
        have h := comb_any (adlu 1 xs) (adlu 1 bs) (adl_lt _ _) (adl_lt _ _) (n' : Int) (by omega) (by omega) W
        rw [cnt_nat, HL2.out, ← adl_comb, ← HL2.out] at h
        exact h
      have C1 : Hid (∀ W v, Sees W v (xs ++ bs) → ∃ A c, v = .slice A (n + n') c ∧ Calls Try.prog 15 #[.slice A (n + n') c] W (Gives W (crcu p 0 (xs ++ bs)))) := fun W v hv => by
        obtain ⟨A, c, rfl, _, _⟩ := hv.shape
        have h := crc_any hp hv
        rw [List.length_append, ← HL1.out, ← HL2.out] at h ⊢
        exact ⟨A, c, rfl, h⟩
      have C2 : Hid (∀ W A c, Sees W (.slice A (n + n') c) (xs ++ bs) → Calls Try.prog 19 #[.slice A (n + n') c] W (Only W (adlu 1 (xs ++ bs)))) := fun W A c hv => adl_any hv
      clear ha hb
      generalize adlu 1 (xs ++ bs) = za at *
      generalize crcu p 0 (xs ++ bs) = zc at *
      generalize adlu 1 xs = a1 at *
      generalize adlu 1 bs = a2 at *
      generalize crcu p 0 xs = c1 at *
      go_enter Try.func6, Try.ntmps6
      go_wp2_with fail
      refine J.out.mono ?_
      rintro e w1 ⟨v1, rfl, ho1, hb1⟩
      have HS1 := Lib.hid ho1.sees
      obtain ⟨B, k, rfl, hC1⟩ := C1.out _ _ ho1.sees
      have HC1 := Lib.hid hC1
      clear ho1 hC1
      go_wp2_with fail
      refine (X1.out w1 hb1).mono ?_
      rintro e w2 ⟨rfl, rfl⟩
      go_wp2_with fail
      refine (X2.out w1 hb1).mono ?_
      rintro e w2 ⟨rfl, rfl⟩
      go_wp2_with fail
      refine HC1.out.mono ?_
      rintro e w2 ⟨rfl, hb2⟩
      have HS2 := Lib.hid (HS1.out.below hb2)
      have hb12 : Below w.heap.size w w2 := hb1.trans (hb2.mono hb1.size)
      clear hb2 HC1
      go_wp2_with fail
      refine (Y1.out w2 hb12).mono ?_
      rintro e w3 ⟨rfl, hb3⟩
      have HS3 := Lib.hid (HS2.out.below hb3)
      have hb13 : Below w.heap.size w w3 := hb12.trans (hb3.mono hb12.size)
      clear hb3
      go_wp2_with fail
      refine (Y2.out w3 hb13).mono ?_
      rintro e w4 ⟨rfl, hb4⟩
      have HS4 := Lib.hid (HS3.out.below hb4)
      have hb14 : Below w.heap.size w w4 := hb13.trans (hb4.mono hb13.size)
      clear hb4 hb12 hb13
      go_wp2_with fail
      refine (C2.out w4 _ _ HS4.out).mono ?_
      rintro e w5 ⟨rfl, rfl⟩
      go_wp2_with fail
      refine (Z1.out w4 hb14).mono ?_
      rintro e w5 ⟨rfl, rfl⟩
      go_wp2_with fail
      refine (C2.out w4 _ _ HS4.out).mono ?_
      rintro e w5 ⟨rfl, rfl⟩
      go_wp2_with fail
      refine (Z2.out w4).mono ?_
      rintro e w5 ⟨rfl, rfl⟩
      go_wp2_with fail
      refine (example_any w4).mono ?_
      rintro e w5 ⟨rfl, hx⟩
      go_wp2_with fail
      go_ret
      exact ⟨rfl, hb14.trans (hx.mono hb14.size)⟩

set_option maxRecDepth 100000 in
theorem cat_lifted (os : Os) (started : os.Started) (H : Type) (enc : TypeId × Value → H) :
    ReturnsInHanded {} Try.checked os 6 .any (Rows.checksumConcatSpec.pre6 enc Try.prog Try.f6 Rows.checksumConcatRow.domain false) (Rows.checksumConcatSpec.post enc Try.prog Try.f6 false true false false) := by
  refine returnsInHanded_of_change (C := Try.checked) own started (by kernel_rfl) Try.func6
    (ChangeSpec.witness6 (enc := enc) (C := Try.checked) false ⟨#[], #[.slice none 0 0, .slice none 0 0], []⟩ 8 (by kernel_rfl) (by kernel_rfl) (by kernel_rfl) (by kernel_rfl)) ?_
  intro W base args ds gs before hval0 hW _ _
  have hval : ∀ (j : Nat) t v, Try.f6.params[j]? = some t → args[j]? = some v → Value.okWide Try.prog W .any base t v := hval0
  have hW' := hW
  obtain ⟨p, q, hA0, hV, rfl, _, _⟩ := hW
  have hA : DataW.TrodAll enc Try.prog W 0 (fun _ => true) true Try.f6.params.toList args.toList ds p := hA0
  rw [Try.params6] at hA hval
  obtain ⟨v0, vs0, d0, ds0, p0, q0, hargs, rfl, rfl, h0, r0⟩ := trodAll_cons hA
  obtain ⟨v1, vs1, d1, ds1, p1, q1, rfl, rfl, rfl, h1, r1⟩ := trodAll_cons r0
  obtain ⟨rfl, rfl, rfl⟩ := trodAll_nil r1
  obtain rfl : args = #[v0, v1] := by cases args; simp_all
  obtain ⟨rfl, rfl⟩ := trodVars_none hV
  clear hA0 hval0
  simp only [List.append_nil] at hW'
  have hlt0 : ∀ x ∈ p0, x.block < W.heap.size := fun x hx => hW'.lt x (by simp [hx])
  have k0 := h0
  have hlt1 : ∀ x ∈ p1, x.block < W.heap.size := fun x hx => hW'.lt x (by simp [hx])
  have k1 := h1
  obtain ⟨A0, n0, c0, rfl⟩ := okWide_slice Try.underlying23 (hval 0 23 v0 rfl rfl)
  obtain ⟨fuel0, hf0⟩ := h0
  obtain ⟨bs0, hs0⟩ := open_bytes (by simpa [Value.cells] using hf0)
  obtain ⟨A1, n1, c1, rfl⟩ := okWide_slice Try.underlying23 (hval 1 23 v1 rfl rfl)
  obtain ⟨fuel1, hf1⟩ := h1
  obtain ⟨bs1, hs1⟩ := open_bytes (by simpa [Value.cells] using hf1)
  refine (cat_walk hs0 hs1).mono fun e W' ⟨he, hg⟩ => ?_
  subst he
  exact ⟨_, rfl, _, _, _, [], _, [], hW', trodAll_cons_mk (shut_bool Try.underlying4 _) trodAll_mk0,
    (trodAll_cons_mk (Below.trod laidOut (by kernel_rfl) (of_decide_eq_true (by kernel_rfl)) k0 hg hlt0) (trodAll_cons_mk (Below.trod laidOut (by kernel_rfl) (of_decide_eq_true (by kernel_rfl)) k1 hg hlt1) trodAll_mk0)), rfl, hg.frame _, fun h => by cases h⟩

theorem cat_holds : Rows.ChecksumConcatSaid :=
  OpenClaim.holds_of_wide 6 Try.f6 rfl rfl rfl rfl rfl rfl rfl ⟨rfl, rfl, rfl, rfl, rfl⟩ rfl rfl rfl rfl rfl (by kernel_rfl) Try.func6 (by kernel_rfl)
    (of_decide_eq_true (by kernel_rfl)) (by unfold Func.isWrapper; first | (rw [if_pos (by decide +kernel)]; kernel_rfl) | (rw [if_neg (by decide +kernel)]; exact ⟨rfl, rfl⟩))
    (fun os started H enc _ => cat_lifted os started H enc)

end Go.Proofs.Ytllmdgbokmldnaa
