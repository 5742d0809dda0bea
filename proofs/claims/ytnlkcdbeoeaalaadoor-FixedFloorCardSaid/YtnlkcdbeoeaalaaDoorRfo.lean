/-
  Format of the reference, whole.
-/
import Derived.Test.YtnlkcdbeoeaalaaDoorRfm
namespace Go.Proofs.YtnlkcdbeoeaalaaDoor
open Go.RowKit

/-- what the loop over a fraction's digits keeps -/
def FracR (x : Nat) (w : World) (s5 s6 s7 : Value) (wr : World) : Prop := ∃ j : Nat, j ≤ 8 ∧ s7 = .int .i64 (j : Int) ∧ s5 = .int .u64 ((x / 10 ^ j : Nat) : Int) ∧ s6 = .string ⟨(Lib.trimRightB (digs j x) 48).toArray⟩ ∧ Hid (Below w.heap.size w wr)

theorem c48 {d : Nat} (hd : d < 10) : UInt8.ofNat (48 + d) = 48 ↔ d = 0 := by
  constructor
  · intro h
    have := congrArg UInt8.toNat h
    rw [ofNat_dig hd] at this
    simpa using this
  · rintro rfl; rfl

/-- one digit more in front of what is trimmed -/
theorem trim_more (j x : Nat) : Lib.trimRightB (digs (j + 1) x) 48 = if x / 10 ^ j % 10 = 0 ∧ Lib.trimRightB (digs j x) 48 = [] then [] else UInt8.ofNat (48 + x / 10 ^ j % 10) :: Lib.trimRightB (digs j x) 48 := by
  have hd : x / 10 ^ j % 10 < 10 := Nat.mod_lt _ (by decide)
  rw [digs_front, trim_cons]
  by_cases h1 : Lib.trimRightB (digs j x) 48 = []
  · rw [h1]
    by_cases h2 : x / 10 ^ j % 10 = 0
    · rw [if_pos (by rfl), if_pos ((c48 hd).2 h2), if_pos ⟨h2, rfl⟩]
    · rw [if_pos (by rfl), if_neg (fun h => h2 ((c48 hd).1 h)), if_neg (fun h => h2 h.1)]
  · have h3 : (Lib.trimRightB (digs j x) 48).isEmpty = false := by
      cases e : Lib.trimRightB (digs j x) 48 with
      | nil => exact absurd e h1
      | cons _ _ => rfl
    rw [h3, if_neg (by decide), if_neg (fun h => h1 h.2)]

theorem trim_len (l : List UInt8) : (Lib.trimRightB l 48).length ≤ l.length := by
  unfold Lib.trimRightB
  rw [List.length_reverse]
  have := (List.dropWhile_sublist (p := (· == (48 : UInt8))) (l := l.reverse)).length_le
  rwa [List.length_reverse] at this

set_option maxRecDepth 100000 in
set_option maxHeartbeats 4000000 in
theorem rfmt_any (f : Int) (hf : In32 f) (w : World) :
    Calls Tryd.prog 13 #[.int .i32 f] w fun e w' => e = .returned (.string ⟨(fmtP f).toArray⟩) ∧ Below w.heap.size w w' := by
  obtain ⟨a1, a2⟩ := hf
  have M := Lib.hid (rabs_any f (by omega) (by omega) w)
  unfold fmtP
  obtain ⟨n, hn⟩ : ∃ n, f.natAbs = n := ⟨_, rfl⟩
  rw [hn] at M ⊢
  have hn2 : n ≤ 2147483648 := by omega
  clear hn
  have S1 := Lib.hid (rdigits_any (n / 256) (by omega) w)
  have e1 : (n : Int) / 256 = ((n / 256 : Nat) : Int) := by omega
  have e2 : (n : Int) % 256 = ((n % 256 : Nat) : Int) := by omega
  obtain ⟨L, hL⟩ : ∃ L, Lib.decDigits (n / 256) = L := ⟨_, rfl⟩
  rw [hL] at S1 ⊢
  obtain ⟨A, hA⟩ : ∃ A : ByteArray, ⟨L.toArray⟩ = A := ⟨_, rfl⟩
  have hLl : L.length ≤ 20 := by
    rw [← hL, Lib.decDigits_length]
    by_cases h0 : n / 256 = 0
    · rw [h0]; decide +kernel
    · have := Lib.numDigits_eq (n / 256) (by omega) (by omega)
      split at this <;> omega
  have hAs : A.size ≤ 20 := by rw [← hA, Lib.size_mk]; exact hLl
  rw [hA] at S1
  have hk2 : n % 256 < 256 := Nat.mod_lt _ (by decide)
  obtain ⟨q, hq⟩ : ∃ q, n / 256 = q := ⟨_, rfl⟩
  obtain ⟨k, hk⟩ : ∃ q, n % 256 = q := ⟨_, rfl⟩
  rw [hq] at S1 e1
  rw [hk] at e2 hk2 ⊢
  clear hL hq hk hLl
  by_cases hk0 : k = 0
  · subst hk0
    have ez : (((0 : Nat) : Int) != 0) = false := rfl
    have hf0 : fracP 0 = [] := rfl
    rw [hf0, List.append_nil]
    by_cases hsg : f < 0
    · rw [if_pos hsg]
      have hR : (⟨#[45]⟩ : ByteArray) ++ A = ⟨([45] ++ L).toArray⟩ := by rw [← hA]; exact app_mk [45] L
      obtain ⟨R, hRe⟩ : ∃ R : ByteArray, ⟨([45] ++ L).toArray⟩ = R := ⟨_, rfl⟩
      rw [hRe] at hR ⊢
      clear hRe hA
      go_enter Tryd.func13, Tryd.ntmps13
      go_wp2_with fail
      refine M.out.mono ?_
      rintro e w' ⟨rfl, rfl⟩
      go_wp2_with fail
      refine S1.out.mono ?_
      rintro e w1 ⟨rfl, hb⟩
      have K1 := Lib.hid hb
      clear hb
      go_wp2_with fail
      go_ret
      exact ⟨rfl, K1.out⟩
    · rw [if_neg hsg, List.nil_append, hA]
      clear hA
      go_enter Tryd.func13, Tryd.ntmps13
      go_wp2_with fail
      refine M.out.mono ?_
      rintro e w' ⟨rfl, rfl⟩
      go_wp2_with fail
      refine S1.out.mono ?_
      rintro e w1 ⟨rfl, hb⟩
      have K1 := Lib.hid hb
      clear hb
      go_wp2_with fail
      go_ret
      exact ⟨rfl, K1.out⟩
  · have ez : ((k : Int) != 0) = true := by rw [bne_iff_ne]; omega
    have hf0 : fracP k = 46 :: Lib.trimRightB (digs 8 (k * 390625)) 48 := if_neg hk0
    rw [hf0]
    have e3 : (k : Int) * 390625 = ((k * 390625 : Nat) : Int) := by omega
    have hx : k * 390625 < 100000000 := by omega
    obtain ⟨x0, hx0⟩ : ∃ x, k * 390625 = x := ⟨_, rfl⟩
    rw [hx0] at e3 hx ⊢
    have htl := trim_len (digs 8 x0)
    rw [digs_len] at htl
    obtain ⟨ts, hts⟩ : ∃ ts, Lib.trimRightB (digs 8 x0) 48 = ts := ⟨_, rfl⟩
    rw [hts] at htl ⊢
    obtain ⟨C, hC⟩ : ∃ B : ByteArray, ⟨ts.toArray⟩ = B := ⟨_, rfl⟩
    have hCs : C.size ≤ 8 := by rw [← hC, Lib.size_mk]; exact htl
    obtain ⟨A1, hA1⟩ : ∃ B : ByteArray, A ++ (⟨#[46]⟩ : ByteArray) = B := ⟨_, rfl⟩
    have hA1s : A1.size ≤ 21 := by rw [← hA1, ByteArray.size_append]; have : (⟨#[46]⟩ : ByteArray).size = 1 := rfl; omega
    obtain ⟨A2, hA2⟩ : ∃ B : ByteArray, A1 ++ C = B := ⟨_, rfl⟩
    have hA2s : A2.size ≤ 29 := by rw [← hA2, ByteArray.size_append]; omega
    have hA3 : (⟨(L ++ 46 :: ts).toArray⟩ : ByteArray) = A2 := by
      rw [← hA2, ← hA1, ← hC, ← hA, show (⟨#[46]⟩ : ByteArray) = ⟨[46].toArray⟩ from rfl, app_mk, app_mk, List.append_assoc]
      rfl
    have HTS := Lib.hid hts
    have HC := Lib.hid hC
    clear hx0 hts hA htl hC
    have HA1 := Lib.hid hA1
    have HA2 := Lib.hid hA2
    clear hA1 hA2
    go_enter Tryd.func13, Tryd.ntmps13
    go_wp2_with fail
    refine M.out.mono ?_
    rintro e w' ⟨rfl, rfl⟩
    go_wp2_with fail
    refine S1.out.mono ?_
    rintro e w1 ⟨rfl, hb⟩
    have K1 := Lib.hid hb
    clear hb
    go_upto_block 0 with (fail)
    clear e1 e2 e3 ez hf0
    go_cut [6] (fun s6 wx => s6 = .string C ∧ Hid (Below w'.heap.size w' wx))
    case first =>
      go_wp2_with fail
      go_loopw [5, 6, 7] (fun s5 s6 s7 wr => FracR x0 w' s5 s6 s7 wr) (fun _ _ s7 _ => left8 s7)
      case atStart => exact ⟨0, by omega, rfl, int_u64 (by rw [Nat.pow_zero, Nat.div_one]), rfl, K1⟩
      case round =>
        obtain ⟨j, hj, rfl, rfl, rfl, H⟩ := hrel
        by_cases hlt : j < 8
        · have hj' : (j : Int) < 8 := by omega
          have htm := trim_more j x0
          have htl := trim_len (digs j x0)
          rw [digs_len] at htl
          obtain ⟨x, hx'⟩ : ∃ x, x0 / 10 ^ j = x := ⟨_, rfl⟩
          have hxn : x ≤ x0 := by rw [← hx']; exact Nat.div_le_self _ _
          have hy : x0 / 10 ^ (j + 1) = x / 10 := by rw [← hx', Nat.div_div_eq_div_mul, Nat.pow_succ]
          rw [hx'] at htm ⊢
          have e4 : (x : Int) % 10 = ((x % 10 : Nat) : Int) := by omega
          have e5 : (x : Int) / 10 = ((x / 10 : Nat) : Int) := by omega
          have hd : x % 10 < 10 := by omega
          have hyl : x / 10 ≤ x := Nat.div_le_self _ _
          obtain ⟨d, hd'⟩ : ∃ d, x % 10 = d := ⟨_, rfl⟩
          obtain ⟨y, hy'⟩ : ∃ d, x / 10 = d := ⟨_, rfl⟩
          rw [hd'] at e4 hd htm
          rw [hy'] at e5 hy hyl
          obtain ⟨c, hc⟩ : ∃ c, UInt8.ofNat (48 + d) = c := ⟨_, rfl⟩
          have hcv := conv_one wr c (48 + (d : Int)) (by rw [← hc, ofNat_dig hd]; omega)
          rw [hc] at htm
          have e6 : IntKind.u64.wrap (y : Int) = (y : Int) := wrap_nat (by omega)
          obtain ⟨t, ht⟩ : ∃ t, Lib.trimRightB (digs j x0) 48 = t := ⟨_, rfl⟩
          rw [ht] at htm htl ⊢
          obtain ⟨B, hB⟩ : ∃ A : ByteArray, ⟨t.toArray⟩ = A := ⟨_, rfl⟩
          have hBs : B.size ≤ 8 := by rw [← hB, Lib.size_mk]; omega
          have hBl : B.toList = t := by rw [toList_data, ← hB]
          have HBE := Lib.hid hB
          obtain ⟨B2, hB2⟩ : ∃ A : ByteArray, (⟨#[c]⟩ : ByteArray) ++ B = A := ⟨_, rfl⟩
          have HB2 := Lib.hid hB2
          have hBf : t = [] → B = ⟨#[]⟩ := fun h => by rw [← hB, h]
          rw [hB]
          have HY := Lib.hid hy
          have HTM := Lib.hid htm
          have hB3 : (⟨(c :: t).toArray⟩ : ByteArray) = B2 := by rw [← hB2, ← hB]; exact (app_mk [c] t).symm
          have HB3 := Lib.hid hB3
          have HBL := Lib.hid hBl
          have HBF := Lib.hid hBf
          clear hd' hy' hc hx' ht hB hy htm htl hB3 hBl hxn hBf
          by_cases h0 : d = 0
          · have k0 : ((d : Int) != 0) = false := by rw [bne_eq_false_iff_eq]; omega
            by_cases h1 : t = []
            · have k1 : B.toList = [] := by rw [HBL.out, h1]
              have HF := Lib.hid (show Lib.trimRightB (digs (j + 1) x0) 48 = t by rw [HTM.out, if_pos ⟨h0, h1⟩, h1])
              have HBN := Lib.hid (HBF.out h1)
              clear h0 h1
              go_wp2_with fail
              exact ⟨⟨j + 1, by omega, rfl, int_u64 (by rw [HY.out]), by rw [HF.out, HBE.out], H⟩, left8_lt hlt rfl⟩
            · have k1 : (!B.toList.isEmpty) = true := by
                rw [HBL.out]
                cases t with
                | nil => exact absurd rfl h1
                | cons _ _ => rfl
              have k2 : ¬ B.toList = [] := by rw [HBL.out]; exact h1
              have HF := Lib.hid (show Lib.trimRightB (digs (j + 1) x0) 48 = c :: t by rw [HTM.out, if_neg (fun h => h1 h.2)])
              clear h0 h1
              go_wp2_with fail
              exact ⟨⟨j + 1, by omega, rfl, int_u64 (by rw [HY.out]), by rw [HF.out, HB3.out], Lib.hid (H.out.alloc H.out.size _)⟩, left8_lt hlt rfl⟩
          · have k0 : ((d : Int) != 0) = true := by rw [bne_iff_ne]; omega
            have HF := Lib.hid (show Lib.trimRightB (digs (j + 1) x0) 48 = c :: t by rw [HTM.out, if_neg (fun h => h0 h.1)])
            clear h0
            go_wp2_with fail
            exact ⟨⟨j + 1, by omega, rfl, int_u64 (by rw [HY.out]), by rw [HF.out, HB3.out], Lib.hid (H.out.alloc H.out.size _)⟩, left8_lt hlt rfl⟩
        · obtain rfl : j = 8 := by omega
          have c1 : ¬ ((8 : Nat) : Int) < 8 := by omega
          go_wp2_with fail
          go_meet
          exact ⟨by rw [HTS.out, HC.out], H⟩
    case rest =>
      obtain ⟨rfl, K2⟩ := hcut
      have hA1 := HA1.out
      have hA2 := HA2.out
      by_cases hsg : f < 0
      · have hR : (⟨#[45]⟩ : ByteArray) ++ A2 = ⟨([45] ++ (L ++ 46 :: ts)).toArray⟩ := by rw [← hA3]; exact app_mk [45] _
        clear hA3
        go_wp2_with fail
        go_ret
        exact ⟨rfl, K2.out⟩
      · go_wp2_with fail
        go_ret
        exact ⟨by first | rfl | (rw [hA3]; rfl) | (rw [← hA3]; rfl), K2.out⟩
end Go.Proofs.YtnlkcdbeoeaalaaDoor
