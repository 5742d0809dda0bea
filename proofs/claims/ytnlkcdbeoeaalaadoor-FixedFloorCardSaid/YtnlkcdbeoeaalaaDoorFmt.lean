/-
  FormatUint at base 10, and Format of the program.
-/
import Derived.Test.YtnlkcdbeoeaalaaDoorCut
import Derived.Lib.ItoaMem
import Derived.Lib.SmallJoins
namespace Go.Proofs.YtnlkcdbeoeaalaaDoor
open Go.RowKit Go.Lib Go.Sort

/-- the table of the powers of ten is laid -/
def Tab (w : World) : Prop := Lib.TabIs Tryd.prog w "internal/strconv.uint64pow10" .u64 Lib.pow10Tab

theorem gTab : Tryd.prog.globalNamed "internal/strconv.uint64pow10" = some 2 := by kernel_rfl

theorem Tab.below {w w' : World} (h : Tab w) (hb : Below w.heap.size w w') : Tab w' := Go.Joins.tab_stays gTab h hb (Nat.le_refl _)

theorem holds_zero0 (w : World) (T : TypeId) (nd : Nat) (hs : nd ≤ 24) : Holds (fun (b : UInt8) => Value.int .u8 (b.toNat : Int)) (w.alloc (.cells Lib.zeros24 T)) w.heap.size 0 (Array.replicate nd (0 : UInt8)) := fun j hj => by
  have hj' : j < nd := by simpa using hj
  refine ⟨?_, World.frozen?_alloc_new _ _ _ _⟩
  rw [World.cell?_alloc_new, Lib.zeros24_at _ (by omega), getElem!_pos _ j hj]
  simp

theorem put_below (w : World) (o : Obj) (dk : Array UInt8) (k : Nat) : Below w.heap.size w ((putRow (fun (b : UInt8) => Value.int .u8 (b.toNat : Int)) (w.alloc o) w.heap.size 0 dk).drewN k) := by
  refine below_draws ?_ k
  rw [alloc_eq_grow]
  obtain ⟨os', _, e⟩ := putRow_grow_new (fun (b : UInt8) => Value.int .u8 (b.toNat : Int)) w #[o] w.heap.size 0 dk (Nat.le_refl _)
  rw [e]
  exact ⟨rfl, rfl, rfl, by simp [grow], fun i hi => by simp [grow, Array.getElem?_append_left hi]⟩

set_option maxHeartbeats 6400000 in
set_option maxRecDepth 100000 in
theorem iuint_any (n : Nat) (hn : n < 18446744073709551616) (w : World) (htab : Tab w) :
    Calls Tryd.prog 45 #[.int .u64 n, .int .i64 10] w fun e w' => e = .returned (.string ⟨(decDigits n).toArray⟩) ∧ Below w.heap.size w w' := by
  by_cases hs : n < 100
  · have hi : (n : Int) < 100 := by omega
    have C := Lib.hid (Tryd.internal_strconv_small n hs w)
    go_enter Tryd.func45, Tryd.ntmps45
    go_wp2_with fail
    refine C.out.mono ?_
    rintro e w' ⟨rfl, rfl⟩
    go_wp2_with fail
    go_ret
    exact ⟨rfl, Below.refl _ _⟩
  · have hi : ¬ (n : Int) < 100 := by omega
    have hnd20 : Lib.nDigits n ≤ 20 := by have := Lib.numDigits_eq n (by omega) hn; split at this <;> omega
    have C := Lib.hid (Tryd.internal_strconv_numDigits n (by omega) hn (w.alloc (.cells Lib.zeros24 82)) (Lib.tabIs_alloc htab _))
    have hH0 := holds_zero0 w 82 (Lib.nDigits n) (by omega)
    have hfmt := Tryd.internal_strconv_formatBase10 w.heap.size 0 24 n (Array.replicate (Lib.nDigits n) 0) (w.alloc (.cells Lib.zeros24 82)) hH0 (by rw [Array.size_replicate]; exact Lib.lt_pow_nDigits n) hn (by rw [Array.size_replicate]; omega)
    rw [Array.size_replicate] at hfmt
    have HH0 := Lib.hid hH0
    have HF := Lib.hid hfmt
    have hal : Tryd.prog.arrayLen 82 = 24 := by kernel_rfl
    have hsl : ∀ W, (Instr.sliceAt 82 (.pointer (some ⟨w.heap.size, 0, none⟩)) none (some (.int .i64 (Lib.nDigits n : Int))) none).run Tryd.prog W = .ok (.slice (some ⟨w.heap.size, 0, none⟩) (Lib.nDigits n) 24) W := fun W => by
      rw [run_sliceAt_array_h W 82 ⟨w.heap.size, 0, none⟩ (by kernel_rfl) .i64 (Lib.nDigits n : Int) (by omega) (by rw [hal]; omega)]
      go_simp
    clear hH0 hal hfmt
    go_enter Tryd.func45, Tryd.ntmps45
    go_wp2_with fail
    refine C.out.mono ?_
    rintro e w' ⟨rfl, rfl⟩
    go_wp2_with fail
    refine HF.out.mono ?_
    rintro e w' ⟨rfl, k, v', dk, rfl, hF⟩
    have hcv : (convert 55 9 (.slice (some ⟨w.heap.size, 0, none⟩) (Lib.nDigits n) 24)).run Tryd.prog ((putRow (fun (b : UInt8) => Value.int .u8 (b.toNat : Int)) (w.alloc (.cells Lib.zeros24 82)) w.heap.size 0 dk).drewN k) = .ok (.string ⟨(Lib.decDigits n).toArray⟩) ((putRow (fun (b : UInt8) => Value.int .u8 (b.toNat : Int)) (w.alloc (.cells Lib.zeros24 82)) w.heap.size 0 dk).drewN k) := by
      have h := run_convert_bytes_back (P := Tryd.prog) ((putRow (fun (b : UInt8) => Value.int .u8 (b.toNat : Int)) (w.alloc (.cells Lib.zeros24 82)) w.heap.size 0 dk).drewN k) 55 9 5 ⟨w.heap.size, 0, none⟩ 24 (Lib.decDigits n) Tryd.underlying55 Tryd.underlying5 Tryd.underlying9 (fun j hj => by
        rw [Lib.row_is_numeral hF j hj, Lib.add_plain, World.cell?_drewN]
        exact cell?_putRow (fun (b : UInt8) => Value.int .u8 (b.toNat : Int)) _ w.heap.size 0 _ dk HH0.out (by rw [hF.size, Array.size_replicate]) j (by rw [hF.size]; rw [Lib.decDigits_length] at hj; exact hj))
      rw [Lib.decDigits_length] at h
      exact h
    have K := Lib.hid (put_below w (.cells Lib.zeros24 82) dk k)
    go_wp2_with fail
    go_ret
    exact ⟨rfl, K.out⟩

theorem suint_any (n : Nat) (hn : n < 18446744073709551616) (w : World) (htab : Tab w) :
    Calls Tryd.prog 29 #[.int .u64 n, .int .i64 10] w fun e w' => e = .returned (.string ⟨(decDigits n).toArray⟩) ∧ Below w.heap.size w w' := by
  have CC := Lib.hid (iuint_any n hn w htab)
  go_enter Tryd.func29, Tryd.ntmps29
  go_wp2_with fail
  refine CC.out.mono ?_
  rintro e w' ⟨rfl, hb⟩
  have K := Lib.hid hb
  clear hb
  go_wp2_with fail
  go_ret
  exact ⟨rfl, K.out⟩

theorem app_mk (l m : List UInt8) : (⟨l.toArray⟩ : ByteArray) ++ ⟨m.toArray⟩ = ⟨(l ++ m).toArray⟩ := by
  rw [show (⟨(l ++ m).toArray⟩ : ByteArray) = ⟨l.toArray ++ m.toArray⟩ by simp]
  first | rfl | (apply ByteArray.ext; simp)

set_option maxHeartbeats 4000000 in
theorem fmt_any (f : Int) (hf : In32 f) (w : World) (htab : Tab w) :
    Calls Tryd.prog 11 #[.int .i32 f] w fun e w' => e = .returned (.string ⟨(fmtP f).toArray⟩) ∧ Below w.heap.size w w' := by
  obtain ⟨a1, a2⟩ := hf
  have M := Lib.hid (mag_any f (by omega) (by omega) w)
  unfold fmtP
  obtain ⟨n, hn⟩ : ∃ n, f.natAbs = n := ⟨_, rfl⟩
  rw [hn] at M ⊢
  have hn2 : n ≤ 2147483648 := by omega
  clear hn
  have S1 := Lib.hid (suint_any (n / 256) (by omega) w htab)
  have HT := Lib.hid htab
  clear htab
  have e1 : (n : Int) / 256 = ((n / 256 : Nat) : Int) := by omega
  have e2 : (n : Int) % 256 = ((n % 256 : Nat) : Int) := by omega
  obtain ⟨L, hL⟩ : ∃ L, decDigits (n / 256) = L := ⟨_, rfl⟩
  rw [hL] at S1 ⊢
  obtain ⟨A, hA⟩ : ∃ A : ByteArray, ⟨L.toArray⟩ = A := ⟨_, rfl⟩
  have hLl : L.length ≤ 20 := by
    rw [← hL, Lib.decDigits_length]
    by_cases h0 : n / 256 = 0
    · rw [h0]; decide +kernel
    · have := Lib.numDigits_eq (n / 256) (by omega) (by omega)
      split at this <;> omega
  have hAs : A.size ≤ 20 := by rw [← hA, Lib.size_mk]; exact hLl
  rw [hA] at S1
  have hk2 : n % 256 < 256 := Nat.mod_lt _ (by decide)
  obtain ⟨q, hq⟩ : ∃ q, n / 256 = q := ⟨_, rfl⟩
  obtain ⟨k, hk⟩ : ∃ q, n % 256 = q := ⟨_, rfl⟩
  rw [hq] at S1 e1
  rw [hk] at e2 hk2 ⊢
  clear hL hq hk
  by_cases hk0 : k = 0
  · subst hk0
    have ez : (((0 : Nat) : Int) != 0) = false := rfl
    have hf0 : fracP 0 = [] := rfl
    rw [hf0, List.append_nil]
    by_cases hsg : f < 0
    · rw [if_pos hsg]
      have hR : (⟨#[45]⟩ : ByteArray) ++ A = ⟨([45] ++ L).toArray⟩ := by rw [← hA]; exact app_mk [45] L
      obtain ⟨R, hRe⟩ : ∃ R : ByteArray, ⟨([45] ++ L).toArray⟩ = R := ⟨_, rfl⟩
      rw [hRe] at hR ⊢
      clear hRe hA
      go_enter Tryd.func11, Tryd.ntmps11
      go_wp2_with fail
      refine M.out.mono ?_
      rintro e w' ⟨rfl, rfl⟩
      go_wp2_with fail
      refine S1.out.mono ?_
      rintro e w1 ⟨rfl, hb⟩
      have K1 := Lib.hid hb
      clear hb
      go_wp2_with fail
      go_ret
      exact ⟨rfl, K1.out⟩
    · rw [if_neg hsg, List.nil_append, hA]
      clear hA
      go_enter Tryd.func11, Tryd.ntmps11
      go_wp2_with fail
      refine M.out.mono ?_
      rintro e w' ⟨rfl, rfl⟩
      go_wp2_with fail
      refine S1.out.mono ?_
      rintro e w1 ⟨rfl, hb⟩
      have K1 := Lib.hid hb
      clear hb
      go_wp2_with fail
      go_ret
      exact ⟨rfl, K1.out⟩
  · have ez : ((k : Int) != 0) = true := by rw [bne_iff_ne]; omega
    have hf0 : fracP k = 46 :: Lib.trimRightB (digs 8 (k * 390625)) 48 := if_neg hk0
    rw [hf0]
    have hTl := (frac_facts (frac_ok hk0 hk2).1).2.2.1
    have hdd := dec_one 8 (k * 390625) (by have : (10 : Nat) ^ 8 = 100000000 := by decide
                                           omega)
    have e3 : (100000000 : Int) + (k : Int) * 390625 = ((10 ^ 8 + k * 390625 : Nat) : Int) := by
      have : (10 : Nat) ^ 8 = 100000000 := by decide
      omega
    have hx2 : 10 ^ 8 + k * 390625 < 18446744073709551616 := by
      have : (10 : Nat) ^ 8 = 100000000 := by decide
      omega
    have S2 : Hid (∀ W, Tab W → Calls Tryd.prog 29 #[.int .u64 ((10 ^ 8 + k * 390625 : Nat) : Int), .int .i64 10] W fun e w' => e = .returned (.string ⟨(49 :: digs 8 (k * 390625)).toArray⟩) ∧ Below W.heap.size W w') := Lib.hid (fun W hW => by rw [← hdd]; exact suint_any _ hx2 W hW)
    have hsz : (⟨(49 :: digs 8 (k * 390625)).toArray⟩ : ByteArray).size = 9 := by rw [Lib.size_mk, List.length_cons, digs_len]
    have hex : (⟨(49 :: digs 8 (k * 390625)).toArray⟩ : ByteArray).extract 1 9 = ⟨(digs 8 (k * 390625)).toArray⟩ := by
      rw [Lib.extract_mk, List.drop_one, List.tail_cons, List.take_of_length_le (by rw [digs_len]; decide)]
    have hsz2 : (⟨(digs 8 (k * 390625)).toArray⟩ : ByteArray).size ≤ 9223372036854775807 := by rw [Lib.size_mk, digs_len]; decide
    have TR := fun W => Lib.hid (Tryd.strings_TrimRight_one ⟨(digs 8 (k * 390625)).toArray⟩ 48 (by decide) W hsz2)
    simp only at TR
    obtain ⟨x, hx⟩ : ∃ x, 10 ^ 8 + k * 390625 = x := ⟨_, rfl⟩
    obtain ⟨ds, hds⟩ : ∃ ds, digs 8 (k * 390625) = ds := ⟨_, rfl⟩
    obtain ⟨ts, hts⟩ : ∃ ts, Lib.trimRightB ds 48 = ts := ⟨_, rfl⟩
    rw [hds] at S2 hsz hex TR ⊢
    rw [hts] at TR ⊢
    rw [hds, hts] at hTl
    rw [hx] at S2 e3
    obtain ⟨B, hB⟩ : ∃ B : ByteArray, ⟨(49 :: ds).toArray⟩ = B := ⟨_, rfl⟩
    obtain ⟨B2, hB2⟩ : ∃ B : ByteArray, ⟨ds.toArray⟩ = B := ⟨_, rfl⟩
    obtain ⟨C, hC⟩ : ∃ B : ByteArray, ⟨ts.toArray⟩ = B := ⟨_, rfl⟩
    obtain ⟨C2, hC2⟩ : ∃ B : ByteArray, (⟨#[46]⟩ : ByteArray) ++ C = B := ⟨_, rfl⟩
    rw [hB] at S2 hsz hex
    rw [hB2] at hex TR
    have hCs : C.size ≤ 8 := by rw [← hC, Lib.size_mk]; exact hTl
    have hC2s : C2.size ≤ 9 := by rw [← hC2, ByteArray.size_append]; have : (⟨#[46]⟩ : ByteArray).size = 1 := rfl; omega
    rw [hC] at TR
    have hC3 : (⟨(46 :: ts).toArray⟩ : ByteArray) = C2 := by rw [← hC2, ← hC]; exact (app_mk [46] ts).symm
    clear hdd hx hds hts hB hB2 hC hsz2
    have hs9 : (B.size : Int) = 9 := by omega
    by_cases hsg : f < 0
    · rw [if_pos hsg]
      obtain ⟨R1, hR1⟩ : ∃ R : ByteArray, (⟨#[45]⟩ : ByteArray) ++ A = R := ⟨_, rfl⟩
      have hR1s : R1.size ≤ 21 := by rw [← hR1, ByteArray.size_append]; have : (⟨#[45]⟩ : ByteArray).size = 1 := rfl; omega
      have hR2 : R1 ++ C2 = ⟨([45] ++ (L ++ 46 :: ts)).toArray⟩ := by
        rw [← hR1, ← hA, ← hC3, show (⟨#[45]⟩ : ByteArray) = ⟨[45].toArray⟩ from rfl, app_mk, app_mk, List.append_assoc]
      obtain ⟨R, hRe⟩ : ∃ R : ByteArray, ⟨([45] ++ (L ++ 46 :: ts)).toArray⟩ = R := ⟨_, rfl⟩
      rw [hRe] at hR2 ⊢
      clear hRe hA hC3
      go_enter Tryd.func11, Tryd.ntmps11
      go_wp2_with fail
      refine M.out.mono ?_
      rintro e w' ⟨rfl, rfl⟩
      go_wp2_with fail
      refine S1.out.mono ?_
      rintro e w1 ⟨rfl, hb⟩
      have K1 := Lib.hid hb
      clear hb
      go_wp2_with fail
      refine (S2.out _ (HT.out.below K1.out)).mono ?_
      rintro e w2 ⟨rfl, hb⟩
      have K2 := Lib.hid (Below.next K1.out hb)
      clear hb
      go_wp2_with fail
      refine (TR _).out.mono ?_
      rintro e w3 ⟨rfl, rfl⟩
      go_wp2_with fail
      go_ret
      exact ⟨rfl, K2.out⟩
    · rw [if_neg hsg, List.nil_append]
      have hR2 : A ++ C2 = ⟨(L ++ 46 :: ts).toArray⟩ := by
        rw [← hA, ← hC3, app_mk]
      obtain ⟨R, hRe⟩ : ∃ R : ByteArray, ⟨(L ++ 46 :: ts).toArray⟩ = R := ⟨_, rfl⟩
      rw [hRe] at hR2 ⊢
      clear hRe hA hC3
      go_enter Tryd.func11, Tryd.ntmps11
      go_wp2_with fail
      refine M.out.mono ?_
      rintro e w' ⟨rfl, rfl⟩
      go_wp2_with fail
      refine S1.out.mono ?_
      rintro e w1 ⟨rfl, hb⟩
      have K1 := Lib.hid hb
      clear hb
      go_wp2_with fail
      refine (S2.out _ (HT.out.below K1.out)).mono ?_
      rintro e w2 ⟨rfl, hb⟩
      have K2 := Lib.hid (Below.next K1.out hb)
      clear hb
      go_wp2_with fail
      refine (TR _).out.mono ?_
      rintro e w3 ⟨rfl, rfl⟩
      go_wp2_with fail
      go_ret
      exact ⟨rfl, K2.out⟩

end Go.Proofs.YtnlkcdbeoeaalaaDoor
