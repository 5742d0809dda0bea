/-
  The reference's reader, on: String.
-/
import Derived.Test.YtealpmcpaakclaaRarr
namespace Go.Proofs.Ytealpmcpaakclaa
open Go.RowKit Mem Wire

theorem mem_zero {bs : List UInt8} {j : Nat} (hj : j < bs.length) (h : bs.getD j 0 = 0) : (0 : UInt8) ∈ bs := by
  rw [List.getD_eq_getElem?_getD, List.getElem?_eq_getElem hj] at h
  have := List.getElem_mem hj
  rw [show bs[j] = 0 from h] at this
  exact this
theorem not_zero {bs : List UInt8} {n : Nat} (hn : bs.length = n) (h : ∀ k, k < n → bs.getD k 0 ≠ 0) : (0 : UInt8) ∉ bs := by
  intro hm
  obtain ⟨k, hk, e⟩ := List.getElem_of_mem hm
  apply h k (by omega)
  rw [List.getD_eq_getElem?_getD, List.getElem?_eq_getElem hk]
  exact e

/-- what the count gives when a byte of it is zero: no error yet -/
theorem ct_fine {s : St} (hf : Fine s) (most : Int) (hz : (0 : UInt8) ∈ (countS s most).2) : (countS s most).1.2 = 0 := by
  by_cases he : (numS s).1.2 = 0
  · by_cases hl : max most 0 < ((numS s).2 : Int)
    · rw [ct_lim most he hl] at hz; exact absurd hz (by simp)
    · have hin : ((numS s).2 : Int) ≤ max most 0 := by omega
      by_cases hs : (numS s).1.1.length < up (numS s).2
      · rw [ct_short most he hin hs] at hz; exact absurd hz (by simp)
      · by_cases hp : ((numS s).1.1.take (up (numS s).2)).drop (numS s).2 = List.replicate (up (numS s).2 - (numS s).2) 0
        · rw [ct_good most he hin (by omega) hp]
        · rw [ct_bad most he hin (by omega) hp] at hz; exact absurd hz (by simp)
  · rw [ct_err hf most he] at hz; exact absurd hz (by simp)

theorem str_zero {s : St} (hf : Fine s) (most : Int) (hz : (0 : UInt8) ∈ (countS s most).2) : strS s most = (([], 3), []) := by
  unfold strS failS
  rw [if_pos hz, if_pos (ct_fine hf most hz)]
theorem str_same {s : St} (most : Int) (hz : (0 : UInt8) ∉ (countS s most).2) : strS s most = countS s most := if_neg hz

set_option maxHeartbeats 1000000 in
theorem rstring_any {w : World} {A : Option Addr} {n c : Nat} {s : St} (most : Int) (hs : Sees w (.slice A n c) s.1) (hf : Fine s) (hlen : s.1.length ≤ 1000000) :
    Calls Try.prog 21 #[rv (.slice A n c) s.2, .int .i64 most] w (Back2 w (strS s most).1 (.string ⟨(strS s most).2.toArray⟩)) := by
  obtain ⟨w2, hw2⟩ : ∃ w2, w2 = (w.alloc (.cells #[.slice A n c, .int .i64 s.2] 37)).alloc (.cells #[.slice none 0 0, .int .i64 0] 37) := ⟨_, rfl⟩
  have hb2 : Below w.heap.size w w2 := by rw [hw2]; exact ((Below.refl _ _).alloc (Nat.le_refl _) _).alloc (by simp) _
  have hsl : Slot2 w2 (w.heap.size + 1) := by rw [hw2]; exact heap_alloc_at (w.alloc (.cells #[.slice A n c, .int .i64 s.2] 37)) _ _ (by simp)
  have hs2 : Sees w2 (.slice A n c) s.1 := by rw [hw2]; exact (hs.alloc _).alloc _
  have HA := Lib.hid (rarray_any most hs2 hf hlen)
  have HW := Lib.hid hw2
  have HZ := Lib.hid (fun hz => str_zero (s := s) hf most hz)
  have HS := Lib.hid (fun hz => str_same (s := s) most hz)
  clear hw2 hs hs2 hf
  unfold rv at HA ⊢
  generalize strS s most = r at *
  generalize countS s most = cs at *
  obtain ⟨⟨bs1, e1⟩, bs⟩ := cs
  dsimp only at HA HZ HS
  go_enter Try.func21, Try.ntmps21
  go_wp2_with fail
  rw [← HW.out]
  refine HA.out.mono ?_
  rintro e w3 ⟨v3, u3, rfl, hs3, hu3, h3⟩
  obtain ⟨A3, c3, rfl, _, _⟩ := hs3.shape
  obtain ⟨A4, c4, rfl, _, _⟩ := hu3.shape
  obtain ⟨w4, hw4⟩ : ∃ w4, w4 = w3.alloc (.cells #[.slice A3 bs1.length c3, .int .i64 e1] 37) := ⟨_, rfl⟩
  have hsl4 := hsl.below h3
  have hb4 := hb2.trans (h3.mono hb2.size)
  have hlt : w.heap.size + 1 < w3.heap.size := block_lt hsl4
  replace hb4 : Below w.heap.size w w4 := by rw [hw4]; exact hb4.alloc hb4.size _
  replace hsl4 : Slot2 w4 (w.heap.size + 1) := by rw [hw4]; exact hsl4.below ((Below.refl _ _).alloc (Nat.le_refl _) _)
  have row4 : w4.heap[w3.heap.size]? = some (.cells #[.slice A3 bs1.length c3, .int .i64 e1] 37 (0, 0)) := by rw [hw4]; exact heap_alloc_new w3 _
  have hs4 : Sees w4 (.slice A3 bs1.length c3) bs1 := by rw [hw4]; exact hs3.alloc _
  have hu4 : Sees w4 (.slice A4 bs.length c4) bs := by rw [hw4]; exact hu3.alloc _
  obtain ⟨_, hcc4, hcm4⟩ := rlen hu4
  have HC : Hid (0 < bs.length → ∃ b off, A4 = some ⟨b, off, none⟩ ∧ ∀ j, j < bs.length → w4.cell? ⟨b, off + j, none⟩ = some (byte (bs.getD j 0))) := by
    intro h0
    rcases hu4.ways with ⟨_, _, hv, _⟩ | ⟨b, off, n', c', hv, _, _, _, _, hb, hcell⟩
    · injection hv with _ e2; omega
    · injection hv with e1 e2 e3
      subst e1 e2 e3
      exact ⟨b, off, rfl, hcell⟩
  have d0 := block_cell row4 0
  have d1 := block_cell row4 1
  have s0 := block_cell hsl4 0
  have s1 := block_cell hsl4 1
  have i0 := block_free hsl4 0
  have i1 := block_free hsl4 1
  simp only [List.getElem?_toArray, List.getElem?_cons_zero, List.getElem?_cons_succ] at d0 d1 s0 s1
  have HW4 := Lib.hid hw4
  have HS4 := Lib.hid hs4
  have HU4 := Lib.hid hu4
  have HSL := Lib.hid hsl4
  have HROW := Lib.hid row4
  have HE := Lib.hid (ref_fail (w := w4) (A := A3) (n := bs1.length) (c := c3) e1 3)
  unfold rv at HE
  clear hs3 hu3 h3 hw4 hs4 hu4 row4
  obtain ⟨m, hm⟩ : ∃ m, bs.length = m := ⟨_, rfl⟩
  have HM := Lib.hid hm
  rw [hm] at HC HU4 hcc4 ⊢
  clear hm
  unfold rv
  dsimp only
  go_wp2_with fail
  rw [← HW4.out]
  go_loopw [8] (fun i wr => ∃ j : Nat, j ≤ m ∧ i = .int .i64 j ∧ w4 = wr ∧ Hid (∀ k, k < j → bs.getD k 0 ≠ 0)) (fun i _ => m - (intOf i).toNat)
  case atStart => exact ⟨0, Nat.zero_le _, rfl, rfl, fun k hk => by omega⟩
  case round =>
    obtain ⟨j, hj, rfl, rfl, hz⟩ := hrel
    by_cases hlt : j < m
    · obtain ⟨b, off, rfl, hcell⟩ := HC.out (by omega)
      have cj := hcell j hlt
      unfold byte at cj
      clear hcell
      have hx : (bs.getD j 0).toNat < 256 := (bs.getD j 0).toNat_lt
      by_cases hx0 : bs.getD j 0 = 0
      · have hmz := mem_zero (by rw [HM.out]; exact hlt) hx0
        have hr := HZ.out hmz
        subst hr
        rw [hx0] at cj
        have cj' : w4.cell? ⟨b, off + j, none⟩ = some (.int .u8 0) := cj
        clear cj hx hx0 hmz
        go_wp2_with fail
        refine HE.out.mono ?_
        rintro e w5 ⟨v5, rfl, hs5, h5⟩
        obtain ⟨A5, c5, rfl, _, _⟩ := hs5.shape
        have hsl5 := HSL.out.below h5
        have a0 := block_cell hsl5 0
        have a1 := block_cell hsl5 1
        have f0 := block_free hsl5 0
        have f1 := block_free hsl5 1
        simp only [List.getElem?_toArray, List.getElem?_cons_zero, List.getElem?_cons_succ] at a0 a1
        have HS5 := Lib.hid hs5
        have HSL5 := Lib.hid hsl5
        unfold rv
        clear hs5 hsl5
        go_wp2_with fail
        obtain ⟨_, _, h6, h7⟩ := set2_done (e := 3) HSL5.out (hb4.trans (h5.mono hb4.size)) (by omega) HS5.out
        exact bodyPost_ret (v := .tuple #[.agg #[.slice A5 0 c5, .int .i64 3], .string ⟨#[]⟩]) (by simp [results, Try.results21, go_sem, a0, a1]) rfl ⟨_, rfl, h6, h7⟩
      · have HX := Lib.hid hx0
        have hne : (bs.getD j 0).toNat ≠ 0 := fun h => hx0 (UInt8.toNat_inj.mp h)
        clear hx0
        generalize (bs.getD j 0).toNat = x at *
        have hne2 : ((x : Int) == 0) = false := by rw [beq_eq_false_iff_ne]; omega
        go_wp2_with fail
        go_roundw
        case rel => exact ⟨j + 1, by omega, by go_num, trivial, fun k hk => by
          by_cases h : k = j
          · subst h; exact HX.out
          · exact hz.out k (by omega)⟩
        case measure => simp [intOf]; omega
    · have hjm : j = m := by omega
      subst hjm
      have hr := HS.out (not_zero HM.out hz.out)
      subst hr
      dsimp only
      obtain ⟨b0, b1, h8, h9⟩ := set2_done (w := w) (W := w4.drew) (e := e1) HSL.out hb4.drew (by omega) HS4.out
      have hsl5 := HSL.out
      have hu5 : Sees (set2 w4.drew (w.heap.size + 1) (.slice A3 bs1.length c3) (.int .i64 e1)) (.slice A4 j c4) bs := Sees.grown (w := w4.drew) HU4.out (set2_grown _ _ _ _) hsl5.noByte
      have ht := run_text (P := Try.prog) Try.underlying22 Try.underlying5 Try.underlying9 (show Sees w4.drew (.slice A4 j c4) bs from HU4.out)
      have ht5 := run_text (P := Try.prog) Try.underlying22 Try.underlying5 Try.underlying9 hu5
      have g0 : (set2 w4.drew (w.heap.size + 1) (.slice A3 bs1.length c3) (.int .i64 e1)).cell? ⟨w3.heap.size, 0, none⟩ = some (.slice A3 bs1.length c3) := by
        have h := ((set2_grown w4.drew (w.heap.size + 1) (.slice A3 bs1.length c3) (.int .i64 e1)).block w3.heap.size (block_lt HROW.out) (fun e => by injection e with e; omega)).trans HROW.out
        exact block_cell h 0
      have g1 : (set2 w4.drew (w.heap.size + 1) (.slice A3 bs1.length c3) (.int .i64 e1)).cell? ⟨w3.heap.size, 1, none⟩ = some (.int .i64 e1) := by
        have h := ((set2_grown w4.drew (w.heap.size + 1) (.slice A3 bs1.length c3) (.int .i64 e1)).block w3.heap.size (block_lt HROW.out) (fun e => by injection e with e; omega)).trans HROW.out
        exact block_cell h 1
      unfold set2 at ht5 g0 g1
      have d0' : w4.drew.cell? ⟨w3.heap.size, 0, none⟩ = some (.slice A3 bs1.length c3) := d0
      have d1' : w4.drew.cell? ⟨w3.heap.size, 1, none⟩ = some (.int .i64 e1) := d1
      have c0 : (w4.setCell ⟨w.heap.size + 1, 0, none⟩ (.slice A3 bs1.length c3)).cell? ⟨w.heap.size + 1, 0, none⟩ = some (.slice A3 bs1.length c3) := by rw [block_cell (block_set HSL.out 0 _)]; rfl
      have c1 : ((w4.setCell ⟨w.heap.size + 1, 0, none⟩ (.slice A3 bs1.length c3)).setCell ⟨w.heap.size + 1, 1, none⟩ (.int .i64 e1)).cell? ⟨w.heap.size + 1, 1, none⟩ = some (.int .i64 e1) := by rw [block_cell (block_set (block_set HSL.out 0 _) 1 _)]; rfl
      have HC0 := Lib.hid c0
      have HC1 := Lib.hid c1
      clear c0 c1 b0 b1
      have H8 := Lib.hid h8
      have H9 := Lib.hid h9
      clear hu5 h8 h9 hsl5 hb4
      go_wp2_with fail
      go_region_held3 (fun W => W.cell? ⟨w3.heap.size, 0, none⟩ = some (.slice A3 bs1.length c3) ∧ W.cell? ⟨w3.heap.size, 1, none⟩ = some (.int .i64 e1) ∧ (convert 22 9 (.slice A4 j c4)).run Try.prog W = .ok (.string ⟨bs.toArray⟩) W)
        (first
          | exact ⟨d0', d1', ht⟩
          | exact ⟨g0, g1, ht5⟩
          | go_keep)
        (fail)
      all_goals
        go_wp2_with fail
        exact bodyPost_ret (v := .tuple #[.agg #[.slice A3 bs1.length c3, .int .i64 e1], .string ⟨bs.toArray⟩]) (by simp [results, Try.results21, go_sem, HC0.out, HC1.out]) rfl ⟨_, rfl, H8.out, H9.out⟩

end Go.Proofs.Ytealpmcpaakclaa
