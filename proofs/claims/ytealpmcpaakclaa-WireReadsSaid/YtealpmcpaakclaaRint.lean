/-
  The reference's reader, on: Uint, Int, Left, Err, End, zeros.
-/
import Derived.Test.YtealpmcpaakclaaRdref
namespace Go.Proofs.Ytealpmcpaakclaa
open Go.RowKit Mem Wire

theorem rlen {w : World} {A : Option Addr} {n c : Nat} {bs : List UInt8} (hs : Sees w (.slice A n c) bs) : n = bs.length ∧ n ≤ c ∧ c ≤ 9223372036854775807 := by
  obtain ⟨_, _, hv, h1, h2⟩ := hs.shape
  injection hv with _ e1 e2
  simp only [maxLen] at h2
  omega

theorem ruint_any {w : World} {A : Option Addr} {n c : Nat} {s : St} (hs : Sees w (.slice A n c) s.1) (hf : Fine s) :
    Calls Try.prog 17 #[rv (.slice A n c) s.2] w (Back2 w (numS s).1 (.int .u32 ((numS s).2 : Int))) := by
  obtain ⟨bs, e⟩ := s
  dsimp only at hs ⊢
  obtain ⟨hn, _, _⟩ := rlen hs
  by_cases he : e = 0
  · subst he
    by_cases h4 : bs.length < 4
    · have hN : numS (bs, 0) = (([], 4), 0) := by unfold numS failS; simp [h4]
      rw [hN]
      exact ruint_short (by omega)
    · have hN : numS (bs, 0) = ((bs.drop 4, 0), at4 bs) := by unfold numS; simp only []; rw [if_neg h4]
      rw [hN]
      exact ruint_good hs (by omega)
  · have h0 : bs = [] := hf he
    subst h0
    have hN : numS ([], e) = (([], e), 0) := by unfold numS failS; simp [he]
    rw [hN]
    exact ruint_err hs he

/-- the reader's value stored in the result's variable, behind a box that was made before -/
theorem set2_out {w W : World} {h : Nat} {x : Value} {e : Int} {bs : List UInt8} (hs : Slot2 W h) (hb : Below w.heap.size w W) (hh : w.heap.size ≤ h) (hz : Sees W x bs) (o : Obj) :
    (((W.setCell ⟨h, 0, none⟩ x).setCell ⟨h, 1, none⟩ (.int .i64 e)).alloc o).cell? ⟨h, 0, none⟩ = some x ∧ (((W.setCell ⟨h, 0, none⟩ x).setCell ⟨h, 1, none⟩ (.int .i64 e)).alloc o).cell? ⟨h, 1, none⟩ = some (.int .i64 e) ∧
    Sees (((W.setCell ⟨h, 0, none⟩ x).setCell ⟨h, 1, none⟩ (.int .i64 e)).alloc o) x bs ∧ Below w.heap.size w (((W.setCell ⟨h, 0, none⟩ x).setCell ⟨h, 1, none⟩ (.int .i64 e)).alloc o) := by
  obtain ⟨h0, h1, h2, h3⟩ := set2_done (e := e) hs hb hh hz
  have hc := set2_heap hs x (.int .i64 e)
  have hl : h < (set2 W h x (.int .i64 e)).heap.size := block_lt hc
  have hb2 : Below (set2 W h x (.int .i64 e)).heap.size (set2 W h x (.int .i64 e)) ((set2 W h x (.int .i64 e)).alloc o) := (Below.refl _ _).alloc (Nat.le_refl _) _
  refine ⟨?_, ?_, h2.alloc o, h3.alloc h3.size o⟩
  · exact (hb2.cell (p := ⟨h, 0, none⟩) hl).trans h0
  · exact (hb2.cell (p := ⟨h, 1, none⟩) hl).trans h1

theorem rint_any {w : World} {A : Option Addr} {n c : Nat} {s : St} (hs : Sees w (.slice A n c) s.1) (hf : Fine s) :
    Calls Try.prog 19 #[rv (.slice A n c) s.2] w (Back2 w (numS s).1 (.int .i32 (wrap32 ((numS s).2 : Int)))) := by
  obtain ⟨w2, hw2⟩ : ∃ w2, w2 = (w.alloc (.cells #[.slice A n c, .int .i64 s.2] 37)).alloc (.cells #[.slice none 0 0, .int .i64 0] 37) := ⟨_, rfl⟩
  have hb2 : Below w.heap.size w w2 := by rw [hw2]; exact ((Below.refl _ _).alloc (Nat.le_refl _) _).alloc (by simp) _
  have hsl : Slot2 w2 (w.heap.size + 1) := by rw [hw2]; exact heap_alloc_at (w.alloc (.cells #[.slice A n c, .int .i64 s.2] 37)) _ _ (by simp)
  have hs2 : Sees w2 (.slice A n c) s.1 := by rw [hw2]; exact (hs.alloc _).alloc _
  have HU := Lib.hid (ruint_any hs2 hf)
  have HW := Lib.hid hw2
  have HN := numS_lt s
  unfold rv at HU ⊢
  clear hw2 hs hs2
  generalize (numS s).2 = N at *
  generalize (numS s).1 = s1 at *
  obtain ⟨bs1, e1⟩ := s1
  go_enter Try.func19, Try.ntmps19
  go_wp2_with fail
  rw [← HW.out]
  refine HU.out.mono ?_
  rintro e w3 ⟨v3, rfl, hs3, h3⟩
  obtain ⟨A3, c3, rfl, _, _⟩ := hs3.shape
  have hb3 := hb2.trans (h3.mono hb2.size)
  have hsl3 := hsl.below h3
  have hlt : w.heap.size + 1 < w3.heap.size := block_lt hsl3
  have a0 := block_cell hsl3 0
  have a1 := block_cell hsl3 1
  have f0 := block_free hsl3 0
  have f1 := block_free hsl3 1
  simp only [List.getElem?_toArray, List.getElem?_cons_zero, List.getElem?_cons_succ] at a0 a1
  have HS3 := Lib.hid hs3
  have HSL := Lib.hid hsl3
  unfold rv
  clear hs3 hsl3 h3
  dsimp only
  go_wp2_with fail
  obtain ⟨b0, b1, h4, h5⟩ := set2_out (e := e1) HSL.out hb3 (by omega) HS3.out (.cells #[.slice A3 bs1.length c3, .int .i64 e1] 37)
  refine bodyPost_ret (v := .tuple #[.agg #[.slice A3 bs1.length c3, .int .i64 e1], .int .i32 (wrap32 N)]) (by simp [results, Try.results19, go_sem, b0, b1, wrap32]) rfl ⟨_, rfl, h4, h5⟩

theorem rleft_any {w : World} {A : Option Addr} {n c : Nat} {e : Int} : Calls Try.prog 26 #[rv (.slice A n c) e] w fun x w' => x = .returned (.int .i64 (n : Int)) ∧ Below w.heap.size w w' := by
  unfold rv
  go_enter Try.func26, Try.ntmps26
  go_wp2_with fail
  go_ret
  exact ⟨rfl, (Below.refl _ _).alloc (Nat.le_refl _) _⟩

theorem rerr_any {w : World} {A : Option Addr} {n c : Nat} {e : Int} : Calls Try.prog 28 #[rv (.slice A n c) e] w fun x w' => x = .returned (.int .i64 e) ∧ Below w.heap.size w w' := by
  unfold rv
  go_enter Try.func28, Try.ntmps28
  go_wp2_with fail
  go_ret
  exact ⟨rfl, (Below.refl _ _).alloc (Nat.le_refl _) _⟩

theorem rend_any {w : World} {A : Option Addr} {n c : Nat} {s : St} (hs : Sees w (.slice A n c) s.1) : Calls Try.prog 30 #[rv (.slice A n c) s.2] w fun x w' => x = .returned (.int .i64 (endS s)) ∧ Below w.heap.size w w' := by
  obtain ⟨hn, _, _⟩ := rlen hs
  obtain ⟨bs, e⟩ := s
  dsimp only at hn ⊢
  unfold rv
  clear hs
  by_cases he : e = 0
  · subst he
    by_cases hz : 0 < n
    · have hE : endS (bs, 0) = 3 := if_pos ⟨rfl, by show 0 < bs.length; omega⟩
      rw [hE]
      clear hn
      go_enter Try.func30, Try.ntmps30
      go_wp2_with fail
      go_ret
      exact ⟨rfl, (Below.refl _ _).alloc (Nat.le_refl _) _⟩
    · have hE : endS (bs, 0) = 0 := if_neg (fun h => by have h2 : 0 < bs.length := h.2; omega)
      rw [hE]
      have hn0 : n = 0 := by omega
      subst hn0
      clear hn hz
      go_enter Try.func30, Try.ntmps30
      go_wp2_with fail
      go_ret
      exact ⟨rfl, (Below.refl _ _).alloc (Nat.le_refl _) _⟩
  · have hE : endS (bs, e) = e := by unfold endS; simp [he]
    rw [hE]
    have hb : (e == 0) = false := by simpa using he
    clear hn
    go_enter Try.func30, Try.ntmps30
    go_wp2_with fail
    go_ret
    exact ⟨rfl, (Below.refl _ _).alloc (Nat.le_refl _) _⟩

theorem zeros_any {w : World} {A : Option Addr} {n c : Nat} {bs : List UInt8} (hs : Sees w (.slice A n c) bs) (u : Nat) (hu : bs.length = u) :
    Calls Try.prog 51 #[.slice A n c] w fun x w' => x = .returned (.bool (decide (bs = List.replicate u 0))) ∧ w = w' := by
  obtain ⟨hn, hcc, hcm⟩ := rlen hs
  have HB := Lib.hid hu
  have HC : Hid (0 < n → ∃ b off, A = some ⟨b, off, none⟩ ∧ ∀ j, j < n → w.cell? ⟨b, off + j, none⟩ = some (byte (bs.getD j 0))) := by
    intro h0
    rcases hs.ways with ⟨_, _, hv, _⟩ | ⟨b, off, n', c', hv, _, _, _, _, hb, hcell⟩
    · injection hv with _ e2; omega
    · injection hv with e1 e2 e3
      subst e1 e2 e3
      exact ⟨b, off, rfl, hcell⟩
  rw [hu] at hn
  subst hn
  clear hs hu
  go_enter Try.func51, Try.ntmps51
  go_wp2_with fail
  go_loopw [3] (fun i wr => ∃ j : Nat, j ≤ n ∧ i = .int .i64 j ∧ w = wr ∧ Hid (∀ k, k < j → bs.getD k 0 = 0)) (fun i _ => n - (intOf i).toNat)
  case atStart => exact ⟨0, Nat.zero_le _, rfl, rfl, fun k hk => by omega⟩
  case round =>
    obtain ⟨j, hj, rfl, rfl, hz⟩ := hrel
    by_cases hlt : j < n
    · obtain ⟨b, off, rfl, hcell⟩ := HC.out (by omega)
      have cj := hcell j hlt
      unfold byte at cj
      clear hcell
      have hx : (bs.getD j 0).toNat < 256 := (bs.getD j 0).toNat_lt
      by_cases hx0 : bs.getD j 0 = 0
      · have HX := Lib.hid hx0
        rw [hx0] at cj
        clear hx hx0
        have cj' : w.cell? ⟨b, off + j, none⟩ = some (.int .u8 0) := cj
        clear cj
        go_wp2_with fail
        go_roundw
        case rel => exact ⟨j + 1, by omega, by go_num, trivial, fun k hk => by
          by_cases h : k = j
          · subst h; exact HX.out
          · exact hz.out k (by omega)⟩
        case measure => simp [intOf]; omega
      · have hne : (bs.getD j 0).toNat ≠ 0 := fun h => hx0 (UInt8.toNat_inj.mp h)
        have hF : decide (bs = List.replicate n 0) = false := by
          rw [decide_eq_false_iff_not]
          intro h
          apply hx0
          rw [h, List.getD_eq_getElem?_getD, List.getElem?_replicate, if_pos hlt]
          rfl
        have HF := Lib.hid hF
        clear hF hx0
        generalize (bs.getD j 0).toNat = x at *
        have hne2 : ((x : Int) != 0) = true := by rw [bne_iff_ne]; omega
        go_wp2_with fail
        go_ret
        exact ⟨by rw [HF.out]; rfl, rfl⟩
    · have hjn : j = n := by omega
      subst hjn
      have hT : decide (bs = List.replicate j 0) = true := by
        rw [decide_eq_true_iff]
        apply List.ext_getElem (by rw [HB.out, List.length_replicate])
        intro i h1 h2
        have := hz.out i (by rw [← HB.out]; exact h1)
        rw [List.getD_eq_getElem?_getD, List.getElem?_eq_getElem h1] at this
        rw [List.getElem_replicate]
        exact this
      have HT := Lib.hid hT
      clear hT
      go_wp2_with fail
      go_ret
      exact ⟨by rw [HT.out]; rfl, rfl⟩

end Go.Proofs.Ytealpmcpaakclaa
