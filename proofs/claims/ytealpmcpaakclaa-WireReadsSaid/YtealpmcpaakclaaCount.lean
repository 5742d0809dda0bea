/-
  The reader's function 'counted', by its three ways.
-/
import Derived.Test.YtealpmcpaakclaaRead
namespace Go.Proofs.Ytealpmcpaakclaa
open Go.RowKit Mem Wire

theorem up_ge (n : Nat) : n ≤ up n ∧ up n ≤ n + 3 := by unfold up; omega

theorem fail_fst {s : St} (x : Int) (h : Fine s) : (failS s x).1 = [] := by
  unfold failS
  split
  · rfl
  · exact h ‹_›

theorem numS_lt (s : St) : (numS s).2 < 4294967296 := by
  unfold numS; split
  · simp
  · exact at4_lt _

set_option maxHeartbeats 400000 in
theorem counted_lim {g : Nat} {s : St} {w : World} (most : Int) (hr : Rdr w g s) (hM : most ≤ 9223372036854775807) (hlim : most < ((numS s).2 : Int)) (hpos : 0 < (numS s).2) :
    Calls Try.prog 47 #[.pointer (some ⟨g, 0, none⟩), .int .i64 most] w fun e w' => e = .returned (.slice none 0 0) ∧ Rdr w' g (failS (failS (numS s).1 5) 4) ∧ w.grownBy w' (some g) := by
  have hN := numS_lt s
  have HC := Lib.hid (number_any hr)
  generalize (numS s).2 = N at *
  generalize (numS s).1 = s1 at *
  obtain ⟨U, hU⟩ : ∃ U, up N = U := ⟨_, rfl⟩
  have hUN := up_ge N
  rw [hU] at hUN
  have HU : Hid (((N : Int) + 4 - 1) / 4 * 4 = (U : Int)) := by show _ = _; rw [← hU]; unfold up; omega
  clear hr hU
  go_enter Try.func47, Try.ntmps47
  go_wp2_with fail
  refine HC.out.mono ?_
  rintro e w1 ⟨rfl, h1, h2⟩
  have H1 := Lib.hid h1
  clear h1
  go_wp2_with fail
  all_goals
    refine (fail_any 5 H1.out).mono ?_
    rintro e w2 ⟨rfl, h3, h4⟩
    have hl : (failS s1 5).1.length < U := by rw [fail_fst 5 H1.out.fine]; simp; omega
    have H3 := Lib.hid h3
    clear h3
    go_wp2_with fail
    rw [HU.out]
    refine (take_no H3.out hl (by omega)).mono ?_
    rintro e w3 ⟨rfl, h5, h6⟩
    go_wp2_with fail
    go_ret
    exact ⟨rfl, h5, (h2.trans h4).trans h6⟩

/-- what a call that hands a slice of the bytes bs on leaves -/
def Gives (w : World) (g : Nat) (s : St) (bs : List UInt8) (e : Ending) (w' : World) : Prop :=
  ∃ v, e = .returned v ∧ Sees w' v bs ∧ Rdr w' g s ∧ w.grownBy w' (some g)

theorem gives_nil {w w' : World} {g : Nat} {s : St} (h : Rdr w' g s) (hg : w.grownBy w' (some g)) : Gives w g s [] (.returned (.slice none 0 0)) w' := ⟨_, rfl, sees_nil _, h, hg⟩

set_option maxHeartbeats 400000 in
theorem counted_short {g : Nat} {s : St} {w : World} (most : Int) (hr : Rdr w g s) (hM : most ≤ 9223372036854775807) (hlim : ((numS s).2 : Int) ≤ max most 0) (hs : (numS s).1.1.length < up (numS s).2) :
    Calls Try.prog 47 #[.pointer (some ⟨g, 0, none⟩), .int .i64 most] w (Gives w g (failS (numS s).1 4) []) := by
  have hN := numS_lt s
  have HC := Lib.hid (number_any hr)
  generalize (numS s).2 = N at *
  generalize (numS s).1 = s1 at *
  obtain ⟨U, hU⟩ : ∃ U, up N = U := ⟨_, rfl⟩
  have hUN := up_ge N
  rw [hU] at hUN hs
  have HU : Hid (((N : Int) + 4 - 1) / 4 * 4 = (U : Int)) := by show _ = _; rw [← hU]; unfold up; omega
  have hl2 : (N : Int) ≤ if most < 0 then 0 else most := by split <;> omega
  clear hr hU
  go_enter Try.func47, Try.ntmps47
  go_wp2_with fail
  refine HC.out.mono ?_
  rintro e w1 ⟨rfl, h1, h2⟩
  have H1 := Lib.hid h1
  clear h1
  go_wp2_with fail
  all_goals
    rw [HU.out]
    refine (take_no H1.out hs (by omega)).mono ?_
    rintro e w3 ⟨rfl, h5, h6⟩
    go_wp2_with fail
    go_ret
    exact gives_nil h5 (h2.trans h6)

/-- the first k bytes of the padding are zero -/
def ZeroTo (xs : List UInt8) (n k : Nat) : Prop := ∀ j, j < k → xs.getD (n + j) 0 = 0

theorem zero_all {xs : List UInt8} {n u : Nat} (hl : xs.length = u) (h : ZeroTo xs n (u - n)) : xs.drop n = List.replicate (u - n) 0 := by
  apply List.ext_getElem
  · simp [hl]
  · intro i h1 h2
    simp only [List.getElem_drop, List.getElem_replicate]
    have := h i (by simpa [hl] using h1)
    rw [List.getD, List.getElem?_eq_getElem (by simp at h1; omega)] at this
    exact this

theorem zero_not {xs : List UInt8} {n u k : Nat} (hk : k < u - n) (h : xs.getD (n + k) 0 ≠ 0) : xs.drop n ≠ List.replicate (u - n) 0 := by
  intro e
  apply h
  have h1 : (xs.drop n)[k]? = (List.replicate (u - n) (0 : UInt8))[k]? := by rw [e]
  rw [List.getElem?_drop, List.getElem?_replicate, if_pos hk] at h1
  rw [List.getD, h1]; rfl

set_option maxHeartbeats 1000000 in
theorem counted_cut {g : Nat} {s : St} {w : World} (most : Int) (hr : Rdr w g s) (hM : most ≤ 9223372036854775807) (hlim : ((numS s).2 : Int) ≤ max most 0) (hs : up (numS s).2 ≤ (numS s).1.1.length) :
    Calls Try.prog 47 #[.pointer (some ⟨g, 0, none⟩), .int .i64 most] w (Gives w g (cutS (numS s).1 (numS s).2).1 (cutS (numS s).1 (numS s).2).2) := by
  have hN := numS_lt s
  have HC := Lib.hid (number_any hr)
  generalize (numS s).2 = N at *
  generalize (numS s).1 = s1 at *
  unfold cutS
  obtain ⟨U, hU⟩ : ∃ U, up N = U := ⟨_, rfl⟩
  have hUN := up_ge N
  rw [hU] at hUN hs ⊢
  have HU : Hid (((N : Int) + 4 - 1) / 4 * 4 = (U : Int)) := by show _ = _; rw [← hU]; unfold up; omega
  have hl2 : (N : Int) ≤ if most < 0 then 0 else most := by split <;> omega
  rw [if_neg (by omega)]
  obtain ⟨P, hP⟩ : ∃ P, P = Gives w g (if (s1.1.take U).drop N = List.replicate (U - N) 0 then ((s1.1.drop U, s1.2), s1.1.take N) else (failS (s1.1.drop U, s1.2) 3, [])).1 (if (s1.1.take U).drop N = List.replicate (U - N) 0 then ((s1.1.drop U, s1.2), s1.1.take N) else (failS (s1.1.drop U, s1.2) 3, [])).2 := ⟨_, rfl⟩
  rw [← hP]
  have HP := Lib.hid hP
  clear hr hU hP
  go_enter Try.func47, Try.ntmps47
  go_wp2_with fail
  refine HC.out.mono ?_
  rintro e w1 ⟨rfl, h1, h2⟩
  have H1 := Lib.hid h1
  clear h1
  go_wp2_with fail
  all_goals
    rw [HU.out]
    refine (take_yes H1.out hs).mono ?_
    rintro e w2 ⟨A, c, rfl, hc, hm, hsee, h3, h4⟩
    have hm2 : c ≤ 9223372036854775807 := by simpa [maxLen] using hm
    have H3 := Lib.hid h3
    have HS := Lib.hid hsee
    have hxl : (s1.1.take U).length = U := by simp; omega
    have htk : (s1.1.take U).take N = s1.1.take N := by rw [List.take_take, Nat.min_eq_left (by omega)]
    have HX := Lib.hid hxl
    have HT := Lib.hid htk
    clear h3 hsee hxl htk
    generalize hxs : s1.1.take U = xs at *
    clear hxs
    have hgr : w.grownBy w2 (some g) := h2.trans h4
    have hways : (U = 0 ∧ Hid True) ∨ ∃ b off, A = some ⟨b, off, none⟩ ∧ Hid (∀ j, j < U → w2.cell? ⟨b, off + j, none⟩ = some (byte (xs.getD j 0))) := by
      rcases HS.out.ways with ⟨A', c', hv, _⟩ | ⟨b, off, n, c', hv, _, _, _, _, _, hcell⟩
      · injection hv with _ e2; exact .inl ⟨e2, trivial⟩
      · injection hv with e1 e2 e3
        subst e2
        exact .inr ⟨b, off, e1, hcell⟩
    rcases hways with ⟨h0, _⟩ | ⟨b, off, rfl, HCELL⟩
    · obtain rfl : U = 0 := h0
      obtain rfl : N = 0 := by omega
      go_wp2_with fail
      refine wp_loop_rounds 1 ?_
      rw [rounds_succ]
      go_wp2_with fail
      rw [HP.out, if_pos (by have := HX.out; simp [List.eq_nil_of_length_eq_zero this])]
      exact ⟨_, rfl, by have e := List.eq_nil_of_length_eq_zero HX.out; have h := HS.out; rw [e] at h; simpa using h, H3.out, hgr⟩
    · go_wp2_with fail
      all_goals
        go_loop [36] (fun i => ∃ k : Nat, k ≤ U - N ∧ i = .int .i64 k ∧ Hid (ZeroTo xs N k)) (fun i => U - N - (intOf i).toNat)
        case atStart => exact ⟨0, Nat.zero_le _, rfl, fun j hj => by omega⟩
        case round =>
          obtain ⟨k, hk, rfl, hz⟩ := hrel
          by_cases hlt : k < U - N
          · have hck := HCELL.out (N + k) (by omega)
            unfold byte at hck
            rw [← Nat.add_assoc] at hck
            by_cases hb : xs.getD (N + k) 0 = 0
            · rw [hb] at hck
              have hck' : w2.cell? ⟨b, off + N + k, none⟩ = some (.int .u8 0) := hck
              have HB := Lib.hid hb
              clear hck hb
              go_wp2_with fail
              all_goals
                go_round
                case rel => exact ⟨k + 1, by omega, by go_num, fun j hj => by
                  by_cases h : j = k
                  · subst h; exact HB.out
                  · exact hz.out j (by omega)⟩
                case measure => simp [intOf]; omega
            · have hne : (((xs.getD (N + k) 0).toNat : Int) == 0) = false := by
                rw [beq_eq_false_iff_ne]
                intro h
                exact hb (UInt8.toNat_inj.1 (by simpa using h))
              have hne2 : (((xs.getD (N + k) 0).toNat : Int) != 0) = true := by rw [bne, hne]; rfl
              have HB := Lib.hid hb
              clear hb
              generalize (xs.getD (N + k) 0).toNat = y at hck hne hne2
              go_wp2_with fail
              all_goals
                refine (fail_any 3 H3.out).mono ?_
                rintro e w3 ⟨rfl, h5, h6⟩
                have H5 := Lib.hid h5
                clear h5
                go_wp2_with fail
                rw [HP.out, if_neg (zero_not hlt HB.out)]
                exact gives_nil H5.out (hgr.trans h6)
          · go_wp2_with fail
            all_goals
              have hkk : U - N = k := by omega
              rw [HP.out, if_pos (zero_all HX.out (by rw [hkk]; exact hz.out))]
              exact ⟨_, rfl, by have h := HS.out.take (k := N) (by omega); rw [HT.out] at h; first | exact h | (rw [show c = N by omega] at h; exact h), H3.out, hgr⟩

theorem fine_num {s : St} (h : Fine s) : Fine (numS s).1 := by
  unfold numS
  split
  · exact h.fail 4
  · intro he
    simp only at he ⊢
    rw [h he]; rfl

theorem counted_any {g : Nat} {s : St} {w : World} (most : Int) (hr : Rdr w g s) (hM : most ≤ 9223372036854775807) :
    Calls Try.prog 47 #[.pointer (some ⟨g, 0, none⟩), .int .i64 most] w (Gives w g (countS s most).1 (countS s most).2) := by
  unfold countS limS
  by_cases hlim : max most 0 < ((numS s).2 : Int)
  · rw [if_pos hlim]
    have hfs : (failS (numS s).1 5).1.length < up (numS s).2 := by
      have := up_ge (numS s).2
      rw [fail_fst 5 (fine_num hr.fine)]
      simp only [List.length_nil]
      omega
    refine (counted_lim most hr hM (by omega) (by omega)).mono ?_
    rintro e w' ⟨rfl, h1, h2⟩
    rw [cutS, if_pos hfs]
    exact gives_nil h1 h2
  · rw [if_neg hlim]
    by_cases hs : (numS s).1.1.length < up (numS s).2
    · refine (counted_short most hr hM (by omega) hs).mono ?_
      intro e w' h
      rw [cutS, if_pos hs]
      exact h
    · exact counted_cut most hr hM (by omega) (by omega)

end Go.Proofs.Ytealpmcpaakclaa
