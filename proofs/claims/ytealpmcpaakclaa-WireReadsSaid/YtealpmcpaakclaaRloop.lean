/-
  WireReads: the loop over the calls: the program's reader and the reference's agree behind each.
-/
import Derived.Test.YtealpmcpaakclaaAsks
import Derived.Test.YtealpmcpaakclaaBack
import Derived.Deep.CutBlock
import Derived.Deep.DeepCutAuto
namespace Go.Proofs.Ytealpmcpaakclaa
open Go.ChangeShapes Go.WideShapes Go.ChangeAt Go.RowKit Mem Wire

theorem ct_fst_le (s : St) (mo : Int) (hf : Fine s) : (countS s mo).1.1.length ≤ s.1.length := by
  have hn := num_le s hf
  by_cases he : (numS s).1.2 = 0
  · by_cases hl : max mo 0 < ((numS s).2 : Int)
    · rw [ct_lim mo he hl]; exact Nat.zero_le _
    · have hin : ((numS s).2 : Int) ≤ max mo 0 := by omega
      by_cases hs : (numS s).1.1.length < up (numS s).2
      · rw [ct_short mo he hin hs]; exact Nat.zero_le _
      · by_cases hp : ((numS s).1.1.take (up (numS s).2)).drop (numS s).2 = List.replicate (up (numS s).2 - (numS s).2) 0
        · rw [ct_good mo he hin (by omega) hp]; dsimp only; rw [List.length_drop]; omega
        · rw [ct_bad mo he hin (by omega) hp]; exact Nat.zero_le _
  · rw [ct_err hf mo he]; exact hn
theorem str_fst_le (s : St) (mo : Int) (hf : Fine s) : (strS s mo).1.1.length ≤ s.1.length := by
  by_cases hz : (0 : UInt8) ∈ (countS s mo).2
  · rw [str_zero hf mo hz]; exact Nat.zero_le _
  · rw [str_same mo hz]; exact ct_fst_le s mo hf

theorem RI.draws {w wr : World} {g h : Nat} (hr : RI w g h wr) (q : Nat) : RI w g h (wr.drewN q) := by
  obtain ⟨st, A, c, h1, h2, h3, h4, h5⟩ := hr
  exact ⟨st, A, c, h1, h2, h3, below_draws h4 _, h5⟩

theorem keep_set {w3 : World} {p q r : Addr} {x y z u v : Value} {k : Nat} (hp : p.block ≠ k) (hq : q.block ≠ k) (hr : r.block ≠ k) (h : w3.cell? p = some x ∧ w3.cell? q = some y ∧ w3.cell? r = some z) :
    ((w3.setCell ⟨k, 0, none⟩ u).setCell ⟨k, 1, none⟩ v).cell? p = some x ∧ ((w3.setCell ⟨k, 0, none⟩ u).setCell ⟨k, 1, none⟩ v).cell? q = some y ∧ ((w3.setCell ⟨k, 0, none⟩ u).setCell ⟨k, 1, none⟩ v).cell? r = some z := by
  have hb : ∀ a : Addr, a.block ≠ k → ((w3.setCell ⟨k, 0, none⟩ u).setCell ⟨k, 1, none⟩ v).cell? a = w3.cell? a := fun a ha => by
    rw [World.cell?_setCell_other _ _ _ _ (fun e => ha (by rw [← e])), World.cell?_setCell_other _ _ _ _ (fun e => ha (by rw [← e]))]
  exact ⟨(hb p hp).trans h.1, (hb q hq).trans h.2.1, (hb r hr).trans h.2.2⟩

theorem keep2 {wr w3 : World} {p q : Addr} {x y : Value} (hp : p.block < wr.heap.size) (hq : q.block < wr.heap.size) (hb : Below wr.heap.size wr w3)
    (hx : wr.cell? p = some x) (hy : wr.cell? q = some y) : w3.cell? p = some x ∧ w3.cell? q = some y :=
  ⟨(hb.cell hp).trans hx, (hb.cell hq).trans hy⟩

theorem RI.below {w wr w' : World} {g h : Nat} (hr : RI w g h wr) (hb : Below wr.heap.size wr w') : RI w g h w' := by
  obtain ⟨st, A, c, h1, h2, h3, h4, h5⟩ := hr
  exact ⟨st, A, c, h1.below hb, (hb.block h (block_lt h2)).trans h2, h3.below hb, h4.trans (hb.mono h4.size), h5⟩

theorem keep3 {wr w3 : World} {p q r : Addr} {x y z : Value} (hp : p.block < wr.heap.size) (hq : q.block < wr.heap.size) (hr : r.block < wr.heap.size) (hb : Below wr.heap.size wr w3)
    (hx : wr.cell? p = some x) (hy : wr.cell? q = some y) (hz : wr.cell? r = some z) : w3.cell? p = some x ∧ w3.cell? q = some y ∧ w3.cell? r = some z :=
  ⟨(hb.cell hp).trans hx, (hb.cell hq).trans hy, (hb.cell hr).trans hz⟩

set_option maxHeartbeats 2000000 in
set_option maxRecDepth 20000 in
theorem reads_loop {w : World} {A A' : Option Addr} {n c m cap : Nat} {bs : List UInt8} {l : List (Int × Int)} (hs : Sees w (.slice A n c) bs) (hl : Asks w (.slice A' m cap) l) (hn : n ≤ 2000) (hm : m ≤ 30) :
    Calls Try.prog 4 #[.slice A n c, .slice A' m cap] w (Says true w) := by
  obtain ⟨hnb, _, _⟩ := rlen hs
  have HF := Lib.hid (from_any hs (by omega))
  obtain ⟨A1, cap1, hv, h1, h2, h3, h4⟩ := hl
  injection hv with e1 e2 e3
  subst e1 e3
  rw [← e2] at h1 h4
  have HLN := Lib.hid e2
  have HOK := Lib.hid h3
  have HC : Hid (0 < m → ∃ b off, A' = some ⟨b, off, none⟩ ∧ b < w.heap.size ∧ ∀ (j : Nat) (t : Int × Int), l[j]? = some t →
      w.cell? ⟨b, off + j * 2, none⟩ = some (.int .i64 t.1) ∧ w.cell? ⟨b, off + j * 2 + 1, none⟩ = some (.int .i64 t.2)) := h4
  have hcap : m ≤ cap := h1
  have hcm : cap ≤ 9223372036854775807 := by simpa [maxLen] using h2
  have HS := Lib.hid hs
  have HNB := Lib.hid hnb
  clear h1 h2 h3 h4 e2 hs hnb
  go_enter Try.func4, Try.ntmps4
  go_wp2_with fail
  refine HF.out.mono ?_
  rintro e w1 ⟨g, rfl, hg1, hr1, hb1⟩
  have HR2 : Hid (Calls Try.prog 16 #[.slice A n c] w1 (Back1 w1 (bs, 0))) := ref_from (HS.out.below hb1) (by have := HNB.out; omega)
  have hr1' := Lib.hid hr1
  clear hr1
  go_wp2_with fail
  refine HR2.out.mono ?_
  rintro e w2 ⟨v2, rfl, hs2, hb2⟩
  obtain ⟨A2, c2, rfl, _, _⟩ := hs2.shape
  have hri : RI w g w2.heap.size (w2.alloc (.cells #[.slice A2 bs.length c2, .int .i64 0] 37)) := by
    refine ⟨(bs, 0), A2, c2, (hr1'.out.below hb2).below ((Below.refl _ _).alloc (Nat.le_refl _) _), heap_alloc_new w2 _, hs2.alloc _, ?_, ?_⟩
    · have := hb1.trans (hb2.mono hb1.size)
      exact this.alloc this.size _
    · have := HNB.out
      dsimp only
      omega
  have hgl : g < w1.heap.size := hr1'.out.lt
  obtain ⟨h, hh⟩ : ∃ h, w2.heap.size = h := ⟨_, rfl⟩
  have hlh : w.heap.size ≤ h := by have := hb1.size; have := hb2.size; omega
  have hne : g ≠ h := by have := hb2.size; omega
  have HRI := Lib.hid hri
  rw [hh] at HRI
  have hwg : w.heap.size ≤ g := by have := hb1.size; omega
  unfold rv
  dsimp only
  clear hri hr1' hs2 hb2 hb1 hgl
  go_wp2_with fail
  clear hh
  go_loopw [7] (fun i wr => ∃ j : Nat, j ≤ m ∧ i = .int .i64 j ∧ Hid (RI w g h wr)) (fun i _ => m - (intOf i).toNat)
  case atStart => exact ⟨0, Nat.zero_le _, rfl, HRI.out⟩
  case round =>
    obtain ⟨j, hj, rfl, hri⟩ := hrel
    by_cases hlt : j < m
    · obtain ⟨t, ht⟩ : ∃ t, l[j]? = some t := ⟨_, List.getElem?_eq_getElem (by rw [← HLN.out]; exact hlt)⟩
      obtain ⟨b, off, rfl, hb, hcc⟩ := HC.out (by omega)
      obtain ⟨g0, g1⟩ := hcc j t ht
      have hM := HOK.out t (List.mem_of_getElem? ht)
      obtain ⟨k, mo⟩ := t
      dsimp only at g0 g1 hM
      obtain ⟨st, A3, c3, hr, row, hsr, hbw, hl2⟩ := hri.out
      rw [← hbw.cell (p := ⟨b, off + j * 2, none⟩) hb] at g0
      rw [← hbw.cell (p := ⟨b, off + j * 2 + 1, none⟩) hb] at g1
      clear hcc ht
      have d0 := block_cell row 0
      have d1 := block_cell row 1
      simp only [List.getElem?_toArray, List.getElem?_cons_zero, List.getElem?_cons_succ] at d0 d1
      have HROW := Lib.hid row
      have HR := Lib.hid hr
      have HSR := Lib.hid hsr
      clear hri hr row hsr
      go_upto_block 2 with (fail)
      go_cut [7] (fun s7 wx => s7 = .int .i64 j ∧ Hid (RI w g h wx))
      case first =>
        by_cases hk0 : k = 0
        · subst hk0
          have HU := Lib.hid (ruint_any HSR.out HR.out.fine)
          unfold rv at HU
          have HX : Hid (∀ w4, Below wr.heap.size wr w4 → Calls Try.prog 18 #[.pointer (some ⟨g, 0, none⟩)] w4 fun e w' => e = .returned (.int .u32 ((numS st).2 : Int)) ∧ Rdr w' g (numS st).1 ∧ w4.grownBy w' (some g)) := fun w4 h4 => uint_any (HR.out.below h4)
          have hl5 := Nat.le_trans (num_le st HR.out.fine) hl2
          generalize (numS st).2 = N at *
          generalize (numS st).1 = st1 at *
          go_wp2_with fail
          refine HU.out.mono ?_
          rintro e w3 ⟨v3, rfl, hs3, h3⟩
          obtain ⟨A4, c4, rfl, _, _⟩ := hs3.shape
          obtain ⟨w4, hw4⟩ : ∃ w4, w4 = w3.alloc (.cells #[.slice A4 st1.1.length c4, .int .i64 st1.2] 37) := ⟨_, rfl⟩
          have hs4 : Sees w4 (.slice A4 st1.1.length c4) st1.1 := by rw [hw4]; exact hs3.alloc _
          have h4 : Below wr.heap.size wr w4 := by rw [hw4]; exact h3.alloc h3.size _
          have hp4 : w4.heap[w3.heap.size]? = some (.cells #[.slice A4 st1.1.length c4, .int .i64 st1.2] 37 (0, 0)) := by rw [hw4]; exact heap_alloc_new w3 _
          have h3s := h3.size
          have HX4 := Lib.hid (HX.out w4 h4)
          have HS4 := Lib.hid hs4
          have HP4 := Lib.hid hp4
          have H4 := Lib.hid h4
          have HW4 := Lib.hid hw4
          unfold rv
          clear hs3 h3 hw4 hp4 h4 hs4
          dsimp only
          go_wp2_with fail
          rw [← HW4.out]
          refine HX4.out.mono ?_
          rintro e w5 ⟨rfl, hr5, hg5⟩
          obtain ⟨row5, rowp, hs5, hb5⟩ := step_keep HR.out HROW.out hbw hwg hne HS4.out H4.out HP4.out h3s hg5
          have e0 := block_cell row5 0
          have e1 := block_cell row5 1
          have i0 := block_free row5 0
          have i1 := block_free row5 1
          have p0 := block_cell rowp 0
          have p1 := block_cell rowp 1
          simp only [List.getElem?_toArray, List.getElem?_cons_zero, List.getElem?_cons_succ] at e0 e1 p0 p1
          have HRI5 := Lib.hid (ri_step row5 hr5 hs5 hb5 hlh hne hl5)
          clear row5 rowp hs5 hb5 hr5 hg5
          go_wp2_with fail
          go_meet
          exact ⟨rfl, HRI5.out⟩
        · have hk0b : (k == 0) = false := by rw [beq_eq_false_iff_ne]; exact hk0
          by_cases hk1 : k = 1
          · subst hk1
            clear hk0 hk0b
            have HU := Lib.hid (rint_any HSR.out HR.out.fine)
            unfold rv at HU
            have HX : Hid (∀ w4, Below wr.heap.size wr w4 → Calls Try.prog 20 #[.pointer (some ⟨g, 0, none⟩)] w4 fun e w' => e = .returned (.int .i32 (wrap32 ((numS st).2 : Int))) ∧ Rdr w' g (numS st).1 ∧ w4.grownBy w' (some g)) := fun w4 h4 => int_any (HR.out.below h4)
            have hl5 := Nat.le_trans (num_le st HR.out.fine) hl2
            generalize wrap32 ((numS st).2 : Int) = N at *
            generalize (numS st).1 = st1 at *
            go_wp2_with fail
            refine HU.out.mono ?_
            rintro e w3 ⟨v3, rfl, hs3, h3⟩
            obtain ⟨A4, c4, rfl, _, _⟩ := hs3.shape
            obtain ⟨w4, hw4⟩ : ∃ w4, w4 = w3.alloc (.cells #[.slice A4 st1.1.length c4, .int .i64 st1.2] 37) := ⟨_, rfl⟩
            have hs4 : Sees w4 (.slice A4 st1.1.length c4) st1.1 := by rw [hw4]; exact hs3.alloc _
            have h4 : Below wr.heap.size wr w4 := by rw [hw4]; exact h3.alloc h3.size _
            have hp4 : w4.heap[w3.heap.size]? = some (.cells #[.slice A4 st1.1.length c4, .int .i64 st1.2] 37 (0, 0)) := by rw [hw4]; exact heap_alloc_new w3 _
            have h3s := h3.size
            have HX4 := Lib.hid (HX.out w4 h4)
            have HS4 := Lib.hid hs4
            have HP4 := Lib.hid hp4
            have H4 := Lib.hid h4
            have HW4 := Lib.hid hw4
            unfold rv
            clear hs3 h3 hw4 hp4 h4 hs4
            dsimp only
            go_wp2_with fail
            rw [← HW4.out]
            refine HX4.out.mono ?_
            rintro e w5 ⟨rfl, hr5, hg5⟩
            obtain ⟨row5, rowp, hs5, hb5⟩ := step_keep HR.out HROW.out hbw hwg hne HS4.out H4.out HP4.out h3s hg5
            have e0 := block_cell row5 0
            have e1 := block_cell row5 1
            have i0 := block_free row5 0
            have i1 := block_free row5 1
            have p0 := block_cell rowp 0
            have p1 := block_cell rowp 1
            simp only [List.getElem?_toArray, List.getElem?_cons_zero, List.getElem?_cons_succ] at e0 e1 p0 p1
            have HRI5 := Lib.hid (ri_step row5 hr5 hs5 hb5 hlh hne hl5)
            clear row5 rowp hs5 hb5 hr5 hg5
            go_wp2_with fail
            go_meet
            exact ⟨rfl, HRI5.out⟩
          · have hk1b : (k == 1) = false := by rw [beq_eq_false_iff_ne]; exact hk1
            by_cases hk2 : k = 2
            · subst hk2
              clear hk0 hk0b hk1 hk1b
              have hll : st.1.length ≤ 1000000 := by omega
              have HU : Hid (∀ W, Below wr.heap.size wr W → Calls Try.prog 21 #[.agg #[.slice A3 st.1.length c3, .int .i64 st.2], .int .i64 mo] W fun e w' => ∃ A4 c4, e = .returned (.tuple #[.agg #[.slice A4 (strS st mo).1.1.length c4, .int .i64 (strS st mo).1.2], .string ⟨(strS st mo).2.toArray⟩]) ∧ Sees w' (.slice A4 (strS st mo).1.1.length c4) (strS st mo).1.1 ∧ Below W.heap.size W w') := fun W hW => (rstring_any mo (HSR.out.below hW) HR.out.fine hll).mono (by
                rintro e w' ⟨v, rfl, h1, h2⟩
                obtain ⟨A4, c4, rfl, _, _⟩ := h1.shape
                exact ⟨A4, c4, rfl, h1, h2⟩)
              have HX : Hid (∀ w4, Below wr.heap.size wr w4 → Calls Try.prog 22 #[.pointer (some ⟨g, 0, none⟩), .int .i64 mo] w4 fun e w' => e = .returned (.string ⟨(strS st mo).2.toArray⟩) ∧ Rdr w' g (strS st mo).1 ∧ w4.grownBy w' (some g)) := fun w4 h4 => string_any mo (HR.out.below h4) hM
              have hl5 : (strS st mo).1.1.length ≤ 2000 := Nat.le_trans (str_fst_le st mo HR.out.fine) hl2
              generalize (strS st mo).2.toArray = N at *
              generalize (strS st mo).1 = st1 at *
              have hhl : h < wr.heap.size := block_lt HROW.out
              have hbl : b < wr.heap.size := Nat.lt_of_lt_of_le hb hbw.size
              have q0 : (0 : Int) ≤ (j : Int) := Int.natCast_nonneg _
              have q1 : (j : Int) < (m : Int) := by omega
              have hza : Below wr.heap.size wr (wr.drew.alloc (.cells #[.slice none 0 0, .int .i64 0] 37)) := (Below.refl _ _).drew.alloc (Nat.le_refl _) _
              have hzb : Below wr.heap.size wr wr.drew := (Below.refl _ _).drew
              have n1 : h ≠ wr.heap.size := Nat.ne_of_lt hhl
              have n2 : wr.heap.size ≠ h := Nat.ne_of_gt hhl
              have n3 : b ≠ wr.heap.size := Nat.ne_of_lt hbl
              have n4 : wr.heap.size ≠ b := Nat.ne_of_gt hbl
              have HSLA : Hid (Slot2 (wr.drew.alloc (.cells #[.slice none 0 0, .int .i64 0] 37)) wr.heap.size) := heap_alloc_at wr.drew _ _ rfl
              have HA := Lib.hid (HU.out _ hza)
              have HB := Lib.hid (HU.out _ hzb)
              go_wp2_with fail
              go_region_held3 (fun W => W.cell? ⟨h, 0, none⟩ = some (.slice A3 st.1.length c3) ∧ W.cell? ⟨h, 1, none⟩ = some (.int .i64 st.2) ∧ W.cell? ⟨b, off + j * 2 + 1, none⟩ = some (.int .i64 mo))
                (first
                  | go_keep
                  | exact sk
                  | exact ss _ _)
                (first
                  | (go_at_call 21; refine HA.out.mono ?_; rintro e w3 ⟨A4, c4, rfl, hs3, h3⟩; have H3 := Lib.hid (hza.trans (h3.mono hza.size)); have HS3 := Lib.hid hs3; have sk := keep3 hhl hhl hbl H3.out d0 d1 g1; have HH3 := Lib.hid h3; have hslw := HSLA.out.below h3; have a0 := block_cell hslw 0; have a1 := block_cell hslw 1; have f0 := block_free hslw 0; have f1 := block_free hslw 1; simp only [List.getElem?_toArray, List.getElem?_cons_zero, List.getElem?_cons_succ] at a0 a1; have HSW := Lib.hid hslw; have ss := fun u v => keep_set (u := u) (v := v) n1 n1 n3 sk; clear hs3 h3 hslw)
                  | (go_at_call 21; refine HB.out.mono ?_; rintro e w3 ⟨A4, c4, rfl, hs3, h3⟩; have H3 := Lib.hid (hzb.trans (h3.mono hzb.size)); have HS3 := Lib.hid hs3; have sk := keep3 hhl hhl hbl H3.out d0 d1 g1; have HH3 := Lib.hid h3; clear hs3 h3))
              · have h3s := H3.out.size
                obtain ⟨w4, hw4⟩ : ∃ w4, w4 = w3.alloc (.cells #[.slice A4 st1.1.length c4, .int .i64 st1.2] 37) := ⟨_, rfl⟩
                have HS4 : Hid (Sees w4 (.slice A4 st1.1.length c4) st1.1) := by rw [hw4]; exact HS3.out.alloc _
                have H4 : Hid (Below wr.heap.size wr w4) := by rw [hw4]; exact H3.out.alloc h3s _
                have HP4 : Hid (w4.heap[w3.heap.size]? = some (.cells #[.slice A4 st1.1.length c4, .int .i64 st1.2] 37 (0, 0))) := by rw [hw4]; exact heap_alloc_new w3 _
                have HX4 := Lib.hid (HX.out w4 H4.out)
                have HPW : wr.heap.size ≤ w3.heap.size := h3s
                have HW4 := Lib.hid hw4
                clear hw4
                go_wp2_with fail
                rw [← HW4.out]
                refine HX4.out.mono ?_
                rintro e w5 ⟨rfl, hr5, hg5⟩
                obtain ⟨row5, rowp, hs5, hb5⟩ := step_keep HR.out HROW.out hbw hwg hne HS4.out H4.out HP4.out HPW hg5
                have e0 := block_cell row5 0
                have e1 := block_cell row5 1
                have i0 := block_free row5 0
                have i1 := block_free row5 1
                have p0 := block_cell rowp 0
                have p1 := block_cell rowp 1
                simp only [List.getElem?_toArray, List.getElem?_cons_zero, List.getElem?_cons_succ] at e0 e1 p0 p1
                have HRI5 := Lib.hid (ri_step row5 hr5 hs5 hb5 hlh hne hl5)
                clear row5 rowp hs5 hb5 hr5 hg5
                go_wp2_with fail
                go_meet
                exact ⟨rfl, HRI5.out⟩
              · obtain ⟨w4, hw4⟩ : ∃ w4, w4 = set2 w3 wr.heap.size (.slice A4 st1.1.length c4) (.int .i64 st1.2) := ⟨_, rfl⟩
                obtain ⟨_, _, hs4, h4⟩ := set2_done (w := wr) (e := st1.2) HSW.out H3.out (Nat.le_refl _) HS3.out
                have HS4 : Hid (Sees w4 (.slice A4 st1.1.length c4) st1.1) := by rw [hw4]; exact hs4
                have H4 : Hid (Below wr.heap.size wr w4) := by rw [hw4]; exact h4
                have HP4 : Hid (w4.heap[wr.heap.size]? = some (.cells #[.slice A4 st1.1.length c4, .int .i64 st1.2] 37 (0, 0))) := by rw [hw4]; exact set2_heap HSW.out _ _
                have HX4 := Lib.hid (HX.out w4 H4.out)
                have HPW : wr.heap.size ≤ wr.heap.size := Nat.le_refl _
                have g1' := (ss (.slice A4 st1.1.length c4) (.int .i64 st1.2)).2.2
                unfold set2 at hw4
                have HW4 := Lib.hid hw4
                clear hw4 hs4 h4
                go_wp2_with fail
                rw [← HW4.out]
                refine HX4.out.mono ?_
                rintro e w5 ⟨rfl, hr5, hg5⟩
                obtain ⟨row5, rowp, hs5, hb5⟩ := step_keep HR.out HROW.out hbw hwg hne HS4.out H4.out HP4.out HPW hg5
                have e0 := block_cell row5 0
                have e1 := block_cell row5 1
                have i0 := block_free row5 0
                have i1 := block_free row5 1
                have p0 := block_cell rowp 0
                have p1 := block_cell rowp 1
                simp only [List.getElem?_toArray, List.getElem?_cons_zero, List.getElem?_cons_succ] at e0 e1 p0 p1
                have HRI5 := Lib.hid (ri_step row5 hr5 hs5 hb5 hlh hne hl5)
                clear row5 rowp hs5 hb5 hr5 hg5
                go_wp2_with fail
                go_meet
                exact ⟨rfl, HRI5.out⟩
            · have hk2b : (k == 2) = false := by rw [beq_eq_false_iff_ne]; exact hk2
              by_cases hk3 : k = 3
              · subst hk3
                clear hk0 hk0b hk1 hk1b hk2 hk2b
                have hll : st.1.length ≤ 1000000 := by omega
                have HU : Hid (∀ W, Below wr.heap.size wr W → Calls Try.prog 23 #[.agg #[.slice A3 st.1.length c3, .int .i64 st.2], .int .i64 mo] W fun e w' => ∃ A4 c4 A5 c5, e = .returned (.tuple #[.agg #[.slice A4 (countS st mo).1.1.length c4, .int .i64 (countS st mo).1.2], .slice A5 (countS st mo).2.length c5]) ∧ Sees w' (.slice A4 (countS st mo).1.1.length c4) (countS st mo).1.1 ∧ Sees w' (.slice A5 (countS st mo).2.length c5) (countS st mo).2 ∧ Below W.heap.size W w') := fun W hW => (rarray_any mo (HSR.out.below hW) HR.out.fine hll).mono (by
                  rintro e w' ⟨v, u, rfl, h1, h2, h3⟩
                  obtain ⟨A4, c4, rfl, _, _⟩ := h1.shape
                  obtain ⟨A5, c5, rfl, _, _⟩ := h2.shape
                  exact ⟨A4, c4, A5, c5, rfl, h1, h2, h3⟩)
                have HX : Hid (∀ w4, Below wr.heap.size wr w4 → Calls Try.prog 24 #[.pointer (some ⟨g, 0, none⟩), .int .i64 mo] w4 (Gives w4 g (countS st mo).1 (countS st mo).2)) := fun w4 h4 => array_any mo (HR.out.below h4) hM (Nat.le_trans (count_le st mo HR.out.fine) (by omega))
                have hl5 : (countS st mo).1.1.length ≤ 2000 := Nat.le_trans (ct_fst_le st mo HR.out.fine) hl2
                generalize (countS st mo).2 = N at *
                generalize (countS st mo).1 = st1 at *
                obtain ⟨nn, hnn⟩ : ∃ nn, N.length = nn := ⟨_, rfl⟩
                rw [hnn] at HU
                clear hnn
                have hhl : h < wr.heap.size := block_lt HROW.out
                have hbl : b < wr.heap.size := Nat.lt_of_lt_of_le hb hbw.size
                have q0 : (0 : Int) ≤ (j : Int) := Int.natCast_nonneg _
                have q1 : (j : Int) < (m : Int) := by omega
                have hza : Below wr.heap.size wr (wr.drew.alloc (.cells #[.slice none 0 0, .int .i64 0] 37)) := (Below.refl _ _).drew.alloc (Nat.le_refl _) _
                have hzb : Below wr.heap.size wr wr.drew := (Below.refl _ _).drew
                have n1 : h ≠ wr.heap.size := Nat.ne_of_lt hhl
                have n2 : wr.heap.size ≠ h := Nat.ne_of_gt hhl
                have n3 : b ≠ wr.heap.size := Nat.ne_of_lt hbl
                have n4 : wr.heap.size ≠ b := Nat.ne_of_gt hbl
                have HSLA : Hid (Slot2 (wr.drew.alloc (.cells #[.slice none 0 0, .int .i64 0] 37)) wr.heap.size) := heap_alloc_at wr.drew _ _ rfl
                have HA := Lib.hid (HU.out _ hza)
                have HB := Lib.hid (HU.out _ hzb)
                go_wp2_with fail
                go_region_held3 (fun W => W.cell? ⟨h, 0, none⟩ = some (.slice A3 st.1.length c3) ∧ W.cell? ⟨h, 1, none⟩ = some (.int .i64 st.2) ∧ W.cell? ⟨b, off + j * 2 + 1, none⟩ = some (.int .i64 mo))
                  (first
                    | go_keep
                    | exact sk
                    | exact ss _ _)
                  (first
                    | (go_at_call 23; refine HA.out.mono ?_; rintro e w3 ⟨A4, c4, A5, c5, rfl, hs3, hu3, h3⟩; have HU3 := Lib.hid hu3; have H3 := Lib.hid (hza.trans (h3.mono hza.size)); have HS3 := Lib.hid hs3; have sk := keep3 hhl hhl hbl H3.out d0 d1 g1; have HH3 := Lib.hid h3; have hslw := HSLA.out.below h3; have a0 := block_cell hslw 0; have a1 := block_cell hslw 1; have f0 := block_free hslw 0; have f1 := block_free hslw 1; simp only [List.getElem?_toArray, List.getElem?_cons_zero, List.getElem?_cons_succ] at a0 a1; have HSW := Lib.hid hslw; have ss := fun u v => keep_set (u := u) (v := v) n1 n1 n3 sk; clear hs3 h3 hslw hu3)
                    | (go_at_call 23; refine HB.out.mono ?_; rintro e w3 ⟨A4, c4, A5, c5, rfl, hs3, hu3, h3⟩; have HU3 := Lib.hid hu3; have H3 := Lib.hid (hzb.trans (h3.mono hzb.size)); have HS3 := Lib.hid hs3; have sk := keep3 hhl hhl hbl H3.out d0 d1 g1; have HH3 := Lib.hid h3; clear hs3 h3 hu3))
                · have h3s := H3.out.size
                  obtain ⟨w4, hw4⟩ : ∃ w4, w4 = w3.alloc (.cells #[.slice A4 st1.1.length c4, .int .i64 st1.2] 37) := ⟨_, rfl⟩
                  have HS4 : Hid (Sees w4 (.slice A4 st1.1.length c4) st1.1) := by rw [hw4]; exact HS3.out.alloc _
                  have HU4 : Hid (Sees w4 (.slice A5 nn c5) N) := by rw [hw4]; exact HU3.out.alloc _
                  have H4 : Hid (Below wr.heap.size wr w4) := by rw [hw4]; exact H3.out.alloc h3s _
                  have HP4 : Hid (w4.heap[w3.heap.size]? = some (.cells #[.slice A4 st1.1.length c4, .int .i64 st1.2] 37 (0, 0))) := by rw [hw4]; exact heap_alloc_new w3 _
                  have HX4 := Lib.hid (HX.out w4 H4.out)
                  have HPW : wr.heap.size ≤ w3.heap.size := h3s
                  have HW4 := Lib.hid hw4
                  clear hw4
                  go_wp2_with fail
                  rw [← HW4.out]
                  refine HX4.out.mono ?_
                  rintro e w5 ⟨v6, rfl, hs6, hr5, hg5⟩
                  obtain ⟨row5, rowp, hs5, hb5⟩ := step_keep HR.out HROW.out hbw hwg hne HS4.out H4.out HP4.out HPW hg5
                  obtain ⟨_, _, hu5, _⟩ := step_keep HR.out HROW.out hbw hwg hne HU4.out H4.out HP4.out HPW hg5
                  have HSM : Hid (Calls Try.prog 13 #[v6, .slice A5 nn c5] w5 (Tells w5 true)) := by
                    have h := same_any hs6 hu5
                    rw [decide_eq_true rfl] at h
                    exact h
                  have e0 := block_cell row5 0
                  have e1 := block_cell row5 1
                  have i0 := block_free row5 0
                  have i1 := block_free row5 1
                  have p0 := block_cell rowp 0
                  have p1 := block_cell rowp 1
                  simp only [List.getElem?_toArray, List.getElem?_cons_zero, List.getElem?_cons_succ] at e0 e1 p0 p1
                  have HRI5 := Lib.hid (ri_step row5 hr5 hs5 hb5 hlh hne hl5)
                  clear row5 rowp hs5 hb5 hr5 hg5 hu5 hs6
                  go_wp2_with fail
                  refine HSM.out.mono ?_
                  rintro e w7 ⟨rfl, q, rfl⟩
                  go_wp2_with fail
                  go_meet
                  exact ⟨rfl, HRI5.out.draws q⟩
                · obtain ⟨w4, hw4⟩ : ∃ w4, w4 = set2 w3 wr.heap.size (.slice A4 st1.1.length c4) (.int .i64 st1.2) := ⟨_, rfl⟩
                  obtain ⟨_, _, hs4, h4⟩ := set2_done (w := wr) (e := st1.2) HSW.out H3.out (Nat.le_refl _) HS3.out
                  have HS4 : Hid (Sees w4 (.slice A4 st1.1.length c4) st1.1) := by rw [hw4]; exact hs4
                  have HU4 : Hid (Sees w4 (.slice A5 nn c5) N) := by rw [hw4]; exact HU3.out.grown (set2_grown _ _ _ _) HSW.out.noByte
                  have H4 : Hid (Below wr.heap.size wr w4) := by rw [hw4]; exact h4
                  have HP4 : Hid (w4.heap[wr.heap.size]? = some (.cells #[.slice A4 st1.1.length c4, .int .i64 st1.2] 37 (0, 0))) := by rw [hw4]; exact set2_heap HSW.out _ _
                  have HX4 := Lib.hid (HX.out w4 H4.out)
                  have HPW : wr.heap.size ≤ wr.heap.size := Nat.le_refl _
                  have g1' := (ss (.slice A4 st1.1.length c4) (.int .i64 st1.2)).2.2
                  unfold set2 at hw4
                  have HW4 := Lib.hid hw4
                  clear hw4 hs4 h4
                  go_wp2_with fail
                  rw [← HW4.out]
                  refine HX4.out.mono ?_
                  rintro e w5 ⟨v6, rfl, hs6, hr5, hg5⟩
                  obtain ⟨row5, rowp, hs5, hb5⟩ := step_keep HR.out HROW.out hbw hwg hne HS4.out H4.out HP4.out HPW hg5
                  obtain ⟨_, _, hu5, _⟩ := step_keep HR.out HROW.out hbw hwg hne HU4.out H4.out HP4.out HPW hg5
                  have HSM : Hid (Calls Try.prog 13 #[v6, .slice A5 nn c5] w5 (Tells w5 true)) := by
                    have h := same_any hs6 hu5
                    rw [decide_eq_true rfl] at h
                    exact h
                  have e0 := block_cell row5 0
                  have e1 := block_cell row5 1
                  have i0 := block_free row5 0
                  have i1 := block_free row5 1
                  have p0 := block_cell rowp 0
                  have p1 := block_cell rowp 1
                  simp only [List.getElem?_toArray, List.getElem?_cons_zero, List.getElem?_cons_succ] at e0 e1 p0 p1
                  have HRI5 := Lib.hid (ri_step row5 hr5 hs5 hb5 hlh hne hl5)
                  clear row5 rowp hs5 hb5 hr5 hg5 hu5 hs6
                  go_wp2_with fail
                  refine HSM.out.mono ?_
                  rintro e w7 ⟨rfl, q, rfl⟩
                  go_wp2_with fail
                  go_meet
                  exact ⟨rfl, HRI5.out.draws q⟩
              · have hk3b : (k == 3) = false := by rw [beq_eq_false_iff_ne]; exact hk3
                go_wp2_with fail
                go_meet
                exact ⟨rfl, st, A3, c3, HR.out, HROW.out, HSR.out, hbw, hl2⟩
      case rest =>
        clear d0 d1 g0 g1 HROW HR HSR hbw hl2
        obtain ⟨rfl, hri⟩ := hcut
        obtain ⟨st, A3, c3, hr, row, hsr, hbw, hl2⟩ := hri.out
        have hz := (Below.refl wc.heap.size wc).drew
        have HL : Hid (∀ W, Below wc.heap.size wc W → Calls Try.prog 25 #[.pointer (some ⟨g, 0, none⟩)] W fun e w' => e = .returned (.int .i64 (st.1.length : Int)) ∧ W = w') := fun W hW => left_any (hr.below hW)
        have HE : Hid (∀ W, Below wc.heap.size wc W → Calls Try.prog 27 #[.pointer (some ⟨g, 0, none⟩)] W fun e w' => e = .returned (.int .i64 st.2) ∧ W = w') := fun W hW => err_any (hr.below hW)
        have HN : Hid (∀ W, Below wc.heap.size wc W → Calls Try.prog 29 #[.pointer (some ⟨g, 0, none⟩)] W fun e w' => e = .returned (.int .i64 (endS st)) ∧ W = w') := fun W hW => end_any (hr.below hW)
        have HRL : Hid (∀ W, Calls Try.prog 26 #[.agg #[.slice A3 st.1.length c3, .int .i64 st.2]] W fun x w' => x = .returned (.int .i64 (st.1.length : Int)) ∧ Below W.heap.size W w') := fun W => rleft_any
        have HRE : Hid (∀ W, Calls Try.prog 28 #[.agg #[.slice A3 st.1.length c3, .int .i64 st.2]] W fun x w' => x = .returned (.int .i64 st.2) ∧ Below W.heap.size W w') := fun W => rerr_any
        have HRN : Hid (∀ W, Below wc.heap.size wc W → Calls Try.prog 30 #[.agg #[.slice A3 st.1.length c3, .int .i64 st.2]] W fun x w' => x = .returned (.int .i64 (endS st)) ∧ Below W.heap.size W w') := fun W hW => rend_any (hsr.below hW)
        have hhl : h < wc.heap.size := block_lt row
        have d0 := block_cell row 0
        have d1 := block_cell row 1
        simp only [List.getElem?_toArray, List.getElem?_cons_zero, List.getElem?_cons_succ] at d0 d1
        clear hr row hsr
        generalize endS st = ee at *
        generalize st.1.length = ll at *
        generalize st.2 = er at *
        go_wp2_with fail
        go_region_held3 (fun W => W.cell? ⟨h, 0, none⟩ = some (.slice A3 ll c3) ∧ W.cell? ⟨h, 1, none⟩ = some (.int .i64 er))
          (first
            | go_keep
            | exact sk1
            | exact sk2
            | exact sk3)
          (first
            | (go_at_call 25; refine (HL.out _ hz).mono ?_; rintro e w4 ⟨rfl, rfl⟩)
            | (go_at_call 26; refine (HRL.out wc.drew).mono ?_; rintro e x1 ⟨rfl, b1⟩; have hb1 := hz.trans (b1.mono hz.size); have sk1 := keep2 hhl hhl hb1 d0 d1; have B1 := Lib.hid hb1; clear b1 hb1)
            | (go_at_call 27; refine (HE.out _ B1.out).mono ?_; rintro e w4 ⟨rfl, rfl⟩)
            | (go_at_call 28; refine (HRE.out x1).mono ?_; rintro e x2 ⟨rfl, b2⟩; have hb2 := B1.out.trans (b2.mono B1.out.size); have sk2 := keep2 hhl hhl hb2 d0 d1; have B2 := Lib.hid hb2; clear b2 hb2)
            | (go_at_call 29; refine (HN.out _ B2.out).mono ?_; rintro e w4 ⟨rfl, rfl⟩)
            | (go_at_call 30; refine (HRN.out x2 B2.out).mono ?_; rintro e x3 ⟨rfl, b3⟩; have hb3 := B2.out.trans (b3.mono B2.out.size); have sk3 := keep2 hhl hhl hb3 d0 d1; have B3 := Lib.hid hb3; clear b3 hb3))
        all_goals
          go_wp2_with fail
          go_roundw
          case rel => exact ⟨j + 1, by omega, by go_num, hri.out.below B3.out⟩
          case measure => simp [intOf]; omega
    · have hjm : j = m := by omega
      subst hjm
      obtain ⟨st, A3, c3, hr, row, hsr, hbw, hl2⟩ := hri.out
      have hz := (Below.refl wr.heap.size wr).drew
      have HL : Hid (∀ W, Below wr.heap.size wr W → Calls Try.prog 25 #[.pointer (some ⟨g, 0, none⟩)] W fun e w' => e = .returned (.int .i64 (st.1.length : Int)) ∧ W = w') := fun W hW => left_any (hr.below hW)
      have HE : Hid (∀ W, Below wr.heap.size wr W → Calls Try.prog 27 #[.pointer (some ⟨g, 0, none⟩)] W fun e w' => e = .returned (.int .i64 st.2) ∧ W = w') := fun W hW => err_any (hr.below hW)
      have HRL : Hid (∀ W, Calls Try.prog 26 #[.agg #[.slice A3 st.1.length c3, .int .i64 st.2]] W fun x w' => x = .returned (.int .i64 (st.1.length : Int)) ∧ Below W.heap.size W w') := fun W => rleft_any
      have HRE : Hid (∀ W, Calls Try.prog 28 #[.agg #[.slice A3 st.1.length c3, .int .i64 st.2]] W fun x w' => x = .returned (.int .i64 st.2) ∧ Below W.heap.size W w') := fun W => rerr_any
      have hhl : h < wr.heap.size := block_lt row
      have d0 := block_cell row 0
      have d1 := block_cell row 1
      simp only [List.getElem?_toArray, List.getElem?_cons_zero, List.getElem?_cons_succ] at d0 d1
      clear hr row hsr
      generalize st.1.length = ll at *
      generalize st.2 = er at *
      go_wp2_with fail
      go_region_held3 (fun W => W.cell? ⟨h, 0, none⟩ = some (.slice A3 ll c3) ∧ W.cell? ⟨h, 1, none⟩ = some (.int .i64 er))
        (first
          | go_keep
          | exact sk1
          | exact sk2
          | exact sk3)
        (first
          | (go_at_call 27; refine (HE.out _ hz).mono ?_; rintro e w4 ⟨rfl, rfl⟩)
          | (go_at_call 28; refine (HRE.out wr.drew).mono ?_; rintro e x1 ⟨rfl, b1⟩; have hb1 := hz.trans (b1.mono hz.size); have sk1 := keep2 hhl hhl hb1 d0 d1; have B1 := Lib.hid hb1; clear b1 hb1)
          | (go_at_call 25; refine (HL.out _ B1.out).mono ?_; rintro e w4 ⟨rfl, rfl⟩)
          | (go_at_call 26; refine (HRL.out x1).mono ?_; rintro e x2 ⟨rfl, b2⟩; have hb2 := B1.out.trans (b2.mono B1.out.size); have sk2 := keep2 hhl hhl hb2 d0 d1; have B2 := Lib.hid hb2; clear b2 hb2)
          | (go_at_call 11; refine (example_any x2).mono ?_; rintro e x3 ⟨rfl, b3⟩; have hb3 := B2.out.trans (b3.mono B2.out.size); have sk3 := keep2 hhl hhl hb3 d0 d1; have B3 := Lib.hid hb3; clear b3 hb3))
      all_goals
        go_wp2_with fail
        go_ret
        exact ⟨rfl, hbw.trans (B3.out.mono hbw.size)⟩

end Go.Proofs.Ytealpmcpaakclaa
