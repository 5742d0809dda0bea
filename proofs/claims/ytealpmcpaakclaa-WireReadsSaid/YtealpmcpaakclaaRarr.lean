/-
  The reference's reader, on: Array.
-/
import Derived.Test.YtealpmcpaakclaaRint
import Derived.BigQuiet
import Derived.StillTailTactics
namespace Go.Proofs.Ytealpmcpaakclaa
open Go.RowKit Mem Wire

theorem num_err {s : St} (hf : Fine s) (he : (numS s).1.2 ≠ 0) : (numS s).2 = 0 := by
  unfold numS at he ⊢
  split
  · rfl
  · rename_i h4
    rw [if_neg h4] at he
    have := hf he
    rw [this] at h4
    exact absurd (by simp) h4
theorem ct_err {s : St} (hf : Fine s) (most : Int) (he : (numS s).1.2 ≠ 0) : countS s most = ((numS s).1, []) := by
  have h0 := num_err hf he
  have h1 : (numS s).1.1 = [] := fine_num hf he
  unfold countS
  rw [h0]
  have hl : limS (numS s).1 0 most = (numS s).1 := if_neg (by omega)
  rw [hl]
  unfold cutS
  have hu : up 0 = 0 := rfl
  rw [hu, h1]
  simp only [List.length_nil, Nat.lt_irrefl, if_false, List.take_nil, List.drop_nil, Nat.sub_self, List.replicate_zero, if_true]
  rw [← h1]
theorem ct_lim {s : St} (most : Int) (he : (numS s).1.2 = 0) (hl : max most 0 < ((numS s).2 : Int)) : countS s most = (([], 5), []) := by
  unfold countS
  have h1 : limS (numS s).1 (numS s).2 most = ([], 5) := by unfold limS failS; rw [if_pos hl, if_pos he]
  rw [h1]
  have hp : 0 < (numS s).2 := by omega
  unfold cutS
  rw [if_pos (by simp only [List.length_nil]; unfold up; omega)]
  rfl
theorem ct_in {s : St} (most : Int) (hl : ((numS s).2 : Int) ≤ max most 0) : countS s most = cutS (numS s).1 (numS s).2 := by
  unfold countS limS
  rw [if_neg (by omega)]
theorem ct_short {s : St} (most : Int) (he : (numS s).1.2 = 0) (hl : ((numS s).2 : Int) ≤ max most 0) (hs : (numS s).1.1.length < up (numS s).2) : countS s most = (([], 4), []) := by
  rw [ct_in most hl]
  unfold cutS failS
  rw [if_pos hs, if_pos he]
theorem ct_bad {s : St} (most : Int) (he : (numS s).1.2 = 0) (hl : ((numS s).2 : Int) ≤ max most 0) (hs : up (numS s).2 ≤ (numS s).1.1.length) (hz : ((numS s).1.1.take (up (numS s).2)).drop (numS s).2 ≠ List.replicate (up (numS s).2 - (numS s).2) 0) : countS s most = (([], 3), []) := by
  rw [ct_in most hl]
  unfold cutS failS
  rw [if_neg (by omega), if_neg hz, if_pos he]
theorem ct_good {s : St} (most : Int) (he : (numS s).1.2 = 0) (hl : ((numS s).2 : Int) ≤ max most 0) (hs : up (numS s).2 ≤ (numS s).1.1.length) (hz : ((numS s).1.1.take (up (numS s).2)).drop (numS s).2 = List.replicate (up (numS s).2 - (numS s).2) 0) : countS s most = (((numS s).1.1.drop (up (numS s).2), 0), (numS s).1.1.take (numS s).2) := by
  rw [ct_in most hl]
  unfold cutS
  rw [if_neg (by omega), if_pos hz, he]

theorem padding_big (n : Nat) (hn : n < 4294967296) (w : World) : Calls Try.prog 50 #[.int .i64 n] w fun e w' => e = .returned (.int .i64 ((pad n : Nat) : Int)) ∧ w' = w := by
  go_enter Try.func50, Try.ntmps50
  go_wp2_with fail
  go_ret
  exact ⟨ret_num (by unfold pad; omega), rfl⟩

theorem box_noByte {w : World} {h : Nat} {A : Option Addr} {n c : Nat} {e : Int} (hs : w.heap[h]? = some (.cells #[.slice A n c, .int .i64 e] 37 (0, 0))) : ∀ o x, w.cell? ⟨h, o, none⟩ ≠ some (byte x) := by
  intro o x
  rw [block_cell hs]
  match o with
  | 0 => simp [byte]
  | 1 => simp [byte]
  | o + 2 => simp

/-- the new unread bytes are stored in the reader's own variable, and that variable in the result's -/
theorem good_done {w W : World} {h g : Nat} {A : Option Addr} {n c : Nat} {x v : Value} {bs out : List UInt8} (row : W.heap[g]? = some (.cells #[.slice A n c, .int .i64 0] 37 (0, 0))) (hsl : Slot2 W h) (hb : Below w.heap.size w W)
    (hh : w.heap.size ≤ h) (hg : w.heap.size ≤ g) (hne : h ≠ g) (hx : Sees W x bs) (hv : Sees W v out) :
    (set2 (W.setCell ⟨g, 0, none⟩ x) h x (.int .i64 0)).cell? ⟨h, 0, none⟩ = some x ∧ (set2 (W.setCell ⟨g, 0, none⟩ x) h x (.int .i64 0)).cell? ⟨h, 1, none⟩ = some (.int .i64 0) ∧
    Sees (set2 (W.setCell ⟨g, 0, none⟩ x) h x (.int .i64 0)) x bs ∧ Sees (set2 (W.setCell ⟨g, 0, none⟩ x) h x (.int .i64 0)) v out ∧ Below w.heap.size w (set2 (W.setCell ⟨g, 0, none⟩ x) h x (.int .i64 0)) := by
  have hgr := grown_set W g 0 x
  have hsl2 : Slot2 (W.setCell ⟨g, 0, none⟩ x) h := (hgr.block h (block_lt hsl) (fun e => by injection e with e; omega)).trans hsl
  have hb2 : Below w.heap.size w (W.setCell ⟨g, 0, none⟩ x) := hb.grown hgr hb.size (fun k hk => by injection hk with hk; omega)
  obtain ⟨h0, h1, h2, h3⟩ := set2_done (e := 0) hsl2 hb2 hh (hx.grown hgr (box_noByte row))
  exact ⟨h0, h1, h2, (hv.grown hgr (box_noByte row)).grown (set2_grown _ h _ _) hsl2.noByte, h3⟩

set_option maxHeartbeats 1000000 in
theorem rarray_cut {w : World} {A : Option Addr} {n c : Nat} {s : St} (most : Int) (hs : Sees w (.slice A n c) s.1) (hf : Fine s) (hlen : s.1.length ≤ 1000000) (he : (numS s).1.2 = 0) (hin : ((numS s).2 : Int) ≤ max most 0) (hsh : up (numS s).2 ≤ (numS s).1.1.length) :
    Calls Try.prog 23 #[rv (.slice A n c) s.2, .int .i64 most] w (Back3 w (countS s most).1 (countS s most).2) := by
  obtain ⟨w2, hw2⟩ : ∃ w2, w2 = (w.alloc (.cells #[.slice A n c, .int .i64 s.2] 37)).alloc (.cells #[.slice none 0 0, .int .i64 0] 37) := ⟨_, rfl⟩
  have hb2 : Below w.heap.size w w2 := by rw [hw2]; exact ((Below.refl _ _).alloc (Nat.le_refl _) _).alloc (by simp) _
  have hsl : Slot2 w2 (w.heap.size + 1) := by rw [hw2]; exact heap_alloc_at (w.alloc (.cells #[.slice A n c, .int .i64 s.2] 37)) _ _ (by simp)
  have hs2 : Sees w2 (.slice A n c) s.1 := by rw [hw2]; exact (hs.alloc _).alloc _
  have HU := Lib.hid (ruint_any hs2 hf)
  have HW := Lib.hid hw2
  have hN := numS_lt s
  have hle := num_le s hf
  have HF := Lib.hid hf
  unfold rv at HU ⊢
  clear hw2 hs hs2
  obtain ⟨bs1, h1⟩ : ∃ b, (numS s).1 = (b, 0) := ⟨(numS s).1.1, Prod.ext rfl he⟩
  have hup := up_pad (numS s).2
  have hp3 : pad (numS s).2 ≤ 3 := by unfold pad; omega
  have HP := Lib.hid (padding_big (numS s).2 hN)
  rw [h1] at HU hsh
  dsimp only at hsh
  have hct : countS s most = if (bs1.take (up (numS s).2)).drop (numS s).2 = List.replicate (pad (numS s).2) 0 then ((bs1.drop (up (numS s).2), 0), bs1.take (numS s).2) else (([], 3), []) := by
    have hpu : up (numS s).2 - (numS s).2 = pad (numS s).2 := by omega
    split
    · rename_i hz
      have h2 := ct_good most he hin (by rw [h1]; dsimp only; omega) (by rw [h1, hpu]; exact hz)
      rw [h1] at h2
      exact h2
    · rename_i hz
      exact ct_bad most he hin (by rw [h1]; dsimp only; omega) (by rw [h1, hpu]; exact hz)
  rw [hup] at hsh hct
  have HCT := Lib.hid hct
  have hl1 : bs1.length ≤ 1000000 := by rw [h1] at hle; exact Nat.le_trans hle hlen
  clear HF hf hle he h1 hup hct
  generalize countS s most = r at *
  generalize pad (numS s).2 = p at *
  generalize (numS s).2 = N at *
  go_enter Try.func23, Try.ntmps23
  go_wp2_with fail
  rw [← HW.out]
  refine HU.out.mono ?_
  rintro e w3 ⟨v3, rfl, hs3, h3⟩
  obtain ⟨A3, c3, rfl, hc3, hm3⟩ := hs3.shape
  obtain ⟨w4, hw4⟩ : ∃ w4, w4 = w3.alloc (.cells #[.slice A3 bs1.length c3, .int .i64 0] 37) := ⟨_, rfl⟩
  have hsl4 := hsl.below h3
  have hb4 := hb2.trans (h3.mono hb2.size)
  have hlt : w.heap.size + 1 < w3.heap.size := block_lt hsl4
  have hlt4 : w3.heap.size < w4.heap.size := by rw [hw4]; simp
  replace hb4 : Below w.heap.size w w4 := by rw [hw4]; exact hb4.alloc hb4.size _
  replace hsl4 : Slot2 w4 (w.heap.size + 1) := by rw [hw4]; exact hsl4.below ((Below.refl _ _).alloc (Nat.le_refl _) _)
  have d0 : w4.cell? ⟨w3.heap.size, 0, none⟩ = some (.slice A3 bs1.length c3) := by rw [hw4, World.cell?_alloc_at _ _ _ _ rfl]; rfl
  have hrow4 : w4.heap[w3.heap.size]? = some (.cells #[.slice A3 bs1.length c3, .int .i64 0] 37 (0, 0)) := by rw [hw4]; exact heap_alloc_new w3 _
  have HROW4 := Lib.hid hrow4
  clear hrow4
  have hs4 : Sees w4 (.slice A3 bs1.length c3) bs1 := by rw [hw4]; exact hs3.alloc _
  have hcm3 : c3 ≤ 9223372036854775807 := by simpa [maxLen] using hm3
  have HS4 := Lib.hid hs4
  have HW4 := Lib.hid hw4
  dsimp only at hc3
  have q2 : ¬ (bs1.length : Int) < (N : Int) + (p : Int) := by omega
  have q3 : (N : Int) ≤ (c3 : Int) := by omega
  have HT := Lib.hid (hs4.take (k := N) (by omega))
  have HL := Lib.hid hl1
  clear hl1
  have q1 : IntKind.i64.wrap ((N : Int) + (p : Int)) = (N : Int) + (p : Int) := by rw [IntKind.wrap_i64]; omega
  generalize bs1.length = m at *
  clear hs3 h3 hw4 hs4 hm3
  unfold rv
  dsimp only
  go_wp2_with fail
  all_goals
    rw [← HW4.out]
    go_quiet ((go_at_call 50; exact Calls.quiet_of_same (HP.out _)))
    clear q2
    generalize hwk : w4.drewN _ = wk
    have hbk : Below w.heap.size w wk := by rw [← hwk]; exact below_draws hb4 _
    have hslk : Slot2 wk (w.heap.size + 1) := by rw [← hwk]; exact hsl4
    have d0k : wk.cell? ⟨w3.heap.size, 0, none⟩ = some (.slice A3 m c3) := by rw [← hwk]; exact d0
    have HROWK : Hid (wk.heap[w3.heap.size]? = some (.cells #[.slice A3 m c3, .int .i64 0] 37 (0, 0))) := by rw [← hwk]; exact HROW4.out
    have hltk : w3.heap.size < wk.heap.size := by rw [← hwk]; exact hlt4
    have HTK : Hid (Sees wk (.slice A3 N c3) (bs1.take N)) := by rw [← hwk]; exact HT.out
    have HSK : Hid (Sees wk (.slice A3 m c3) bs1) := by rw [← hwk]; exact HS4.out
    clear hwk hb4 hsl4 d0 HROW4 hlt4 HT HS4 HW4
    go_wp2_with (at_builtin; refine wpList_app rfl (.tmp 37) (.tmp 41) rfl (v := .slice (some ⟨wk.heap.size, 0, none⟩) 0 0) rfl (base := wk.heap.size) (own_at wk _ rfl) rfl (HTK.out.alloc _) (by have := HL.out; rw [List.length_take, List.length_nil]; omega) (by simp) ?_; intro v6 w6 ho6 hg6 _; rw [List.nil_append] at ho6; have hb6 : Below wk.heap.size wk w6 := ((Below.refl _ _).alloc (Nat.le_refl _) _).grown hg6 (by simp) (fun k hk => by have e : some wk.heap.size = some k := hk; injection e with e; omega); have HO6 := Lib.hid ho6.sees; have row6 := (hb6.block w3.heap.size hltk).trans HROWK.out; have HROW6 := Lib.hid row6; have hsl6 := hslk.below hb6; have hlt6 := Nat.lt_of_lt_of_le hltk hb6.size; have hbw6 := hbk.trans (hb6.mono hbk.size); have HS6 := Lib.hid (HSK.out.below hb6); clear hg6 ho6 hb6 hbk hslk d0k HROWK hltk HTK HSK)
    have d06 := block_cell row6 0
    have d16 := block_cell row6 1
    have f06 := block_free row6 0
    simp only [List.getElem?_toArray, List.getElem?_cons_zero, List.getElem?_cons_succ] at d06 d16
    clear row6
    have q2 : ¬ (m : Int) < (N : Int) + (p : Int) := by omega
    have q4 : (N : Int) + (p : Int) ≤ (c3 : Int) := by omega
    have q5 : ((N : Int) + (p : Int)).toNat = N + p := by omega
    have z0 : (0 : Int) ≤ (N : Int) := by omega
    have z1 : (N : Int) ≤ (N : Int) + (p : Int) := by omega
    have z2 : (0 : Int) ≤ (N : Int) + (p : Int) := by omega
    have z3 : N + p - N = p := by omega
    obtain ⟨hmb, _, _⟩ := rlen HS6.out
    have hz0 := (HS6.out.take (k := N + p) (by omega)).drop (k := N) (by omega)
    rw [z3] at hz0
    have hzl : ((bs1.take (N + p)).drop N).length = p := by rw [List.length_drop, List.length_take]; omega
    have HZ := Lib.hid (fun k => (zeros_any (w := w6.drewN k) (show Sees (w6.drewN k) _ _ from hz0) p hzl).mono (fun _ _ h => (⟨h.1, h.2.symm⟩ : _ ∧ _)))
    have HMB := Lib.hid hmb
    clear hz0 hzl hmb z3
    by_cases hz : (bs1.take (N + p)).drop N = List.replicate p 0
    · rw [decide_eq_true hz] at HZ
      have hr := HCT.out
      rw [if_pos hz] at hr
      subst hr
      clear HCT hz
      by_cases hcN : c3 = N
      all_goals
        first
          | rw [if_pos hcN, show c3 - N = 0 by omega] at HZ
          | rw [if_neg hcN] at HZ
        go_quiet ((first | (go_at_call 50; exact Calls.quiet_of_same (HP.out _)) | (go_at_call 51; exact Calls.quiet_of_same (HZ.out _))))
        clear q2 q4 z1 HZ
        go_wp2_with fail
        clear hcN
        generalize hwq : w6.drewN _ = wq
        have hbq : Below w.heap.size w wq.drew := by rw [← hwq]; exact (below_draws hbw6 _).drew
        have hslq : Slot2 wq.drew (w.heap.size + 1) := by rw [← hwq]; exact hsl6
        have rowq : wq.drew.heap[w3.heap.size]? = some (.cells #[.slice A3 m c3, .int .i64 0] 37 (0, 0)) := by rw [← hwq]; exact HROW6.out
        have HOQ : Hid (Sees wq.drew v6 (bs1.take N)) := by rw [← hwq]; exact HO6.out
        have HSQ : Hid (Sees wq.drew (.slice A3 m c3) bs1) := by rw [← hwq]; exact HS6.out
        have HSLQ := Lib.hid hslq
        have HBQ := Lib.hid hbq
        have HROWQ := Lib.hid rowq
        have s0 := block_cell hslq 0
        have s1 := block_cell hslq 1
        have e0 := block_free hslq 0
        have e1 := block_free hslq 1
        have g0 := block_cell rowq 0
        have g1 := block_cell rowq 1
        have i0 := block_free rowq 0
        simp only [List.getElem?_toArray, List.getElem?_cons_zero, List.getElem?_cons_succ] at s0 s1 g0 g1
        clear hwq hbq hslq rowq hsl6 d06 d16 f06 HROW6 HO6 HS6 hbw6
        have y0 : (N : Int) + (p : Int) ≤ (m : Int) := by omega
        have y1 : (m : Int) ≤ (c3 : Int) := by omega
        have hd := HSQ.out.drop (k := N + p) (by omega)
        by_cases hcu : c3 = N + p
        all_goals
          first
            | rw [if_pos hcu, show c3 - (N + p) = 0 by omega] at hd
            | rw [if_neg hcu] at hd
          have HD := Lib.hid hd
          clear hd
          refine wp_region_still_tail 7 (by kernel_rfl) (by kernel_rfl) ?_
          simp only [List.take_succ_cons, List.take_zero, List.drop_succ_cons, List.drop_zero]
          change wpStill _ _ wq.drew (fun a' => wpList _ _ _ _ a' wq.drew) _ _
          generalize wq.drew = wd at *
          repeat still_step
          still_call (HP.out _)
          repeat still_step
          refine wpStill_nil ?_
          clear y0 y1 q1 q5 z0 z2
          go_wp2_with fail
          obtain ⟨b0, b1, h8, h9, h10⟩ := good_done HROWQ.out HSLQ.out HBQ.out (by omega) (by omega) (by omega) HD.out HOQ.out
          unfold set2 at b0 b1
          exact bodyPost_ret (v := .tuple #[.agg #[_, .int .i64 0], v6]) (by simp [results, Try.results23, go_sem, b0, b1]) rfl ⟨_, _, rfl, h8, h9, h10⟩
    · rw [decide_eq_false hz] at HZ
      have hr := HCT.out
      rw [if_neg hz] at hr
      subst hr
      clear HCT hz
      by_cases hcN : c3 = N
      all_goals
        first
          | rw [if_pos hcN, show c3 - N = 0 by omega] at HZ
          | rw [if_neg hcN] at HZ
        go_quiet ((first | (go_at_call 50; exact Calls.quiet_of_same (HP.out _)) | (go_at_call 51; exact Calls.quiet_of_same (HZ.out _))))
        clear q1 q2 q4 q5 z0 z1 z2 HZ
        have HE := Lib.hid (fun k c => ref_fail (w := w6.drewN k) (A := A3) (n := m) (c := c) 0 3)
        unfold rv at HE
        go_wp2_with fail
        refine (HE.out _ _).mono ?_
        rintro e w7 ⟨v7, rfl, hs7, h7⟩
        obtain ⟨A7, c7, rfl, _, _⟩ := hs7.shape
        have hsl7 := Slot2.below (w := w6.drewN _) hsl6 h7
        have a0 := block_cell hsl7 0
        have a1 := block_cell hsl7 1
        have f0 := block_free hsl7 0
        have f1 := block_free hsl7 1
        simp only [List.getElem?_toArray, List.getElem?_cons_zero, List.getElem?_cons_succ] at a0 a1
        have HS7 := Lib.hid hs7
        have HSL := Lib.hid hsl7
        unfold rv
        clear hs7 hsl7
        go_wp2_with fail
        obtain ⟨_, _, h8, h9⟩ := set2_done (e := 3) HSL.out ((below_draws hbw6 _).trans (h7.mono hbw6.size)) (by omega) HS7.out
        exact bodyPost_ret (v := .tuple #[.agg #[.slice A7 0 c7, .int .i64 3], .slice none 0 0]) (by simp [results, Try.results23, go_sem, a0, a1]) rfl ⟨_, _, rfl, h8, sees_nil _, h9⟩

set_option maxHeartbeats 1000000 in
theorem rarray_any {w : World} {A : Option Addr} {n c : Nat} {s : St} (most : Int) (hs : Sees w (.slice A n c) s.1) (hf : Fine s) (hlen : s.1.length ≤ 1000000) :
    Calls Try.prog 23 #[rv (.slice A n c) s.2, .int .i64 most] w (Back3 w (countS s most).1 (countS s most).2) := by
  obtain ⟨w2, hw2⟩ : ∃ w2, w2 = (w.alloc (.cells #[.slice A n c, .int .i64 s.2] 37)).alloc (.cells #[.slice none 0 0, .int .i64 0] 37) := ⟨_, rfl⟩
  have hb2 : Below w.heap.size w w2 := by rw [hw2]; exact ((Below.refl _ _).alloc (Nat.le_refl _) _).alloc (by simp) _
  have hsl : Slot2 w2 (w.heap.size + 1) := by rw [hw2]; exact heap_alloc_at (w.alloc (.cells #[.slice A n c, .int .i64 s.2] 37)) _ _ (by simp)
  have hs2 : Sees w2 (.slice A n c) s.1 := by rw [hw2]; exact (hs.alloc _).alloc _
  have HU := Lib.hid (ruint_any hs2 hf)
  have HW := Lib.hid hw2
  have hN := numS_lt s
  have hle := num_le s hf
  have HF := Lib.hid hf
  unfold rv at HU ⊢
  have hs0 := hs
  clear hw2 hs hs2
  by_cases he : (numS s).1.2 = 0
  · have HP := Lib.hid (padding_big (numS s).2 hN)
    by_cases hlim : max most 0 < ((numS s).2 : Int)
    · rw [ct_lim most he hlim]
      obtain ⟨bs1, h1⟩ : ∃ b, (numS s).1 = (b, 0) := ⟨(numS s).1.1, Prod.ext rfl he⟩
      rw [h1] at HU
      clear HF hf hle he h1
      generalize (numS s).2 = N at *
      go_enter Try.func23, Try.ntmps23
      go_wp2_with fail
      rw [← HW.out]
      refine HU.out.mono ?_
      rintro e w3 ⟨v3, rfl, hs3, h3⟩
      obtain ⟨A3, c3, rfl, _, _⟩ := hs3.shape
      obtain ⟨w4, hw4⟩ : ∃ w4, w4 = w3.alloc (.cells #[.slice A3 bs1.length c3, .int .i64 0] 37) := ⟨_, rfl⟩
      have hsl4 := hsl.below h3
      have hb4 := hb2.trans (h3.mono hb2.size)
      have hlt : w.heap.size + 1 < w3.heap.size := block_lt hsl4
      replace hb4 : Below w.heap.size w w4 := by rw [hw4]; exact hb4.alloc hb4.size _
      replace hsl4 : Slot2 w4 (w.heap.size + 1) := by rw [hw4]; exact hsl4.below ((Below.refl _ _).alloc (Nat.le_refl _) _)
      have HE := Lib.hid (ref_fail (w := w4) (A := A3) (n := bs1.length) (c := c3) 0 5)
      have HS3 := Lib.hid hs3
      have HW4 := Lib.hid hw4
      unfold rv at HE ⊢
      clear hs3 h3 hw4
      dsimp only
      go_wp2_with fail
      all_goals
        rw [← HW4.out]
        refine HE.out.mono ?_
        rintro e w5 ⟨v5, rfl, hs5, h5⟩
        obtain ⟨A5, c5, rfl, _, _⟩ := hs5.shape
        have hsl5 := hsl4.below h5
        have a0 := block_cell hsl5 0
        have a1 := block_cell hsl5 1
        have f0 := block_free hsl5 0
        have f1 := block_free hsl5 1
        simp only [List.getElem?_toArray, List.getElem?_cons_zero, List.getElem?_cons_succ] at a0 a1
        have HS5 := Lib.hid hs5
        have HSL := Lib.hid hsl5
        unfold rv
        clear hs5 hsl5
        go_wp2_with fail
        obtain ⟨_, _, h6, h7⟩ := set2_done (e := 5) HSL.out (hb4.trans (h5.mono hb4.size)) (by omega) HS5.out
        exact bodyPost_ret (v := .tuple #[.agg #[.slice A5 0 c5, .int .i64 5], .slice none 0 0]) (by simp [results, Try.results23, go_sem, a0, a1]) rfl ⟨_, _, rfl, h6, sees_nil _, h7⟩
    · have hin : ((numS s).2 : Int) ≤ max most 0 := by omega
      obtain ⟨bs1, h1⟩ : ∃ b, (numS s).1 = (b, 0) := ⟨(numS s).1.1, Prod.ext rfl he⟩
      have hup := up_pad (numS s).2
      have hp3 : pad (numS s).2 ≤ 3 := by unfold pad; omega
      by_cases hsh : (numS s).1.1.length < up (numS s).2
      · rw [ct_short most he hin hsh]
        rw [h1] at HU hsh
        dsimp only at hsh
        rw [hup] at hsh
        clear HF hf hle he h1 hup
        generalize pad (numS s).2 = p at *
        generalize (numS s).2 = N at *
        go_enter Try.func23, Try.ntmps23
        go_wp2_with fail
        rw [← HW.out]
        refine HU.out.mono ?_
        rintro e w3 ⟨v3, rfl, hs3, h3⟩
        obtain ⟨A3, c3, rfl, _, _⟩ := hs3.shape
        obtain ⟨w4, hw4⟩ : ∃ w4, w4 = w3.alloc (.cells #[.slice A3 bs1.length c3, .int .i64 0] 37) := ⟨_, rfl⟩
        have hsl4 := hsl.below h3
        have hb4 := hb2.trans (h3.mono hb2.size)
        have hlt : w.heap.size + 1 < w3.heap.size := block_lt hsl4
        replace hb4 : Below w.heap.size w w4 := by rw [hw4]; exact hb4.alloc hb4.size _
        replace hsl4 : Slot2 w4 (w.heap.size + 1) := by rw [hw4]; exact hsl4.below ((Below.refl _ _).alloc (Nat.le_refl _) _)
        have d0 : w4.cell? ⟨w3.heap.size, 0, none⟩ = some (.slice A3 bs1.length c3) := by rw [hw4, World.cell?_alloc_at _ _ _ _ rfl]; rfl
        have d1 : w4.cell? ⟨w3.heap.size, 1, none⟩ = some (.int .i64 0) := by rw [hw4, World.cell?_alloc_at _ _ _ _ rfl]; rfl
        have HE := Lib.hid (fun k => ref_fail (w := w4.drewN k) (A := A3) (n := bs1.length) (c := c3) 0 4)
        have HS3 := Lib.hid hs3
        have HW4 := Lib.hid hw4
        have q1 : IntKind.i64.wrap ((N : Int) + (p : Int)) = (N : Int) + (p : Int) := by rw [IntKind.wrap_i64]; omega
        have q2 : (bs1.length : Int) < (N : Int) + (p : Int) := by omega
        generalize bs1.length = m at *
        unfold rv at HE ⊢
        clear hs3 h3 hw4
        dsimp only
        go_wp2_with fail
        all_goals
          rw [← HW4.out]
          go_quiet ((go_at_call 50; exact Calls.quiet_of_same (HP.out _)))
          clear q1 q2
          go_wp2_with fail
          refine (HE.out _).mono ?_
          rintro e w5 ⟨v5, rfl, hs5, h5⟩
          obtain ⟨A5, c5, rfl, _, _⟩ := hs5.shape
          have hsl5 := Slot2.below (w := w4.drewN _) hsl4 h5
          have a0 := block_cell hsl5 0
          have a1 := block_cell hsl5 1
          have f0 := block_free hsl5 0
          have f1 := block_free hsl5 1
          simp only [List.getElem?_toArray, List.getElem?_cons_zero, List.getElem?_cons_succ] at a0 a1
          have HS5 := Lib.hid hs5
          have HSL := Lib.hid hsl5
          unfold rv
          clear hs5 hsl5
          go_wp2_with fail
          obtain ⟨_, _, h6, h7⟩ := set2_done (e := 4) HSL.out ((below_draws hb4 _).trans (h5.mono hb4.size)) (by omega) HS5.out
          exact bodyPost_ret (v := .tuple #[.agg #[.slice A5 0 c5, .int .i64 4], .slice none 0 0]) (by simp [results, Try.results23, go_sem, a0, a1]) rfl ⟨_, _, rfl, h6, sees_nil _, h7⟩
      · exact rarray_cut most hs0 hf hlen he hin (by omega)
  · rw [ct_err hf most he]
    have hne : ((numS s).1.2 != 0) = true := by rw [bne_iff_ne]; exact he
    clear HF hf hle
    generalize (numS s).2 = N at *
    generalize (numS s).1 = s1 at *
    obtain ⟨bs1, e1⟩ := s1
    dsimp only at HU hne he ⊢
    clear he
    go_enter Try.func23, Try.ntmps23
    go_wp2_with fail
    rw [← HW.out]
    refine HU.out.mono ?_
    rintro e w3 ⟨v3, rfl, hs3, h3⟩
    obtain ⟨A3, c3, rfl, _, _⟩ := hs3.shape
    have hb3 := hb2.trans (h3.mono hb2.size)
    have hsl3 := hsl.below h3
    have hlt : w.heap.size + 1 < w3.heap.size := block_lt hsl3
    have a0 := block_cell hsl3 0
    have a1 := block_cell hsl3 1
    have f0 := block_free hsl3 0
    have f1 := block_free hsl3 1
    simp only [List.getElem?_toArray, List.getElem?_cons_zero, List.getElem?_cons_succ] at a0 a1
    have HS3 := Lib.hid hs3
    have HSL := Lib.hid hsl3
    unfold rv
    clear hs3 hsl3 h3
    dsimp only
    go_wp2_with fail
    obtain ⟨b0, b1, h4, h5⟩ := set2_out (e := e1) HSL.out hb3 (by omega) HS3.out (.cells #[.slice A3 bs1.length c3, .int .i64 e1] 37)
    exact bodyPost_ret (v := .tuple #[.agg #[.slice A3 bs1.length c3, .int .i64 e1], .slice none 0 0]) (by simp [results, Try.results23, go_sem, b0, b1]) rfl ⟨_, _, rfl, h4, sees_nil _, h5⟩

end Go.Proofs.Ytealpmcpaakclaa
