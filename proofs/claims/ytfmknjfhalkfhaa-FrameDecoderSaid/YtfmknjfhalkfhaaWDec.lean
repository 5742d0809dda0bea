/-
  FrameDecoder: for every sequence of pieces, a decoder returns the frames, errors and numbers of buffered bytes of the reference (asked of at most 40 pieces with at most 20,000 bytes): the law returns true and leaves its argument as it was. No condition.
-/
import Derived.Test.YtfmknjfhalkfhaaRfeed
import Derived.Test.YtfmknjfhalkfhaaWStream
import Derived.Deep.RegionHeld3
namespace Go.Proofs.Ytfmknjfhalkfhaa
open Go.ChangeShapes Go.WideShapes Go.ChangeAt Go.RowKit Mem Wire

/-- in the loop, behind k pieces: the decoder at g, the reference's decoder in the variable at H -/
structure DL (w : World) (l : List (List UInt8 × Value)) (g H k : Nat) (bv rv : Value) (buf : List UInt8) (closed : Bool) (wr : World) : Prop where
  dec : Dec wr w.heap.size g bv buf closed
  slot : wr.heap[H]? = some (.cells #[rv, .bool closed] 41 (0, 0))
  high : w.heap.size ≤ H
  sees : Sees wr rv buf
  apart : buf ≠ [] → ∀ k, rv.ownBlock = some k → k ≠ g ∧ some k ≠ bv.ownBlock
  below : Below w.heap.size w wr
  len : buf.length ≤ total (l.take k)
  shut : closed = true → buf = []

theorem feedS_len (buf p : List UInt8) (closed : Bool) (hs : closed = true → buf = []) : (feedS buf closed p).2.2.1.length ≤ buf.length + p.length ∧ ((feedS buf closed p).2.2.2 = true → (feedS buf closed p).2.2.1 = []) := by
  have h := split_length (buf ++ p)
  rw [List.length_append] at h
  unfold feedS
  cases closed with
  | true => rw [if_pos rfl]; exact ⟨by dsimp only; omega, fun _ => hs rfl⟩
  | false =>
    rw [if_neg (by decide)]
    split
    · exact ⟨by dsimp only; omega, (fun n => by cases n)⟩
    · exact ⟨by dsimp only [List.length_nil]; omega, fun _ => rfl⟩

/-- after both calls of Feed: the decoder is kept, the reference's new decoder lies in a variable at h8 -/
structure DC (w w2 : World) (g H h8 : Nat) (bv rv rv2 : Value) (buf : List UInt8) (closed closed0 : Bool) (fv fv9 : Value) (m m9 : List (Fr × Value)) (wx : World) : Prop where
  dec : Dec wx w.heap.size g bv buf closed
  slot : wx.heap[H]? = some (.cells #[rv, .bool closed0] 41 (0, 0))
  new : wx.heap[h8]? = some (.cells #[rv2, .bool closed] 41 (0, 0))
  sees : Sees wx rv2 buf
  apart : buf ≠ [] → ∀ k, rv2.ownBlock = some k → k ≠ g ∧ some k ≠ bv.ownBlock
  frs : Frs wx fv m
  frs9 : Frs wx fv9 m9
  same : fst m = fst m9
  below : Below w.heap.size w wx

theorem dc_of {w w2 wx : World} {g H h8 : Nat} {bv rv rv2 : Value} {r3 : List UInt8} {r4 closed0 : Bool} {fv fv9 : Value} {m m9 : List (Fr × Value)} (hB : Below w2.heap.size w2 wx) (hnew : wx.heap[h8]? = some (.cells #[rv2, .bool r4] 41 (0, 0))) (hs : Sees wx rv2 r3) (hf9 : Frs wx fv9 m9)
    (hap : r3 ≠ [] → ∀ k, rv2.ownBlock = some k → w2.heap.size ≤ k ∨ r4 = true) (hr4 : r4 = true → r3 = []) (hdec : Dec w2 w.heap.size g bv r3 r4) (hslot : w2.heap[H]? = some (.cells #[rv, .bool closed0] 41 (0, 0))) (hfr : Frs w2 fv m) (hsame : fst m = fst m9) (hbw : Below w.heap.size w w2) :
    DC w w2 g H h8 bv rv rv2 r3 r4 closed0 fv fv9 m m9 wx := by
  refine ⟨hdec.below hB, (hB.block H (block_lt hslot)).trans hslot, hnew, hs, fun hn k hk => ?_, hfr.below hB, hf9, hsame, hbw.trans (hB.mono hbw.size)⟩
  rcases hap hn k hk with h | h
  · have h1 := hdec.lt
    refine ⟨by omega, fun e => ?_⟩
    have := (hdec.2.2.block k e.symm).2
    omega
  · exact absurd (hr4 h) hn

/-- the cells of the reference's decoder, and of a piece -/
theorem keepS {B : Nat} {W W' : World} {H b o : Nat} {x y z : Value} (hH : H < B) (hb : b < B) (hB : Below B W W') (hc : W.cell? ⟨H, 0, none⟩ = some x ∧ W.cell? ⟨H, 1, none⟩ = some y ∧ W.cell? ⟨b, o, none⟩ = some z) :
    W'.cell? ⟨H, 0, none⟩ = some x ∧ W'.cell? ⟨H, 1, none⟩ = some y ∧ W'.cell? ⟨b, o, none⟩ = some z :=
  ⟨(hB.cell (p := ⟨H, 0, none⟩) hH).trans hc.1, (hB.cell (p := ⟨H, 1, none⟩) hH).trans hc.2.1, (hB.cell (p := ⟨b, o, none⟩) hb).trans hc.2.2⟩

theorem keepS_set {W : World} {h H b o : Nat} {x y z u v : Value} (hH : H ≠ h) (hb : b ≠ h) (hc : W.cell? ⟨H, 0, none⟩ = some x ∧ W.cell? ⟨H, 1, none⟩ = some y ∧ W.cell? ⟨b, o, none⟩ = some z) :
    ((W.setCell ⟨h, 0, none⟩ u).setCell ⟨h, 1, none⟩ v).cell? ⟨H, 0, none⟩ = some x ∧ ((W.setCell ⟨h, 0, none⟩ u).setCell ⟨h, 1, none⟩ v).cell? ⟨H, 1, none⟩ = some y ∧ ((W.setCell ⟨h, 0, none⟩ u).setCell ⟨h, 1, none⟩ v).cell? ⟨b, o, none⟩ = some z := by
  have hg := set2_grown W h u v
  have h1 : some H ≠ some h := fun e => hH (by injection e)
  have h2 : some b ≠ some h := fun e => hb (by injection e)
  exact ⟨hg.cell hc.1 h1, hg.cell hc.2.1 h1, hg.cell hc.2.2 h2⟩

set_option maxRecDepth 40000 in
set_option maxHeartbeats 4000000 in
theorem dec_walk {w : World} {v : Value} {l : List (List UInt8 × Value)} (h : Pieces w v l) (hl : ∀ t ∈ l, t.1.length ≤ 140737488351232) : Calls Try.prog 5 #[v] w (Says true w) := by
  have HL := Lib.hid (long_any h hl)
  obtain ⟨A, cap, rfl, h1, h2, h3, h4⟩ := h
  simp only [maxLen] at h2
  by_cases hlong : longB l = true
  · rw [hlong] at HL
    clear h3 h4 hlong hl
    generalize l.length = n at *
    go_enter Try.func5, Try.ntmps5
    go_wp2_with fail
    refine HL.out.mono ?_
    rintro e w1 ⟨rfl, rfl⟩
    go_wp2_with fail
    refine (example_any w).mono ?_
    rintro e w2 ⟨rfl, hx⟩
    go_wp2_with fail
    go_ret
    exact ⟨rfl, hx⟩
  · have hlf : longB l = false := by simpa using hlong
    rw [hlf] at HL
    obtain ⟨hl40, htot⟩ := long_no hlf
    have HS := Lib.hid h3
    have HC4 := Lib.hid h4
    clear hlong hlf h3 h4 hl
    generalize hln : l.length = n at *
    have HN := Lib.hid hln
    clear hln
    go_enter Try.func5, Try.ntmps5
    go_wp2_with fail
    refine HL.out.mono ?_
    rintro e w1 ⟨rfl, rfl⟩
    go_wp2_with fail
    refine (new_any w).mono ?_
    rintro e w1 ⟨g, rfl, hd, hb1⟩
    go_wp2_with fail
    refine (rnew_any w1).mono ?_
    rintro e w2 ⟨rfl, hb2⟩
    have hb12 : Below w.heap.size w w2 := hb1.trans (hb2.mono hb1.size)
    have HST : Hid (DL w l g w2.heap.size 0 (.slice none 0 0) (.slice none 0 0) [] false (w2.alloc (.cells #[.slice none 0 0, .bool false] 41))) := ⟨(hd.below hb2).below ((Below.refl _ _).alloc (Nat.le_refl _) _), heap_alloc_new w2 _, hb12.size, sees_nil _, fun n => absurd rfl n, hb12.alloc hb12.size _, by simp, fun _ => rfl⟩
    have HGE := Lib.hid hd.2.1
    unfold rdv
    clear hd hb1 hb2 hb12
    go_wp2_with fail
    generalize hH : w2.heap.size = H at *
    go_loopw [18] (fun s18 wr => ∃ (k : Nat), k ≤ n ∧ s18 = .int .i64 k ∧ Hid (∃ bv A8 c8 buf closed, DL w l g H k bv (.slice A8 (List.length buf) c8) buf closed wr)) (fun s18 _ => n - (intOf s18).toNat)
    case atStart => exact ⟨0, Nat.zero_le _, rfl, _, none, 0, [], false, HST.out⟩
    case round =>
      obtain ⟨k, hk, rfl, hdl⟩ := hrel
      obtain ⟨bv, A8, c8, buf, closed, hdl⟩ := hdl.out
      have HDL := Lib.hid hdl
      clear hdl HST hH
      by_cases hlt : k < n
      · obtain ⟨t, ht⟩ : ∃ t, l[k]? = some t := ⟨_, List.getElem?_eq_getElem (by rw [HN.out]; exact hlt)⟩
        obtain ⟨b, off, rfl, hb, hc⟩ := HC4.out (by omega)
        have c0 := hc k t ht
        have hsee := Lib.hid (HS.out t (List.mem_of_getElem? ht))
        have hcnt : Hid (total (l.take (k + 1)) = total (l.take k) + t.1.length) := total_take ht
        have hle : buf.length + t.1.length ≤ 20000 := by
          have h1 := hcnt.out
          have h2 := total_take_le l (k + 1)
          have h3 := HDL.out.len
          omega
        clear hc ht
        obtain ⟨p, sv⟩ := t
        dsimp only at *
        obtain ⟨A6, c6, rfl, _, _⟩ := hsee.out.shape
        rw [← HDL.out.below.cell (p := ⟨b, off + k, none⟩) hb] at c0
        have hz : w.heap.size ≤ wr.heap.size := HDL.out.below.size
        have FEED := Lib.hid (feed_any HDL.out.dec (hsee.out.below HDL.out.below) (by omega) hz)
        have hfl := feedS_len buf p closed HDL.out.shut
        obtain ⟨r, hr⟩ : ∃ r, r = feedS buf closed p := ⟨_, rfl⟩
        rw [← hr] at FEED hfl
        have HR := Lib.hid hr
        have HFL := Lib.hid hfl
        unfold FeedP at FEED
        clear hr hfl
        obtain ⟨r1, r2, r3, r4⟩ := r
        dsimp only at *
        have hnx : Hid (r3.length ≤ total (l.take (k + 1))) := by
          have h1 := HFL.out.1
          have h2 := HDL.out.len
          show _ ≤ _
          rw [hcnt.out]
          omega
        go_wp2_with fail
        refine FEED.out.mono ?_
        rintro e w2 ⟨fv, m, bv', rfl, hof, hsep, hfst, hdec, hne, hor, hkb⟩
        have hb2 : Below w.heap.size w w2 := HDL.out.below.trans (hkb.to_below hz HDL.out.dec.2.1 (fun j hj => (HDL.out.dec.2.2.block j hj).1))
        have hslot2 : w2.heap[H]? = some (.cells #[.slice A8 buf.length c8, .bool closed] 41 (0, 0)) := by
          rw [hkb.block H (block_lt HDL.out.slot) (fun e => by subst e; exact absurd (elem_ne HDL.out.slot HDL.out.dec.1) (by decide)) (fun e => by
            obtain ⟨_, cur, hh⟩ := row_elem HDL.out.dec.2.2 H e.symm
            exact absurd (elem_ne HDL.out.slot hh) (by decide))]
          exact HDL.out.slot
        have hsee2 : Sees w2 (.slice A8 buf.length c8) buf := sees_other HDL.out.sees hkb.size fun hn j hj hv => hkb.block j hj (HDL.out.apart hn j hv).1 (HDL.out.apart hn j hv).2
        have RF : Hid (∀ W, Below w2.heap.size w2 W → Calls Try.prog 20 #[rdv (.slice A8 buf.length c8) closed, .slice A6 p.length c6] W (RFeedP W (r1, r2, r3, r4))) := fun W hW => by
          have h := rfeed_any (closed := closed) (hsee2.below hW) ((hsee.out.below hb2).below hW) (by omega)
          rw [← HR.out] at h
          exact h
        unfold RFeedP rdv at RF
        dsimp only at RF
        have hfr := hof.frs
        obtain ⟨A7, c7, rfl, _, _⟩ := hfr.shape
        have HFR := Lib.hid hfr
        have HDEC := Lib.hid hdec
        have HSLOT := Lib.hid hslot2
        have HB2 := Lib.hid hb2
        have HFM := Lib.hid hfst
        have i0 := block_cell hslot2 0
        have i1 := block_cell hslot2 1
        simp only [List.getElem?_toArray, List.getElem?_cons_zero, List.getElem?_cons_succ] at i0 i1
        have hHl : H < w2.heap.size := block_lt hslot2
        have hbl : b < w2.heap.size := Nat.lt_of_lt_of_le hb hb2.size
        have p0 := c0
        rw [HDL.out.below.cell (p := ⟨b, off + k, none⟩) hb, ← hb2.cell (p := ⟨b, off + k, none⟩) hb] at p0
        have hgl : g < w2.heap.size := hdec.lt
        have hbvl : ∀ j, bv'.ownBlock = some j → j < w2.heap.size := fun j hj => (hdec.2.2.block j hj).2
        have HBV := Lib.hid hbvl
        have hz2 := hb2.size
        have HHI := Lib.hid HDL.out.high
        clear hof hsep hfst hdec hne hor hkb hslot2 hsee2 hfr hbvl c0 FEED
        have q0 : (0 : Int) ≤ (k : Int) := Int.natCast_nonneg _
        have q1 : (k : Int) < (n : Int) := by omega
        generalize buf.length = bl at *
        generalize p.length = pl at *
        go_upto_region 8 with fail
        go_cut [8, 9, 10] (fun s8 s9 s10 wx => ∃ h8 A9 c9 fv9 m9, s8 = .pointer (some ⟨h8, 0, none⟩) ∧ s9 = fv9 ∧ s10 = .int .i64 r2 ∧ Hid (DC w w2 g H h8 bv' (.slice A8 bl c8) (.slice A9 (List.length r3) c9) r3 r4 closed (.slice A7 (List.length m) c7) fv9 m m9 wx))
        case first =>
          have hza : Below w2.heap.size w2 (w2.drew.alloc (.cells #[.slice none 0 0, .bool false] 41)) := (Below.refl _ _).drew.alloc (Nat.le_refl _) _
          have hzb : Below w2.heap.size w2 w2.drew := (Below.refl _ _).drew
          have n1 : H ≠ w2.heap.size := Nat.ne_of_lt hHl
          have n2 : w2.heap.size ≠ H := Nat.ne_of_gt hHl
          have n3 : b ≠ w2.heap.size := Nat.ne_of_lt hbl
          have n4 : w2.heap.size ≠ b := Nat.ne_of_gt hbl
          have HSLA : Hid (Slot2 (w2.drew.alloc (.cells #[.slice none 0 0, .bool false] 41)) w2.heap.size) := heap_alloc_at w2.drew _ _ rfl
          have HA := Lib.hid (RF.out _ hza)
          have HB := Lib.hid (RF.out _ hzb)
          go_region_held3 (fun W => W.cell? ⟨H, 0, none⟩ = some (.slice A8 bl c8) ∧ W.cell? ⟨H, 1, none⟩ = some (.bool closed) ∧ W.cell? ⟨b, off + k, none⟩ = some (.slice A6 pl c6))
            (first
              | go_keep
              | exact sk
              | exact ss _ _)
            (first
              | (go_at_call 20; refine HA.out.mono ?_; rintro e w3 ⟨v9, fv9, m9, rfl, hs9, ha9, hf9, hm9, h3⟩; obtain ⟨A9, c9, rfl, _, _⟩ := hs9.shape; have H3 := Lib.hid (hza.trans (h3.mono hza.size)); have HS9 := Lib.hid hs9; have HA9 := Lib.hid ha9; have HF9 := Lib.hid hf9; have HM9 := Lib.hid hm9; have sk := keepS hHl hbl H3.out ⟨i0, i1, p0⟩; have hslw := HSLA.out.below h3; have a0 := block_cell hslw 0; have a1 := block_cell hslw 1; have f0 := block_free hslw 0; have f1 := block_free hslw 1; simp only [List.getElem?_toArray, List.getElem?_cons_zero, List.getElem?_cons_succ] at a0 a1; have HSW := Lib.hid hslw; have ss := fun u v => keepS_set (u := u) (v := v) n1 n3 sk; clear hs9 ha9 hf9 hm9 h3 hslw)
              | (go_at_call 20; refine HB.out.mono ?_; rintro e w3 ⟨v9, fv9, m9, rfl, hs9, ha9, hf9, hm9, h3⟩; obtain ⟨A9, c9, rfl, _, _⟩ := hs9.shape; have H3 := Lib.hid (hzb.trans (h3.mono hzb.size)); have HS9 := Lib.hid hs9; have HA9 := Lib.hid ha9; have HF9 := Lib.hid hf9; have HM9 := Lib.hid hm9; have sk := keepS hHl hbl H3.out ⟨i0, i1, p0⟩; clear hs9 ha9 hf9 hm9 h3))
          · have h3s := H3.out.size
            have HX := Lib.hid (dc_of (h8 := w3.heap.size) (H3.out.alloc h3s (.cells #[.slice A9 r3.length c9, .bool r4] 41)) (heap_alloc_new w3 _) (HS9.out.alloc _) (HF9.out.below ((Below.refl _ _).alloc (Nat.le_refl _) _)) HA9.out HFL.out.2 HDEC.out HSLOT.out HFR.out (HFM.out.trans HM9.out.symm) HB2.out)
            clear HA9 HS9 HF9 HSLA HA HB sk
            go_wp2_with fail
            go_meet
            exact ⟨w3.heap.size, A9, c9, fv9, m9, rfl, rfl, rfl, HX.out⟩
          · have h3s := H3.out.size
            have hgw := set2_grown w3 w2.heap.size (.slice A9 r3.length c9) (.bool r4)
            have HX := Lib.hid (dc_of (h8 := w2.heap.size) (rv2 := .slice A9 r3.length c9) (H3.out.grown hgw h3s (fun j hj => by injection hj with hj; omega)) (set2_heap HSW.out _ _) (HS9.out.grown hgw (fun o x => cells41 HSW.out o _ _)) (frs_set2 HF9.out HSW.out hgw) (fun hn j hj => (HA9.out hn j hj).imp (fun h => Nat.le_of_succ_le (by simpa using h)) id) HFL.out.2 HDEC.out HSLOT.out HFR.out (HFM.out.trans HM9.out.symm) HB2.out)
            clear HA9 HS9 HF9 HSLA HA HB sk ss HSW hgw
            go_wp2_with fail
            go_meet
            exact ⟨w2.heap.size, A9, c9, fv9, m9, rfl, rfl, rfl, HX.out⟩
        case rest =>
          obtain ⟨h8, A9, c9, fv9, m9, rfl, rfl, rfl, hdc⟩ := hcut
          have HDC := Lib.hid hdc.out
          have k0 := block_cell hdc.out.new 0
          have k1 := block_cell hdc.out.new 1
          have j0 := block_cell hdc.out.slot 0
          have j1 := block_cell hdc.out.slot 1
          have f0 := block_free hdc.out.slot 0
          have f1 := block_free hdc.out.slot 1
          simp only [List.getElem?_toArray, List.getElem?_cons_zero, List.getElem?_cons_succ] at k0 k1 j0 j1
          obtain ⟨w5, hw5⟩ : ∃ w5, w5 = (wc.setCell ⟨H, 0, none⟩ (.slice A9 r3.length c9)).setCell ⟨H, 1, none⟩ (.bool r4) := ⟨_, rfl⟩
          have hgs : wc.grownBy w5 (some H) := by rw [hw5]; exact set2_grown wc H _ _
          have hrow5 : w5.heap[H]? = some (.cells #[.slice A9 r3.length c9, .bool r4] 41 (0, 0)) := by rw [hw5]; exact set2_heap HDC.out.slot _ _
          have hel : Else wc (some H) := fun j hj => by
            injection hj with hj
            subst hj
            exact ⟨_, 41, HDC.out.slot, by decide⟩
          have hgH : some g ≠ some H := fun e => by
            injection e with e
            subst e
            exact absurd (elem_ne HDC.out.slot HDC.out.dec.1) (by decide)
          have DEC5 : Dec w5 w.heap.size g bv' r3 r4 := ⟨(hgs.block g HDC.out.dec.lt hgH).trans HDC.out.dec.1, HDC.out.dec.2.1, HDC.out.dec.2.2.grownElse hgs hel⟩
          have FR5 := frs_set2 HDC.out.frs HDC.out.slot hgs
          have FR9 := frs_set2 HDC.out.frs9 HDC.out.slot hgs
          have SE5 := HDC.out.sees.grown hgs (fun o x => cells41 HDC.out.slot o _ _)
          have BE5 : Below w.heap.size w w5 := HDC.out.below.grown hgs HDC.out.below.size (fun j hj => by injection hj with hj; have := HHI.out; omega)
          have SAME := Lib.hid (same_true (w := w5.drew) FR5 FR9 HDC.out.same)
          have HRB : Hid (∀ W, Calls Try.prog 22 #[.agg #[.slice A9 r3.length c9, .bool r4]] W fun e w' => e = .returned (.int .i64 (r3.length : Int)) ∧ Below W.heap.size W w') := fun W => rbuffered_any
          have c50 := block_cell hrow5 0
          have c51 := block_cell hrow5 1
          simp only [List.getElem?_toArray, List.getElem?_cons_zero, List.getElem?_cons_succ] at c50 c51
          have HHL : H < w5.heap.size := block_lt hrow5
          have HD5 := Lib.hid DEC5
          have HROW5 := Lib.hid hrow5
          have HSE5 := Lib.hid SE5
          have HBE5 := Lib.hid BE5
          have HAP := Lib.hid HDC.out.apart
          have HW5 := Lib.hid hw5
          have HSH := Lib.hid HFL.out.2
          have b1 : (r2 != r2) = false := by simp
          have b2 : ((r3.length : Int) != (r3.length : Int)) = false := by simp
          clear hdc HDC hgs hrow5 hel hgH DEC5 FR5 FR9 SE5 BE5 hw5 HFL HDL RF HFR HDEC HSLOT HR
          generalize hrl : r3.length = rl at *
          have HRL := Lib.hid hrl
          clear hrl
          go_wp2_with fail
          rw [← HW5.out]
          go_region_held3 (fun W => W.cell? ⟨H, 0, none⟩ = some (.slice A9 rl c9) ∧ W.cell? ⟨H, 1, none⟩ = some (.bool r4))
            (first
              | go_keep
              | exact sk6
              | exact sk8)
            (first
              | (go_at_call 15; refine SAME.out.mono ?_; rintro e w6 ⟨rfl, q6, hw6⟩; have sk6 : w6.cell? ⟨H, 0, none⟩ = some (.slice A9 rl c9) ∧ w6.cell? ⟨H, 1, none⟩ = some (.bool r4) := (by rw [hw6]; exact ⟨c50, c51⟩); have hb6 : Below w5.heap.size w5 w6 := (by rw [hw6]; exact below_draws (Below.refl _ _).drew q6); have d6 := buffered_any (HD5.out.below hb6); rw [HRL.out] at d6; have D6 := Lib.hid d6; have hs6 := hb6.size; clear hw6 d6)
              | (go_at_call 21; refine D6.out.mono ?_; rintro e w7 ⟨rfl, rfl⟩)
              | (go_at_call 22; refine (HRB.out _).mono ?_; rintro e w8 ⟨rfl, hb8⟩; have hb58 : Below w5.heap.size w5 w8 := hb6.trans (hb8.mono hs6); have sk8 : w8.cell? ⟨H, 0, none⟩ = some (.slice A9 rl c9) ∧ w8.cell? ⟨H, 1, none⟩ = some (.bool r4) := ⟨(hb58.cell (p := ⟨H, 0, none⟩) HHL).trans c50, (hb58.cell (p := ⟨H, 1, none⟩) HHL).trans c51⟩))
          go_wp2_with fail
          go_roundw
          case rel =>
            have e := HRL.out
            subst e
            exact ⟨k + 1, by omega, by go_num, bv', A9, c9, r3, r4, ⟨HD5.out.below hb58, (hb58.block H HHL).trans HROW5.out, HHI.out, HSE5.out.below hb58, HAP.out, HBE5.out.trans (hb58.mono HBE5.out.size), hnx.out, HSH.out⟩⟩
          case measure => simp [intOf]; omega
      · go_wp2_with fail
        refine (example_any _).mono ?_
        rintro e w4 ⟨rfl, hx⟩
        go_wp2_with fail
        go_ret
        exact ⟨rfl, HDL.out.below.trans (hx.mono HDL.out.below.size)⟩

set_option maxRecDepth 100000 in
theorem dec_lifted (os : Os) (started : os.Started) (H : Type) (enc : TypeId × Value → H) :
    ReturnsInHanded {} Try.checked os 5 .any (Rows.frameDecoderSpec.pre6 enc Try.prog Try.f5 Rows.frameDecoderRow.domain false) (Rows.frameDecoderSpec.post enc Try.prog Try.f5 false true false false) := by
  refine returnsInHanded_of_change_sized (C := Try.checked) own started (by kernel_rfl) Try.func5
    (ChangeSpec.witness6 (enc := enc) (C := Try.checked) false ⟨#[], #[.slice none 0 0], []⟩ 8 (by kernel_rfl) (by kernel_rfl) (by kernel_rfl) (by kernel_rfl)) ?_
  intro W base args ds gs before hval0 hW _ hsz0 _
  have hsz : (DataW.weightsEach Try.prog (Try.f5.params.toList ++ Rows.frameDecoderSpec.plain.varTypes Try.prog) (ds ++ gs)).all (· ≤ reachBytes) = true := hsz0
  have hval : ∀ (j : Nat) t v, Try.f5.params[j]? = some t → args[j]? = some v → Value.okWide Try.prog W .any base t v := hval0
  have hW' := hW
  obtain ⟨p, q, hA0, hV, rfl, _, _⟩ := hW
  have hA : DataW.TrodAll enc Try.prog W 0 (fun _ => true) true Try.f5.params.toList args.toList ds p := hA0
  rw [Try.params5] at hA hval hsz
  obtain ⟨v0, vs0, d0, ds0, p0, q0, hargs, rfl, rfl, h0, r0⟩ := trodAll_cons hA
  obtain ⟨rfl, rfl, rfl⟩ := trodAll_nil r0
  obtain rfl : args = #[v0] := by cases args; simp_all
  obtain ⟨rfl, rfl⟩ := trodVars_none hV
  clear hA0 hval0
  simp only [List.append_nil] at hW'
  have hlt0 : ∀ x ∈ p0, x.block < W.heap.size := fun x hx => hW'.lt x (by simp [hx])
  have k0 := h0
  have hw : ∀ n ∈ d0.weights Try.prog 36, n ≤ reachBytes := fun n hn => by
    have := List.all_eq_true.1 hsz n (DataW.weights_mem_each (j := 0) (t := 36) (d := d0) rfl rfl n hn)
    simpa using this
  obtain ⟨l, hl, hsmall⟩ := open_pieces h0 (okWide_slice Try.underlying36 (hval 0 36 v0 rfl rfl)) hw
  refine (dec_walk hl hsmall).mono fun e W' ⟨he, hg⟩ => ?_
  subst he
  exact ⟨_, rfl, _, _, _, [], _, [], hW', trodAll_cons_mk (shut_bool Try.underlying4 _) trodAll_mk0,
    trodAll_cons_mk (Below.trod laidOut (by kernel_rfl) (of_decide_eq_true (by kernel_rfl)) k0 hg hlt0) trodAll_mk0, rfl, hg.frame _, fun h => by cases h⟩

theorem dec_holds : Rows.FrameDecoderSaid :=
  OpenClaim.holds_of_wide 5 Try.f5 rfl rfl rfl rfl rfl rfl rfl ⟨rfl, rfl, rfl, rfl, rfl⟩ rfl rfl rfl rfl rfl (by kernel_rfl) Try.func5 (by kernel_rfl)
    (of_decide_eq_true (by kernel_rfl)) (by unfold Func.isWrapper; first | (rw [if_pos (by decide +kernel)]; kernel_rfl) | (rw [if_neg (by decide +kernel)]; exact ⟨rfl, rfl⟩))
    (fun os started H enc _ => dec_lifted os started H enc)

end Go.Proofs.Ytfmknjfhalkfhaa
