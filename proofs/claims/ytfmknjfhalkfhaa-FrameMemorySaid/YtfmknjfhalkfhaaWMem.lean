/-
  FrameMemory: for every frame and place, pieces and returned bodies may be overwritten: the frames that follow are not affected (asked of bodies of at most 2,000 bytes): the law returns true and leaves its arguments as they were. No condition.
-/
import Derived.Test.YtfmknjfhalkfhaaMemo
import Derived.Deep.RegionHeld3
namespace Go.Proofs.Ytfmknjfhalkfhaa
open Go.ChangeShapes Go.WideShapes Go.ChangeAt Go.RowKit Mem Wire

set_option maxRecDepth 100000 in
set_option maxHeartbeats 8000000 in
theorem mem_walk {w : World} {f : Fr} {sv : Value} {cut : Nat} (hs : Sees w sv f.b) (ho : f.o < 4294967296) (hcut : cut < 65536) : Calls Try.prog 8 #[.agg #[.int .u32 (f.o : Int), .int .i64 f.c, sv], .int .u16 (cut : Int)] w (Says true w) := by
  obtain ⟨A, cap, rfl, hcap, hmx⟩ := hs.shape
  simp only [maxLen] at hmx
  obtain ⟨w1, hw1⟩ : ∃ w1, w1 = w.alloc (.cells #[.int .u32 (f.o : Int), .int .i64 f.c, .slice A f.b.length cap] 25) := ⟨_, rfl⟩
  have hb1 : Below w.heap.size w w1 := by rw [hw1]; exact (Below.refl _ _).alloc (Nat.le_refl _) _
  have hlt : w.heap.size < w1.heap.size := by rw [hw1]; simp
  obtain ⟨k0, k1, k2⟩ := box_cells hw1
  have hs1 := Lib.hid (hs.below hb1)
  have HW := Lib.hid hw1
  clear hs hw1
  by_cases hbig : 2000 < f.b.length
  · generalize f.b.length = m at *
    go_enter Try.func8, Try.ntmps8
    go_wp2_with fail
    rw [← HW.out]
    refine (example_any w1).mono ?_
    rintro e w2 ⟨rfl, hx⟩
    go_wp2_with fail
    go_ret
    exact ⟨rfl, hb1.trans (hx.mono hb1.size)⟩
  · have P1 := Lib.hid (put_any hs1.out ho (by omega))
    unfold PutP at P1
    by_cases he : f.err = 0
    · rw [he, if_pos rfl] at P1
      have HFIT : Hid f.fits := Fr.fits_of ho he
      obtain ⟨T, hT⟩ : ∃ T, T = f.enc ++ f.enc := ⟨_, rfl⟩
      have hTl : T.length = 2 * (8 + f.b.length) := by rw [hT, List.length_append, f.enc_length]; omega
      have hel := f.enc_length
      have hTb : T.length ≤ 5000 := by omega
      have hT0 : 0 < T.length := by omega
      obtain ⟨k, hk⟩ : ∃ k, k = cut % (T.length + 1) := ⟨_, rfl⟩
      have hkT : k ≤ T.length := by rw [hk]; exact Nat.le_of_lt_succ (Nat.mod_lt _ (Nat.succ_pos _))
      have hkm : (cut : Int) % ((T.length : Int) + 1) = (k : Int) := by rw [hk]; push_cast; rfl
      obtain ⟨g1, buf, g2, hsp1, hsp2, hlen, hg1, hg2⟩ := two_split HFIT.out k
      rw [← hT] at hsp1 hsp2
      obtain ⟨P, hP⟩ : ∃ P, P = T.take k := ⟨_, rfl⟩
      have hPl : P.length = k := by rw [hP, List.length_take]; omega
      rw [← hP] at hsp1
      have HP := Lib.hid hP
      have HPL := Lib.hid hPl
      clear hP hPl
      have HT := Lib.hid hT
      have HSP1 := Lib.hid hsp1
      have HSP2 := Lib.hid hsp2
      have HG1 := Lib.hid hg1
      have HG2 := Lib.hid hg2
      have HLEN := Lib.hid hlen
      have HEL := Lib.hid hel
      have hel2 : f.enc.length ≤ 2500 := by omega
      clear hT hsp1 hsp2 hg1 hg2 hlen he hTl hel hk
      go_enter Try.func8, Try.ntmps8
      go_wp2_with fail
      rw [← HW.out]
      refine P1.out.mono ?_
      rintro e w2 ⟨v2, rfl, ho2, hb2⟩
      obtain ⟨l0, l1, l2⟩ := keep3 hlt hb2 ⟨k0, k1, k2⟩
      have hlt2 := Nat.lt_of_lt_of_le hlt hb2.size
      have S2 := Lib.hid ho2.sees
      have hbw2 : Below w.heap.size w w2 := hb1.trans (hb2.mono hb1.size)
      have HBX := Lib.hid (hs1.out.below hb2)
      obtain ⟨A2, c2, rfl, _, _⟩ := ho2.sees.shape
      generalize hE : f.enc.length = el at *
      have HEE := Lib.hid hE
      clear ho2 hb2 k0 k1 k2 P1 hE
      go_wp2_with (first
        | (at_builtin; refine wpList_app rfl (.tmp 31) (.tmp 32) rfl rfl (own_empty w2) rfl (S2.out.alloc _) (by have := HEE.out; simp only [List.length_nil]; omega) (by simp) ?_; intro v3 w3 ho3 hg3 _; have hb3 : Below w2.heap.size w2 w3 := ((Below.refl _ _).alloc (Nat.le_refl _) _).grown hg3 (by simp) (fun j hj => by have e : some w2.heap.size = some j := hj; injection e with e; omega); have HO3 := Lib.hid ho3; clear ho3 hg3)
        | (at_builtin; refine wpList_app rfl (.tmp 33) (.tmp 34) rfl (v := v3) rfl HO3.out rfl (S2.out.below hb3) (by have := HEE.out; simp only [List.nil_append]; omega) hb3.size ?_; intro v4 w4 ho4 hg4 _; rw [List.nil_append, ← HT.out] at ho4; have hb4 : Below w2.heap.size w2 w4 := hb3.grown hg4 hb3.size (fun j hj => (HO3.out.block j hj).1); have HO4 := Lib.hid ho4; obtain ⟨A4, c4, rfl, hk4, _⟩ := ho4.sees.shape; clear ho4 hg4)
        | fail)
      rw [hkm]
      refine (new_any w4).mono ?_
      rintro e w5 ⟨g, rfl, hd, hb5⟩
      have hz24 : w2.heap.size ≤ w4.heap.size := hb4.size
      have S1 := Lib.hid (fun W => slice_h HO4.out.sees k hT0 (by omega) W)
      have hb25 : Below w2.heap.size w2 w5 := hb4.trans (hb5.mono hb4.size)
      have HO5 := Lib.hid (HO4.out.below hb5)
      have HD5 := Lib.hid hd
      have g5 := S1.out
      have hge5 := hd.lt
      clear hd hb3 hb4 HO4 HO3 hkm
      go_wp2_with (at_builtin; refine wpList_app rfl (.tmp 43) (.tmp 46) rfl rfl (own_empty w5) rfl ((HO5.out.sees.take hkT).alloc _) (by simp; omega) (by simp) ?_; intro v6 w6 ho6 hg6 _; rw [List.nil_append, ← HP.out] at ho6; have hb6 : Below w5.heap.size w5 w6 := ((Below.refl _ _).alloc (Nat.le_refl _) _).grown hg6 (by simp) (fun j hj => by have e : some w5.heap.size = some j := hj; injection e with e; omega); have HO6 := Lib.hid ho6; obtain ⟨A6, c6, rfl, hk6, _⟩ := ho6.sees.shape; clear ho6 hg6)
      have HFEED := Lib.hid (feed_open (p := P) (HD5.out.below hb6) HO6.out.sees (by have := HPL.out; simp only [List.length_nil]; omega) (Nat.le_trans (Below.size hb5) (by have := hb6.size; omega)))
      rw [feed_ok (buf := []) HSP1.out] at HFEED
      unfold FeedP at HFEED
      dsimp only at HFEED
      rw [HPL.out] at HFEED HO6 ⊢
      refine HFEED.out.mono ?_
      rintro e w7 ⟨fv, m, bv', rfl, hof, hsep, hfst, hdec, hne, hor, hkb⟩
      have hb26 : Below w2.heap.size w2 w6 := hb25.trans (hb6.mono hb25.size)
      have hg4 := HD5.out.2.1
      have hb24 : w2.heap.size ≤ g := Nat.le_trans hz24 hg4
      have HB27 : Hid (Below w2.heap.size w2 w7) := hb26.trans (hkb.to_below hb26.size hb24 (fun j hj => by cases hj))
      have hd6 := HD5.out.below hb6
      have hgk : ∀ (lo : Nat) (v : Value) (bs : List UInt8), Owns w6 lo v bs → Owns w7 lo v bs := fun lo v bs h => h.atB fun j hj => hkb.block j (h.block j hj).2 (fun e => by
        subst e
        obtain ⟨_, cur, hh⟩ := row_elem h _ hj
        exact absurd (elem_ne hd6.1 hh) (by decide)) (fun e => by cases e)
      have HO7 := Lib.hid (hgk _ _ _ HO6.out)
      have HT7 := Lib.hid (hgk _ _ _ (HO5.out.below hb6))
      have hglt : g < w5.heap.size := hge5
      have hor2 : bv'.ownBlock = none ∨ ∃ j, bv'.ownBlock = some j ∧ w6.heap.size ≤ j := by
        rcases hor with h | h | h
        · exact .inl h
        · exact .inl h
        · exact .inr h
      have HGLS : Hid (∀ w8, Flipped w7 w5.heap.size (.slice A6 k c6) k w8 → GL w8 w4.heap.size w6.heap.size g fv bv' buf m 0 w8) := fun w8 hf => gl_start hof hsep hdec hne hor2 HO6.out hglt hf
      have hml : m.length = g1.length := by rw [← hfst, fst_length]
      have HML := Lib.hid hml
      have HALL : Hid (∀ p ∈ m, p.1 = f) := fun p hp => HG1.out p.1 (by rw [← hfst]; exact List.mem_map.2 ⟨p, hp, rfl⟩)
      have HOF := Lib.hid hof
      have hz67 := hkb.size
      obtain ⟨A7, c7, rfl, hc7, hm7⟩ := hof.frs.shape
      have hz56 := hb6.size
      have hsz2 := hb25.size
      have hbufl : buf.length ≤ 5000 := by
        have h1 := split_length P
        have h2 := HSP1.out
        rw [h2] at h1
        have h3 := HPL.out
        dsimp only at h1
        omega
      clear hof hsep hfst hdec hne hor hor2 hkb hgk hd6 hml hb26 HFEED HSP1 HG1 g5
      go_upto_block 0 with fail
      go_cut [13] (fun s13 wx => Hid (Flipped w7 w5.heap.size (.slice A6 k c6) k wx))
      case first =>
        have hst := flipped_start HO7.out
        rw [HPL.out] at hst
        have HST := Lib.hid hst
        have hcap6 : k ≤ c6 ∧ c6 ≤ 9223372036854775807 := by
          obtain ⟨_, _, hv, h1, h2⟩ := HO7.out.sees.shape
          injection hv with _ e2 e3
          simp only [maxLen] at h2
          omega
        obtain ⟨hc61, hc62⟩ := hcap6
        clear hst
        rcases HO7.out.shape with ⟨hv, _⟩ | ⟨g6, cap6, hv, _, _⟩
        · injection hv with e1 e2 e3
          subst e1 e2 e3
          go_wp2_with fail
          refine wp_loop_rounds 1 ?_
          rw [rounds_succ]
          go_wp2_with fail
          go_meet
          exact HST.out
        · injection hv with e1 e2 e3
          subst e1
          clear e2 e3
          go_wp2_with fail
          go_loopw [56] (fun s56 wr => ∃ i : Nat, i ≤ k ∧ s56 = .int .i64 i ∧ Hid (Flipped w7 w5.heap.size (.slice (some ⟨g6, 0, none⟩) k c6) k wr)) (fun s56 _ => k - (intOf s56).toNat)
          case atStart => exact ⟨0, Nat.zero_le _, rfl, HST.out⟩
          case round =>
            obtain ⟨i, hi, rfl, hfl⟩ := hrel
            by_cases hlt : i < k
            · obtain ⟨x, hc, hfz⟩ := Flipped.cell hfl.out hlt
              have HNX := Lib.hid (fun a b => Flipped.step hfl.out i a b)
              generalize x.toNat = xn at *
              go_wp2_with fail
              go_roundw
              case rel => exact ⟨i + 1, by omega, by go_num, HNX.out _ _⟩
              case measure => simp [intOf]; omega
            · go_wp2_with fail
              go_meet
              exact hfl.out
      case rest =>
        generalize wc = w8 at *
        have HFL := hcut
        have hgr := hcut.out
        obtain ⟨bs6, _, _, hgr⟩ := hgr
        have h6b : ∀ j, (Value.slice A6 k c6).ownBlock = some j → w5.heap.size ≤ j := fun j hj => (HO6.out.block j hj).1
        have HB28 : Hid (Below w2.heap.size w2 w8) := HB27.out.grown hgr HB27.out.size (fun j hj => by have := h6b j hj; omega)
        have b8 := keepB hlt2 HB28.out ⟨l0, l1, l2⟩
        have HTB : Hid (∀ j, (Value.slice A4 T.length c4).ownBlock = some j → j < w6.heap.size) := fun j hj => by
          have h2 := (HO5.out.block j hj).2
          omega
        have HT8 : Hid (Owns w8 w2.heap.size (.slice A4 T.length c4) T) := HT7.out.atB fun j hj => hgr.block j (HT7.out.block j hj).2 fun e => by
          have h1 := h6b j e.symm
          have h2 := (HO5.out.block j hj).2
          omega
        have hlo : w6.heap.size ≤ w8.heap.size := Nat.le_trans hz67 hgr.size
        have hw2lo : w2.heap.size ≤ w6.heap.size := by omega
        have hwlo : w.heap.size < w6.heap.size := by omega
        have hglo : g < w6.heap.size := by omega
        have HGL0 := Lib.hid (HGLS.out w8 HFL.out)
        have HFB := Lib.hid (HBX.out.below HB28.out)
        have HOLD := Lib.hid (sees_old HBX.out)
        have HBW : Hid (Below w.heap.size w w8) := hbw2.trans (HB28.out.mono hbw2.size)
        have hg4wc : w4.heap.size ≤ w8.heap.size := by omega
        clear hcut hgr HGLS HFL HB27 HT7 h6b HB28 HO6 HO7 HO5 HBX S1 S2 HD5 l0 l1 l2
        generalize hml2 : m.length = ml at *
        have HML2 := Lib.hid hml2
        generalize hfbl : f.b.length = fl at *
        have HFL2 := Lib.hid hfbl
        clear hml2 hfbl
        simp only [maxLen] at hm7
        go_upto_block 2 with fail
        go_cut [14] (fun s14 wx => Hid (∃ i, GL w8 w4.heap.size w6.heap.size g (.slice A7 ml c7) bv' buf m i wx))
        case first =>
          rcases HOF.out.shape with ⟨hv, _⟩ | ⟨gb, capb, hv, _, _⟩
          · injection hv with e1 e2 e3
            subst e1 e2 e3
            go_wp2_with fail
            refine wp_loop_rounds 1 ?_
            rw [rounds_succ]
            go_wp2_with fail
            go_meet
            exact ⟨0, HGL0.out⟩
          · injection hv with e1 e2 e3
            subst e1
            clear e2 e3
            go_wp2_with fail
            go_loopw [68] (fun s68 wr => ∃ i : Nat, i ≤ ml ∧ s68 = .int .i64 i ∧ Hid (GL w8 w4.heap.size w6.heap.size g (.slice (some ⟨gb, 0, none⟩) ml c7) bv' buf m i wr)) (fun s68 _ => ml - (intOf s68).toNat)
            case atStart => exact ⟨0, Nat.zero_le _, rfl, HGL0.out⟩
            case round =>
              obtain ⟨i, hi, rfl, hgl⟩ := hrel
              by_cases hlt : i < ml
              · obtain ⟨p, hp⟩ : ∃ p, m[i]? = some p := ⟨_, List.getElem?_eq_getElem (by rw [HML2.out]; exact hlt)⟩
                have hpf := HALL.out p (List.mem_of_getElem? hp)
                obtain ⟨f', sv⟩ := p
                dsimp only at hpf
                subst hpf
                obtain ⟨r0, r1, r2, hgb⟩ := GL.cells hgl.out hp
                have hbod := hgl.out.bod i _ hp (Nat.le_refl _)
                have hwr : w6.heap.size ≤ wr.heap.size := Nat.le_trans hlo hgl.out.size
                obtain ⟨q0, q1, q2⟩ := keepB hwlo hgl.out.below b8
                dsimp only at r0 r1 r2 hbod
                have hfbr : Sees wr (.slice A fl cap) f'.b := sees_other HFB.out hgl.out.size (fun hn j _ hv => hgl.out.below.block j (Nat.lt_of_lt_of_le (HOLD.out hn j hv) hw2lo))
                obtain ⟨Ax, cx, rfl, hcx, hmx2⟩ := hbod.sees.shape
                simp only [maxLen] at hmx2
                have s19 : ∀ W, (Instr.sliceAt 31 (.slice (some ⟨gb, 0, none⟩) ml c7) (some (.int .i64 i)) (some (.int .i64 ((i : Int) + 1))) none).run Try.prog W = .ok (.slice (some ⟨gb, i * 3, none⟩) 1 (c7 - i)) W := fun W => by
                  have h := slice_one (A := some ⟨gb, 0, none⟩) hlt hc7 W
                  rw [if_neg (by omega), Option.map_some, add_at, Nat.zero_add] at h
                  exact h
                have hfrs : Frs wr (.slice (some ⟨gb, i * 3, none⟩) 1 (c7 - i)) [(f', .slice Ax f'.b.length cx)] := frs_single hbod.sees hgb (by omega) (by simp only [maxLen]; omega) r0 r1 r2
                have hal : Below wr.heap.size wr (wr.drew.alloc (.cells #[.int .u32 (f'.o : Int), .int .i64 f'.c, .slice A fl cap] 25)) := (Below.refl _ _).drew.alloc (Nat.le_refl _) _
                have SAME := Lib.hid (same_true (hfrs.below hal) (frs_one (w := wr.drew) (p := (f', .slice A fl cap)) hfbr) rfl)
                have sb : ∀ o : Obj, (wr.drew.alloc o).cell? ⟨w.heap.size, 0, none⟩ = some (.int .u32 (f'.o : Int)) ∧ (wr.drew.alloc o).cell? ⟨w.heap.size, 1, none⟩ = some (.int .i64 f'.c) ∧ (wr.drew.alloc o).cell? ⟨w.heap.size, 2, none⟩ = some (.slice A fl cap) := fun o => keepB (W := wr) (B := wr.heap.size) (by omega) ((Below.refl _ _).drew.alloc (Nat.le_refl _) o) ⟨q0, q1, q2⟩
                have HGLR := Lib.hid hgl.out
                have HHP := Lib.hid hp
                have HBOD := Lib.hid hbod
                have HAL := Lib.hid hal
                have hq0 : (0 : Int) ≤ (i : Int) := Int.natCast_nonneg _
                rw [HFL2.out] at r2 hcx
                rw [HFL2.out] at HBOD HHP
                clear hfrs hal hbod hfbr hp hgl
                go_wp2_with fail
                have z0 : IntKind.i64.wrap ((i : Int) + 1) = (i : Int) + 1 := by rw [IntKind.wrap_i64]; omega
                have z1 : (i : Int) ≤ (i : Int) + 1 := by omega
                have z2 : (i : Int) + 1 ≤ (c7 : Int) := by omega
                have z3 : ((i : Int) + 1).toNat = i + 1 := by omega
                have z4 : ¬ c7 = i := by omega
                go_region_held3 (fun W => W.cell? ⟨w.heap.size, 0, none⟩ = some (.int .u32 (f'.o : Int)) ∧ W.cell? ⟨w.heap.size, 1, none⟩ = some (.int .i64 f'.c) ∧ W.cell? ⟨w.heap.size, 2, none⟩ = some (.slice A fl cap))
                  (first
                    | go_keep
                    | exact sb _
                    | exact sq)
                  (first
                    | (go_at_call 15; refine SAME.out.mono ?_; rintro e wq ⟨rfl, q, hwq⟩; have HQ := Lib.hid hwq; have hbq : Below wr.heap.size wr wq := (by rw [hwq]; exact below_draws HAL.out q); have sq : wq.cell? ⟨w.heap.size, 0, none⟩ = some (.int .u32 (f'.o : Int)) ∧ wq.cell? ⟨w.heap.size, 1, none⟩ = some (.int .i64 f'.c) ∧ wq.cell? ⟨w.heap.size, 2, none⟩ = some (.slice A fl cap) := keepB (W := wr) (B := wr.heap.size) (by omega) hbq ⟨q0, q1, q2⟩; clear hwq))
                clear z0 z1 z2 z3 z4 s19
                have HGQ := Lib.hid (HGLR.out.later hwr hbq)
                obtain ⟨r0q, r1q, r2q, hgbq⟩ := GL.cells HGQ.out HHP.out
                dsimp only at r2q
                have HBQ := Lib.hid (HBOD.out.below hbq)
                have hwq : w6.heap.size ≤ wq.heap.size := Nat.le_trans hwr hbq.size
                have hneb : (Value.slice Ax fl cx).ownBlock ≠ some gb := fun e => by
                  obtain ⟨_, cur, hh⟩ := row_elem HBQ.out gb e
                  obtain ⟨_, cur', hh'⟩ := row_elem HGQ.out.row gb rfl
                  exact absurd (elem_ne hh hh') (by decide)
                clear HGLR HBOD HQ HAL SAME sb sq r0 r1 r2 r0q r1q q0 q1 q2 hbq
                have hst := flipped_start HBQ.out
                rw [HFL2.out] at hst
                have HST := Lib.hid hst
                clear hst
                rcases HBQ.out.shape with ⟨hv, _⟩ | ⟨gx, capx, hv, _, _⟩
                · have HNX := Lib.hid (GL.flip HGQ.out hwq hglo HHP.out HST.out)
                  injection hv with e1 e2 e3
                  subst e1 e2 e3
                  go_wp2_with fail
                  refine wp_loop_rounds 1 ?_
                  rw [rounds_succ]
                  go_wp2_with fail
                  go_roundw
                  case rel => exact ⟨i + 1, by omega, by go_num, HNX.out⟩
                  case measure => simp [intOf]; omega
                · injection hv with e1 e2 e3
                  subst e1
                  clear e2 e3
                  have hne2 : some gb ≠ some gx := fun e => hneb e.symm
                  go_wp2_with fail
                  go_loopw [86] (fun s86 wr2 => ∃ x : Nat, x ≤ fl ∧ s86 = .int .i64 x ∧ Hid (Flipped wq w6.heap.size (.slice (some ⟨gx, 0, none⟩) fl cx) fl wr2)) (fun s86 _ => fl - (intOf s86).toNat)
                  case atStart => exact ⟨0, Nat.zero_le _, rfl, HST.out⟩
                  case round =>
                    obtain ⟨x, hx, rfl, hfl⟩ := hrel
                    by_cases hltx : x < fl
                    · obtain ⟨xb, hc, hfz⟩ := Flipped.cell hfl.out hltx
                      have r2x : wr.cell? ⟨gb, i * 3 + 2, none⟩ = some (.slice (some ⟨gx, 0, none⟩) fl cx) := by
                        obtain ⟨_, _, _, hg⟩ := hfl.out
                        exact hg.cell r2q hne2
                      have HNX := Lib.hid (fun a b => Flipped.step hfl.out x a b)
                      generalize xb.toNat = xn at *
                      go_wp2_with fail
                      go_roundw
                      case rel => exact ⟨x + 1, by omega, by go_num, HNX.out _ _⟩
                      case measure => simp [intOf]; omega
                    · have HNX := Lib.hid (GL.flip HGQ.out hwq hglo HHP.out hfl.out)
                      go_wp2_with fail
                      go_roundw
                      case rel => exact ⟨i + 1, by omega, by go_num, HNX.out⟩
                      case measure => simp [intOf]; omega
              · go_wp2_with fail
                go_meet
                exact ⟨i, hgl.out⟩
        case rest =>
          obtain ⟨i9, hgl9⟩ := hcut.out
          have hb9 : Below w6.heap.size w8 wc := hgl9.below
          have hT9 : Owns wc w2.heap.size (.slice A4 T.length c4) T := HT8.out.atB fun j hj => hb9.block j (HTB.out j hj)
          have hz9 : w4.heap.size ≤ wc.heap.size := by have := hgl9.size; omega
          have hbvb : ∀ j, bv'.ownBlock = some j → w2.heap.size ≤ j := fun j hj => by have := (hgl9.dec.2.2.block j hj).1; omega
          have hpl : (T.drop k).length ≤ 5000 := by simp only [List.length_drop]; omega
          have FEED2 := Lib.hid (feed_open (p := T.drop k) hgl9.dec (hT9.sees.drop hkT) (by omega) hz9)
          rw [feed_ok HSP2.out] at FEED2
          unfold FeedP at FEED2
          dsimp only at FEED2
          have s27 : ∀ W, (Instr.sliceAt 23 (.slice A4 T.length c4) (some (.int .i64 k)) none none).run Try.prog W = .ok (.slice (if c4 = k then A4 else A4.map (·.add k)) (T.length - k) (c4 - k)) W := fun W => slice_l k hkT W
          have hb9w2 : Below w2.heap.size w8 wc := hb9.mono hw2lo
          clear hcut hgl9 hT9 HGL0 HSP2 HT8
          generalize (if c4 = k then A4 else A4.map (·.add k)) = A10 at *
          generalize T.length - k = n10 at *
          generalize c4 - k = c10 at *
          go_wp2_with fail
          refine FEED2.out.mono ?_
          rintro e w10 ⟨fv2, m2, bv2, rfl, hof2, hsep2, hfst2, hdec2, hne2, hor2, hkb2⟩
          have HB10 : Hid (Below w2.heap.size w8 w10) := hb9w2.trans (hkb2.to_below (by omega) hb24 hbvb)
          have b10 := keepB hlt2 HB10.out b8
          have HFB10 : Hid (Sees w10 (.slice A fl cap) f.b) := sees_other HFB.out HB10.out.size (fun hn j _ hv => HB10.out.block j (HOLD.out hn j hv))
          have HBW10 : Hid (Below w.heap.size w w10) := HBW.out.trans (HB10.out.mono hbw2.size)
          have hml2 : m2.length = g2.length := by rw [← hfst2, fst_length]
          have HALL2 : Hid (∀ p ∈ m2, p.1 = f) := fun p hp => HG2.out p.1 (by rw [← hfst2]; exact List.mem_map.2 ⟨p, hp, rfl⟩)
          have hsum : (ml : Int) + (m2.length : Int) = 2 := by
            have h1 := HLEN.out
            have h2 := HML.out
            omega
          have hfr2 := hof2.frs
          have HOF2 := Lib.hid hof2
          have hwz : w.heap.size < w10.heap.size := by have := hkb2.size; omega
          obtain ⟨A11, c11, rfl, hc11, hm11, _, hcell11⟩ := hfr2
          have HCELL := Lib.hid hcell11
          simp only [maxLen] at hm11
          clear hof2 hsep2 hfst2 hdec2 hne2 hor2 hkb2 hcell11 FEED2 s27 hb9 hb9w2 hbvb hml2 HB10
          generalize hm2 : m2.length = ml2 at *
          have HM2 := Lib.hid hm2
          clear hm2
          by_cases h20 : ml2 = 0
          · subst h20
            have hm1 : ml = 2 := by omega
            subst hm1
            clear hsum
            go_wp2_with fail
            refine wp_loop_rounds 1 ?_
            rw [rounds_succ]
            go_wp2_with fail
            refine (example_any w10).mono ?_
            rintro e w11 ⟨rfl, hx⟩
            go_wp2_with fail
            go_ret
            exact ⟨rfl, HBW10.out.trans (hx.mono HBW10.out.size)⟩
          · obtain ⟨b2, off2, rfl, hb2l, hc2l⟩ := HCELL.out (by omega)
            have HC2 := Lib.hid hc2l
            clear hc2l
            go_wp2_with fail
            go_loopw [111] (fun s111 wr => ∃ i : Nat, i ≤ ml2 ∧ s111 = .int .i64 i ∧ Hid (Below w10.heap.size w10 wr)) (fun s111 _ => ml2 - (intOf s111).toNat)
            case atStart => exact ⟨0, Nat.zero_le _, rfl, Below.refl _ _⟩
            case round =>
              obtain ⟨i, hi, rfl, hbr⟩ := hrel
              by_cases hlt3 : i < ml2
              · obtain ⟨p, hp⟩ : ∃ p, m2[i]? = some p := ⟨_, List.getElem?_eq_getElem (by rw [HM2.out]; exact hlt3)⟩
                have hpf := HALL2.out p (List.mem_of_getElem? hp)
                have hbod := (HOF2.out.2 p (List.mem_of_getElem? hp)).sees.below hbr.out
                obtain ⟨r0, r1, r2⟩ := HC2.out i p hp
                obtain ⟨f', sv⟩ := p
                dsimp only at hpf
                subst hpf
                dsimp only at r0 r1 r2 hbod
                rw [← hbr.out.cell (p := ⟨b2, off2 + i * 3, none⟩) hb2l] at r0
                rw [← hbr.out.cell (p := ⟨b2, off2 + i * 3 + 1, none⟩) hb2l] at r1
                rw [← hbr.out.cell (p := ⟨b2, off2 + i * 3 + 2, none⟩) hb2l] at r2
                have hzr := hbr.out.size
                obtain ⟨q0, q1, q2⟩ := keepB hwz hbr.out b10
                have hfbr : Sees wr (.slice A fl cap) f'.b := HFB10.out.below hbr.out
                have hfrs : Frs wr (.slice (some ⟨b2, off2 + i * 3, none⟩) 1 (c11 - i)) [(f', sv)] := frs_single hbod (Nat.lt_of_lt_of_le hb2l hzr) (by omega) (by simp only [maxLen]; omega) r0 r1 r2
                have hal : Below wr.heap.size wr (wr.drew.alloc (.cells #[.int .u32 (f'.o : Int), .int .i64 f'.c, .slice A fl cap] 25)) := (Below.refl _ _).drew.alloc (Nat.le_refl _) _
                have SAME := Lib.hid (same_true (hfrs.below hal) (frs_one (w := wr.drew) (p := (f', .slice A fl cap)) hfbr) rfl)
                have sb : ∀ o : Obj, (wr.drew.alloc o).cell? ⟨w.heap.size, 0, none⟩ = some (.int .u32 (f'.o : Int)) ∧ (wr.drew.alloc o).cell? ⟨w.heap.size, 1, none⟩ = some (.int .i64 f'.c) ∧ (wr.drew.alloc o).cell? ⟨w.heap.size, 2, none⟩ = some (.slice A fl cap) := fun o => keepB (W := wr) (B := wr.heap.size) (by omega) ((Below.refl _ _).drew.alloc (Nat.le_refl _) o) ⟨q0, q1, q2⟩
                have HAL := Lib.hid hal
                have hq0 : (0 : Int) ≤ (i : Int) := Int.natCast_nonneg _
                have hwlt : w.heap.size < wr.heap.size := by omega
                clear hfrs hal hbod hfbr hp r0 r1 r2
                go_wp2_with fail
                have z0 : IntKind.i64.wrap ((i : Int) + 1) = (i : Int) + 1 := by rw [IntKind.wrap_i64]; omega
                have z1 : (i : Int) ≤ (i : Int) + 1 := by omega
                have z2 : (i : Int) + 1 ≤ (c11 : Int) := by omega
                have z3 : ((i : Int) + 1).toNat = i + 1 := by omega
                have z4 : ¬ c11 = i := by omega
                go_region_held3 (fun W => W.cell? ⟨w.heap.size, 0, none⟩ = some (.int .u32 (f'.o : Int)) ∧ W.cell? ⟨w.heap.size, 1, none⟩ = some (.int .i64 f'.c) ∧ W.cell? ⟨w.heap.size, 2, none⟩ = some (.slice A fl cap))
                  (first
                    | go_keep
                    | exact sb _
                    | exact sq)
                  (first
                    | (go_at_call 15; refine SAME.out.mono ?_; rintro e wq ⟨rfl, q, hwq⟩; have HQ := Lib.hid hwq; have hbq : Below wr.heap.size wr wq := (by rw [hwq]; exact below_draws HAL.out q); have sq : wq.cell? ⟨w.heap.size, 0, none⟩ = some (.int .u32 (f'.o : Int)) ∧ wq.cell? ⟨w.heap.size, 1, none⟩ = some (.int .i64 f'.c) ∧ wq.cell? ⟨w.heap.size, 2, none⟩ = some (.slice A fl cap) := keepB (W := wr) (B := wr.heap.size) hwlt hbq ⟨q0, q1, q2⟩; clear hwq))
                clear z0 z1 z2 z3 z4
                go_wp2_with fail
                go_roundw
                case rel => exact ⟨i + 1, by omega, by go_num, hbr.out.trans (hbq.mono hzr)⟩
                case measure => simp [intOf]; omega
              · go_wp2_with fail
                refine (example_any wr).mono ?_
                rintro e w11 ⟨rfl, hx⟩
                go_wp2_with fail
                go_ret
                have hbt : Below w.heap.size w wr := HBW10.out.trans (hbr.out.mono HBW10.out.size)
                exact ⟨rfl, hbt.trans (hx.mono hbt.size)⟩
    · have hxb : (f.err == 0) = false := by rw [beq_eq_false_iff_ne]; exact he
      have hxb2 : (f.err != 0) = true := by rw [bne, hxb]; rfl
      rw [if_neg he] at P1
      generalize f.err = x at *
      generalize f.b.length = m at *
      go_enter Try.func8, Try.ntmps8
      go_wp2_with fail
      rw [← HW.out]
      refine P1.out.mono ?_
      rintro e w2 ⟨v2, rfl, _, hb2⟩
      go_wp2_with fail
      refine (example_any w2).mono ?_
      rintro e w3 ⟨rfl, hx⟩
      go_wp2_with fail
      go_ret
      exact ⟨rfl, (hb1.trans (hb2.mono hb1.size)).trans (hx.mono (hb1.trans (hb2.mono hb1.size)).size)⟩

set_option maxRecDepth 100000 in
theorem mem_lifted (os : Os) (started : os.Started) (H : Type) (enc : TypeId × Value → H) :
    ReturnsInHanded {} Try.checked os 8 .any (Rows.frameMemorySpec.pre6 enc Try.prog Try.f8 Rows.frameMemoryRow.domain false) (Rows.frameMemorySpec.post enc Try.prog Try.f8 false true false false) := by
  refine returnsInHanded_of_change (C := Try.checked) own started (by kernel_rfl) Try.func8
    (ChangeSpec.witness6 (enc := enc) (C := Try.checked) false ⟨#[], #[.agg #[.int .u32 0, .int .i64 0, .slice none 0 0], .int .u16 0], []⟩ 8 (by kernel_rfl) (by kernel_rfl) (by kernel_rfl) (by kernel_rfl)) ?_
  intro W base args ds gs before hval0 hW _ _
  have hval : ∀ (j : Nat) t v, Try.f8.params[j]? = some t → args[j]? = some v → Value.okWide Try.prog W .any base t v := hval0
  have hW' := hW
  obtain ⟨p, q, hA0, hV, rfl, _, _⟩ := hW
  have hA : DataW.TrodAll enc Try.prog W 0 (fun _ => true) true Try.f8.params.toList args.toList ds p := hA0
  rw [Try.params8] at hA hval
  obtain ⟨v0, v1, d0, d1, p0, p1, rfl, rfl, rfl, h0, h1⟩ := trodAll_two hA
  obtain ⟨rfl, rfl⟩ := trodVars_none hV
  clear hA0 hval0
  simp only [List.append_nil] at hW'
  have hlt0 : ∀ x ∈ p0, x.block < W.heap.size := fun x hx => hW'.lt x (by simp [hx])
  have hlt1 : ∀ x ∈ p1, x.block < W.heap.size := fun x hx => hW'.lt x (by simp [hx])
  obtain ⟨f, sv, rfl, hs, ho⟩ := open_frame (hval 0 25 v0 rfl rfl) h0
  have k1 := h1
  obtain ⟨m, rfl, _, _, wm⟩ := open_int Try.underlying51 (hval 1 51 v1 rfl rfl) h1
  have hM : 0 ≤ m ∧ m ≤ 65535 := by
    have g1 : IntKind.u16.min = 0 := rfl
    have g2 : IntKind.u16.max = 65535 := rfl
    simp only [Lit.wf, Bool.and_eq_true, decide_eq_true_eq, g1, g2] at wm
    exact wm
  obtain ⟨cut, rfl⟩ : ∃ cut : Nat, m = (cut : Int) := ⟨m.toNat, by omega⟩
  refine (mem_walk hs ho (by omega)).mono fun e W' ⟨he, hg⟩ => ?_
  subst he
  exact ⟨_, rfl, _, _, _, [], _, [], hW', trodAll_cons_mk (shut_bool Try.underlying4 _) trodAll_mk0,
    trodAll_mk2 (Below.trod laidOut (by kernel_rfl) (of_decide_eq_true (by kernel_rfl)) h0 hg hlt0) (Below.trod laidOut (by kernel_rfl) (of_decide_eq_true (by kernel_rfl)) k1 hg hlt1), rfl, hg.frame _, fun h => by cases h⟩

theorem mem_holds : Rows.FrameMemorySaid :=
  OpenClaim.holds_of_wide 8 Try.f8 rfl rfl rfl rfl rfl rfl rfl ⟨rfl, rfl, rfl, rfl, rfl⟩ rfl rfl rfl rfl rfl (by kernel_rfl) Try.func8 (by kernel_rfl)
    (of_decide_eq_true (by kernel_rfl)) (by unfold Func.isWrapper; first | (rw [if_pos (by decide +kernel)]; kernel_rfl) | (rw [if_neg (by decide +kernel)]; exact ⟨rfl, rfl⟩))
    (fun os started H enc _ => mem_lifted os started H enc)

end Go.Proofs.Ytfmknjfhalkfhaa
