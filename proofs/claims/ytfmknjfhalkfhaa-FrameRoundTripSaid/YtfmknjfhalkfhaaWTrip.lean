/-
  FrameRoundTrip: for every list of frames, Split of the concatenation of the encoded frames returns these frames and all bytes, and without the last byte all frames but the last one (asked of at most 20 frames with at most 5,000 bytes each): the law returns true and leaves its argument as it was. No condition.
-/
import Derived.Test.YtfmknjfhalkfhaaTrip
namespace Go.Proofs.Ytfmknjfhalkfhaa
open Go.ChangeShapes Go.WideShapes Go.ChangeAt Go.RowKit Mem Wire

/-- in the loop, behind k frames -/
structure TL (w wr : World) (s3 s4 : Value) (right : List (Fr × Value)) (E : List UInt8) (last k : Nat) : Prop where
  mem : TM w wr s3 s4 right
  enc : E = encs (fst right)
  len : right.length ≤ k
  last : ∀ init q, right = init ++ [q] → last = taken (fst init)

def TLP (w : World) (k : Nat) (s3 s4 s5 : Value) (wr : World) : Prop :=
  ∃ right E last A3 c3 A4 c4, s3 = .slice A3 (List.length E) c3 ∧ s4 = .slice A4 (List.length right) c4 ∧ s5 = .int .i64 (last : Nat) ∧ TL w wr s3 s4 right E last k

theorem TL.later {w wr w' : World} {s3 s4 : Value} {right : List (Fr × Value)} {E : List UInt8} {last k : Nat} (h : TL w wr s3 s4 right E last k) (hb : Below wr.heap.size wr w') : TL w w' s3 s4 right E last (k + 1) :=
  ⟨h.mem.later hb, h.enc, Nat.le_succ_of_le h.len, h.last⟩

theorem put_bad {w : World} {f : Fr} {A : Option Addr} {n c : Nat} {x : Int} (hs : Sees w (.slice A n c) f.b) (ho : f.o < 4294967296) (hlen : f.b.length ≤ 1000000) (hx : f.err = x) (h0 : x ≠ 0) :
    Calls Try.prog 11 #[.agg #[.int .u32 (f.o : Int), .int .i64 f.c, .slice A n c]] w fun e w' => ∃ A' c', e = .returned (.tuple #[.slice A' 0 c', .int .i64 x]) ∧ Below w.heap.size w w' := by
  refine (put_any hs ho hlen).mono ?_
  rintro e w' ⟨v, he, ho', hb⟩
  rw [if_neg (by rw [hx]; exact h0)] at ho'
  obtain ⟨A', c', rfl, _, _⟩ := ho'.sees.shape
  exact ⟨A', c', by rw [he, hx]; rfl, hb⟩

set_option maxRecDepth 40000 in
set_option maxHeartbeats 4000000 in
theorem trip_walk {w : World} {v : Value} {l : List (Fr × Value)} (h : Frs w v l) (ho : ∀ t ∈ l, t.1.o < 4294967296) : Calls Try.prog 7 #[v] w (Says true w) := by
  obtain ⟨A, cap, rfl, h1, h2, h3, h4⟩ := h
  simp only [maxLen] at h2
  by_cases hlong : 20 < l.length
  · clear h3 h4 ho
    generalize l.length = n at *
    go_enter Try.func7, Try.ntmps7
    go_wp2_with fail
    refine (example_any w).mono ?_
    rintro e w2 ⟨rfl, hx⟩
    go_wp2_with fail
    go_ret
    exact ⟨rfl, hx⟩
  · have HS := Lib.hid h3
    have HC4 := Lib.hid h4
    have HO := Lib.hid ho
    clear h3 h4 ho
    generalize hln : l.length = n at *
    have HN := Lib.hid hln
    clear hln
    have HST : Hid (TLP w 0 (.slice none 0 0) (.slice none 0 0) (.int .i64 0) w) := ⟨[], [], 0, none, 0, none, 0, rfl, rfl, rfl, ⟨own_nil _ _, World.ownsRow_nil _ _ 25 3, by simp, by simp, Below.refl _ _⟩, rfl, Nat.le_refl _, fun init q e => by simp at e⟩
    go_enter Try.func7, Try.ntmps7
    go_wp2_with fail
    go_loopw [3, 4, 5, 19] (fun s3 s4 s5 s19 wr => ∃ k : Nat, k ≤ n ∧ s19 = .int .i64 k ∧ Hid (TLP w k s3 s4 s5 wr)) (fun _ _ _ s19 _ => n - (intOf s19).toNat)
    case atStart => exact ⟨0, Nat.zero_le _, rfl, HST.out⟩
    case round =>
      obtain ⟨k, hk, rfl, htp⟩ := hrel
      obtain ⟨right, E, last, A3, c3, A4, c4, rfl, rfl, rfl, htl⟩ := htp.out
      have HTL := Lib.hid htl
      clear htl HST htp
      by_cases hlt : k < n
      · obtain ⟨t, ht⟩ : ∃ t, l[k]? = some t := ⟨_, List.getElem?_eq_getElem (by rw [HN.out]; exact hlt)⟩
        obtain ⟨b, off, rfl, hb, hc⟩ := HC4.out (by omega)
        obtain ⟨g0, g1, g2⟩ := hc k t ht
        have hsee := HS.out t (List.mem_of_getElem? ht)
        have holt := HO.out t (List.mem_of_getElem? ht)
        clear hc ht
        obtain ⟨f, sv⟩ := t
        dsimp only at *
        obtain ⟨A5, c5, rfl, hc5, hm5⟩ := hsee.shape
        have hm6 : c5 ≤ 9223372036854775807 := by simpa [maxLen] using hm5
        rw [← HTL.out.mem.below.cell (p := ⟨b, off + k * 3, none⟩) hb] at g0
        rw [← HTL.out.mem.below.cell (p := ⟨b, off + k * 3 + 1, none⟩) hb] at g1
        rw [← HTL.out.mem.below.cell (p := ⟨b, off + k * 3 + 2, none⟩) hb] at g2
        have hseer := Lib.hid (hsee.below HTL.out.mem.below)
        have HSW := Lib.hid hsee
        have hbw := HTL.out.mem.below.size
        have hbwr : b < wr.heap.size := Nat.lt_of_lt_of_le hb hbw
        clear hsee hm5
        by_cases hbig : 5000 < f.b.length
        · have HB := Lib.hid HTL.out.mem.below
          generalize f.b.length = m at *
          go_wp2_with fail
          refine (example_any wr).mono ?_
          rintro e w2 ⟨rfl, hx⟩
          go_wp2_with fail
          go_ret
          exact ⟨rfl, HB.out.trans (hx.mono HB.out.size)⟩
        · by_cases hc0 : f.c < 0
          · have HP := Lib.hid (put_bad hseer.out holt (by omega) (err6a hc0) (by decide))
            have hcb : ¬ (0 : Int) ≤ f.c := by omega
            generalize f.b.length = m at *
            go_wp2_with fail
            refine HP.out.mono ?_
            rintro e w1 ⟨A6, c6, rfl, hb1⟩
            obtain ⟨k0, k1, k2⟩ : _ ∧ _ ∧ _ := ⟨(hb1.cell (p := ⟨b, off + k * 3, none⟩) hbwr).trans g0, (hb1.cell (p := ⟨b, off + k * 3 + 1, none⟩) hbwr).trans g1, (hb1.cell (p := ⟨b, off + k * 3 + 2, none⟩) hbwr).trans g2⟩
            have HNX := Lib.hid (HTL.out.later hb1)
            clear hb1 g0 g1 g2
            go_wp2_with fail
            go_roundw
            case rel => exact ⟨k + 1, by omega, by go_num, right, E, last, A3, c3, A4, c4, rfl, rfl, rfl, HNX.out⟩
            case measure => simp [intOf]; omega
          · by_cases hc1 : 65536 ≤ f.c
            · have HP := Lib.hid (put_bad hseer.out holt (by omega) (err6b hc1) (by decide))
              have hcb : (0 : Int) ≤ f.c := by omega
              have hcb2 : ¬ f.c ≤ 65535 := by omega
              generalize f.b.length = m at *
              go_wp2_with fail
              refine HP.out.mono ?_
              rintro e w1 ⟨A6, c6, rfl, hb1⟩
              obtain ⟨k0, k1, k2⟩ : _ ∧ _ ∧ _ := ⟨(hb1.cell (p := ⟨b, off + k * 3, none⟩) hbwr).trans g0, (hb1.cell (p := ⟨b, off + k * 3 + 1, none⟩) hbwr).trans g1, (hb1.cell (p := ⟨b, off + k * 3 + 2, none⟩) hbwr).trans g2⟩
              have HNX := Lib.hid (HTL.out.later hb1)
              clear hb1 g0 g1 g2
              go_wp2_with fail
              go_roundw
              case rel => exact ⟨k + 1, by omega, by go_num, right, E, last, A3, c3, A4, c4, rfl, rfl, rfl, HNX.out⟩
              case measure => simp [intOf]; omega
            · have hcb : (0 : Int) ≤ f.c := by omega
              have hcb2 : f.c ≤ 65535 := by omega
              by_cases h4 : f.b.length % 4 = 0
              · by_cases h5 : 4096 < 8 + f.b.length
                · have HP := Lib.hid (put_bad hseer.out holt (by omega) (err5 hc0 hc1 h4 h5) (by decide))
                  generalize f.b.length = m at *
                  have hi4 : (m : Int) % 4 = 0 := by omega
                  have hi5 : ¬ (m : Int) ≤ 4088 := by omega
                  clear h4 h5
                  go_wp2_with fail
                  refine HP.out.mono ?_
                  rintro e w1 ⟨A6, c6, rfl, hb1⟩
                  obtain ⟨k0, k1, k2⟩ : _ ∧ _ ∧ _ := ⟨(hb1.cell (p := ⟨b, off + k * 3, none⟩) hbwr).trans g0, (hb1.cell (p := ⟨b, off + k * 3 + 1, none⟩) hbwr).trans g1, (hb1.cell (p := ⟨b, off + k * 3 + 2, none⟩) hbwr).trans g2⟩
                  have HNX := Lib.hid (HTL.out.later hb1)
                  clear hb1 g0 g1 g2
                  go_wp2_with fail
                  go_roundw
                  case rel => exact ⟨k + 1, by omega, by go_num, right, E, last, A3, c3, A4, c4, rfl, rfl, rfl, HNX.out⟩
                  case measure => simp [intOf]; omega
                · have he := err0 hc0 hc1 h4 h5
                  have HFIT : Hid f.fits := Fr.fits_of holt he
                  have HP := Lib.hid (put_any hseer.out holt (by omega))
                  unfold PutP at HP
                  rw [he, if_pos rfl] at HP
                  have hel := f.enc_length
                  have hEl : E.length ≤ 81920 := by
                    have e1 := encs_le HTL.out.mem.fits
                    have e2 := HTL.out.len
                    rw [HTL.out.enc]
                    omega
                  have hrl : right.length ≤ 20 := by have := HTL.out.len; omega
                  have hi4 : (f.b.length : Int) % 4 = 0 := by omega
                  have hi5 : (f.b.length : Int) ≤ 4088 := by omega
                  have hfl : f.b.length ≤ 4088 := by omega
                  have HE : Hid (E = encs (fst right)) := HTL.out.enc
                  obtain ⟨E2, hE2⟩ : ∃ x, x = E ++ f.enc := ⟨_, rfl⟩
                  have HE2 := Lib.hid hE2
                  have HE3 : Hid (E2 = encs (fst right) ++ f.enc) := by show _ = _; rw [hE2, HE.out]
                  clear hE2
                  have HLEN : Hid (E.length = taken (fst right)) := by show _ = _; rw [HE.out, encs_length]
                  clear h4 h5 he
                  go_wp2_with fail
                  refine HP.out.mono ?_
                  rintro e w1 ⟨v1, rfl, ho1, hb1⟩
                  obtain ⟨k0, k1, k2⟩ : _ ∧ _ ∧ _ := ⟨(hb1.cell (p := ⟨b, off + k * 3, none⟩) hbwr).trans g0, (hb1.cell (p := ⟨b, off + k * 3 + 1, none⟩) hbwr).trans g1, (hb1.cell (p := ⟨b, off + k * 3 + 2, none⟩) hbwr).trans g2⟩
                  have HM1 := Lib.hid (HTL.out.mem.later hb1)
                  have HS1 := Lib.hid ho1.sees
                  obtain ⟨A6, c6, rfl, _, _⟩ := ho1.sees.shape
                  have hz1 : w.heap.size ≤ w1.heap.size := HM1.out.below.size
                  have HAL : Hid (Owns w1 w.heap.size (.slice A3 E.length c3) E) := by have h := HM1.out.all; rw [← HE.out] at h; exact h
                  have hcb1 : (b : Nat) < w.heap.size := hb
                  clear ho1 hb1 g0 g1 g2
                  rw [hel] at HS1
                  rw [hel]
                  have HEL := Lib.hid hel
                  clear hel
                  go_wp2_with (first
                    | (at_builtin; refine wpList_app rfl (.tmp 87) (.tmp 88) rfl (v := .slice A3 E.length c3) rfl HAL.out rfl HS1.out (by rw [HEL.out]; omega) hz1 ?_; intro v3 w2 ho3 hg3 _; rw [← HE2.out] at ho3; have hbb : Below w.heap.size w w2 := HM1.out.below.grown hg3 hz1 (fun j hj => (HAL.out.block j hj).1); have j0 := (hbb.cell (p := ⟨b, off + k * 3, none⟩) hb).trans ((HM1.out.below.cell (p := ⟨b, off + k * 3, none⟩) hb).symm.trans k0); have j1 := (hbb.cell (p := ⟨b, off + k * 3 + 1, none⟩) hb).trans ((HM1.out.below.cell (p := ⟨b, off + k * 3 + 1, none⟩) hb).symm.trans k1); have j2 := (hbb.cell (p := ⟨b, off + k * 3 + 2, none⟩) hb).trans ((HM1.out.below.cell (p := ⟨b, off + k * 3 + 2, none⟩) hb).symm.trans k2); have hz2 : w.heap.size ≤ w2.heap.size := hbb.size; have HO3 := Lib.hid ho3; have HG3 := Lib.hid hg3; have HOF2 := Lib.hid (TM.ownF2 HM1.out hg3); obtain ⟨A7, c7, hv7, _, _⟩ := ho3.sees.shape; have HBB := Lib.hid hbb; clear ho3 hg3 hbb k0 k1 k2; subst hv7)
                    | (at_builtin; refine wpList_appF rfl (.tmp 90) (.tmp 95) rfl (v := .slice A4 right.length c4) (l := right) (m := [(f, .slice A5 f.b.length c5)]) rfl (HOF2.out.alloc _) rfl (frs_one (p := (f, .slice A5 f.b.length c5)) (HSW.out.below HBB.out)) (fun q hq => by rw [List.mem_singleton.1 hq]; exact .inr ⟨sees_old HSW.out, (HSW.out.below HBB.out).alloc _⟩) (by simp; omega) (by simp; omega) ?_; intro v4 w3 ho4 hg4 _; have HTA := TM.add HM1.out HFIT.out HSW.out (Eq.mp (congrArg (Owns w2 w.heap.size (Value.slice A7 E2.length c7)) HE3.out) HO3.out) HG3.out ho4 hg4; obtain ⟨right2, hr2⟩ : ∃ x, x = right ++ [(f, Value.slice A5 f.b.length c5)] := ⟨_, rfl⟩; rw [← hr2] at HTA ho4; have HR2 := Lib.hid hr2; obtain ⟨A8, c8, hv8, _, _⟩ := ho4.frs.shape; clear ho4 hg4 hr2; subst hv8; have HTA := Lib.hid HTA)
                    | fail)
                  go_roundw
                  case rel =>
                    refine ⟨k + 1, by omega, by go_num, right2, E2, E.length, A7, c7, A8, c8, rfl, rfl, rfl, HTA.out, ?_, ?_, fun init q e => ?_⟩
                    · rw [HE2.out, HE.out, HR2.out, fst_append, encs_append]
                      exact congrArg _ (encs_one f).symm
                    · have := HTL.out.len
                      rw [HR2.out, List.length_append]
                      simp only [List.length_singleton]
                      omega
                    · rw [HR2.out] at e
                      rw [HLEN.out, (List.append_inj' e rfl).1]
                  case measure => simp [intOf]; omega
              · have HP := Lib.hid (put_bad hseer.out holt (by omega) (err2 hc0 hc1 h4) (by decide))
                generalize f.b.length = m at *
                have hi4 : ((m : Int) % 4 == 0) = false := by rw [beq_eq_false_iff_ne]; omega
                clear h4
                go_wp2_with fail
                refine HP.out.mono ?_
                rintro e w1 ⟨A6, c6, rfl, hb1⟩
                obtain ⟨k0, k1, k2⟩ : _ ∧ _ ∧ _ := ⟨(hb1.cell (p := ⟨b, off + k * 3, none⟩) hbwr).trans g0, (hb1.cell (p := ⟨b, off + k * 3 + 1, none⟩) hbwr).trans g1, (hb1.cell (p := ⟨b, off + k * 3 + 2, none⟩) hbwr).trans g2⟩
                have HNX := Lib.hid (HTL.out.later hb1)
                clear hb1 g0 g1 g2
                go_wp2_with fail
                go_roundw
                case rel => exact ⟨k + 1, by omega, by go_num, right, E, last, A3, c3, A4, c4, rfl, rfl, rfl, HNX.out⟩
                case measure => simp [intOf]; omega
      · have hkn : k ≤ 20 := by omega
        have HE : Hid (E = encs (fst right)) := HTL.out.enc
        have HFA := Lib.hid (fits_all HTL.out.mem.fits)
        have hEl : E.length ≤ 81920 := by
          have e1 := encs_le HTL.out.mem.fits
          have e2 := HTL.out.len
          rw [HTL.out.enc]
          omega
        have HSP : Hid (splitS E = (fst right, [], 0)) := by show _ = _; rw [HE.out, split_encs_all _ HFA.out]
        have HAL : Hid (Owns wr w.heap.size (.slice A3 E.length c3) E) := by have h := HTL.out.mem.all; rw [← HE.out] at h; exact h
        have PS := Lib.hid (split_of HAL.out.sees (by omega) HSP.out)
        have HLEN : Hid (E.length = taken (fst right)) := by show _ = _; rw [HE.out, encs_length]
        rw [← HLEN.out] at PS
        have hcE : E.length ≤ c3 := by
          obtain ⟨_, _, hv, h1, _⟩ := HAL.out.sees.shape
          injection hv with _ _ e3
          omega
        have hcR : right.length ≤ c4 := by
          obtain ⟨_, _, hv, h1, _⟩ := HTL.out.mem.ownF.frs.shape
          injection hv with _ _ e3
          omega
        have HFR := Lib.hid HTL.out.mem.ownF.frs
        clear hk
        by_cases hr0 : right = []
        · subst hr0
          have HB := Lib.hid HTL.out.mem.below
          clear HTL HFA
          generalize hel : E.length = el at *
          clear hel
          dsimp only [List.length_nil] at *
          go_wp2_with fail
          refine PS.out.mono ?_
          rintro e w2 ⟨fv, m, rfl, hof, hfm, hb2⟩
          have SAME := Lib.hid (same_true hof.frs (HFR.out.below hb2) hfm)
          have hb3 := Lib.hid (HB.out.trans (hb2.mono HB.out.size))
          clear hof hfm hb2
          go_wp2_with fail
          refine SAME.out.mono ?_
          rintro e w3 ⟨rfl, q, rfl⟩
          go_wp2_with fail
          refine (example_any _).mono ?_
          rintro e w4 ⟨rfl, hx⟩
          go_wp2_with fail
          go_ret
          exact ⟨rfl, (below_draws hb3.out q).trans (hx.mono (below_draws hb3.out q).size)⟩
        · obtain ⟨init, q, hiq⟩ : ∃ init q, right = init ++ [q] := ⟨right.dropLast, right.getLast hr0, (List.dropLast_concat_getLast hr0).symm⟩
          obtain ⟨rl, hrl⟩ : ∃ rl, right.length = rl + 1 := ⟨init.length, by rw [hiq]; simp⟩
          have hil : init.length = rl := by rw [hiq] at hrl; simpa using hrl
          obtain ⟨el, hel⟩ : ∃ el, E.length = el + 1 := ⟨E.length - 1, by
            have h1 := taken_most (fst right)
            rw [fst_length, hrl] at h1
            have h2 := HLEN.out
            omega⟩
          have hlast : last = taken (fst init) := HTL.out.last init q hiq
          have HFI : Hid (fst right = fst init ++ [q.1]) := by show _ = _; rw [hiq, fst_append]; rfl
          obtain ⟨r, hsw⟩ := split_without (fst init) q.1 (fun f hf => HFA.out f (by rw [HFI.out]; exact List.mem_append_left _ hf)) (HFA.out q.1 (by rw [HFI.out]; simp))
          rw [← HFI.out, ← HE.out, hel, Nat.add_sub_cancel] at hsw
          have HAL2 : Hid (Sees wr (.slice A3 el c3) (E.take el)) := HAL.out.sees.take (by omega)
          have PS2 : Hid (∀ w2, Below wr.heap.size wr w2 → _) := fun w2 hb => split_of (HAL2.out.below hb) (by simp only [List.length_take]; omega) hsw
          have S1 := fun W => slice_h HAL.out.sees el (by omega) (by omega) W
          have S2 := fun W => slice_hF HFR.out rl (by omega) (by omega) W
          have HTK : Hid (fst init = fst (right.take rl)) := by show _ = _; rw [hiq, ← hil, List.take_left]
          have HFR2 := Lib.hid (frs_take HFR.out (k := rl) (by omega))
          have HB := Lib.hid HTL.out.mem.below
          rw [← hlast] at PS2
          have hrl20 : rl ≤ 20 := by have := HTL.out.len; omega
          rw [hrl] at HFR hcR ⊢
          rw [hel] at PS hcE hEl ⊢
          simp only [hrl] at S2
          simp only [hel] at S1
          clear HTL HFA hsw hiq hil hlast hr0 HAL HE HSP HLEN HFI hrl hel
          go_wp2_with fail
          refine PS.out.mono ?_
          rintro e w2 ⟨fv, m, rfl, hof, hfm, hb2⟩
          have SAME := Lib.hid (same_true hof.frs (HFR.out.below hb2) hfm)
          have HB2 := Lib.hid hb2
          clear hof hfm hb2
          go_wp2_with fail
          refine SAME.out.mono ?_
          rintro e w3 ⟨rfl, q1, rfl⟩
          have HB3 : Hid (Below wr.heap.size wr (w2.drewN q1)) := below_draws HB2.out q1
          have PS3 := Lib.hid (PS2.out _ HB3.out)
          go_wp2_with fail
          refine PS3.out.mono ?_
          rintro e w4 ⟨fv4, m4, rfl, hof4, hfm4, hb4⟩
          have HB4 : Hid (Below wr.heap.size wr w4) := HB3.out.trans (hb4.mono HB3.out.size)
          have SAME4 := Lib.hid (same_true hof4.frs (HFR2.out.below HB4.out) (hfm4.trans HTK.out))
          clear hof4 hfm4 hb4
          go_wp2_with fail
          refine SAME4.out.mono ?_
          rintro e w5 ⟨rfl, q2, rfl⟩
          have HB5 : Hid (Below w.heap.size w (w4.drewN q2)) := HB.out.trans ((below_draws HB4.out q2).mono HB.out.size)
          go_wp2_with fail
          refine (example_any _).mono ?_
          rintro e w6 ⟨rfl, hx⟩
          go_wp2_with fail
          go_ret
          exact ⟨rfl, HB5.out.trans (hx.mono HB5.out.size)⟩

set_option maxRecDepth 100000 in
theorem trip_lifted (os : Os) (started : os.Started) (H : Type) (enc : TypeId × Value → H) :
    ReturnsInHanded {} Try.checked os 7 .any (Rows.frameRoundTripSpec.pre6 enc Try.prog Try.f7 Rows.frameRoundTripRow.domain false) (Rows.frameRoundTripSpec.post enc Try.prog Try.f7 false true false false) := by
  refine returnsInHanded_of_change (C := Try.checked) own started (by kernel_rfl) Try.func7
    (ChangeSpec.witness6 (enc := enc) (C := Try.checked) false ⟨#[], #[.slice none 0 0], []⟩ 8 (by kernel_rfl) (by kernel_rfl) (by kernel_rfl) (by kernel_rfl)) ?_
  intro W base args ds gs before hval0 hW _ _
  have hval : ∀ (j : Nat) t v, Try.f7.params[j]? = some t → args[j]? = some v → Value.okWide Try.prog W .any base t v := hval0
  have hW' := hW
  obtain ⟨p, q, hA0, hV, rfl, _, _⟩ := hW
  have hA : DataW.TrodAll enc Try.prog W 0 (fun _ => true) true Try.f7.params.toList args.toList ds p := hA0
  rw [Try.params7] at hA hval
  obtain ⟨v0, vs0, d0, ds0, p0, q0, hargs, rfl, rfl, h0, r0⟩ := trodAll_cons hA
  obtain ⟨rfl, rfl, rfl⟩ := trodAll_nil r0
  obtain rfl : args = #[v0] := by cases args; simp_all
  obtain ⟨rfl, rfl⟩ := trodVars_none hV
  clear hA0 hval0
  simp only [List.append_nil] at hW'
  have hlt0 : ∀ x ∈ p0, x.block < W.heap.size := fun x hx => hW'.lt x (by simp [hx])
  have k0 := h0
  obtain ⟨l, hl, hol⟩ := open_frames h0 (okWide_slice Try.underlying31 (hval 0 31 v0 rfl rfl))
  refine (trip_walk hl hol).mono fun e W' ⟨he, hg⟩ => ?_
  subst he
  exact ⟨_, rfl, _, _, _, [], _, [], hW', trodAll_cons_mk (shut_bool Try.underlying4 _) trodAll_mk0,
    trodAll_cons_mk (Below.trod laidOut (by kernel_rfl) (of_decide_eq_true (by kernel_rfl)) k0 hg hlt0) trodAll_mk0, rfl, hg.frame _, fun h => by cases h⟩

theorem trip_holds : Rows.FrameRoundTripSaid :=
  OpenClaim.holds_of_wide 7 Try.f7 rfl rfl rfl rfl rfl rfl rfl ⟨rfl, rfl, rfl, rfl, rfl⟩ rfl rfl rfl rfl rfl (by kernel_rfl) Try.func7 (by kernel_rfl)
    (of_decide_eq_true (by kernel_rfl)) (by unfold Func.isWrapper; first | (rw [if_pos (by decide +kernel)]; kernel_rfl) | (rw [if_neg (by decide +kernel)]; exact ⟨rfl, rfl⟩))
    (fun os started H enc _ => trip_lifted os started H enc)

end Go.Proofs.Ytfmknjfhalkfhaa
