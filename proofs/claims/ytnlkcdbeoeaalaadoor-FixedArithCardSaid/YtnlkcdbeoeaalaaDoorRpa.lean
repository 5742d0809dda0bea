/-
  Parse of the reference.
-/
import Derived.Test.YtnlkcdbeoeaalaaDoorRfo
namespace Go.Proofs.YtnlkcdbeoeaalaaDoor
open Go.RowKit

theorem cut_point (tl : List UInt8) (k : Nat) (_ : k ≤ tl.length) (ha : (tl.take k).all (· != 46) = true) (he : k = tl.length ∨ tl[k]? = some 46) :
    tl.takeWhile (· != 46) = tl.take k ∧ tl.dropWhile (· != 46) = tl.drop k := by
  have h1 : ∀ a ∈ tl.take k, (a != 46) = true := List.all_eq_true.1 ha
  have h2 := List.takeWhile_append_of_pos (p := (· != 46)) (l₁ := tl.take k) (l₂ := tl.drop k) h1
  have h3 := List.dropWhile_append_of_pos (p := (· != 46)) (l₁ := tl.take k) (l₂ := tl.drop k) h1
  rw [List.take_append_drop] at h2 h3
  rw [h2, h3]
  rcases he with he | he
  · have : tl.drop k = [] := List.drop_of_length_le (by omega)
    rw [this]
    simp
  · have hlt : k < tl.length := by
      rcases Nat.lt_or_ge k tl.length with h | h
      · exact h
      · rw [List.getElem?_eq_none h] at he; cases he
    have : tl.drop k = 46 :: tl.drop (k + 1) := by
      rw [List.drop_eq_getElem_cons hlt]
      rw [List.getElem?_eq_getElem hlt] at he
      rw [Option.some.inj he]
    rw [this]
    simp

theorem whole_eq {l : List UInt8} (h : digitsB l = true) : wholeB l = !(decide (1 < l.length) && (l.head? == some 48)) := by
  unfold wholeB
  rw [h, Bool.true_and]
  match l, h with
  | [c], _ => 
    by_cases hc : c = 48
    · subst hc; rfl
    · simp [hc]
  | c :: d :: l, _ =>
    by_cases hc : c = 48
    · subst hc; simp
    · have h1 : (c :: d :: l == [48]) = false := by simp
      have h2 : (some c != some (48 : UInt8)) = true := by simpa using hc
      have h3 : (some c == some (48 : UInt8)) = false := by simpa using hc
      rw [h1, List.head?_cons, h2, h3, Bool.and_false]; rfl

theorem pad_len (l : List UInt8) (h : l.length ≤ 8) : (padL l).length = 8 := by
  unfold padL; rw [List.length_append, List.length_replicate]; omega

theorem pad_at (l : List UInt8) (h : l.length ≤ 8) (i : Nat) (hi : i < 8) : (padL l)[i]? = if i < l.length then l[i]? else some 48 := by
  unfold padL
  split
  · rw [List.getElem?_append_left (by assumption)]
  · rw [List.getElem?_append_right (by omega), List.getElem?_replicate, if_pos (by omega)]

theorem num_take (l : List UInt8) (i : Nat) (c : UInt8) (h : l[i]? = some c) : numN (l.take (i + 1)) = numN (l.take i) * 10 + (c.toNat - 48) := by
  have hi : i < l.length := by
    rcases Nat.lt_or_ge i l.length with h2 | h2
    · exact h2
    · rw [List.getElem?_eq_none h2] at h; cases h
  rw [List.take_succ_eq_append_getElem hi, numN_snoc]
  rw [List.getElem?_eq_getElem hi] at h
  rw [Option.some.inj h]

theorem byte_at (s : ByteArray) (k : Nat) (h : k < s.size) : s.data.toList[k]? = some s[k] := by
  have hl : k < s.data.toList.length := by rw [← Lib.size_eq]; exact h
  rw [List.getElem?_eq_getElem hl]
  rfl

theorem mk_of (T : ByteArray) (l : List UInt8) (h : T.data.toList = l) : T = ⟨l.toArray⟩ := by subst h; exact (Lib.mk_data T).symm

set_option maxRecDepth 100000 in
set_option maxHeartbeats 8000000 in
theorem rparse_any (s : ByteArray) (hs : s.size ≤ 100000) (w : World) : Calls Tryd.prog 15 #[.string s] w (GivesS (parseP s.data.toList) w) := by
  obtain ⟨res, hres⟩ : ∃ r, parseP s.data.toList = r := ⟨_, rfl⟩
  rw [hres]
  obtain ⟨neg, tl, T, hT, hTs, hneg, hsx, hrest⟩ : ∃ (neg : Bool) (tl : List UInt8) (T : ByteArray), T.data.toList = tl ∧ T.size ≤ 100000 ∧ decide (s.data.toList.head? = some 45) = neg ∧ (if neg then s.extract 1 s.size else s) = T ∧ parseP s.data.toList = restP neg tl := by
    unfold parseP
    by_cases hc : s.data.toList.head? = some 45
    · refine ⟨true, s.data.toList.tail, s.extract 1 s.size, ?_, ?_, decide_eq_true hc, if_pos rfl, if_pos hc⟩
      · rw [Lib.extract_from, ← List.drop_one]
      · rw [Lib.extract_from, Lib.size_mk, List.length_drop, ← Lib.size_eq]; omega
    · exact ⟨false, s.data.toList, s, rfl, hs, decide_eq_false hc, if_neg (by decide), if_neg hc⟩
  rw [hrest] at hres
  have HRES := Lib.hid hres
  have HNEG := Lib.hid hneg
  have HSX := Lib.hid hsx
  have HT := Lib.hid hT
  clear hres hneg hsx hT hrest
  go_enter Tryd.func15, Tryd.ntmps15
  go_upto_region 1 with (fail)
  go_cut [4] (fun s4 wx => s4 = .bool neg ∧ wx = w)
  case first =>
    by_cases h0 : s.toList = []
    · have hn : neg = false := by
        rw [← HNEG.out, ← toList_data, h0]; rfl
      subst hn
      have h1 : (!s.toList.isEmpty) = false := by rw [h0]; rfl
      go_wp2_with fail
      go_meet
      exact ⟨rfl, rfl⟩
    · have hpos : 0 < s.size := by
        rw [toList_data] at h0
        rw [Lib.size_eq]
        cases e : s.data.toList with
        | nil => exact absurd e h0
        | cons _ _ => simp
      have h1 : (!s.toList.isEmpty) = true := by
        cases e : s.toList with
        | nil => exact absurd e h0
        | cons _ _ => rfl
      have h2 : ((s[0].toNat : Int) == 45) = neg := by
        rw [← HNEG.out, head_byte s hpos]
        by_cases h : s[0] = 45
        · rw [h]; rfl
        · have h3 : s[0].toNat ≠ 45 := fun e => h (UInt8.toNat_inj.1 (by simpa using e))
          rw [decide_eq_false (by simpa using h), beq_eq_false_iff_ne]
          omega
      go_wp2_with fail
      go_meet
      exact ⟨rfl, rfl⟩
  case rest =>
    obtain ⟨rfl, rfl⟩ := hcut
    go_upto_if 19 with (fail)
    go_cut [0] (fun s0 wx => s0 = .string T ∧ wx = wc)
    case first =>
      have hsx := HSX.out
      cases neg
      · rw [if_neg (by decide)] at hsx
        subst hsx
        go_wp2_with fail
        go_meet
        exact ⟨rfl, rfl⟩
      · rw [if_pos rfl] at hsx
        have h1 : 0 < s.size := by
          have h := HNEG.out
          rw [decide_eq_true_eq] at h
          rw [Lib.size_eq]
          cases e : s.data.toList with
          | nil => rw [e] at h; cases h
          | cons _ _ => simp
        have c1 : (1 : Int) ≤ s.size := by omega
        go_wp2_with fail
        go_meet
        exact ⟨rfl, rfl⟩
    case rest =>
      obtain ⟨rfl, rfl⟩ := hcut
      clear HNEG
      clear HSX
      have hpos0 : tl.length = T.size := by rw [← HT.out, ← Lib.size_eq]
      obtain ⟨wl, hwl⟩ : ∃ l, tl.takeWhile (· != 46) = l := ⟨_, rfl⟩
      obtain ⟨rl, hrl⟩ : ∃ l, tl.dropWhile (· != 46) = l := ⟨_, rfl⟩
      have happ : wl ++ rl = tl := by rw [← hwl, ← hrl]; exact List.takeWhile_append_dropWhile
      have hlen : wl.length + rl.length = T.size := by rw [← hpos0, ← happ, List.length_append]
      have HWL := Lib.hid hwl
      have HRL := Lib.hid hrl
      have HAPP := Lib.hid happ
      have HLEN := Lib.hid hlen
      have HTL := Lib.hid hpos0
      clear hwl hrl happ hpos0
      go_upto_block 0 with (fail)
      go_cut [5] (fun s5 wx => s5 = .int .i64 (wl.length : Int) ∧ wx = wc)
      case first =>
        go_wp2_with fail
        go_loop [5] (fun s5 => ∃ k : Nat, k ≤ T.size ∧ s5 = .int .i64 (k : Int) ∧ Hid ((tl.take k).all (· != 46) = true)) (fun s5 => T.size - (intOf s5).toNat)
        case atStart => exact ⟨0, by omega, rfl, rfl⟩
        case round =>
          obtain ⟨k, hk, rfl, H⟩ := hrel
          by_cases hlt : k < T.size
          · have hb := byte_at T k hlt
            rw [HT.out] at hb
            have HB := Lib.hid hb
            by_cases h46 : T[k] = 46
            · have c1 : ((T[k].toNat : Int) != 46) = false := by rw [h46]; rfl
              have hcp := (cut_point tl k (by rw [HTL.out]; omega) H.out (.inr (by rw [hb, h46]))).1
              rw [HWL.out] at hcp
              have hwk : wl.length = k := by rw [hcp, List.length_take, HTL.out]; omega
              have HK := Lib.hid hwk
              clear hb h46 hcp hwk
              go_wp2_with fail
              go_meet
              exact ⟨by rw [HK.out], rfl⟩
            · have c1 : ((T[k].toNat : Int) != 46) = true := by
                rw [bne_iff_ne]
                intro e
                exact h46 (UInt8.toNat_inj.1 (by have : T[k].toNat = 46 := by omega
                                                 simpa using this))
              have hn := Lib.hid (show (tl.take (k + 1)).all (· != 46) = true by
                have hkl : k < tl.length := by rw [HTL.out]; exact hlt
                rw [List.take_succ_eq_append_getElem hkl, List.all_append, H.out]
                rw [List.getElem?_eq_getElem hkl] at hb
                rw [Option.some.inj hb]
                simpa using h46)
              clear hb h46
              go_wp2_with fail
              refine ⟨⟨k + 1, by omega, rfl, hn⟩, ?_⟩
              simp only [intOf]
              omega
          · obtain rfl : k = T.size := by omega
            have hcp := (cut_point tl T.size (by rw [HTL.out]; omega) H.out (.inl HTL.out.symm)).1
            rw [HWL.out] at hcp
            have hwk : wl.length = T.size := by rw [hcp, List.length_take, HTL.out]; omega
            have HK := Lib.hid hwk
            have c2 : ¬ (T.size : Int) < T.size := by omega
            clear hcp hwk
            go_wp2_with fail
            go_meet
            exact ⟨by rw [HK.out], rfl⟩
      case rest =>
        obtain ⟨rfl, rfl⟩ := hcut
        have hx1 : T.extract 0 wl.length = ⟨wl.toArray⟩ := by
          rw [Lib.extract_upto, HT.out, ← HAPP.out, List.take_left]
        have hx2 : T.extract (wl.length + 1) T.size = ⟨rl.tail.toArray⟩ := by
          rw [Lib.extract_from, HT.out, ← HAPP.out, List.drop_append, List.drop_of_length_le (by omega), List.nil_append, show wl.length + 1 - wl.length = 1 by omega, List.drop_one]
        obtain ⟨W, hW⟩ : ∃ B : ByteArray, ⟨wl.toArray⟩ = B := ⟨_, rfl⟩
        obtain ⟨F, hF⟩ : ∃ B : ByteArray, ⟨rl.tail.toArray⟩ = B := ⟨_, rfl⟩
        obtain ⟨P, hP⟩ : ∃ B : ByteArray, (if rl.isEmpty then ⟨#[48]⟩ else F) = B := ⟨_, rfl⟩
        have hWd : W.data.toList = wl := by rw [← hW]
        have hFd : F.data.toList = rl.tail := by rw [← hF]
        have hWs : W.size = wl.length := by rw [Lib.size_eq, hWd]
        have hFs : F.size = rl.tail.length := by rw [Lib.size_eq, hFd]
        rw [hW] at hx1
        rw [hF] at hx2
        obtain ⟨a, ha⟩ : ∃ a, wl.length = a := ⟨_, rfl⟩
        rw [ha] at hx1 hx2 hlen hWs ⊢
        have HA := Lib.hid ha
        have HWD := Lib.hid hWd
        have HFD := Lib.hid hFd
        have HPE := Lib.hid hP
        have ca : (a : Int) ≤ T.size := by omega
        have HLA := Lib.hid hlen
        have HFS := Lib.hid hFs
        have HWS := Lib.hid hWs
        clear hW hF hP hWd hFd ha hlen hFs hWs
        go_upto_if 40 with (fail)
        go_cut [7] (fun s7 wx => s7 = .string P ∧ wx = wc ∧ Hid (rl.isEmpty = true ∨ fracB rl.tail = true))
        case first =>
          by_cases he : rl.isEmpty = true
          · have hPe := HPE.out
            rw [if_pos he] at hPe
            subst hPe
            have hl0 : rl.length = 0 := by
              have : rl = [] := by simpa using he
              rw [this]; rfl
            have c1 : ¬ (a : Int) < T.size := by have := HLA.out; omega
            have HOK := Lib.hid (show rl.isEmpty = true ∨ fracB rl.tail = true from .inl he)
            clear he
            go_wp2_with fail
            go_meet
            exact ⟨rfl, rfl, HOK⟩
          · have hPe := HPE.out
            rw [if_neg he] at hPe
            subst hPe
            have hl1 : 0 < rl.length := by
              cases e : rl with
              | nil => rw [e] at he; exact absurd rfl he
              | cons _ _ => simp
            have hef : rl.isEmpty = false := by simpa using he
            have c1 : (a : Int) < T.size := by have := HLA.out; omega
            have c2 : (a : Int) + 1 ≤ T.size := by omega
            have c3 : ((a : Int) + 1).toNat = a + 1 := by omega
            have hFl : F.size ≤ 100000 := by have := HLA.out; rw [HFS.out, List.length_tail]; omega
            have NF := Lib.hid (rnumber_any F (by omega) wc)
            rw [HFD.out] at NF
            have HEF := Lib.hid hef
            clear he hef
            cases hD : digitsB rl.tail
            · rw [hD] at NF
              have hbad := Lib.hid (show fracB rl.tail = false by unfold fracB; rw [hD]; rfl)
              clear hD
              go_wp2_with fail
              refine NF.out.mono ?_
              rintro e w2 ⟨rfl, rfl⟩
              go_wp2_with fail
              go_ret2
              exact givesS_of (p := (0, 3)) (by rw [← HRES.out]; unfold restP; rw [HWL.out, HRL.out]; exact body_bad3 HEF.out hbad.out)
            · rw [hD] at NF
              have hFp : 0 < F.size := digits_pos (by rw [HFD.out]; exact hD)
              have HDD := Lib.hid hD
              clear hD
              by_cases h8 : 8 < F.size
              · have c4 : (8 : Int) < F.size := by omega
                have hbad := Lib.hid (show fracB rl.tail = false by unfold fracB; rw [decide_eq_false (by have := HFS.out; omega), Bool.and_false, Bool.false_and])
                clear h8
                go_wp2_with fail
                refine NF.out.mono ?_
                rintro e w2 ⟨rfl, rfl⟩
                go_wp2_with fail
                go_ret2
                exact givesS_of (p := (0, 3)) (by rw [← HRES.out]; unfold restP; rw [HWL.out, HRL.out]; exact body_bad3 HEF.out hbad.out)
              · have c4 : ¬ (8 : Int) < F.size := by omega
                have c5 : (1 : Int) ≤ F.size := by omega
                have c6 : ((F.size : Int) - 1).toNat = F.size - 1 := by omega
                have hlast := last_byte F (F.size - 1) (by omega) (by omega)
                rw [HFD.out] at hlast
                have hfb : fracB rl.tail = ((F[F.size - 1].toNat : Int) != 48) := by
                  unfold fracB
                  rw [HDD.out, decide_eq_true (by have := HFS.out; omega), hlast, byte_ne]
                  rfl
                by_cases h48 : ((F[F.size - 1].toNat : Int) == 48) = true
                · have hbad := Lib.hid (show fracB rl.tail = false by rw [hfb]; unfold bne; rw [h48]; rfl)
                  clear hlast hfb
                  go_wp2_with fail
                  refine NF.out.mono ?_
                  rintro e w2 ⟨rfl, rfl⟩
                  go_wp2_with fail
                  go_ret2
                  exact givesS_of (p := (0, 3)) (by rw [← HRES.out]; unfold restP; rw [HWL.out, HRL.out]; exact body_bad3 HEF.out hbad.out)
                · have h48' : ((F[F.size - 1].toNat : Int) == 48) = false := by simpa using h48
                  have HOK := Lib.hid (show rl.isEmpty = true ∨ fracB rl.tail = true from .inr (by rw [hfb]; unfold bne; rw [h48']; rfl))
                  clear hlast hfb h48
                  go_wp2_with fail
                  refine NF.out.mono ?_
                  rintro e w2 ⟨rfl, rfl⟩
                  go_wp2_with fail
                  go_meet
                  exact ⟨rfl, rfl, HOK⟩
        case rest =>
          obtain ⟨rfl, rfl, HOK⟩ := hcut
          clear hx1 hx2 ca
          have NW := Lib.hid (rnumber_any W (by have := HLA.out; have := HWS.out; omega) wc)
          have hWl : W.size ≤ 100000 := by have := HLA.out; have := HWS.out; omega
          rw [HWD.out] at NW
          obtain ⟨one, hone⟩ : ∃ b, (tl == [48]) = b := ⟨_, rfl⟩
          have HONE := Lib.hid hone
          obtain ⟨bad, hbad⟩ : ∃ b, (!(wholeB wl && !(neg && one))) = b := ⟨_, rfl⟩
          have HBAD := Lib.hid hbad
          clear hone hbad
          go_upto_region 12 with (fail)
          go_cut [80] (fun s80 wx => s80 = .bool bad ∧ wx = wc)
          case first =>
            cases hD : digitsB wl
            · rw [hD] at NW
              have hbt : bad = true := by rw [← HBAD.out]; unfold wholeB; rw [hD]; rfl
              subst hbt
              clear hD
              go_wp2_with fail
              refine NW.out.mono ?_
              rintro e w2 ⟨rfl, rfl⟩
              go_wp2_with fail
              go_meet
              exact ⟨rfl, rfl⟩
            · rw [hD] at NW
              have hWp : 0 < W.size := digits_pos (by rw [HWD.out]; exact hD)
              have hwe := whole_eq hD
              have hhd := head_byte W hWp
              rw [HWD.out] at hhd
              rw [hhd, HA.out] at hwe
              clear hD hhd
              have hc48 : ((W[0].toNat : Int) == 48) = (some W[0] == some (48 : UInt8)) := by
                have h1 := byte_ne W[0]
                unfold bne at h1
                exact (Bool.not_inj h1).symm
              rw [← hc48] at hwe
              clear hc48
              have hTL : T.toList = tl := by rw [toList_data, HT.out]
              have HTL2 := Lib.hid hTL
              clear hTL
              by_cases hbw : 1 < a ∧ ((W[0].toNat : Int) == 48) = true
              · obtain ⟨h1, h2⟩ := hbw
                have hbt : bad = true := by rw [← HBAD.out, hwe, decide_eq_true h1, h2]; rfl
                subst hbt
                have c1 : (1 : Int) < W.size := by have := HWS.out; omega
                have c1b : decide ((1 : Int) < (W.size : Int)) = true := decide_eq_true c1
                clear hwe
                go_wp2_with fail
                refine NW.out.mono ?_
                rintro e w2 ⟨rfl, rfl⟩
                go_wp2_with fail
                go_meet
                exact ⟨rfl, rfl⟩
              · have hgood : wholeB wl = true := by
                  rw [hwe]
                  by_cases h1 : 1 < a
                  · have h2 : ((W[0].toNat : Int) == 48) = false := by
                      cases e : ((W[0].toNat : Int) == 48)
                      · rfl
                      · exact absurd ⟨h1, e⟩ hbw
                    rw [h2, Bool.and_false]; rfl
                  · rw [decide_eq_false h1]; rfl
                have HG := Lib.hid hgood
                have hways : (¬ (1 : Int) < W.size ∧ decide ((1 : Int) < (W.size : Int)) = false) ∨ ((1 : Int) < W.size ∧ decide ((1 : Int) < (W.size : Int)) = true ∧ ((W[0].toNat : Int) == 48) = false) := by
                  by_cases h1 : 1 < a
                  · right
                    refine ⟨by have := HWS.out; omega, decide_eq_true (by have := HWS.out; omega), ?_⟩
                    cases e : ((W[0].toNat : Int) == 48)
                    · rfl
                    · exact absurd ⟨h1, e⟩ hbw
                  · exact .inl ⟨by have := HWS.out; omega, decide_eq_false (by have := HWS.out; omega)⟩
                clear hbw hgood hwe
                cases neg
                · have hbf : bad = false := by rw [← HBAD.out, HG.out]; rfl
                  subst hbf
                  rcases hways with ⟨h1, h1b⟩ | ⟨h1, h1b, h2⟩
                  · go_wp2_with fail
                    refine NW.out.mono ?_
                    rintro e w2 ⟨rfl, rfl⟩
                    go_wp2_with fail
                    go_meet
                    exact ⟨rfl, rfl⟩
                  · go_wp2_with fail
                    refine NW.out.mono ?_
                    rintro e w2 ⟨rfl, rfl⟩
                    go_wp2_with fail
                    go_meet
                    exact ⟨rfl, rfl⟩
                · by_cases h0 : T.toList = [48]
                  · have hbt : bad = true := by rw [← HBAD.out, HG.out, ← HONE.out, ← HTL2.out, h0]; rfl
                    subst hbt
                    rcases hways with ⟨h1, h1b⟩ | ⟨h1, h1b, h2⟩
                    · go_wp2_with fail
                      refine NW.out.mono ?_
                      rintro e w2 ⟨rfl, rfl⟩
                      go_wp2_with fail
                      go_meet
                      exact ⟨rfl, rfl⟩
                    · go_wp2_with fail
                      refine NW.out.mono ?_
                      rintro e w2 ⟨rfl, rfl⟩
                      go_wp2_with fail
                      go_meet
                      exact ⟨rfl, rfl⟩
                  · have h0b : (T.toList == [48]) = false := by simpa using h0
                    have hbf : bad = false := by rw [← HBAD.out, HG.out, ← HONE.out, ← HTL2.out, h0b]; rfl
                    subst hbf
                    rcases hways with ⟨h1, h1b⟩ | ⟨h1, h1b, h2⟩
                    · go_wp2_with fail
                      refine NW.out.mono ?_
                      rintro e w2 ⟨rfl, rfl⟩
                      go_wp2_with fail
                      go_meet
                      exact ⟨rfl, rfl⟩
                    · go_wp2_with fail
                      refine NW.out.mono ?_
                      rintro e w2 ⟨rfl, rfl⟩
                      go_wp2_with fail
                      go_meet
                      exact ⟨rfl, rfl⟩
          case rest =>
            obtain ⟨rfl, rfl⟩ := hcut
            have hbad := HBAD.out
            cases bad
            rotate_left 1
            · have hres : ((0, 3) : Int × Int) = res := by
                rw [← HRES.out]
                unfold restP
                rw [HWL.out, HRL.out, HONE.out]
                cases e1 : wholeB wl
                · exact body_bad2 e1
                · rw [e1, Bool.true_and, Bool.not_not] at hbad
                  exact body_bad1 hbad
              have HR := Lib.hid hres
              clear hbad hres
              go_wp2_with fail
              go_ret2
              exact givesS_of (p := (0, 3)) HR.out
            have HGG := Lib.hid (show wholeB wl = true ∧ (neg && one) = false by
              cases e1 : wholeB wl
              · rw [e1] at hbad; cases hbad
              · rw [e1, Bool.true_and, Bool.not_not] at hbad
                exact ⟨rfl, hbad⟩)
            clear hbad
            clear NW
            have hfin := HRES.out
            unfold restP at hfin
            rw [HWL.out, HRL.out, HONE.out, body_good HGG.out.2 HGG.out.1 HOK.out] at hfin
            obtain ⟨t1, t2⟩ := tail_ok HOK.out
            obtain ⟨p1, p2⟩ := pad_facts t1 t2
            have hp8 := pad_lt t1 t2
            obtain ⟨pd, hpd⟩ : ∃ l, padL rl.tail = l := ⟨_, rfl⟩
            have HPD := Lib.hid (show ∀ i, i < 8 → ∃ c : UInt8, pd[i]? = some c ∧ isDig c = true ∧ (∀ h : i < P.size, P[i] = c) ∧ (¬ i < P.size → c = 48) from fun i hi => by
              have h1 := pad_at rl.tail t2 i hi
              have h2 : i < (padL rl.tail).length := by rw [p2]; exact hi
              rw [hpd] at h1 h2
              have h3 : pd[i]? = some pd[i] := List.getElem?_eq_getElem h2
              refine ⟨pd[i], h3, List.all_eq_true.1 (by rw [← hpd]; exact p1) _ (List.getElem_mem h2), fun h => ?_, fun h => ?_⟩
              · have hb := byte_at P i h
                by_cases he : rl.isEmpty = true
                · have hP := HPE.out
                  rw [if_pos he] at hP
                  have hr0 : rl = [] := by simpa using he
                  rw [hr0] at h1
                  simp only [List.tail_nil, List.length_nil, Nat.not_lt_zero, if_false] at h1
                  rw [h3] at h1
                  subst hP
                  have hi0 : i = 0 := by
                    have : (⟨#[48]⟩ : ByteArray).size = 1 := rfl
                    omega
                  subst hi0
                  rw [Option.some.inj h1]; rfl
                · have hP := HPE.out
                  rw [if_neg he] at hP
                  have hFs := HFS.out
                  rw [hP] at hFs
                  have hPd := HFD.out
                  rw [hP] at hPd
                  rw [hPd] at hb
                  rw [if_pos (by omega), hb, h3] at h1
                  exact (Option.some.inj h1).symm
              · by_cases he : rl.isEmpty = true
                · have hr0 : rl = [] := by simpa using he
                  rw [hr0] at h1
                  simp only [List.tail_nil, List.length_nil, Nat.not_lt_zero, if_false] at h1
                  rw [h3] at h1
                  exact Option.some.inj h1
                · have hP := HPE.out
                  rw [if_neg he] at hP
                  have hFs := HFS.out
                  rw [hP] at hFs
                  rw [if_neg (by omega), h3] at h1
                  exact Option.some.inj h1)
            rw [hpd] at hfin hp8 p1 p2
            have HP1 := Lib.hid p1
            have HP2 := Lib.hid p2
            obtain ⟨X, hX⟩ : ∃ X, numN pd = X := ⟨_, rfl⟩
            rw [hX] at hfin hp8
            have HX := Lib.hid hX
            have HFIN := Lib.hid hfin
            have hPs : P.size ≤ 8 := by
              by_cases he : rl.isEmpty = true
              · have hP := HPE.out
                rw [if_pos he] at hP
                subst hP
                decide
              · have hP := HPE.out
                rw [if_neg he] at hP
                have hFs := HFS.out
                rw [hP] at hFs
                omega
            clear hfin t1 t2 p1 p2 hpd hX
            go_upto_block 2 with (fail)
            go_cut [8] (fun s8 wx => s8 = .int .u64 (X : Int) ∧ wx = wc)
            case first =>
              go_wp2_with fail
              go_loop [8, 9] (fun s8 s9 => ∃ i x : Nat, i ≤ 8 ∧ s9 = .int .i64 (i : Int) ∧ s8 = .int .u64 (x : Int) ∧ x < 100000000 ∧ Hid (numN (pd.take i) = x)) (fun _ s9 => left8 s9)
              case atStart => exact ⟨0, 0, by omega, rfl, rfl, by omega, Lib.hid rfl⟩
              case round =>
                obtain ⟨i, x, hi, rfl, rfl, hx, H⟩ := hrel
                by_cases hlt : i < 8
                · obtain ⟨c, hc1, hc2, hc3, hc4⟩ := HPD.out i hlt
                  have hnt := num_take pd i c hc1
                  rw [H.out] at hnt
                  have hdg := dig_iff.1 hc2
                  have hlt8 : numN (pd.take (i + 1)) < 100000000 := by
                    have h1 := numN_lt (pd.take (i + 1)) (List.all_eq_true.2 fun a ha => List.all_eq_true.1 HP1.out a (List.mem_of_mem_take ha))
                    have h2 : (10 : Nat) ^ (pd.take (i + 1)).length ≤ 10 ^ 8 := Nat.pow_le_pow_right (by decide) (by rw [List.length_take, HP2.out]; omega)
                    have h3 : (10 : Nat) ^ 8 = 100000000 := by decide
                    omega
                  obtain ⟨x', hx'⟩ : ∃ x', numN (pd.take (i + 1)) = x' := ⟨_, rfl⟩
                  rw [hx'] at hnt hlt8
                  have HX' := Lib.hid hx'
                  have ci : (i : Int) < 8 := by omega
                  clear hx' hc1 hc2
                  by_cases hp : i < P.size
                  · have hcc := hc3 hp
                    have d1 : (48 : Int) ≤ P[i].toNat := by rw [hcc]; omega
                    have d2 : (P[i].toNat : Int) ≤ 57 := by rw [hcc]; omega
                    have d3 : (x : Int) * 10 + ((P[i].toNat : Int) - 48) = (x' : Int) := by rw [hcc]; omega
                    have d4 : (i : Int) < P.size := by omega
                    clear hcc hc3 hc4 hnt hdg
                    go_wp2_with fail
                    exact ⟨⟨i + 1, x', by omega, rfl, rfl, hlt8, HX'⟩, left8_lt hlt rfl⟩
                  · have hcc := hc4 hp
                    subst hcc
                    have d3 : (x : Int) * 10 = (x' : Int) := by
                      have : (48 : UInt8).toNat = 48 := rfl
                      omega
                    have d4 : ¬ (i : Int) < P.size := by omega
                    clear hc3 hc4 hnt hdg
                    go_wp2_with fail
                    exact ⟨⟨i + 1, x', by omega, rfl, rfl, hlt8, HX'⟩, left8_lt hlt rfl⟩
                · obtain rfl : i = 8 := by omega
                  have ci : ¬ ((8 : Nat) : Int) < 8 := by omega
                  have hxx : x = X := by
                    rw [← H.out, ← HX.out, List.take_of_length_le (by rw [HP2.out]; exact Nat.le_refl _)]
                  subst hxx
                  go_wp2_with fail
                  go_meet
                  exact ⟨rfl, rfl⟩
            case rest =>
              obtain ⟨rfl, rfl⟩ := hcut
              clear HPD HP1 HP2 HX
              by_cases hm : X % 390625 = 0
              · have hfin := HFIN.out
                rw [if_pos hm] at hfin
                have c1 : ((X : Int) % 390625 != 0) = false := by rw [bne_eq_false_iff_eq]; omega
                have HD := Lib.hid (whole_digits HGG.out.1)
                have c2 : (X : Int) / 390625 = ((X / 390625 : Nat) : Int) := by omega
                have hk : X / 390625 < 256 := by omega
                obtain ⟨k, hke⟩ : ∃ k, X / 390625 = k := ⟨_, rfl⟩
                rw [hke] at c2 hk hfin
                obtain ⟨N, hN⟩ : ∃ N, numN wl = N := ⟨_, rfl⟩
                rw [hN] at hfin
                have hfin2 : fitP neg (min N 1099511627776 * 256 + k) = res := by
                  rw [← hfin]
                  by_cases hb : N ≤ 1099511627776
                  · rw [Nat.min_eq_left hb]
                  · rw [Nat.min_eq_right (by omega), fit_far _ (by omega), fit_far _ (by omega)]
                obtain ⟨M, hM⟩ : ∃ M, min N 1099511627776 = M := ⟨_, rfl⟩
                have hMl : M ≤ 1099511627776 := by omega
                rw [hM] at hfin2
                have HNM := Lib.hid (show min (numN wl) 1099511627776 = M by rw [hN]; exact hM)
                have FT := Lib.hid (fit_any neg (M * 256 + k) (by omega) wc)
                rw [hfin2] at FT
                have FT2 : Hid (Calls Tryd.prog 42 #[.bool neg, .int .u64 ((M : Int) * 256 + (k : Int))] wc (GivesS res wc)) := Lib.hid (by rw [show (M : Int) * 256 + (k : Int) = ((M * 256 + k : Nat) : Int) by omega]; exact FT.out)
                clear hm hfin hke hN hM hfin2 FT
                go_upto_block 4 with (fail)
                go_cut [10] (fun s10 wx => s10 = .int .u64 (M : Int) ∧ wx = wc)
                case first =>
                  go_wp2_with fail
                  go_loop [10, 11] (fun s10 s11 => ∃ i m : Nat, i ≤ W.size ∧ s11 = .int .i64 (i : Int) ∧ s10 = .int .u64 (m : Int) ∧ m ≤ 1099511627776 ∧ Hid (min (numN (wl.take i)) 1099511627776 = m)) (fun _ s11 => W.size - (intOf s11).toNat)
                  case atStart => exact ⟨0, 0, by omega, rfl, rfl, by omega, Lib.hid rfl⟩
                  case round =>
                    obtain ⟨i, m, hi, rfl, rfl, hm, H⟩ := hrel
                    by_cases hlt : i < W.size
                    · have hb := byte_at W i hlt
                      rw [HWD.out] at hb
                      have hnt := num_take wl i _ hb
                      obtain ⟨b1, b2⟩ := byte_dig (s := W) (by rw [HWD.out]; exact HD.out) i hlt
                      obtain ⟨m', hm'⟩ : ∃ m', min (m * 10 + (W[i].toNat - 48)) 1099511627776 = m' := ⟨_, rfl⟩
                      have hmn : min (numN (wl.take (i + 1))) 1099511627776 = m' := by
                        have h1 := H.out
                        rw [hnt]
                        omega
                      have HM := Lib.hid hmn
                      have e1 : min ((m : Int) * 10 + ((W[i].toNat : Int) - 48)) 1099511627776 = (m' : Int) := by omega
                      have hm2 : m' ≤ 1099511627776 := by omega
                      have d1 : (48 : Int) ≤ W[i].toNat := by omega
                      have d2 : (W[i].toNat : Int) ≤ 57 := by omega
                      have d4 : (i : Int) < W.size := by omega
                      clear hb hnt hm' hmn b1 b2
                      go_wp2_with fail
                      refine ⟨⟨i + 1, m', by omega, rfl, rfl, hm2, HM⟩, ?_⟩
                      simp only [intOf]
                      omega
                    · obtain rfl : i = W.size := by omega
                      have hlt' : ¬ (W.size : Int) < W.size := by omega
                      have hmr : m = M := by
                        rw [← H.out, ← HNM.out, List.take_of_length_le (by have := HWS.out; have := HA.out; omega)]
                      subst hmr
                      go_wp2_with fail
                      go_meet
                      exact ⟨rfl, rfl⟩
                case rest =>
                  obtain ⟨rfl, rfl⟩ := hcut
                  go_wp2_with fail
                  refine FT2.out.mono ?_
                  rintro e w2 ⟨rfl, rfl⟩
                  go_wp2_with fail
                  go_ret2
                  exact ⟨rfl, rfl⟩
              · have hfin := HFIN.out
                rw [if_neg hm] at hfin
                have c1 : ((X : Int) % 390625 != 0) = true := by rw [bne_iff_ne]; omega
                have HF3 := Lib.hid hfin
                clear hm hfin
                go_wp2_with fail
                go_ret2
                exact givesS_of (p := (0, 3)) HF3.out

end Go.Proofs.YtnlkcdbeoeaalaaDoor
