/-
  QuotaPlays, over the contracts of the package's functions.
-/
import Derived.Test.YtkehdaahlfkiiaaLin
namespace Go.Proofs.Ytkehdaahlfkiiaa
open Go.RowKit

/-- the reference's two rows -/
def refO (base : Nat) (vl vc : Value) (q : Qs) : Ob := ⟨fun W => OwnI W base vl q.ls ∧ OwnI W base vc q.cs, fun k => vl.ownBlock = some k ∨ vc.ownBlock = some k⟩
theorem ownI_keep {W W' : World} {base : Nat} {v : Value} {L : List Int} (h : OwnI W base v L) (hk : ∀ k, v.ownBlock = some k → W'.heap[k]? = W.heap[k]?) : OwnI W' base v L := by
  refine ⟨h.1, ?_⟩
  rcases h.2 with h2 | ⟨g, cap, cur, hv, hg, hc, r⟩
  · exact .inl h2
  · exact .inr ⟨g, cap, cur, hv, hg, (hk g (by rw [hv]; rfl)).trans hc, r⟩
theorem refO_keeps (base : Nat) (vl vc : Value) (q : Qs) : (refO base vl vc q).Keeps := fun _ _ _ hb hp =>
  ⟨ownI_keep hp.1 (fun k hk => hb k (.inl hk)), ownI_keep hp.2 (fun k hk => hb k (.inr hk))⟩
theorem ref_next {base : Nat} {vl vc u : Value} {q q2 : Qs} {W W' : World} (h : (refO base vl vc q).P W) (hb : Below W.heap.size W W') (ho : (u = vc ∧ q2.cs = q.cs) ∨ OwnI W' W.heap.size u q2.cs) (hl : q2.ls = q.ls) (hz : base ≤ W.heap.size) : (refO base vl u q2).P W' := by
  refine ⟨by rw [hl]; exact h.1.below hb, ?_⟩
  rcases ho with ⟨rfl, e⟩ | ho
  · rw [e]
    exact h.2.below hb
  · exact ownI_mono ho hz
theorem ref_sub {base : Nat} {vl vc u : Value} {q q2 : Qs} {W W' : World} (ho : (u = vc ∧ q2.cs = q.cs) ∨ OwnI W' W.heap.size u q2.cs) : ∀ k, (refO base vl u q2).S k → (refO base vl vc q).S k ∨ W.heap.size ≤ k := by
  intro k hk
  rcases hk with hk | hk
  · exact .inl (.inl hk)
  · rcases ho with ⟨e, -⟩ | ho
    · exact .inl (.inr (e ▸ hk))
    · exact .inr (World.ownsRow.lt ho k hk).1
theorem ref_lt {base : Nat} {vl vc u : Value} {q q2 : Qs} {W W' : World} (h : (refO base vl vc q).P W) (hb : Below W.heap.size W W') (ho : (u = vc ∧ q2.cs = q.cs) ∨ OwnI W' W.heap.size u q2.cs) : ∀ k, (refO base vl u q2).S k → k < W'.heap.size := by
  intro k hk
  rcases hk with hk | hk
  · exact Nat.lt_of_lt_of_le (World.ownsRow.lt h.1 k hk).2 hb.size
  · rcases ho with ⟨e, -⟩ | ho
    · subst e
      exact Nat.lt_of_lt_of_le (World.ownsRow.lt h.2 k hk).2 hb.size
    · exact (World.ownsRow.lt ho k hk).2
section
variable {T : World → Prop} {R : World → World → Value → Qs → (Nat → Prop) → Prop} {RB : World → World → Value → Bk → (Nat → Prop) → Prop}
theorem pl_sk {w W : World} {l : List Ob} {k8 k6 : Nat} {x0 x1 x2 y0 y1 y2 : Value} (h : HO w W (boxO k8 [x0, x1, x2] :: boxO k6 [y0, y1, y2] :: l)) :
    (W.cell? ⟨k8, 0, none⟩ = some x0 ∧ W.cell? ⟨k8, 1, none⟩ = some x1 ∧ W.cell? ⟨k8, 2, none⟩ = some x2) ∧ (W.cell? ⟨k6, 0, none⟩ = some y0 ∧ W.cell? ⟨k6, 1, none⟩ = some y1 ∧ W.cell? ⟨k6, 2, none⟩ = some y2) := by
  obtain ⟨a0, a1, a2, -, -⟩ := (show HO w W ([] ++ boxO k8 _ :: _) from h).c3
  obtain ⟨b0, b1, b2, -, -⟩ := (show HO w W ([_] ++ boxO k6 _ :: _) from h).c3
  exact ⟨⟨a0, a1, a2⟩, b0, b1, b2⟩
set_option maxRecDepth 100000 in
set_option maxHeartbeats 16000000 in
theorem plays_walk (K : PQ T R) (KB : PB T RB) {w : World} (hT : T w) {vL : Value} {L : List Int} (hL : Is w vL L) (hLi : ∀ x ∈ L, I64 x) {v : Value} {l : List Tr} (hl : Trs w v l) : Calls Try.prog 3 #[vL, v] w (SaysB true w) := by
  have HT := Lib.hid hT
  have EX := fun (W : World) (hb : Below w.heap.size w W) => Lib.hid (ex_any K KB (K.below HT.out hb))
  have J := Lib.hid (HO.nil w)
  have HA := Lib.hid hl
  have HL := Lib.hid hL
  have HLi := Lib.hid hLi
  obtain ⟨A, cap, rfl, hcap, hm⟩ := hl.shape
  obtain ⟨AL, capL, rfl, hcapL, hmL⟩ := hL.shape
  simp only [maxLen] at hm hmL
  obtain ⟨n, hn⟩ : ∃ n, l.length = n := ⟨_, rfl⟩
  have HN := Lib.hid hn
  rw [hn] at hcap HA ⊢
  obtain ⟨p, hp⟩ : ∃ p, L.length = p := ⟨_, rfl⟩
  have HP := Lib.hid hp
  rw [hp] at hcapL HL ⊢
  clear hT hl hn hL hp hLi
  by_cases h0 : 100 < p
  · have q1 : (100 : Int) < p := by omega
    go_enter Try.func3, Try.ntmps3
    go_wp2_with fail
    refine (EX _ J.out.below).out.mono ?_
    rintro e wq2 ⟨rfl, hb⟩
    replace J := Lib.hid (J.out.step hb)
    clear hb
    go_wp2_with fail
    go_ret
    exact ⟨rfl, J.out.below⟩
  have q1 : ¬ (100 : Int) < p := by omega
  by_cases h1 : 300 < n
  · have q2 : (300 : Int) < n := by omega
    go_enter Try.func3, Try.ntmps3
    go_wp2_with fail
    refine (EX _ J.out.below).out.mono ?_
    rintro e wq2 ⟨rfl, hb⟩
    replace J := Lib.hid (J.out.step hb)
    clear hb
    go_wp2_with fail
    go_ret
    exact ⟨rfl, J.out.below⟩
  have q2 : ¬ (300 : Int) < n := by omega
  have RN := fun (W : World) (hb : Below w.heap.size w W) => Lib.hid (rnew_any (HL.out.below hb) (by have := HP.out; omega))
  obtain ⟨q, hq⟩ : ∃ q, newQ L = q := ⟨_, rfl⟩
  have HQ := Lib.hid hq
  have qok := Lib.hid (by have := newQ_ok HLi.out; rw [hq] at this; exact this)
  have hlp : q.ls.length = p := by rw [← hq]; simp [newQ, HP.out]
  have hcp : q.cs.length = p := qok.out.len.trans hlp
  have HE0 := Lib.hid hlp
  have HC0 := Lib.hid hcp
  clear hq hlp hcp
  go_enter Try.func3, Try.ntmps3
  go_wp2_with fail
  refine (K.new (K.below HT.out J.out.below) J.out.below (HL.out.below J.out.below) (by have := HP.out; omega) HLi.out).mono ?_
  rintro e w1 ⟨rv, Sq, rfl, hr, hs, hb⟩
  rw [HQ.out] at hr
  replace J := Lib.hid (J.out.newQ K hr hs hb)
  obtain ⟨pa, rfl⟩ := K.some hr
  clear hr hs hb
  go_wp2_with fail
  refine (RN _ J.out.below).out.mono ?_
  rintro e w2 ⟨vl, vc, rfl, r1, r2, r3, hb⟩
  rw [HQ.out] at r1 r2
  obtain ⟨Al, cl, rfl, -, -⟩ := r1.is.shape
  obtain ⟨Ac, cc, rfl, -, -⟩ := r2.is.shape
  rw [HE0.out] at r1 r3 ⊢
  rw [HC0.out] at r2 r3 ⊢
  replace J := Lib.hid ((J.out.new hb (refO w.heap.size (.slice Al p cl) (.slice Ac p cc) q) ⟨ownI_mono r1 J.out.below.size, ownI_mono r2 J.out.below.size⟩ (refO_keeps _ _ _ _) (fun k hk => hk.elim (fun h => World.ownsRow.lt r1 k h) (fun h => World.ownsRow.lt r2 k h))).alloc [.bool true, (.slice Al p cl), (.slice Ac p cc)] 28)
  clear hb r1 r2 r3 RN HQ
  go_wp2_with fail
  generalize w2.heap.size = k6 at *
  go_loopw [7] (fun s7 wr => ∃ (i : Nat) (q : Qs) (Al : Option Addr) (cl : Nat) (Ac : Option Addr) (cc : Nat) (Sq : Nat → Prop), i ≤ n ∧ s7 = .int .i64 (i : Int) ∧ Hid (QOk q) ∧ Hid (q.ls.length = p) ∧ Hid (q.cs.length = p) ∧ Hid (HO w wr [boxO k6 [.bool true, (.slice Al p cl), (.slice Ac p cc)], refO w.heap.size (.slice Al p cl) (.slice Ac p cc) q, objO R w (.pointer (some pa)) q Sq])) (fun s7 _ => leftN n s7)
  case atStart => exact ⟨0, _, _, _, _, _, _, Nat.zero_le _, rfl, qok, HE0, HC0, J⟩
  case round =>
    clear J qok HE0 HC0
    obtain ⟨i, q, Al, cl, Ac, cc, Sq, hi, rfl, qok, HE, HC, J⟩ := hrel
    by_cases hlt : i < n
    · have q0 : (0 : Int) ≤ i := by omega
      have q3 : (i : Int) < n := by omega
      obtain ⟨x, hx⟩ : ∃ x, l[i]? = some x := ⟨_, List.getElem?_eq_getElem (by rw [HN.out]; exact hlt)⟩
      obtain ⟨ia, ib, bb, off, rfl, TR⟩ := trs_at HA.out hx
      obtain ⟨a, b, c⟩ := x
      dsimp only at ia ib
      obtain ⟨c0, c1, c2⟩ := TR _ J.out.below
      clear hx
      have hp9 : Hid (q.ls.length ≤ 100000) := Lib.hid (by have := HE.out; omega)
      obtain ⟨⟨qu, eu⟩, hu⟩ : ∃ z, useQ q a b = z := ⟨_, rfl⟩
      have HU := Lib.hid hu
      have HPU : Hid (qu.cs.length = p) := Lib.hid (by have h1 := (useQ_ok qok.out a b).len; have h2 := useQ_ls q a b; rw [hu] at h1 h2; exact h1.trans (by rw [h2]; exact HE.out))
      replace J := Lib.hid (J.out.alloc [.int .i64 a, .int .i64 b, .bool c] 31)
      go_upto_region 10 with fail
      generalize wr.alloc (.cells #[.int .i64 a, .int .i64 b, .bool c] 31) = w0 at *
      generalize wr.heap.size = k8 at *
      clear c0 c1 c2 TR
      obtain ⟨x0, x1, x2, xf, xl⟩ := (show HO w w0 ([] ++ boxO k8 _ :: _) from J.out).c3
      obtain ⟨y0, y1, y2, yf, yl⟩ := (show HO w w0 ([_] ++ boxO k6 _ :: _) from J.out).c3
      cases c with
      | false =>
        have HX : Hid (opQ q ⟨a, b, false⟩ = (qu, eu)) := Lib.hid hu
        have HLS : Hid (qu.ls = q.ls) := Lib.hid (by have := useQ_ls q a b; rw [hu] at this; exact this)
        have qok2 : Hid (QOk qu) := Lib.hid (by have := useQ_ok qok.out a b; rw [hu] at this; exact this)
        have HLP2 : Hid (qu.ls.length = p) := Lib.hid (by rw [HLS.out]; exact HE.out)
        have HCP2 : Hid (qu.cs.length = p) := HPU
        clear hu
        go_wp2_with fail
        have rl := (show HO w _ ([_, _] ++ refO w.heap.size (.slice Al p cl) (.slice Ac p cc) q :: _) from J.out).at
        refine (ruse_any rl.1.is rl.2.is qok.out hp9.out a b).mono ?_
        rintro e w1 ⟨u, he, hu, ho, hb⟩
        rw [HU.out] at he hu ho
        dsimp only at he hu ho
        obtain ⟨Au, cu, rfl, -, -⟩ := hu.shape
        rw [HPU.out] at he hu ho
        subst he
        replace J := Lib.hid ((show HO w _ ([_, _] ++ refO w.heap.size (.slice Al p cl) (.slice Ac p cc) q :: _) from J.out).turn (turns_below hb) (refO w.heap.size (.slice Al p cl) (.slice Au p cu) qu) (ref_next rl hb ho HLS.out J.out.below.size) (refO_keeps _ _ _ _) (ref_sub ho) (ref_lt rl hb ho))
        replace J := Lib.hid (J.out.alloc [.bool true, (.slice Al p cl), (.slice Au p cu)] 28)
        clear rl hb hu ho x0 x1 x2 xf xl y0 y1 y2 yf yl
        obtain ⟨x0, x1, x2, xf, xl⟩ := (show HO w _ ([_] ++ boxO k8 _ :: _) from J.out).c3
        obtain ⟨z0, z1, z2, zf, zl⟩ := (show HO w _ ([] ++ boxO w1.heap.size _ :: _) from J.out).c3
        go_upto_region 13 with fail
        generalize w1.alloc (.cells #[.bool true, (.slice Al p cl), (.slice Au p cu)] 28) = w2 at *
        generalize w1.heap.size = k9 at *
        clear x0 x1 x2 xf xl z0 z1 z2 zf zl
        obtain ⟨z0, z1, z2, zf, zl⟩ := (show HO w _ ([] ++ boxO k9 _ :: _) from J.out).c3
        obtain ⟨x0, x1, x2, xf, xl⟩ := (show HO w _ ([_] ++ boxO k8 _ :: _) from J.out).c3
        obtain ⟨y0, y1, y2, yf, yl⟩ := (show HO w _ ([_, _] ++ boxO k6 _ :: _) from J.out).c3
        replace J := Lib.hid ((show HO w _ ([_, _] ++ boxO k6 [.bool true, (.slice Al p cl), (.slice Ac p cc)] :: _) from J.out).set3 (.bool true) (.slice Al p cl) (.slice Au p cu))
        go_upto_region 14 with fail
        generalize ((w2.setCell ⟨k6, 0, none⟩ (.bool true)).setCell ⟨k6, 1, none⟩ (.slice Al p cl)).setCell ⟨k6, 2, none⟩ (.slice Au p cu) = w3 at *
        clear z0 z1 z2 zf zl x0 x1 x2 xf xl y0 y1 y2 yf yl
        replace J := Lib.hid J.out.tail
        replace J := Lib.hid J.out.drew
        have sk := pl_sk J.out
        obtain ⟨z, hz⟩ : ∃ z, usedQ qu a = z := ⟨_, rfl⟩
        have HZ := Lib.hid hz
        have ez : (z != z) = false := by simp
        have ee : (eu != eu) = false := by simp
        clear hz
        go_region_held3 (fun W => (W.cell? ⟨k8, 0, none⟩ = some (.int .i64 a) ∧ W.cell? ⟨k8, 1, none⟩ = some (.int .i64 b) ∧ W.cell? ⟨k8, 2, none⟩ = some (.bool false)) ∧ (W.cell? ⟨k6, 0, none⟩ = some (.bool true) ∧ W.cell? ⟨k6, 1, none⟩ = some (.slice Al p cl) ∧ W.cell? ⟨k6, 2, none⟩ = some (.slice Au p cu)))
          (first
            | exact sk
            | go_keep)
          (first
            | (go_at_call 16; have R1 : R w _ (.pointer (some pa)) q _ := (show HO w _ ([_, _, _] ++ objO R w (.pointer (some pa)) q _ :: _) from J.out).at; (with_reducible refine (do_any K (K.below HT.out J.out.below) R1 qok.out ⟨a, b, false⟩ ia ib).mono ?_); rintro e wq ⟨Squ, he, hr, hs, ht⟩; rw [HX.out] at he hr; obtain rfl := he; replace J := Lib.hid ((show HO w _ ([_, _, _] ++ objO R w (.pointer (some pa)) q _ :: _) from J.out).turnQ K (q' := qu) hr hs ht); clear hr hs ht sk R1; have sk := pl_sk J.out)
            | (go_at_call 17; have R1 : R w _ (.pointer (some pa)) qu _ := (show HO w _ ([_, _, _] ++ objO R w (.pointer (some pa)) qu _ :: _) from J.out).at; (with_reducible refine (K.used (K.below HT.out J.out.below) R1 qok2.out a ia).mono ?_); rw [HZ.out]; rintro e wq ⟨rfl, hb3⟩; replace J := Lib.hid (J.out.step hb3); clear hb3 sk R1; have sk := pl_sk J.out)
            | (go_at_call 18; have rl3 : OwnI _ w.heap.size (.slice Al p cl) qu.ls ∧ OwnI _ w.heap.size (.slice Au p cu) qu.cs := (show HO w _ ([_, _] ++ refO w.heap.size (.slice Al p cl) (.slice Au p cu) qu :: _) from J.out).at; have U3 := rused_any rl3.1.is rl3.2.is qok2.out a; rw [HZ.out] at U3; (with_reducible refine U3.mono ?_); rintro e wq ⟨rfl, hb3⟩; replace J := Lib.hid (J.out.step hb3); clear hb3 sk rl3 U3; have sk := pl_sk J.out)
            | fail)
        go_wp2_with fail
        go_roundw
        case rel => exact ⟨i + 1, qu, Al, cl, Au, cu, _, by omega, by go_num, qok2, HLP2, HCP2, Lib.hid J.out.tail⟩
        case measure =>
          unfold leftN
          simp [intOf]
          omega
      | true =>
        obtain ⟨⟨q2, er⟩, hr2⟩ : ∃ z, relQ q a b = z := ⟨_, rfl⟩
        have HR := Lib.hid hr2
        have HX : Hid (opQ q ⟨a, b, true⟩ = (q2, er)) := Lib.hid hr2
        have HLS : Hid (q2.ls = q.ls) := Lib.hid (by have := relQ_ls q a b; rw [hr2] at this; exact this)
        have qok2 : Hid (QOk q2) := Lib.hid (by have := relQ_ok qok.out a b; rw [hr2] at this; exact this)
        have HLP2 : Hid (q2.ls.length = p) := Lib.hid (by rw [HLS.out]; exact HE.out)
        have HCP2 : Hid (q2.cs.length = p) := Lib.hid (qok2.out.len.trans HLP2.out)
        have HPR := HCP2
        clear hu hr2
        go_wp2_with fail
        have rl := (show HO w _ ([_, _] ++ refO w.heap.size (.slice Al p cl) (.slice Ac p cc) q :: _) from J.out).at
        refine (ruse_any rl.1.is rl.2.is qok.out hp9.out a b).mono ?_
        rintro e w1 ⟨u, he, hu, ho, hb⟩
        rw [HU.out] at he hu ho
        dsimp only at he hu ho
        obtain ⟨Au, cu, rfl, -, -⟩ := hu.shape
        rw [HPU.out] at he hu ho
        subst he
        replace J := Lib.hid ((J.out.step hb).alloc [.bool true, (.slice Al p cl), (.slice Au p cu)] 28)
        clear rl hb hu ho x0 x1 x2 xf xl y0 y1 y2 yf yl
        obtain ⟨x0, x1, x2, xf, xl⟩ := (show HO w _ ([_] ++ boxO k8 _ :: _) from J.out).c3
        obtain ⟨y0, y1, y2, yf, yl⟩ := (show HO w _ ([_, _] ++ boxO k6 _ :: _) from J.out).c3
        go_upto_region 12 with fail
        generalize w1.alloc (.cells #[.bool true, (.slice Al p cl), (.slice Au p cu)] 28) = w2 at *
        generalize w1.heap.size = k9 at *
        go_wp2_with fail
        have rl := (show HO w _ ([_, _, _] ++ refO w.heap.size (.slice Al p cl) (.slice Ac p cc) q :: _) from J.out).at
        refine (rrel_any rl.1.is rl.2.is qok.out hp9.out a b).mono ?_
        rintro e w4 ⟨u, he, hu, ho, hb⟩
        rw [HR.out] at he hu ho
        dsimp only at he hu ho
        obtain ⟨Av, cv, rfl, -, -⟩ := hu.shape
        rw [HPR.out] at he hu ho
        subst he
        replace J := Lib.hid ((show HO w _ ([_, _, _] ++ refO w.heap.size (.slice Al p cl) (.slice Ac p cc) q :: _) from J.out).turn (turns_below hb) (refO w.heap.size (.slice Al p cl) (.slice Av p cv) q2) (ref_next rl hb ho HLS.out J.out.below.size) (refO_keeps _ _ _ _) (ref_sub ho) (ref_lt rl hb ho))
        clear rl hb hu ho x0 x1 x2 xf xl y0 y1 y2 yf yl
        obtain ⟨z0, z1, z2, zf, zl⟩ := (show HO w w4 ([] ++ boxO k9 _ :: _) from J.out).c3
        replace J := Lib.hid ((show HO w w4 ([] ++ boxO k9 [_, _, _] :: _) from J.out).set3 (.bool true) (.slice Al p cl) (.slice Av p cv))
        go_upto_region 13 with fail
        generalize ((w4.setCell ⟨k9, 0, none⟩ (.bool true)).setCell ⟨k9, 1, none⟩ (.slice Al p cl)).setCell ⟨k9, 2, none⟩ (.slice Av p cv) = w5 at *
        clear z0 z1 z2 zf zl
        obtain ⟨z0, z1, z2, zf, zl⟩ := (show HO w _ ([] ++ boxO k9 _ :: _) from J.out).c3
        obtain ⟨x0, x1, x2, xf, xl⟩ := (show HO w _ ([_] ++ boxO k8 _ :: _) from J.out).c3
        obtain ⟨y0, y1, y2, yf, yl⟩ := (show HO w _ ([_, _] ++ boxO k6 _ :: _) from J.out).c3
        replace J := Lib.hid ((show HO w _ ([_, _] ++ boxO k6 [.bool true, (.slice Al p cl), (.slice Ac p cc)] :: _) from J.out).set3 (.bool true) (.slice Al p cl) (.slice Av p cv))
        go_upto_region 14 with fail
        generalize ((w5.setCell ⟨k6, 0, none⟩ (.bool true)).setCell ⟨k6, 1, none⟩ (.slice Al p cl)).setCell ⟨k6, 2, none⟩ (.slice Av p cv) = w3 at *
        clear z0 z1 z2 zf zl x0 x1 x2 xf xl y0 y1 y2 yf yl
        replace J := Lib.hid J.out.tail
        replace J := Lib.hid J.out.drew
        have sk := pl_sk J.out
        obtain ⟨z, hz⟩ : ∃ z, usedQ q2 a = z := ⟨_, rfl⟩
        have HZ := Lib.hid hz
        have ez : (z != z) = false := by simp
        have ee : (er != er) = false := by simp
        clear hz
        go_region_held3 (fun W => (W.cell? ⟨k8, 0, none⟩ = some (.int .i64 a) ∧ W.cell? ⟨k8, 1, none⟩ = some (.int .i64 b) ∧ W.cell? ⟨k8, 2, none⟩ = some (.bool true)) ∧ (W.cell? ⟨k6, 0, none⟩ = some (.bool true) ∧ W.cell? ⟨k6, 1, none⟩ = some (.slice Al p cl) ∧ W.cell? ⟨k6, 2, none⟩ = some (.slice Av p cv)))
          (first
            | exact sk
            | go_keep)
          (first
            | (go_at_call 16; have R1 : R w _ (.pointer (some pa)) q _ := (show HO w _ ([_, _, _] ++ objO R w (.pointer (some pa)) q _ :: _) from J.out).at; (with_reducible refine (do_any K (K.below HT.out J.out.below) R1 qok.out ⟨a, b, true⟩ ia ib).mono ?_); rintro e wq ⟨Sq2, he, hr, hs, ht⟩; rw [HX.out] at he hr; obtain rfl := he; replace J := Lib.hid ((show HO w _ ([_, _, _] ++ objO R w (.pointer (some pa)) q _ :: _) from J.out).turnQ K (q' := q2) hr hs ht); clear hr hs ht sk R1; have sk := pl_sk J.out)
            | (go_at_call 17; have R1 : R w _ (.pointer (some pa)) q2 _ := (show HO w _ ([_, _, _] ++ objO R w (.pointer (some pa)) q2 _ :: _) from J.out).at; (with_reducible refine (K.used (K.below HT.out J.out.below) R1 qok2.out a ia).mono ?_); rw [HZ.out]; rintro e wq ⟨rfl, hb3⟩; replace J := Lib.hid (J.out.step hb3); clear hb3 sk R1; have sk := pl_sk J.out)
            | (go_at_call 18; have rl3 : OwnI _ w.heap.size (.slice Al p cl) q2.ls ∧ OwnI _ w.heap.size (.slice Av p cv) q2.cs := (show HO w _ ([_, _] ++ refO w.heap.size (.slice Al p cl) (.slice Av p cv) q2 :: _) from J.out).at; have U3 := rused_any rl3.1.is rl3.2.is qok2.out a; rw [HZ.out] at U3; (with_reducible refine U3.mono ?_); rintro e wq ⟨rfl, hb3⟩; replace J := Lib.hid (J.out.step hb3); clear hb3 sk rl3 U3; have sk := pl_sk J.out)
            | fail)
        go_wp2_with fail
        go_roundw
        case rel => exact ⟨i + 1, q2, Al, cl, Av, cv, _, by omega, by go_num, qok2, HLP2, HCP2, Lib.hid J.out.tail⟩
        case measure =>
          unfold leftN
          simp [intOf]
          omega
    · obtain rfl : n = i := by omega
      go_wp2_with fail
      go_loopw [11] (fun s11 wr => ∃ (j : Int) (Sq : Nat → Prop), (-1 ≤ j ∧ j ≤ (p : Int) + 1) ∧ s11 = .int .i64 j ∧ Hid (HO w wr [boxO k6 [.bool true, (.slice Al p cl), (.slice Ac p cc)], refO w.heap.size (.slice Al p cl) (.slice Ac p cc) q, objO R w (.pointer (some pa)) q Sq])) (fun s11 _ => ((p : Int) + 1 - intOf s11).toNat)
      case atStart => exact ⟨-1, _, by omega, rfl, J⟩
      case round =>
        clear J
        obtain ⟨j, Sq, ⟨hj0, hj1⟩, rfl, J⟩ := hrel
        by_cases hle : j ≤ p
        · have ij : I64 j := ⟨by omega, by omega⟩
          obtain ⟨z, hz⟩ : ∃ z, usedQ q j = z := ⟨_, rfl⟩
          have HZ := Lib.hid hz
          have ez : (z != z) = false := by simp
          clear hz
          go_upto_region 19 with fail
          replace J := Lib.hid J.out.drew
          have sk := (show HO w _ ([] ++ boxO k6 _ :: _) from J.out).c3
          go_region_held3 (fun W => W.cell? ⟨k6, 0, none⟩ = some (.bool true) ∧ W.cell? ⟨k6, 1, none⟩ = some (.slice Al p cl) ∧ W.cell? ⟨k6, 2, none⟩ = some (.slice Ac p cc))
            (first
              | exact ⟨sk.1, sk.2.1, sk.2.2.1⟩
              | go_keep)
            (first
              | (go_at_call 17; have R1 : R w _ (.pointer (some pa)) q _ := (show HO w _ ([_, _] ++ objO R w (.pointer (some pa)) q _ :: _) from J.out).at; (with_reducible refine (K.used (K.below HT.out J.out.below) R1 qok.out j ij).mono ?_); rw [HZ.out]; rintro e wq ⟨rfl, hb3⟩; replace J := Lib.hid (J.out.step hb3); clear hb3 sk R1; have sk := (show HO w _ ([] ++ boxO k6 _ :: _) from J.out).c3)
              | (go_at_call 18; have rl3 : OwnI _ w.heap.size (.slice Al p cl) q.ls ∧ OwnI _ w.heap.size (.slice Ac p cc) q.cs := (show HO w _ ([_] ++ refO w.heap.size (.slice Al p cl) (.slice Ac p cc) q :: _) from J.out).at; have U3 := rused_any rl3.1.is rl3.2.is qok.out j; rw [HZ.out] at U3; (with_reducible refine U3.mono ?_); rintro e wq ⟨rfl, hb3⟩; replace J := Lib.hid (J.out.step hb3); clear hb3 sk rl3 U3; have sk := (show HO w _ ([] ++ boxO k6 _ :: _) from J.out).c3)
              | fail)
          go_wp2_with fail
          go_roundw
          case rel => exact ⟨j + 1, _, by omega, rfl, J⟩
          case measure =>
            simp [intOf]
            omega
        · go_wp2_with fail
          refine (EX _ J.out.below).out.mono ?_
          rintro e wq2 ⟨rfl, hb⟩
          replace J := Lib.hid (J.out.step hb)
          clear hb
          go_wp2_with fail
          go_ret
          exact ⟨rfl, J.out.below⟩
end

end Go.Proofs.Ytkehdaahlfkiiaa
