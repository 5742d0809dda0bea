/-
  The law IdentSteps.
-/
import Derived.Test.YtnefcmikeeadhaaDoorBxt
namespace Go.Proofs.YtnefcmikeeadhaaDoor
open Go.RowKit

/-- the cells that a round's regions load -/
def Lds (W : World) (b : Nat) (x0 x1 x2 x3 : Value) (bl off : Nat) (kd : Int) (n : Nat) : Prop :=
  (W.cell? ⟨b, 0, none⟩ = some x0 ∧ W.cell? ⟨b, 1, none⟩ = some x1 ∧ W.cell? ⟨b, 2, none⟩ = some x2 ∧ W.cell? ⟨b, 3, none⟩ = some x3) ∧ (W.cell? ⟨bl, off, none⟩ = some (.int .i64 kd) ∧ W.cell? ⟨bl, off + 1, none⟩ = some (.int .u32 (n : Int)))

theorem side_store {w W : World} {v : Value} {b : Nat} {x0 x1 x2 x3 y0 y1 y2 y3 : Value} {t' : Tb} {c' : Nat} (hx : BoxT W b x0 x1 x2 x3) (ho : w.heap.size ≤ b) (hb : Below w.heap.size w W) (hP : TabP w.heap.size W v t' c') (hU : Tabs W (.agg #[y0, y1, y2, y3]) t') : Side w v b y0 y1 y2 y3 t' c' (set4 W b y0 y1 y2 y3) :=
  ⟨hP.box (grown_set4 W b y0 y1 y2 y3) hx.ty (by decide) (by decide) ho, hx.set y0 y1 y2 y3, (hU.set4 hx.ty (by decide) y0 y1 y2 y3).1, ho, below_set4 hb ho⟩

set_option maxRecDepth 100000 in
set_option maxHeartbeats 4000000 in
theorem steps_walk (s : Bool) (u : Value) (l : List (Int × Nat)) (p : Nat) (hp : p < 4294967296) (w : World) (hT : Tab w) (hO : Opv w u l) : Calls Tryd.prog 3 #[.bool s, u, .int .u32 (p : Int)] w (Says true w) := by
  obtain ⟨A, cap, rfl, h1, h2, h3, h4⟩ := hO
  simp only [maxLen] at h2
  by_cases hk : 400 < l.length
  · have E := Lib.hid (example_any w hT)
    have q : (400 : Int) < l.length := by omega
    generalize l.length = k at *
    clear h3 h4
    go_enter Tryd.func3, Tryd.ntmps3
    go_wp2_with fail
    refine E.out.mono ?_
    rintro e w2 ⟨rfl, hb⟩
    go_wp2_with fail
    go_ret
    exact ⟨rfl, hb⟩
  · have q : ¬ (400 : Int) < l.length := by omega
    have C1 := Lib.hid (new_any s w hT)
    have C2 := fun W => Lib.hid (rnew_any s W)
    have HC := Lib.hid (And.intro h3 h4)
    obtain ⟨k, hkl⟩ : ∃ k, l.length = k := ⟨_, rfl⟩
    have HK := Lib.hid hkl
    rw [hkl] at q h1 hk ⊢
    clear h3 h4 hkl
    go_enter Tryd.func3, Tryd.ntmps3
    go_wp2_with fail
    refine C1.out.mono ?_
    rintro e w1 ⟨v, rfl, hP, hb⟩
    go_wp2_with fail
    refine (C2 _).out.mono ?_
    rintro e w2 ⟨u2, rfl, hU, hb2⟩
    obtain ⟨s0, g0, A1, n1, c1, A2, n2, c2, rfl⟩ := hU.shp
    have G0 : Hid (Side w v w2.heap.size (.bool s0) (.int .i64 g0) (.slice A1 n1 c1) (.slice A2 n2 c2) (newT s) 0 (w2.alloc (.cells #[.bool s0, .int .i64 g0, .slice A1 n1 c1, .slice A2 n2 c2] 29))) := by
      have hbb := (Below.refl w2.heap.size w2).alloc (Nat.le_refl _) (.cells #[.bool s0, .int .i64 g0, .slice A1 n1 c1, .slice A2 n2 c2] 29)
      have hB := Below.next hb hb2
      exact Lib.hid ⟨(hP.below hb2).below hbb, BoxT.new w2 _ _ _ _, hU.below hbb, hB.size, Below.next hB hbb⟩
    clear hP hU hb hb2 C1 C2
    go_wp2_with fail
    generalize w2.alloc (.cells #[.bool s0, .int .i64 g0, .slice A1 n1 c1, .slice A2 n2 c2] 29) = w3 at *
    generalize w2.heap.size = B at *
    go_loopw [25] (fun s25 wr => ∃ (i : Nat) (t : Tb) (s0 : Bool) (g0 : Int) (A1 : Option Addr) (n1 c1 : Nat) (A2 : Option Addr) (n2 c2 : Nat), i ≤ k ∧ s25 = .int .i64 (i : Int) ∧ Hid (Side w v B (.bool s0) (.int .i64 g0) (.slice A1 n1 c1) (.slice A2 n2 c2) t i wr)) (fun s25 _ => leftN k s25)
    case atStart => exact ⟨0, _, _, _, _, _, _, _, _, _, Nat.zero_le _, rfl, G0⟩
    case round =>
      obtain ⟨i, t, s0, g0, A1, n1, c1, A2, n2, c2, hi, rfl, G⟩ := hrel
      by_cases hlt : i < k
      · have r0 : (0 : Int) ≤ i := by omega
        have r1 : (i : Int) < k := by omega
        obtain ⟨o, ho⟩ : ∃ o, l[i]? = some o := ⟨_, List.getElem?_eq_getElem (by rw [HK.out]; exact hlt)⟩
        obtain ⟨b, off, rfl, hbb, hcs⟩ := HC.out.2 (by rw [HK.out]; omega)
        have hn := HC.out.1 o (List.mem_of_getElem? ho)
        obtain ⟨cc0, cc1⟩ := hcs i o ho
        clear hcs ho
        have d0 := (G.out.below.cell (p := ⟨b, off + i * 2, none⟩) hbb).trans cc0
        have d1 := (G.out.below.cell (p := ⟨b, off + i * 2 + 1, none⟩) hbb).trans cc1
        have hGd := G.out.tab.good
        have C := Lib.hid (do_any (kd := o.1) G.out.tab (by omega) hn)
        have CS := fun W (hU : Tabs W (.agg #[.bool s0, .int .i64 g0, .slice A1 n1 c1, .slice A2 n2 c2]) t) => Lib.hid (step_any (kd := o.1) hU hGd (by omega) hn)
        obtain ⟨kd, n⟩ := o
        simp only at cc0 cc1 d0 d1 C CS hn
        generalize (doT t kd n).2.1 = r at *
        generalize (doT t kd n).2.2 = er at *
        generalize (doT t kd n).1 = t2 at *
        have HG := G
        have HCC := Lib.hid (And.intro cc0 cc1)
        clear hGd G cc0 cc1
        go_wp2_with fail
        refine C.out.mono ?_
        rintro e w4 ⟨rfl, hP2, hT2⟩
        have HB := Lib.hid (hT2.below HG.out.below)
        have HX := Lib.hid (HG.out.box.turn hT2)
        have HU := Lib.hid (hT2.tabs HG.out.ref)
        have HP := Lib.hid hP2
        have hBo := HG.out.own
        clear d0 d1 hP2 hT2 C HG
        have SK : ∀ W, Below w4.heap.size w4 W → Lds W B (.bool s0) (.int .i64 g0) (.slice A1 n1 c1) (.slice A2 n2 c2) b (off + i * 2) kd n := fun W hb =>
          ⟨(HX.out.below hb).cells, ((Below.next HB.out hb).cell (p := ⟨b, off + i * 2, none⟩) hbb).trans HCC.out.1, ((Below.next HB.out hb).cell (p := ⟨b, off + i * 2 + 1, none⟩) hbb).trans HCC.out.2⟩
        unfold Lds at SK
        have HSK := Lib.hid SK
        have TA := Lib.hid (HU.out.below (Below.refl _ _).drew)
        have JA := Lib.hid (Held.nil w4).drew
        have TB := Lib.hid (HU.out.below (((Below.refl w4.heap.size w4).alloc (Nat.le_refl _) (.cells #[.bool false, .int .i64 0, .slice none 0 0, .slice none 0 0] 29)).drew))
        have JB := Lib.hid ((Held.nil w4).alloc [.bool false, .int .i64 0, .slice none 0 0, .slice none 0 0] 29).drew
        have sk := SK _ (Below.refl _ _).drew
        have sj := fun o => SK _ (((Below.refl w4.heap.size w4).alloc (Nat.le_refl _) o).drew)
        clear SK
        go_wp2_with fail
        go_region_held3 (fun W => (W.cell? ⟨B, 0, none⟩ = some (.bool s0) ∧ W.cell? ⟨B, 1, none⟩ = some (.int .i64 g0) ∧ W.cell? ⟨B, 2, none⟩ = some (.slice A1 n1 c1) ∧ W.cell? ⟨B, 3, none⟩ = some (.slice A2 n2 c2)) ∧ (W.cell? ⟨b, off + i * 2, none⟩ = some (.int .i64 kd) ∧ W.cell? ⟨b, off + i * 2 + 1, none⟩ = some (.int .u32 (n : Int))))
          (first
            | exact sk
            | exact sj _
            | exact sz
            | go_keep)
          (first
            | (go_at_call 12; (with_reducible refine (CS _ TA.out).out.mono ?_); rintro e w5 ⟨u5, rfl, hU5, hb5⟩; obtain ⟨s5, g5, A5, n5, c5, A6, n6, c6, rfl⟩ := hU5.shp; have J := Lib.hid (JA.out.step hb5); have U := Lib.hid hU5; clear hb5 hU5 sk sj; have sk := HSK.out _ J.out.below; have sj := fun o => HSK.out _ (J.out.made o).below)
            | (go_at_call 12; (with_reducible refine (CS _ TB.out).out.mono ?_); rintro e w5 ⟨u5, rfl, hU5, hb5⟩; obtain ⟨s5, g5, A5, n5, c5, A6, n6, c6, rfl⟩ := hU5.shp; have J := Lib.hid (JB.out.step hb5); have U := Lib.hid hU5; have Y5 := Lib.hid (((TyAt.made w4 #[.bool false, .int .i64 0, .slice none 0 0, .slice none 0 0] 29).below (Below.refl _ _).drew).below hb5); clear hb5 hU5 sk sj; have sk := HSK.out _ J.out.below; obtain ⟨y0, y1, y2, y3, yf, yt⟩ := J.out.four (l1 := []); have sz := HSK.out _ (J.out.set4 (l1 := []) (.bool s5) (.int .i64 g5) (.slice A5 n5 c5) (.slice A6 n6 c6)).below)
            | fail)
        · have HW : Hid (Below w4.heap.size w4 (w5.alloc (.cells #[.bool s5, .int .i64 g5, .slice A5 n5 c5, .slice A6 n6 c6] 29))) := Lib.hid (J.out.made _).below
          have U6 := Lib.hid (U.out.below ((Below.refl w5.heap.size w5).alloc (Nat.le_refl _) (.cells #[.bool s5, .int .i64 g5, .slice A5 n5 c5, .slice A6 n6 c6] 29)))
          have X12 := Lib.hid (BoxT.new w5 (.bool s5) (.int .i64 g5) (.slice A5 n5 c5) (.slice A6 n6 c6))
          rename_i hHeld
          clear sk sj U J
          generalize w5.alloc (.cells #[.bool s5, .int .i64 g5, .slice A5 n5 c5, .slice A6 n6 c6] 29) = w6 at *
          generalize w5.heap.size = k12 at *
          have XB := Lib.hid (HX.out.below HW.out)
          have HP6 := Lib.hid (HP.out.below HW.out)
          have HB6 := Lib.hid (Below.next HB.out HW.out)
          have G7 := Lib.hid (side_store XB.out hBo HB6.out HP6.out U6.out)
          obtain ⟨e0, e1, e2, e3⟩ := X12.out.cells
          obtain ⟨b0, b1, b2, b3⟩ := XB.out.cells
          have bf := XB.out.free
          clear HX HP HB HU HW HSK TA TB JA JB CS hHeld XB HP6 HB6 U6
          go_wp2_with fail
          have e7 : set4 w6 B (.bool s5) (.int .i64 g5) (.slice A5 n5 c5) (.slice A6 n6 c6) = (((w6.setCell ⟨B, 0, none⟩ (.bool s5)).setCell ⟨B, 1, none⟩ (.int .i64 g5)).setCell ⟨B, 2, none⟩ (.slice A5 n5 c5)).setCell ⟨B, 3, none⟩ (.slice A6 n6 c6) := rfl
          rw [e7] at G7
          clear e0 e1 e2 e3 b0 b1 b2 b3 bf e7 X12
          generalize (((w6.setCell ⟨B, 0, none⟩ (.bool s5)).setCell ⟨B, 1, none⟩ (.int .i64 g5)).setCell ⟨B, 2, none⟩ (.slice A5 n5 c5)).setCell ⟨B, 3, none⟩ (.slice A6 n6 c6) = w7 at *
          have KC := fun W (h : TabP w.heap.size W v t2 (i + 1)) => Lib.hid (count_tab h)
          have LN := fun W (h : TabP w.heap.size W v t2 (i + 1)) => Lib.hid (live_tab h hn)
          have LP := fun W (h : TabP w.heap.size W v t2 (i + 1)) => Lib.hid (live_tab h hp)
          have RC := fun W (h : Tabs W (.agg #[.bool s5, .int .i64 g5, .slice A5 n5 c5, .slice A6 n6 c6]) t2) => Lib.hid (rcount_any h)
          have RN := fun W (h : Tabs W (.agg #[.bool s5, .int .i64 g5, .slice A5 n5 c5, .slice A6 n6 c6]) t2) => Lib.hid (rlive_any (n := n) h)
          have RP := fun W (h : Tabs W (.agg #[.bool s5, .int .i64 g5, .slice A5 n5 c5, .slice A6 n6 c6]) t2) => Lib.hid (rlive_any (n := p) h)
          obtain ⟨cn, hcn⟩ : ∃ cn, t2.lv.length = cn := ⟨_, rfl⟩
          obtain ⟨bn, hbn⟩ : ∃ bn, decide (n ∈ t2.lv) = bn := ⟨_, rfl⟩
          obtain ⟨bp, hbp⟩ : ∃ bp, decide (p ∈ t2.lv) = bp := ⟨_, rfl⟩
          simp only [hcn] at KC RC
          simp only [hbn] at LN RN
          simp only [hbp] at LP RP
          clear hcn hbn hbp
          have SKf : ∀ W, Side w v B (.bool s5) (.int .i64 g5) (.slice A5 n5 c5) (.slice A6 n6 c6) t2 (i + 1) W → (W.cell? ⟨B, 0, none⟩ = some (.bool s5) ∧ W.cell? ⟨B, 1, none⟩ = some (.int .i64 g5) ∧ W.cell? ⟨B, 2, none⟩ = some (.slice A5 n5 c5) ∧ W.cell? ⟨B, 3, none⟩ = some (.slice A6 n6 c6)) ∧ W.cell? ⟨b, off + i * 2 + 1, none⟩ = some (.int .u32 (n : Int)) :=
            fun W g => And.intro g.box.cells ((g.below.cell (p := ⟨b, off + i * 2 + 1, none⟩) hbb).trans HCC.out.2)
          have HS := Lib.hid SKf
          have G := Lib.hid (G7.out.step (Below.refl _ _).drew)
          have sk := SKf _ G.out
          clear G7 SKf
          go_region_held3 (fun W => (W.cell? ⟨B, 0, none⟩ = some (.bool s5) ∧ W.cell? ⟨B, 1, none⟩ = some (.int .i64 g5) ∧ W.cell? ⟨B, 2, none⟩ = some (.slice A5 n5 c5) ∧ W.cell? ⟨B, 3, none⟩ = some (.slice A6 n6 c6)) ∧ W.cell? ⟨b, off + i * 2 + 1, none⟩ = some (.int .u32 (n : Int)))
            (first
              | exact sk
              | go_keep)
            (first
              | (go_at_call 13; (with_reducible refine (KC _ G.out.tab).out.mono ?_); rintro e x1 ⟨rfl, rfl⟩)
              | (go_at_call 15; (with_reducible refine (LN _ G.out.tab).out.mono ?_); rintro e x1 ⟨rfl, rfl⟩)
              | (go_at_call 15; (with_reducible refine (LP _ G.out.tab).out.mono ?_); rintro e x1 ⟨rfl, rfl⟩)
              | (go_at_call 14; (with_reducible refine (RC _ G.out.ref).out.mono ?_); rintro e x1 ⟨rfl, hb⟩; replace G := Lib.hid (G.out.step hb); clear hb sk; have sk := HS.out _ G.out)
              | (go_at_call 16; (with_reducible refine (RN _ G.out.ref).out.mono ?_); rintro e x1 ⟨rfl, hb⟩; replace G := Lib.hid (G.out.step hb); clear hb sk; have sk := HS.out _ G.out)
              | (go_at_call 16; (with_reducible refine (RP _ G.out.ref).out.mono ?_); rintro e x1 ⟨rfl, hb⟩; replace G := Lib.hid (G.out.step hb); clear hb sk; have sk := HS.out _ G.out)
              | fail)
          all_goals
            clear sk HS KC LN LP RC RN RP
            go_wp2_with fail
            go_roundw
            case rel => exact ⟨i + 1, t2, _, _, _, _, _, _, _, _, by omega, by go_num, G⟩
            case measure =>
              unfold leftN
              simp [intOf]
              omega
        · have HW := Lib.hid (J.out.set4 (l1 := []) (.bool s5) (.int .i64 g5) (.slice A5 n5 c5) (.slice A6 n6 c6)).below
          have X5 : BoxT w5 w4.heap.size (.bool false) (.int .i64 0) (.slice none 0 0) (.slice none 0 0) := ⟨Y5.out, ⟨y0, y1, y2, y3⟩, yf⟩
          have U6 := Lib.hid (U.out.set4 Y5.out (by decide) (.bool s5) (.int .i64 g5) (.slice A5 n5 c5) (.slice A6 n6 c6)).1
          have X12 := Lib.hid (X5.set (.bool s5) (.int .i64 g5) (.slice A5 n5 c5) (.slice A6 n6 c6))
          rename_i hHeld
          clear sk U J X5 Y5 y0 y1 y2 y3 yf yt sz
          have e6 : set4 w5 w4.heap.size (.bool s5) (.int .i64 g5) (.slice A5 n5 c5) (.slice A6 n6 c6) = (((w5.setCell ⟨w4.heap.size, 0, none⟩ (.bool s5)).setCell ⟨w4.heap.size, 1, none⟩ (.int .i64 g5)).setCell ⟨w4.heap.size, 2, none⟩ (.slice A5 n5 c5)).setCell ⟨w4.heap.size, 3, none⟩ (.slice A6 n6 c6) := rfl
          rw [e6] at HW U6 X12
          clear e6
          generalize (((w5.setCell ⟨w4.heap.size, 0, none⟩ (.bool s5)).setCell ⟨w4.heap.size, 1, none⟩ (.int .i64 g5)).setCell ⟨w4.heap.size, 2, none⟩ (.slice A5 n5 c5)).setCell ⟨w4.heap.size, 3, none⟩ (.slice A6 n6 c6) = w6 at *
          have XB := Lib.hid (HX.out.below HW.out)
          have HP6 := Lib.hid (HP.out.below HW.out)
          have HB6 := Lib.hid (Below.next HB.out HW.out)
          have G7 := Lib.hid (side_store XB.out hBo HB6.out HP6.out U6.out)
          obtain ⟨e0, e1, e2, e3⟩ := X12.out.cells
          obtain ⟨b0, b1, b2, b3⟩ := XB.out.cells
          have bf := XB.out.free
          clear HX HP HB HU HW HSK TA TB JA JB CS hHeld XB HP6 HB6 U6
          go_wp2_with fail
          have e7 : set4 w6 B (.bool s5) (.int .i64 g5) (.slice A5 n5 c5) (.slice A6 n6 c6) = (((w6.setCell ⟨B, 0, none⟩ (.bool s5)).setCell ⟨B, 1, none⟩ (.int .i64 g5)).setCell ⟨B, 2, none⟩ (.slice A5 n5 c5)).setCell ⟨B, 3, none⟩ (.slice A6 n6 c6) := rfl
          rw [e7] at G7
          clear e0 e1 e2 e3 b0 b1 b2 b3 bf e7 X12
          generalize (((w6.setCell ⟨B, 0, none⟩ (.bool s5)).setCell ⟨B, 1, none⟩ (.int .i64 g5)).setCell ⟨B, 2, none⟩ (.slice A5 n5 c5)).setCell ⟨B, 3, none⟩ (.slice A6 n6 c6) = w7 at *
          have KC := fun W (h : TabP w.heap.size W v t2 (i + 1)) => Lib.hid (count_tab h)
          have LN := fun W (h : TabP w.heap.size W v t2 (i + 1)) => Lib.hid (live_tab h hn)
          have LP := fun W (h : TabP w.heap.size W v t2 (i + 1)) => Lib.hid (live_tab h hp)
          have RC := fun W (h : Tabs W (.agg #[.bool s5, .int .i64 g5, .slice A5 n5 c5, .slice A6 n6 c6]) t2) => Lib.hid (rcount_any h)
          have RN := fun W (h : Tabs W (.agg #[.bool s5, .int .i64 g5, .slice A5 n5 c5, .slice A6 n6 c6]) t2) => Lib.hid (rlive_any (n := n) h)
          have RP := fun W (h : Tabs W (.agg #[.bool s5, .int .i64 g5, .slice A5 n5 c5, .slice A6 n6 c6]) t2) => Lib.hid (rlive_any (n := p) h)
          obtain ⟨cn, hcn⟩ : ∃ cn, t2.lv.length = cn := ⟨_, rfl⟩
          obtain ⟨bn, hbn⟩ : ∃ bn, decide (n ∈ t2.lv) = bn := ⟨_, rfl⟩
          obtain ⟨bp, hbp⟩ : ∃ bp, decide (p ∈ t2.lv) = bp := ⟨_, rfl⟩
          simp only [hcn] at KC RC
          simp only [hbn] at LN RN
          simp only [hbp] at LP RP
          clear hcn hbn hbp
          have SKf : ∀ W, Side w v B (.bool s5) (.int .i64 g5) (.slice A5 n5 c5) (.slice A6 n6 c6) t2 (i + 1) W → (W.cell? ⟨B, 0, none⟩ = some (.bool s5) ∧ W.cell? ⟨B, 1, none⟩ = some (.int .i64 g5) ∧ W.cell? ⟨B, 2, none⟩ = some (.slice A5 n5 c5) ∧ W.cell? ⟨B, 3, none⟩ = some (.slice A6 n6 c6)) ∧ W.cell? ⟨b, off + i * 2 + 1, none⟩ = some (.int .u32 (n : Int)) :=
            fun W g => And.intro g.box.cells ((g.below.cell (p := ⟨b, off + i * 2 + 1, none⟩) hbb).trans HCC.out.2)
          have HS := Lib.hid SKf
          have G := Lib.hid (G7.out.step (Below.refl _ _).drew)
          have sk := SKf _ G.out
          clear G7 SKf
          go_region_held3 (fun W => (W.cell? ⟨B, 0, none⟩ = some (.bool s5) ∧ W.cell? ⟨B, 1, none⟩ = some (.int .i64 g5) ∧ W.cell? ⟨B, 2, none⟩ = some (.slice A5 n5 c5) ∧ W.cell? ⟨B, 3, none⟩ = some (.slice A6 n6 c6)) ∧ W.cell? ⟨b, off + i * 2 + 1, none⟩ = some (.int .u32 (n : Int)))
            (first
              | exact sk
              | go_keep)
            (first
              | (go_at_call 13; (with_reducible refine (KC _ G.out.tab).out.mono ?_); rintro e x1 ⟨rfl, rfl⟩)
              | (go_at_call 15; (with_reducible refine (LN _ G.out.tab).out.mono ?_); rintro e x1 ⟨rfl, rfl⟩)
              | (go_at_call 15; (with_reducible refine (LP _ G.out.tab).out.mono ?_); rintro e x1 ⟨rfl, rfl⟩)
              | (go_at_call 14; (with_reducible refine (RC _ G.out.ref).out.mono ?_); rintro e x1 ⟨rfl, hb⟩; replace G := Lib.hid (G.out.step hb); clear hb sk; have sk := HS.out _ G.out)
              | (go_at_call 16; (with_reducible refine (RN _ G.out.ref).out.mono ?_); rintro e x1 ⟨rfl, hb⟩; replace G := Lib.hid (G.out.step hb); clear hb sk; have sk := HS.out _ G.out)
              | (go_at_call 16; (with_reducible refine (RP _ G.out.ref).out.mono ?_); rintro e x1 ⟨rfl, hb⟩; replace G := Lib.hid (G.out.step hb); clear hb sk; have sk := HS.out _ G.out)
              | fail)
          all_goals
            clear sk HS KC LN LP RC RN RP
            go_wp2_with fail
            go_roundw
            case rel => exact ⟨i + 1, t2, _, _, _, _, _, _, _, _, by omega, by go_num, G⟩
            case measure =>
              unfold leftN
              simp [intOf]
              omega
      · obtain rfl : k = i := by omega
        have r1 : ¬ (k : Int) < k := by omega
        have E := Lib.hid (example_any _ (hT.below G.out.below))
        have HB := Lib.hid G.out.below
        clear G
        go_wp2_with fail
        refine E.out.mono ?_
        rintro e w3 ⟨rfl, hb⟩
        go_wp2_with fail
        go_ret
        exact ⟨rfl, Below.next HB.out hb⟩

end Go.Proofs.YtnefcmikeeadhaaDoor
