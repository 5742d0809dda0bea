/-
  appendRuns: the runs of a row out of its edges.
-/
import Derived.Test.YtclnepijbnhdfaaGro
import Derived.Test.YtclnepijbnhdfaaRcom
import Derived.Test.YtclnepijbnhdfaaCmp
namespace Go.Proofs.Ytclnepijbnhdfaa
open Go.RowKit

/-- a function value that computes op -/
structure KeepsOp (k : Nat) (op : Op2) : Prop where
  enter : ∀ args w, (callFunc k args).run Try.prog w = .ok (.enter k args) w
  call : ∀ x y w, Calls Try.prog k #[.bool x, .bool y] w fun e w' => e = .returned (.bool (op x y)) ∧ w = w'

theorem keeps_either : KeepsOp 34 (fun x y => x || y) := ⟨enters_of Try.func34 (by kernel_rfl) rfl, fun x y w => by
  cases x <;> cases y <;> (go_enter Try.func34, Try.ntmps34; go_wp2; go_ret; exact ⟨rfl, rfl⟩)⟩
theorem keeps_both : KeepsOp 45 (fun x y => x && y) := ⟨enters_of Try.func45 (by kernel_rfl) rfl, fun x y w => by
  cases x <;> cases y <;> (go_enter Try.func45, Try.ntmps45; go_wp2; go_ret; exact ⟨rfl, rfl⟩)⟩
theorem keeps_first : KeepsOp 46 (fun x y => x && !y) := ⟨enters_of Try.func46 (by kernel_rfl) rfl, fun x y w => by
  cases x <;> cases y <;> (go_enter Try.func46, Try.ntmps46; go_wp2; go_ret; exact ⟨rfl, rfl⟩)⟩
theorem keeps_one : KeepsOp 47 (fun x y => x != y) := ⟨enters_of Try.func47 (by kernel_rfl) rfl, fun x y w => by
  cases x <;> cases y <;> (go_enter Try.func47, Try.ntmps47; go_wp2; go_ret; exact ⟨rfl, rfl⟩)⟩

/-- an open run -/
def openR : Option Int → Runs
  | none => []
  | some s => [(s, 0)]

/-- the runs behind an edge at x -/
def restR (op : Op2) (x : Int) (es : List E) (ma mb : Int) : Option Int → Bool → Runs
  | none, true => runsGo op es ma mb (some x)
  | none, false => runsGo op es ma mb none
  | some s, true => runsGo op es ma mb (some s)
  | some s, false => (s, x) :: runsGo op es ma mb none

theorem runsGo_rest {op : Op2} {e : E} {es : List E} {na nb : Int} {st : Option Int} {kp : Bool} (h : op (decide (0 < na + e.a)) (decide (0 < nb + e.b)) = kp) :
    runsGo op (e :: es) na nb st = restR op e.x es (na + e.a) (nb + e.b) st kp := by
  cases st <;> cases kp <;> simp [runsGo, restR, h]

def Two (W : World) (B : Nat) (a b : Int) : Prop := W.cell? ⟨B, 0, none⟩ = some (.int .i64 a) ∧ W.cell? ⟨B, 1, none⟩ = some (.int .i64 b) ∧ ∀ i, W.frozen? ⟨B, i, none⟩ = false

theorem Two.new (w : World) (a b : Int) : Two (w.alloc (.cells #[.int .i64 a, .int .i64 b] 80)) w.heap.size a b := by
  refine ⟨?_, ?_, fun i => ?_⟩
  · rw [World.cell?_alloc_at _ _ _ _ rfl]; rfl
  · rw [World.cell?_alloc_at _ _ _ _ rfl]; rfl
  · unfold World.frozen?
    rw [World.alloc_heap_new]
    simp

theorem Two.kept {X : Nat → Prop} {w w1 : World} {B : Nat} {a b : Int} (h : Two w B a b) (hg : GrownIn X w w1) (hX : ¬ X B) : Two w1 B a b := by
  have hB : B < w.heap.size := World.block_lt_of_cell? w _ h.1
  exact ⟨(hg.cell (a := ⟨B, 0, none⟩) hB hX).trans h.1, (hg.cell (a := ⟨B, 1, none⟩) hB hX).trans h.2.1, fun i => (hg.frozen (a := ⟨B, i, none⟩) hB hX).trans (h.2.2 i)⟩

theorem Two.set {w : World} {B : Nat} {a b : Int} (h : Two w B a b) (c d : Int) : Two ((w.setCell ⟨B, 0, none⟩ (.int .i64 c)).setCell ⟨B, 1, none⟩ (.int .i64 d)) B c d := by
  obtain ⟨h0, h1, hf⟩ := h
  refine ⟨?_, ?_, fun i => ?_⟩
  · simp [go_sem, h0]
  · simp [go_sem, h1]
  · simp [go_sem, hf]

theorem grown_two (w : World) (B : Nat) (u v : Value) : GrownIn (fun k => k = B) w ((w.setCell ⟨B, 0, none⟩ u).setCell ⟨B, 1, none⟩ v) :=
  ((GrownIn.of_grown (grown_set w B 0 u)).trans (GrownIn.of_grown (grown_set _ B 1 v))).mono (fun _ _ h => (Option.some.inj h).symm)

theorem Three.kept {X : Nat → Prop} {w w1 : World} {B : Nat} {e : E} (h : Three w B e) (hg : GrownIn X w w1) (hX : ¬ X B) : Three w1 B e := by
  have hB : B < w.heap.size := World.block_lt_of_cell? w _ h.1
  exact ⟨(hg.cell (a := ⟨B, 0, none⟩) hB hX).trans h.1, (hg.cell (a := ⟨B, 1, none⟩) hB hX).trans h.2.1, (hg.cell (a := ⟨B, 2, none⟩) hB hX).trans h.2.2⟩

/-- what appendRuns leaves -/
def Ran (w : World) (base : Nat) (vs : Value) (l : List R) (e : Ending) (w' : World) : Prop :=
  ∃ v', e = .returned v' ∧ OwnR w' base v' l ∧ GrownIn (blk vs) w w' ∧ NewOr w vs v'

set_option maxRecDepth 100000 in
set_option maxHeartbeats 4000000 in
theorem appendRuns_any {w : World} {base k : Nat} {op : Op2} (hop : KeepsOp k op) {vs ve : Value} {es : List E} (hs : OwnR w base vs []) (he : Es w ve es)
    (ase : ∀ k, blk ve k → ¬ blk vs k) (hbase : base ≤ w.heap.size) (y0 y1 : Int) (hl : wt es ≤ 100000 ∧ es.length ≤ 100000) :
    Calls Try.prog 61 #[vs, ve, .int .i64 y0, .int .i64 y1, .func (.func k) #[] #[]] w (Ran w base vs (bandR (y0, y1, runsGo op es 0 0 none))) := by
  obtain ⟨As, cs, rfl, hcs, hms, _⟩ := id hs.rs
  obtain ⟨Ae, ce, rfl, hce, hme, hcell⟩ := he
  simp only [maxLen, List.length_nil] at hms hme hcs hs ⊢
  obtain ⟨ne, hne⟩ : ∃ ne, es.length = ne := ⟨_, rfl⟩
  have HNE := Lib.hid hne
  have HC := Lib.hid hcell
  have HS := Lib.hid hs
  have HL := Lib.hid hl
  rw [hne] at hce ase
  rw [hne]
  have ASE := Lib.hid ase
  have HOP := Lib.hid hop
  have heg := hop.enter
  obtain ⟨res, hres⟩ : ∃ res, runsGo op es 0 0 none = res := ⟨_, rfl⟩
  have HRES := Lib.hid hres
  rw [hres]
  clear hne hs hcell hl ase hres hop
  go_enter Try.func61, Try.ntmps61
  go_wp2_with fail
  have HT0 := Lib.hid (Two.new w 0 0)
  have HS1 : Hid (OwnR (w.alloc (.cells #[.int .i64 0, .int .i64 0] 80)) base (.slice As 0 cs) []) := Lib.hid (World.ownsRow.alloc HS.out _)
  have HG1 : Hid (GrownIn (fun _ => False) w (w.alloc (.cells #[.int .i64 0, .int .i64 0] 80))) := Lib.hid ((GrownIn.refl _ w).alloc _)
  have HSB : Hid (∀ k, blk (.slice As 0 cs) k → base ≤ k ∧ k < w.heap.size) := Lib.hid (own_blk HS.out)
  have HZ : Hid (w.heap.size < (w.alloc (.cells #[.int .i64 0, .int .i64 0] 80)).heap.size) := Lib.hid (by simp)
  generalize w.alloc (.cells #[.int .i64 0, .int .i64 0] 80) = w1 at *
  obtain ⟨X, hX⟩ : ∃ X : Nat → Prop, X = fun k => blk (.slice As 0 cs) k ∨ k = w.heap.size := ⟨_, rfl⟩
  have HX := Lib.hid hX
  clear hX
  go_loopw [0, 12, 18] (fun ov ins k wr => ∃ (j : Nat) (na nb : Int) (st : Option Int) (done : Runs), j ≤ ne ∧ k = .int .i64 (j : Int) ∧ ins = .bool st.isSome ∧ Hid (OwnR wr base ov (bandR (y0, y1, done ++ openR st)) ∧ NewOr w1 (.slice As 0 cs) ov ∧ GrownIn X w1 wr ∧ Two wr w.heap.size na nb ∧ done ++ runsGo op (es.drop j) na nb st = res ∧ na.natAbs + nb.natAbs + wt (es.drop j) ≤ 100000 ∧ done.length + (openR st).length ≤ 2 * j)) (fun _ _ k _ => ne - (intOf k).toNat)
  case atStart => exact ⟨0, 0, 0, none, [], by omega, rfl, rfl, HS1.out, .inl rfl, GrownIn.refl _ _, HT0.out, by rw [List.drop_zero]; exact HRES.out, by rw [List.drop_zero]; have := HL.out.1; simpa using this, by simp [openR]⟩
  case round =>
    obtain ⟨j, na, nb, st, done, hj, rfl, rfl, hrel⟩ := hrel
    obtain ⟨w3, rfl⟩ : ∃ w3, w3 = wr := ⟨_, rfl⟩
    by_cases hlt : j < ne
    · obtain ⟨e, hej⟩ : ∃ e, es[j]? = some e := ⟨_, List.getElem?_eq_getElem (by rw [HNE.out]; exact hlt)⟩
      obtain ⟨be, oe, rfl, hbe, hcs3⟩ := HC.out (by rw [HNE.out]; omega)
      have T := Lib.hid (hcs3 j e hej)
      have hbe1 : be < w1.heap.size := Nat.lt_of_lt_of_le hbe HG1.out.size
      have hnx : ¬ X be := by
        rw [HX.out]
        rintro (h | h)
        · exact ASE.out be rfl h
        · omega
      have gc : ∀ o, w3.cell? ⟨be, o, none⟩ = w.cell? ⟨be, o, none⟩ := fun o => (hrel.out.2.2.1.cell (a := ⟨be, o, none⟩) hbe1 hnx).trans (HG1.out.cell (a := ⟨be, o, none⟩) hbe (fun h => h))
      have e0 := (gc (oe + j * 3)).trans T.out.1
      have e1 := (gc (oe + j * 3 + 1)).trans T.out.2.1
      have e2 := (gc (oe + j * 3 + 2)).trans T.out.2.2
      have HD := Lib.hid (drop_at hej)
      have q0 : (j : Int) < ne := by omega
      have q1 : (0 : Int) ≤ j := by omega
      obtain ⟨A2, c2', rfl, hcs2, hms2, _⟩ := id hrel.out.1.rs
      have HO := Lib.hid hrel.out.1
      have HNO := Lib.hid hrel.out.2.1
      have HG := Lib.hid hrel.out.2.2.1
      have HT := Lib.hid hrel.out.2.2.2.1
      have HR : Hid (done ++ runsGo op (e :: es.drop (j + 1)) na nb st = res) := Lib.hid (by rw [← HD.out]; exact hrel.out.2.2.2.2.1)
      have HW : Hid (na.natAbs + nb.natAbs + wt (e :: es.drop (j + 1)) ≤ 100000 ∧ done.length + (openR st).length ≤ 2 * j) := Lib.hid (by rw [← HD.out]; exact hrel.out.2.2.2.2.2)
      simp only [maxLen] at hms2
      have hbnd : na.natAbs ≤ 100000 ∧ nb.natAbs ≤ 100000 ∧ e.a.natAbs ≤ 100000 ∧ e.b.natAbs ≤ 100000 := by have := HW.out.1; simp only [wt] at this; omega
      have CP := fun W => Lib.hid (plus_any (a := na) (b := nb) (c := e.a) (d := e.b) (by omega) (by omega) (by omega) (by omega) W)
      obtain ⟨t0, t1, tf⟩ := id HT.out
      have hz3 : w.heap.size < w3.heap.size := World.block_lt_of_cell? w3 _ t0
      clear hrel hej hcs3 gc hbnd
      go_wp2_with fail
      refine (CP _).out.mono ?_
      rintro e4 w4 ⟨rfl, hb4⟩
      have hz4 : w3.heap.size < w4.heap.size := by have := hb4.size; simp at this; omega
      have g34 : Hid (GrownIn (fun _ => False) w3 w4) := Lib.hid (((GrownIn.refl _ w3).alloc _).trans (GrownIn.of_below hb4))
      have HT4 := Lib.hid (HT.out.kept g34.out (fun h => h))
      have HE4 : Hid (Three w4 w3.heap.size e) := Lib.hid ((Three.new w3 e 0).keep hb4 (by simp))
      obtain ⟨ma, hma⟩ : ∃ ma, na + e.a = ma := ⟨_, rfl⟩
      obtain ⟨mb, hmb⟩ : ∃ mb, nb + e.b = mb := ⟨_, rfl⟩
      have HMA := Lib.hid hma
      have HMB := Lib.hid hmb
      rw [hma, hmb]
      clear t0 t1 tf e0 e1 e2 hma hmb CP hb4 HT
      obtain ⟨t0, t1, tf⟩ := id HT4.out
      have tf0 := tf 0
      have tf1 := tf 1
      have hz5 : w.heap.size < w4.heap.size := by omega
      clear tf
      go_wp2_with fail
      have hob : ¬ blk (.slice A2 (bandR (y0, y1, done ++ openR st)).length c2') w.heap.size := fun h => by
        have h1 := NewOr.sub HNO.out _ HZ.out h
        have := (HSB.out _ h1).2
        omega
      have HT5 : Hid (Two ((w4.setCell ⟨w.heap.size, 0, none⟩ (.int .i64 ma)).setCell ⟨w.heap.size, 1, none⟩ (.int .i64 mb)) w.heap.size ma mb) := Lib.hid (HT4.out.set ma mb)
      have g45 : Hid (GrownIn (fun k => k = w.heap.size) w4 ((w4.setCell ⟨w.heap.size, 0, none⟩ (.int .i64 ma)).setCell ⟨w.heap.size, 1, none⟩ (.int .i64 mb))) := Lib.hid (grown_two w4 w.heap.size _ _)
      generalize (w4.setCell ⟨w.heap.size, 0, none⟩ (.int .i64 ma)).setCell ⟨w.heap.size, 1, none⟩ (.int .i64 mb) = w5 at *
      have g35 : Hid (GrownIn X w3 w5) := Lib.hid ((g34.out.mono (fun _ _ h => h.elim)).trans (g45.out.mono (fun k _ h => by rw [HX.out]; exact .inr h)))
      have HE5 : Hid (Three w5 w3.heap.size e) := Lib.hid (HE4.out.kept g45.out (by omega))
      have HO5 : Hid (OwnR w5 base (.slice A2 (bandR (y0, y1, done ++ openR st)).length c2') (bandR (y0, y1, done ++ openR st))) := Lib.hid (g45.out.own (g34.out.own HO.out (fun _ _ h => h)) (fun k hk h => hob (h ▸ hk)))
      have HG5 : Hid (GrownIn X w1 w5) := Lib.hid (HG.out.trans g35.out)
      obtain ⟨kp, hkp⟩ : ∃ kp, op (decide (0 < ma)) (decide (0 < mb)) = kp := ⟨_, rfl⟩
      have HKP := Lib.hid hkp
      have CK : ∀ W, Hid (Calls Try.prog k #[.bool (decide (0 < ma)), .bool (decide (0 < mb))] W fun e w' => e = .returned (.bool kp) ∧ W = w') := fun W => Lib.hid (hkp ▸ HOP.out.call _ _ W)
      have hz7 : w3.heap.size < w5.heap.size := Nat.lt_of_lt_of_le hz4 g45.out.size
      have hbz : base ≤ w5.heap.size := by have := HG5.out.size; have := HZ.out; omega
      have HWS : Hid (w1.heap.size ≤ w5.heap.size) := Lib.hid HG5.out.size
      clear t0 t1 tf0 tf1 hkp hob g34 HT4 HE4 g45 g35 HO HG hz4 hz5
      refine (CK _).out.mono ?_
      rintro e6 w6 ⟨rfl, rfl⟩
      have HR2 : Hid (done ++ restR op e.x (es.drop (j + 1)) ma mb st kp = res) := Lib.hid (by
        have h1 := HR.out
        rw [runsGo_rest (kp := kp) (by rw [HMA.out, HMB.out]; exact HKP.out), HMA.out, HMB.out] at h1
        exact h1)
      have HW2 : Hid (ma.natAbs + mb.natAbs + wt (es.drop (j + 1)) ≤ 100000) := Lib.hid (by have h := HW.out.1; rw [← HMA.out, ← HMB.out]; simp only [wt] at h; omega)
      have HW3 := Lib.hid HW.out.2
      obtain ⟨no, hno⟩ : ∃ no, (bandR (y0, y1, done ++ openR st)).length = no := ⟨_, rfl⟩
      have HNL := Lib.hid hno
      rw [hno] at HO5 hcs2 HNO
      rw [hno]
      have HO6 : Hid (w5.ownsRow base 32 4 (.slice A2 no c2') no (flat (bandR (y0, y1, done ++ openR st)))) := Lib.hid (by have h := HO5.out; unfold OwnR at h; rw [hno] at h; exact h)
      clear CK HKP HR HW HMA HMB hno HO5
      have HOc : Hid (OwnR w5 base (.slice A2 no c2') (bandR (y0, y1, done ++ openR st))) := Lib.hid (by unfold OwnR; rw [HNL.out]; exact HO6.out)
      have HOB : Hid (¬ blk (.slice A2 no c2') w.heap.size) := Lib.hid (fun h => by
        have h1 := NewOr.sub HNO _ HZ.out h
        have := (HSB.out _ h1).2
        omega)
      have HNO2 := Lib.hid HNO
      clear HNO
      cases st with
      | none =>
        cases kp
        · simp only [restR] at HR2
          go_wp2_with fail
          go_roundw
          case rel => exact ⟨j + 1, ma, mb, none, done, by omega, by go_num, rfl, HOc.out, HNO2.out, HG5.out, HT5.out, HR2.out, HW2.out, by have := HW3.out; omega⟩
          case measure => simp [intOf]; omega
        · simp only [restR] at HR2
          have x0 := HE5.out.1
          have hOc := HOc.out
          have hlb : (bandR (y0, y1, done ++ openR none)).length ≤ 2000000 := by have h1 := HW3.out; have h2 := HL.out.2; rw [HNE.out] at h2; simp only [bandR_len, List.length_append, openR, List.length_nil] at h1 ⊢; omega
          go_wp2_with (at_builtin; refine wpList_appR rfl _ _ rfl (base := base) (l := bandR (y0, y1, done ++ openR none)) (m := [⟨e.x, y0, 0, y1⟩]) rfl (World.ownsRow.alloc hOc _) rfl (rs_one w5 ⟨e.x, y0, 0, y1⟩) (by simp only [List.length_singleton]; omega) (by simp; omega) ?_; intro v6 w6 ho6 hg6 hl6 _)
          have HO7 : Hid (OwnR w6 base v6 (bandR (y0, y1, done ++ openR (some e.x)))) := Lib.hid (by
            have h := ho6
            have e1 : bandR (y0, y1, done ++ openR none) ++ [⟨e.x, y0, 0, y1⟩] = bandR (y0, y1, done ++ openR (some e.x)) := by simp [bandR, openR]
            rw [e1] at h
            exact h)
          have HN6 : Hid (NewOr w1 (.slice As 0 cs) v6) := Lib.hid (NewOr.trans HNO2.out (by
            rcases hl6 with h | h
            · exact .inl h
            · exact .inr ⟨_, by have := HWS.out; simp; omega, h⟩))
          have HG6 : Hid (GrownIn X w1 w6) := Lib.hid (NewOr.grown (HG5.out.alloc _) (fun k _ h => by rw [HX.out]; exact .inl h) HNO2.out hg6)
          have HT6 : Hid (Two w6 w.heap.size ma mb) := Lib.hid ((HT5.out.kept ((GrownIn.refl (fun _ => False) w5).alloc _) (fun h => h)).kept (GrownIn.of_own hg6) HOB.out)
          clear ho6 hg6 hl6 hOc x0
          go_roundw
          case rel => exact ⟨j + 1, ma, mb, some e.x, done, by omega, by go_num, rfl, HO7.out, HN6.out, HG6.out, HT6.out, HR2.out, HW2.out, by have := HW3.out; simp only [openR, List.length_nil, List.length_cons] at this ⊢; omega⟩
          case measure => simp [intOf]; omega
      | some s =>
        cases kp
        · simp only [restR] at HR2
          have x0 := HE5.out.1
          obtain ⟨md, hmd⟩ : ∃ md, done.length = md := ⟨_, rfl⟩
          have hat : (bandR (y0, y1, done ++ openR (some s)))[md]? = some ⟨s, y0, 0, y1⟩ := bandR_at (p := (s, 0)) (by rw [← hmd]; simp [openR])
          have hnm : no = md + 1 := by rw [← HNL.out, bandR_len, ← hmd]; simp [openR]
          obtain ⟨g, cap, eg, hg1, hg2, hg3, hg4⟩ := owns_shape HO6.out (by omega)
          injection eg with eg1 eg2 eg3
          subst eg1 eg3
          obtain ⟨⟨_, _, r2, _⟩, rf⟩ := OwnR.cells HO6.out hat
          have HS6 := Lib.hid (OwnR.set_x1 HO6.out hat e.x)
          have rf2 := rf (md * 4 + 2)
          have HMD := Lib.hid hmd
          have HNM := Lib.hid hnm
          have f0 : IntKind.i64.wrap ((no : Int) - 1) = (md : Int) := by rw [show (no : Int) - 1 = md by omega]; exact IntWalk.i64_in _ (by omega)
          have f1 : (0 : Int) ≤ md := by omega
          have f2 : (md : Int) < no := by omega
          clear hat hnm hmd rf
          go_wp2_with fail
          have e1 : (bandR (y0, y1, done ++ openR (some s))).set md ⟨s, y0, e.x, y1⟩ = bandR (y0, y1, (done ++ [(s, e.x)]) ++ openR none) := by
            rw [← HMD.out]
            simp [bandR, openR]
          rw [e1] at HS6
          have HS7 : Hid (OwnR (w5.setCell ⟨g, md * 4 + 2, none⟩ (.int .i64 e.x)) base (.slice (some ⟨g, 0, none⟩) no c2') (bandR (y0, y1, (done ++ [(s, e.x)]) ++ openR none))) := Lib.hid (by
            unfold OwnR
            have h2 : (bandR (y0, y1, (done ++ [(s, e.x)]) ++ openR none)).length = no := by rw [bandR_len, HNM.out, ← HMD.out]; simp [openR]
            rw [h2]
            exact HS6.out)
          have hg6 := grown_set w5 g (md * 4 + 2) (.int .i64 e.x)
          have HG6 : Hid (GrownIn X w1 (w5.setCell ⟨g, md * 4 + 2, none⟩ (.int .i64 e.x))) := Lib.hid (NewOr.grown HG5.out (fun k _ h => by rw [HX.out]; exact .inl h) HNO2.out hg6)
          have HT6 : Hid (Two (w5.setCell ⟨g, md * 4 + 2, none⟩ (.int .i64 e.x)) w.heap.size ma mb) := Lib.hid (HT5.out.kept (GrownIn.of_grown hg6) (fun h => HOB.out h))
          clear hg6 x0 r2 rf2 e1
          go_roundw
          case rel => exact ⟨j + 1, ma, mb, none, done ++ [(s, e.x)], by omega, by go_num, rfl, HS7.out, HNO2.out, HG6.out, HT6.out, by rw [List.append_assoc]; exact HR2.out, HW2.out, by have := HW3.out; simp only [openR, List.length_nil, List.length_cons, List.length_append] at this ⊢; omega⟩
          case measure => simp [intOf]; omega
        · simp only [restR] at HR2
          go_wp2_with fail
          go_roundw
          case rel => exact ⟨j + 1, ma, mb, some s, done, by omega, by go_num, rfl, HOc.out, HNO2.out, HG5.out, HT5.out, HR2.out, HW2.out, by have := HW3.out; omega⟩
          case measure => simp [intOf]; omega
    · have q0 : (ne : Int) ≤ (j : Int) := by omega
      have HNO := Lib.hid hrel.out.2.1
      have HG := Lib.hid hrel.out.2.2.1
      have HO := Lib.hid hrel.out.1
      have HR : Hid (done ++ openR st = res) := Lib.hid (by
        have h1 := hrel.out.2.2.2.2.1
        rw [List.drop_eq_nil_of_le (by rw [HNE.out]; omega)] at h1
        rw [← h1]
        cases st <;> rfl)
      clear hrel
      go_wp2_with fail
      go_ret
      refine ⟨_, rfl, by rw [← HR.out]; exact HO.out, ?_, NewOr.mono HNO.out HG1.out.size⟩
      exact (HG1.out.mono (fun _ _ h => h.elim)).step HG.out (fun b hb h => by
        rw [HX.out] at h
        rcases h with h | h
        · exact h
        · omega)

end Go.Proofs.Ytclnepijbnhdfaa
