/-
  changesByRow: the map of the rows at which rectangles begin or end.
-/
import Derived.Test.YtclnepijbnhdfaaMape
import Derived.Test.YtclnepijbnhdfaaLow
import Derived.Deep.RegionHeld3
import Derived.Maps.OwnOps
import Derived.Test.YtclnepijbnhdfaaRow
import Derived.RangeFuncRecord
namespace Go.Proofs.Ytclnepijbnhdfaa
open Go.RowKit Go.Maps

/-- the rows at which a rectangle with points begins or ends -/
def keyL (l : List R) (y : Int) : Prop := ∃ r ∈ l, empB r = false ∧ (y = r.y0 ∨ y = r.y1)

theorem keyL_nil (y : Int) : ¬ keyL [] y := fun ⟨_, h, _⟩ => by cases h
theorem keyL_miss {r : R} (h : empB r = true) (l : List R) (y : Int) : keyL (r :: l) y ↔ keyL l y := by
  constructor
  · rintro ⟨q, hq, h1, h2⟩
    rcases List.mem_cons.1 hq with rfl | hq
    · rw [h] at h1; cases h1
    · exact ⟨q, hq, h1, h2⟩
  · rintro ⟨q, hq, h1, h2⟩
    exact ⟨q, List.mem_cons_of_mem _ hq, h1, h2⟩
theorem keyL_hit {r : R} (h : empB r = false) (l : List R) (y : Int) : keyL (r :: l) y ↔ y = r.y1 ∨ y = r.y0 ∨ keyL l y := by
  constructor
  · rintro ⟨q, hq, h1, h2⟩
    rcases List.mem_cons.1 hq with rfl | hq
    · rcases h2 with h2 | h2
      · exact .inr (.inl h2)
      · exact .inl h2
    · exact .inr (.inr ⟨q, hq, h1, h2⟩)
  · rintro (h2 | h2 | ⟨q, hq, h1, h2⟩)
    · exact ⟨r, List.mem_cons_self, h, .inr h2⟩
    · exact ⟨r, List.mem_cons_self, h, .inl h2⟩
    · exact ⟨q, List.mem_cons_of_mem _ hq, h1, h2⟩

theorem chgL_miss {r : R} (h : empB r = true) (sa sb : Int) (l : List R) (y : Int) : chgL sa sb (r :: l) y = chgL sa sb l y := by
  simp [chgL, chgR, h]

theorem chgL_hit {r : R} (h : empB r = false) (sa sb : Int) (l : List R) (y : Int) (c : List E) :
    c ++ chgL sa sb (r :: l) y = (if y = r.y1 then (if y = r.y0 then c ++ [⟨r.x0, sa, sb⟩, ⟨r.x1, -sa, -sb⟩] else c) ++ [⟨r.x0, -sa, -sb⟩, ⟨r.x1, sa, sb⟩] else if y = r.y0 then c ++ [⟨r.x0, sa, sb⟩, ⟨r.x1, -sa, -sb⟩] else c) ++ chgL sa sb l y := by
  have h01 : r.y0 < r.y1 := by have := (emp_no r).1 h; omega
  have e : chgL sa sb (r :: l) y = chgR sa sb y r ++ chgL sa sb l y := by simp [chgL]
  rw [e]
  unfold chgR
  simp only [h, Bool.false_eq_true, if_false]
  by_cases h0 : y = r.y0
  · have h1 : ¬ y = r.y1 := by omega
    rw [if_pos h0.symm, if_neg h1, if_pos h0]
    simp
  · rw [if_neg (fun e => h0 e.symm)]
    by_cases h1 : y = r.y1
    · rw [if_pos h1.symm, if_pos h1, if_neg h0]
      simp
    · rw [if_neg (fun e => h1 e.symm), if_neg h1, if_neg h0]
      simp

/-- a block of cells that is no row of edges -/
def Bx (W : World) (k : Nat) (cs : Array Value) (t : TypeId) : Prop := W.heap[k]? = some (.cells cs t (0, 0))

theorem Bx.new (w : World) (cs : Array Value) (t : TypeId) : Bx (w.alloc (.cells cs t)) w.heap.size cs t := World.alloc_heap_new w _
theorem Bx.kept {W w1 : World} {k : Nat} {cs : Array Value} {t : TypeId} {X : Nat → Prop} (h : Bx W k cs t) (hg : GrownIn X W w1) (hX : ¬ X k) : Bx w1 k cs t :=
  (hg.block k (Array.getElem?_eq_some_iff.1 h).1 hX).trans h
theorem Bx.cell {W : World} {k : Nat} {cs : Array Value} {t : TypeId} (h : Bx W k cs t) (i : Nat) : W.cell? ⟨k, i, none⟩ = cs[i]? := by
  have h' : W.heap[k]? = some (.cells cs t (0, 0)) := h
  simp [World.cell?, h']
theorem Bx.lt {W : World} {k : Nat} {cs : Array Value} {t : TypeId} (h : Bx W k cs t) : k < W.heap.size := (Array.getElem?_eq_some_iff.1 h).1
theorem Bx.far {W : World} {k base n : Nat} {cs : Array Value} {t e : TypeId} {size : Nat} {v : Value} {xs : List Value} (h : Bx W k cs t) (ho : W.ownsRow base e size v n xs) (hne : t ≠ e) : ¬ blk v k := by
  intro hk
  have h' : W.heap[k]? = some (.cells cs t (0, 0)) := h
  rcases ho.2 with ⟨rfl, _⟩ | ⟨g, cap, cur, rfl, _, hh, _⟩
  · simp [blk, Value.ownBlock] at hk
  · simp only [blk, Value.ownBlock, Option.some.injEq] at hk
    subst hk
    rw [h'] at hh
    simp only [Option.some.injEq, Obj.cells.injEq] at hh
    exact hne hh.2.1

/-- what the closure of changesByRow leaves -/
def Added (base b n : Nat) (l : List R) (sa sb : Int) (f : Int → List E) (ks : Int → Prop) (w : World) (e : Ending) (w' : World) : Prop :=
  e = .returned (.tuple #[]) ∧ ∃ D' n', GrpE w' base b n' D' ∧ Cont D' (fun y => f y ++ chgL sa sb l y) (fun y => ks y ∨ keyL l y) ∧ n' ≤ n + 2 * l.length ∧ GrownIn (fun k => k = b ∨ base ≤ k) w w'

theorem wf_of {y : Int} (h0 : -16384 ≤ y) (h1 : y ≤ 16384) : (Lit.int .i64 y).wf = true := WalkArith.wf_i64 (by omega)

theorem len_if {p : Prop} [Decidable p] {a b : List E} {n : Nat} (ha : a.length ≤ n) (hb : b.length ≤ n) : (if p then a else b).length ≤ n := by
  split
  · exact ha
  · exact hb

theorem or_move (a b c d : Prop) : (a ∨ b ∨ c) ∨ d ↔ c ∨ a ∨ b ∨ d := by
  by_cases a <;> by_cases b <;> by_cases c <;> by_cases d <;> simp [*]

theorem newor_alloc {w : World} {v v' : Value} {o : Obj} (h : v'.ownBlock = v.ownBlock ∨ v'.ownBlock = some ((w.alloc o).drew).heap.size) : NewOr w v v' := by
  rcases h with h | h
  · exact .inl h
  · exact .inr ⟨_, by simp, h⟩

/-- the cells that a round reads -/
def Reads (W : World) (Bm b B4 B5 B7 : Nat) (sa sb : Int) (r : R) : Prop :=
  W.cell? ⟨Bm, 0, none⟩ = some (.map (some b)) ∧ W.cell? ⟨B4, 0, none⟩ = some (.int .i64 sa) ∧ W.cell? ⟨B4, 1, none⟩ = some (.int .i64 sb) ∧ W.cell? ⟨B5, 0, none⟩ = some (.int .i64 (-sa)) ∧ W.cell? ⟨B5, 1, none⟩ = some (.int .i64 (-sb)) ∧
  W.cell? ⟨B7, 0, none⟩ = some (.int .i64 r.x0) ∧ W.cell? ⟨B7, 1, none⟩ = some (.int .i64 r.y0) ∧ W.cell? ⟨B7, 2, none⟩ = some (.int .i64 r.x1) ∧ W.cell? ⟨B7, 3, none⟩ = some (.int .i64 r.y1)

/-- the blocks that a round reads -/
def Blocks (W : World) (Bm b B4 B5 B7 : Nat) (sa sb : Int) (r : R) : Prop :=
  W.cell? ⟨Bm, 0, none⟩ = some (.map (some b)) ∧ Bx W B4 #[.int .i64 sa, .int .i64 sb] 80 ∧ Bx W B5 #[.int .i64 (-sa), .int .i64 (-sb)] 80 ∧ Bx W B7 #[.int .i64 r.x0, .int .i64 r.y0, .int .i64 r.x1, .int .i64 r.y1] 32

theorem Blocks.reads {W : World} {Bm b B4 B5 B7 : Nat} {sa sb : Int} {r : R} (h : Blocks W Bm b B4 B5 B7 sa sb r) : Reads W Bm b B4 B5 B7 sa sb r :=
  ⟨h.1, h.2.1.cell 0, h.2.1.cell 1, h.2.2.1.cell 0, h.2.2.1.cell 1, h.2.2.2.cell 0, h.2.2.2.cell 1, h.2.2.2.cell 2, h.2.2.2.cell 3⟩

theorem Blocks.kept {X : Nat → Prop} {W w1 : World} {Bm b B4 B5 B7 : Nat} {sa sb : Int} {r : R} (h : Blocks W Bm b B4 B5 B7 sa sb r) (hg : GrownIn X W w1) (hm : ¬ X Bm) (h4 : ¬ X B4) (h5 : ¬ X B5) (h7 : ¬ X B7) : Blocks w1 Bm b B4 B5 B7 sa sb r :=
  ⟨(hg.cell (a := ⟨Bm, 0, none⟩) (World.block_lt_of_cell? W _ h.1) hm).trans h.1, h.2.1.kept hg h4, h.2.2.1.kept hg h5, h.2.2.2.kept hg h7⟩

theorem Blocks.row {W w1 : World} {base Bm b B4 B5 B7 : Nat} {sa sb : Int} {r : R} (h : Blocks W Bm b B4 B5 B7 sa sb r) {v : Value} {l : List E} (ho : OwnE W base v l) (hg : GrownIn (blk v) W w1) (hb : Bm < base) : Blocks w1 Bm b B4 B5 B7 sa sb r :=
  h.kept hg (fun hk => by have := (own_blk ho _ hk).1; omega) (h.2.1.far ho (by decide)) (h.2.2.1.far ho (by decide)) (h.2.2.2.far ho (by decide))

theorem Blocks.store {W w1 : World} {Bm b B4 B5 B7 : Nat} {sa sb : Int} {r : R} (h : Blocks W Bm b B4 B5 B7 sa sb r) (hg : W.grownBy w1 (some b)) (hb : Bm ≠ b) (h4 : b < B4) (h5 : b < B5) (h7 : b < B7) : Blocks w1 Bm b B4 B5 B7 sa sb r :=
  h.kept (GrownIn.of_grown hg) (fun e => hb (Option.some.inj e).symm) (fun e => by have := Option.some.inj e; omega) (fun e => by have := Option.some.inj e; omega) (fun e => by have := Option.some.inj e; omega)

theorem Es.drew {w : World} {v : Value} {l : List E} (h : Es w v l) : Es w.drew v l := h

set_option maxRecDepth 100000 in
set_option maxHeartbeats 8000000 in
theorem adds_any {w : World} {base b Bm n N : Nat} {vl : Value} {l : List R} (hl : Rs w vl l) (hvl : 0 < l.length → ∀ k, blk vl k → k ≠ b ∧ k < base) {D : DE} (hG : GrpE w base b n D) {f : Int → List E} {ks : Int → Prop} (hc : Cont D f ks) (hBm : w.cell? ⟨Bm, 0, none⟩ = some (.map (some b))) (hbm : Bm ≠ b ∧ Bm < base) (hbase : base ≤ w.heap.size)
    {sa sb : Int} (hs : sa.natAbs ≤ 1 ∧ sb.natAbs ≤ 1) (hN : ∀ y, (f y).length ≤ N) (hlen : n + N + 4 * l.length ≤ 100000) :
    Calls Try.prog 72 #[vl, .agg #[.int .i64 sa, .int .i64 sb], .pointer (some ⟨Bm, 0, none⟩)] w (Added base b n l sa sb f ks w) := by
  obtain ⟨Al, cl, rfl, hcl, hml, hcell⟩ := hl
  simp only [maxLen] at hml
  obtain ⟨nl, hnl⟩ : ∃ nl, l.length = nl := ⟨_, rfl⟩
  rw [hnl] at hcl hlen hvl
  rw [hnl]
  have HNL := Lib.hid hnl
  have HC := Lib.hid hcell
  have HV := Lib.hid hvl
  have HNN := Lib.hid hN
  have HG0 := Lib.hid hG
  have HC0 := Lib.hid hc
  have hbl : b < base := by obtain ⟨_, _, _, _, _, _, h, _⟩ := hG; exact h
  have CN := fun W => Lib.hid (negative_any (a := sa) (b := sb) (by omega) (by omega) W)
  obtain ⟨res, hres⟩ : ∃ res : Int → List E, res = fun y => f y ++ chgL sa sb l y := ⟨_, rfl⟩
  obtain ⟨kres, hkres⟩ : ∃ kres : Int → Prop, kres = fun y => ks y ∨ keyL l y := ⟨_, rfl⟩
  have HRES := Lib.hid hres
  have HKRES := Lib.hid hkres
  unfold Added
  rw [← hres, ← hkres]
  clear hnl hcell hvl hN hG hc hres hkres
  go_enter Try.func72, Try.ntmps72
  go_wp2_with fail
  have hb0 : Bm < w.heap.size := World.block_lt_of_cell? w _ hBm
  have B4 : Bx (w.alloc (.cells #[.int .i64 sa, .int .i64 sb] 80)) w.heap.size #[.int .i64 sa, .int .i64 sb] 80 := Bx.new w _ _
  have G4 : GrownIn (fun _ => False) w (w.alloc (.cells #[.int .i64 sa, .int .i64 sb] 80)) := (GrownIn.refl _ w).alloc _
  generalize w.alloc (.cells #[.int .i64 sa, .int .i64 sb] 80) = w1 at *
  have x0 := B4.cell 0
  have x1 := B4.cell 1
  simp only [List.getElem?_toArray, List.getElem?_cons_zero, List.getElem?_cons_succ] at x0 x1
  go_wp2_with fail
  refine (CN _).out.mono ?_
  rintro e w2 ⟨rfl, hb2⟩
  have B42 : Bx w2 w.heap.size #[.int .i64 sa, .int .i64 sb] 80 := B4.kept (GrownIn.of_below (X := fun _ => False) hb2) (fun h => h)
  have G2 : GrownIn (fun _ => False) w w2 := G4.trans (GrownIn.of_below hb2)
  have hz0 : w.heap.size < w2.heap.size := B42.lt
  clear x0 x1 B4 G4 hb2 CN
  go_wp2_with fail
  have B53 : Bx (w2.alloc (.cells #[.int .i64 (-sa), .int .i64 (-sb)] 80)) w2.heap.size #[.int .i64 (-sa), .int .i64 (-sb)] 80 := Bx.new w2 _ _
  have g23 : GrownIn (fun _ => False) w2 (w2.alloc (.cells #[.int .i64 (-sa), .int .i64 (-sb)] 80)) := (GrownIn.refl _ w2).alloc _
  generalize w2.alloc (.cells #[.int .i64 (-sa), .int .i64 (-sb)] 80) = w3 at *
  have HB0 : Hid (w3.cell? ⟨Bm, 0, none⟩ = some (.map (some b)) ∧ Bx w3 w.heap.size #[.int .i64 sa, .int .i64 sb] 80 ∧ Bx w3 w2.heap.size #[.int .i64 (-sa), .int .i64 (-sb)] 80) := Lib.hid ⟨((G2.trans g23).cell (a := ⟨Bm, 0, none⟩) hb0 (fun h => h)).trans hBm, B42.kept g23 (fun h => h), B53⟩
  have HG3 : Hid (GrpE w3 base b n D) := Lib.hid (HG0.out.kept (G2.trans g23))
  have HW3 : Hid (GrownIn (fun _ => False) w w3) := Lib.hid (G2.trans g23)
  obtain ⟨B4, hB4⟩ : ∃ B4, w.heap.size = B4 := ⟨_, rfl⟩
  obtain ⟨B5, hB5⟩ : ∃ B5, w2.heap.size = B5 := ⟨_, rfl⟩
  rw [hB4, hB5] at HB0
  have hz4 : base ≤ B4 := by omega
  have hz5 : B4 < B5 := by omega
  clear B42 B53 g23 HG0 hBm
  simp only [hB4, hB5]
  clear G2 hz0 hB5
  go_loopw [12] (fun k wr => ∃ (j m : Nat) (Dj : DE) (fj : Int → List E) (kj : Int → Prop), j ≤ nl ∧ k = .int .i64 (j : Int) ∧ Hid (GrpE wr base b m Dj ∧ Cont Dj fj kj ∧ GrownIn (fun k => k = b ∨ base ≤ k) w3 wr ∧ (wr.cell? ⟨Bm, 0, none⟩ = some (.map (some b)) ∧ Bx wr B4 #[.int .i64 sa, .int .i64 sb] 80 ∧ Bx wr B5 #[.int .i64 (-sa), .int .i64 (-sb)] 80) ∧ (∀ y, fj y ++ chgL sa sb (l.drop j) y = res y) ∧ (∀ y, kj y ∨ keyL (l.drop j) y ↔ kres y) ∧ m ≤ n + 2 * j ∧ ∀ y, (fj y).length ≤ N + 4 * j)) (fun k _ => nl - (RowKit.intOf k).toNat)
  case atStart => exact ⟨0, n, D, f, ks, by omega, rfl, HG3.out, HC0.out, GrownIn.refl _ _, HB0.out, fun y => by rw [HRES.out, List.drop_zero], fun y => by rw [HKRES.out, List.drop_zero], by omega, fun y => by have := HNN.out y; omega⟩
  case round =>
    obtain ⟨j, m, Dj, fj, kj, hj, rfl, hrel⟩ := hrel
    by_cases hlt : j < nl
    · obtain ⟨r, hr⟩ : ∃ r, l[j]? = some r := ⟨_, List.getElem?_eq_getElem (by rw [HNL.out]; exact hlt)⟩
      obtain ⟨be, oe, rfl, hbe, hcs⟩ := HC.out (by rw [HNL.out]; omega)
      have T := Lib.hid (hcs j r hr)
      have hbx := HV.out (by omega) be rfl
      have HG := Lib.hid hrel.out.1
      have HCj := Lib.hid hrel.out.2.1
      have HW := Lib.hid hrel.out.2.2.1
      have HBs := Lib.hid hrel.out.2.2.2.1
      have HD := Lib.hid (drop_at hr)
      have HR : Hid (∀ y, fj y ++ chgL sa sb (r :: l.drop (j + 1)) y = res y) := Lib.hid (by rw [← HD.out]; exact hrel.out.2.2.2.2.1)
      have HKR : Hid (∀ y, kj y ∨ keyL (r :: l.drop (j + 1)) y ↔ kres y) := Lib.hid (by rw [← HD.out]; exact hrel.out.2.2.2.2.2.1)
      have HM := Lib.hid hrel.out.2.2.2.2.2.2.1
      have HL := Lib.hid hrel.out.2.2.2.2.2.2.2
      have gc : ∀ o, wr.cell? ⟨be, o, none⟩ = w.cell? ⟨be, o, none⟩ := fun o => (HW.out.cell (a := ⟨be, o, none⟩) (Nat.lt_of_lt_of_le hbe HW3.out.size) (fun h => by rcases h with h | h; exact hbx.1 h; have h : base ≤ be := h; omega)).trans (HW3.out.cell (a := ⟨be, o, none⟩) hbe (fun h => h))
      have t0 := (gc (oe + j * 4)).trans T.out.1
      have t1 := (gc (oe + j * 4 + 1)).trans T.out.2.1
      have t2 := (gc (oe + j * 4 + 2)).trans T.out.2.2.1
      have t3 := (gc (oe + j * 4 + 3)).trans T.out.2.2.2
      have q0 : (j : Int) < nl := by omega
      have q1 : (0 : Int) ≤ j := by omega
      have C1 := fun W => Lib.hid (empty_any r W)
      clear hr hcs hrel gc HD
      cases he : empB r
      · rw [he] at C1
        have HE := Lib.hid he
        have HRD := Lib.hid ((emp_no r).1 he)
        clear he
        go_wp2_with fail
        refine (C1 _).out.mono ?_
        rintro e w4 ⟨rfl, hb4⟩
        have g4 : Hid (GrownIn (fun _ => False) wr w4) := Lib.hid (((GrownIn.refl _ wr).alloc _).trans (GrownIn.of_below hb4))
        have HG4 : Hid (GrpE w4 base b m Dj) := Lib.hid (HG.out.kept g4.out)
        have HW4 : Hid (GrownIn (fun k => k = b ∨ base ≤ k) w3 w4) := Lib.hid (HW.out.trans (g4.out.mono (fun _ _ h => h.elim)))
        have HB4 : Hid (Blocks w4 Bm b B4 B5 wr.heap.size sa sb r) := Lib.hid ⟨(g4.out.cell (a := ⟨Bm, 0, none⟩) (World.block_lt_of_cell? wr _ HBs.out.1) (fun h => h)).trans HBs.out.1, HBs.out.2.1.kept g4.out (fun h => h), HBs.out.2.2.kept g4.out (fun h => h), (Bx.new wr _ _).kept (GrownIn.of_below (X := fun _ => False) hb4) (fun h => h)⟩
        have hbw : base ≤ w4.heap.size := by have := HB4.out.2.2.1.lt; omega
        obtain ⟨B7, hB7⟩ : ∃ B7, wr.heap.size = B7 := ⟨_, rfl⟩
        rw [hB7] at HB4
        simp only [hB7]
        clear t0 t1 t2 t3 hb4 C1 HG HBs g4
        go_wp2_with fail
        have hz7 : B5 < B7 := by rw [← hB7]; exact Nat.lt_of_lt_of_le HB0.out.2.2.lt HW.out.size
        clear HW hB7
        obtain ⟨va, lv, hlk, hat, hov, hbk⟩ := HG4.out.at (y := r.y0) (by have := HM.out; simp only [maxLen]; omega) (wf_of (by have := HRD.out; omega) (by have := HRD.out; omega))
        have hlv : lv = fj r.y0 := by have hat' := (HCj.out.row _).symm.trans hat; injection hat' with hat'; exact hat'.symm
        subst hlv
        obtain ⟨ca, hca⟩ : ∃ c, fj r.y0 = c := ⟨_, rfl⟩
        have HCa := Lib.hid hca
        rw [hca] at hov
        have HBK := Lib.hid hbk
        have hlc : ca.length ≤ 500000 := by rw [← hca]; have := HL.out r.y0; omega
        have L1 := hlk w4.drew rfl
        have L2 : ∀ o, (Instr.lookup 62 (.map (some b)) (.int .i64 r.y0) false).run Try.prog (w4.alloc o).drew = .ok va (w4.alloc o).drew := fun o => hlk _ (Below.heap_alloc w4 o b (by omega))
        obtain ⟨r0, r1, r2, r3, r4, r5, r6, r7, r8⟩ := id HB4.out.reads
        have s0 : Hid (Reads w4 Bm b B4 B5 B7 sa sb r) := Lib.hid HB4.out.reads
        clear hat hbk hlk hca
        go_region_held3 (fun W => W.cell? ⟨Bm, 0, none⟩ = some (.map (some b)) ∧ W.cell? ⟨B4, 0, none⟩ = some (.int .i64 sa) ∧ W.cell? ⟨B4, 1, none⟩ = some (.int .i64 sb) ∧ W.cell? ⟨B5, 0, none⟩ = some (.int .i64 (-sa)) ∧ W.cell? ⟨B5, 1, none⟩ = some (.int .i64 (-sb)) ∧
  W.cell? ⟨B7, 0, none⟩ = some (.int .i64 r.x0) ∧ W.cell? ⟨B7, 1, none⟩ = some (.int .i64 r.y0) ∧ W.cell? ⟨B7, 2, none⟩ = some (.int .i64 r.x1) ∧ W.cell? ⟨B7, 3, none⟩ = some (.int .i64 r.y1))
          (first
            | exact s7
            | exact s6
            | go_keep)
          (first
            | (refine step_appE (by rfl) _ _ (by rfl) (base := base) (l := ca) (m := [⟨r.x0, sa, sb⟩, ⟨r.x1, -sa, -sb⟩]) (by rfl) (World.ownsRow.drew (World.ownsRow.alloc hov _)) (by rfl) (es_two w4 ⟨r.x0, sa, sb⟩ ⟨r.x1, -sa, -sb⟩).drew (by simp only [List.length_cons, List.length_nil]; omega) (by simp; omega) ?_; intro v6 w6 ho6 hg6 hl6 _; have hgr6 : GrownIn (blk va) w4 w6 := (((GrownIn.refl _ w4).alloc _).drew).trans (GrownIn.of_own hg6); obtain ⟨w7, hrun7, hG7, hg7⟩ := HBK.out w6 v6 _ hgr6 ho6 (newor_alloc hl6); have s6 := (HB4.out.row hov hgr6 hbm.2).reads; have s7 := ((HB4.out.row hov hgr6 hbm.2).store hg7 hbm.1 (by omega) (by omega) (by omega)).reads))
        all_goals
          have HB8 : Hid (Blocks w7 Bm b B4 B5 B7 sa sb r) := Lib.hid ((HB4.out.row hov hgr6 hbm.2).store hg7 hbm.1 (by omega) (by omega) (by omega))
          have HW8 : Hid (GrownIn (fun k => k = b ∨ base ≤ k) w3 w7) := Lib.hid (HW4.out.trans ((hgr6.mono (fun k _ h => .inr (own_blk hov k h).1)).trans ((GrownIn.of_grown hg7).mono (fun k _ h => .inl (Option.some.inj h).symm))))
          have HG8 := Lib.hid hG7
          obtain ⟨g1, hg1⟩ : ∃ g1 : Int → List E, g1 = fun y => if y = r.y0 then fj y ++ [⟨r.x0, sa, sb⟩, ⟨r.x1, -sa, -sb⟩] else fj y := ⟨_, rfl⟩
          obtain ⟨k1, hk1⟩ : ∃ k1 : Int → Prop, k1 = fun z => z = r.y0 ∨ kj z := ⟨_, rfl⟩
          have HCg : Hid (Cont _ g1 k1) := Lib.hid (HCj.out.put (y := r.y0) (l := ca ++ [⟨r.x0, sa, sb⟩, ⟨r.x1, -sa, -sb⟩]) (wf_of (by have := HRD.out; omega) (by have := HRD.out; omega)) (by rw [hg1]; simp only [if_pos, HCa.out]) (fun z hz => by rw [hg1]; exact if_neg hz) (fun z => by rw [hk1]))
          have Hg1 := Lib.hid hg1
          have HLg : Hid (∀ y, (g1 y).length ≤ N + 4 * j + 2) := Lib.hid (fun y => by have h2 := HL.out y; rw [hg1]; exact len_if (by simp only [List.length_append, List.length_cons, List.length_nil]; omega) (by omega))
          have Hk1 := Lib.hid hk1
          obtain ⟨w8, rfl⟩ : ∃ w8, w8 = w7 := ⟨_, rfl⟩
          have hsw8 : w3.heap.size ≤ w8.heap.size := HW8.out.size
          clear hg1 hk1 hrun7 hG7 hg7 s6 s7 ho6 hg6 hl6 hgr6 r0 r1 r2 r3 r4 r5 r6 r7 r8 L1 L2 HBK s0 hov
          have hbw8 : base ≤ w8.heap.size := by have := HB8.out.2.2.1.lt; omega
          go_wp2_with fail
          obtain ⟨vb, lv, hlk, hat, hov, hbk⟩ := HG8.out.at (y := r.y1) (by have := HM.out; simp only [maxLen]; omega) (wf_of (by have := HRD.out; omega) (by have := HRD.out; omega))
          have hlv : lv = g1 r.y1 := by have hat' := (HCg.out.row _).symm.trans hat; injection hat' with hat'; exact hat'.symm
          subst hlv
          obtain ⟨cb, hcb⟩ : ∃ c, g1 r.y1 = c := ⟨_, rfl⟩
          have HCb := Lib.hid hcb
          rw [hcb] at hov
          have HBK := Lib.hid hbk
          have hlc : cb.length ≤ 500000 := by rw [← hcb]; have h2 := HLg.out r.y1; omega
          have L1 := hlk w8.drew rfl
          have L2 : ∀ o, (Instr.lookup 62 (.map (some b)) (.int .i64 r.y1) false).run Try.prog (w8.alloc o).drew = .ok vb (w8.alloc o).drew := fun o => hlk _ (Below.heap_alloc w8 o b (by omega))
          obtain ⟨r0, r1, r2, r3, r4, r5, r6, r7, r8⟩ := id HB8.out.reads
          have s0 : Hid (Reads w8 Bm b B4 B5 B7 sa sb r) := Lib.hid HB8.out.reads
          clear hat hbk hlk hcb
          go_region_held3 (fun W => W.cell? ⟨Bm, 0, none⟩ = some (.map (some b)) ∧ W.cell? ⟨B4, 0, none⟩ = some (.int .i64 sa) ∧ W.cell? ⟨B4, 1, none⟩ = some (.int .i64 sb) ∧ W.cell? ⟨B5, 0, none⟩ = some (.int .i64 (-sa)) ∧ W.cell? ⟨B5, 1, none⟩ = some (.int .i64 (-sb)) ∧
    W.cell? ⟨B7, 0, none⟩ = some (.int .i64 r.x0) ∧ W.cell? ⟨B7, 1, none⟩ = some (.int .i64 r.y0) ∧ W.cell? ⟨B7, 2, none⟩ = some (.int .i64 r.x1) ∧ W.cell? ⟨B7, 3, none⟩ = some (.int .i64 r.y1))
            (first
              | exact s7
              | exact s6
              | go_keep)
            (first
              | (refine step_appE (by rfl) _ _ (by rfl) (base := base) (l := cb) (m := [⟨r.x0, -sa, -sb⟩, ⟨r.x1, sa, sb⟩]) (by rfl) (World.ownsRow.drew (World.ownsRow.alloc hov _)) (by rfl) (es_two w8 ⟨r.x0, -sa, -sb⟩ ⟨r.x1, sa, sb⟩).drew (by simp only [List.length_cons, List.length_nil]; omega) (by simp; omega) ?_; intro v6 w6 ho6 hg6 hl6 _; have hgr6 : GrownIn (blk vb) w8 w6 := (((GrownIn.refl _ w8).alloc _).drew).trans (GrownIn.of_own hg6); obtain ⟨w7, hrun7, hG7, hg7⟩ := HBK.out w6 v6 _ hgr6 ho6 (newor_alloc hl6); have s6 := (HB8.out.row hov hgr6 hbm.2).reads; have s7 := ((HB8.out.row hov hgr6 hbm.2).store hg7 hbm.1 (by omega) (by omega) (by omega)).reads))
          all_goals
            have HB9 : Hid (Blocks w7 Bm b B4 B5 B7 sa sb r) := Lib.hid ((HB8.out.row hov hgr6 hbm.2).store hg7 hbm.1 (by omega) (by omega) (by omega))
            have HW9 : Hid (GrownIn (fun k => k = b ∨ base ≤ k) w3 w7) := Lib.hid (HW8.out.trans ((hgr6.mono (fun k _ h => .inr (own_blk hov k h).1)).trans ((GrownIn.of_grown hg7).mono (fun k _ h => .inl (Option.some.inj h).symm))))
            have HG9 := Lib.hid hG7
            obtain ⟨g2, hg2⟩ : ∃ g2 : Int → List E, g2 = fun y => if y = r.y1 then g1 y ++ [⟨r.x0, -sa, -sb⟩, ⟨r.x1, sa, sb⟩] else g1 y := ⟨_, rfl⟩
            obtain ⟨k2, hk2⟩ : ∃ k2 : Int → Prop, k2 = fun z => z = r.y1 ∨ k1 z := ⟨_, rfl⟩
            have HCf : Hid (Cont _ g2 k2) := Lib.hid (HCg.out.put (y := r.y1) (l := cb ++ [⟨r.x0, -sa, -sb⟩, ⟨r.x1, sa, sb⟩]) (wf_of (by have := HRD.out; omega) (by have := HRD.out; omega)) (by rw [hg2]; simp only [if_pos, HCb.out]) (fun z hz => by rw [hg2]; exact if_neg hz) (fun z => by rw [hk2]))
            have Hg2 := Lib.hid hg2
            have Hk2 := Lib.hid hk2
            obtain ⟨w9, rfl⟩ : ∃ w9, w9 = w7 := ⟨_, rfl⟩
            have hsw9 : w3.heap.size ≤ w9.heap.size := HW9.out.size
            clear hg2 hk2 hrun7 hG7 hg7 s6 s7 ho6 hg6 hl6 hgr6 r0 r1 r2 r3 r4 r5 r6 r7 r8 L1 L2 HBK s0 hov
            have HR9 : Hid (∀ y, g2 y ++ chgL sa sb (l.drop (j + 1)) y = res y) := Lib.hid (fun y => by rw [← HR.out y, chgL_hit HE.out, Hg2.out, Hg1.out])
            have HK9 : Hid (∀ y, k2 y ∨ keyL (l.drop (j + 1)) y ↔ kres y) := Lib.hid (fun y => by rw [← HKR.out y, keyL_hit HE.out, Hk2.out, Hk1.out]; exact or_move _ _ _ _)
            have HL9 : Hid (∀ y, (g2 y).length ≤ N + 4 * (j + 1)) := Lib.hid (fun y => by have h2 := HLg.out y; rw [Hg2.out]; exact len_if (by simp only [List.length_append, List.length_cons, List.length_nil]; omega) (by omega))
            clear HR HKR HL HCj HCg HB8 HG8 HW8 HB4 HG4 HW4 HCa HCb Hg1 Hg2 Hk1 Hk2
            go_wp2_with fail
            go_roundw
            case rel => exact ⟨j + 1, m + 1 + 1, _, g2, k2, by omega, by go_num, HG9.out, HCf.out, HW9.out, ⟨HB9.out.1, HB9.out.2.1, HB9.out.2.2.1⟩, HR9.out, HK9.out, by have := HM.out; omega, HL9.out⟩
            case measure => simp [RowKit.intOf]; omega
      · rw [he] at C1
        have HE := Lib.hid he
        clear he
        go_wp2_with fail
        refine (C1 _).out.mono ?_
        rintro e w4 ⟨rfl, hb4⟩
        have g4 : Hid (GrownIn (fun _ => False) wr w4) := Lib.hid (((GrownIn.refl _ wr).alloc _).trans (GrownIn.of_below hb4))
        have HG4 : Hid (GrpE w4 base b m Dj) := Lib.hid (HG.out.kept g4.out)
        have HW4 : Hid (GrownIn (fun k => k = b ∨ base ≤ k) w3 w4) := Lib.hid (HW.out.trans (g4.out.mono (fun _ _ h => h.elim)))
        have HB4 := Lib.hid (And.intro ((g4.out.cell (a := ⟨Bm, 0, none⟩) (World.block_lt_of_cell? wr _ HBs.out.1) (fun h => h)).trans HBs.out.1) (And.intro (HBs.out.2.1.kept g4.out (fun h => h)) (HBs.out.2.2.kept g4.out (fun h => h))))
        have HR9 : Hid (∀ y, fj y ++ chgL sa sb (l.drop (j + 1)) y = res y) := Lib.hid (fun y => by rw [← HR.out y, chgL_miss HE.out])
        have HK9 : Hid (∀ y, kj y ∨ keyL (l.drop (j + 1)) y ↔ kres y) := Lib.hid (fun y => by rw [← HKR.out y, keyL_miss HE.out])
        have HL9 : Hid (∀ y, (fj y).length ≤ N + 4 * (j + 1)) := Lib.hid (fun y => by have := HL.out y; omega)
        clear t0 t1 t2 t3 hb4 C1 HG HW HBs g4 HR HKR HL
        go_wp2_with fail
        go_roundw
        case rel => exact ⟨j + 1, m, Dj, fj, kj, by omega, by go_num, HG4.out, HCj.out, HW4.out, HB4.out, HR9.out, HK9.out, by have := HM.out; omega, HL9.out⟩
        case measure => simp [RowKit.intOf]; omega
    · have q0 : (nl : Int) ≤ (j : Int) := by omega
      have hdr : l.drop j = [] := List.drop_eq_nil_of_le (by rw [HNL.out]; omega)
      have HF : Hid (GrpE wr base b m Dj ∧ Cont Dj res kres ∧ m ≤ n + 2 * nl ∧ GrownIn (fun k => k = b ∨ base ≤ k) w wr) := Lib.hid ⟨hrel.out.1, hrel.out.2.1.congr (fun y => by have h := hrel.out.2.2.2.2.1 y; rw [hdr] at h; rw [← h]; simp [chgL]) (fun y => by have h := hrel.out.2.2.2.2.2.1 y; rw [hdr] at h; rw [← h]; simp [keyL_nil]), by have := hrel.out.2.2.2.2.2.2.1; omega, (HW3.out.mono (fun _ _ h => h.elim)).trans hrel.out.2.2.1⟩
      clear hrel hdr
      go_wp2_with fail
      go_end0
      exact ⟨rfl, Dj, m, HF.out.1, HF.out.2.1, by rw [HNL.out]; exact HF.out.2.2.1, HF.out.2.2.2⟩

end Go.Proofs.Ytclnepijbnhdfaa
