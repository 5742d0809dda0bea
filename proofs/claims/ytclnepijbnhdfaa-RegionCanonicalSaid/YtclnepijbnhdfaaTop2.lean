/-
  Bounds and Translate of package region.
-/
import Derived.Test.YtclnepijbnhdfaaTops
import Derived.OwnWalk
import Derived.Laws.OwnMore
namespace Go.Proofs.Ytclnepijbnhdfaa
open Go.RowKit

/-- the smallest rectangle, as the program finds it -/
def uniF : List R → R → R
  | [], o => o
  | r :: l, o => uniF l (uniR o r)

theorem hull_self (r : R) : hullR r r = r := by
  cases r
  simp [hullR]

theorem hull_full {a b : R} (ha : empB a = false) (hb : empB b = false) : empB (hullR a b) = false := by
  rw [emp_no] at *
  simp only [hullR]
  omega

theorem uni_ref : ∀ (l : List R) (o : R), empB o = false → uniF l o = refB l true o
  | [], _, _ => rfl
  | r :: l, o, ho => by
    unfold uniF refB
    cases h : empB r
    · rw [uni_full ho h]
      simp only [Bool.false_eq_true, if_false, if_true]
      exact uni_ref l _ (hull_full ho h)
    · rw [uni_emp_r ho h]
      exact uni_ref l o ho

theorem uni_ref0 : ∀ (l : List R), uniF l zeroR = refB l false zeroR
  | [] => rfl
  | r :: l => by
    unfold uniF refB
    rw [uni_emp_l emp_zero]
    cases h : empB r
    · rw [can_full h]
      simp only [Bool.false_eq_true, if_false]
      rw [hull_self]
      exact uni_ref l r h
    · rw [can_emp h]
      exact uni_ref0 l

set_option maxRecDepth 100000 in
set_option maxHeartbeats 4000000 in
theorem bounds_any {w : World} {v : Value} {l : List R} (h : Rs w v l) :
    Calls Try.prog 20 #[v] w fun e w' => e = .returned (.agg #[.int .i64 (uniF l zeroR).x0, .int .i64 (uniF l zeroR).y0, .int .i64 (uniF l zeroR).x1, .int .i64 (uniF l zeroR).y1]) ∧ Below w.heap.size w w' := by
  obtain ⟨A, c, rfl, hc, hm, hcell⟩ := h
  simp only [maxLen] at hm
  have HC := Lib.hid hcell
  obtain ⟨len, hn⟩ : ∃ len, l.length = len := ⟨_, rfl⟩
  have HN := Lib.hid hn
  rw [hn] at hc ⊢
  obtain ⟨res, hres⟩ : ∃ res, uniF l zeroR = res := ⟨_, rfl⟩
  have HRES := Lib.hid hres
  rw [hres]
  clear hcell hn hres
  go_enter Try.func20, Try.ntmps20
  have F1 := Lib.hid (show Four ((w.alloc (.cells #[.int .i64 0, .int .i64 0, .int .i64 0, .int .i64 0] 32)).alloc (.cells #[.int .i64 0, .int .i64 0, .int .i64 0, .int .i64 0] 32)) (w.heap.size + 1) (.int .i64 zeroR.x0) (.int .i64 zeroR.y0) (.int .i64 zeroR.x1) (.int .i64 zeroR.y1) by
    have := Four.new (w.alloc (.cells #[.int .i64 0, .int .i64 0, .int .i64 0, .int .i64 0] 32)) (.int .i64 0) (.int .i64 0) (.int .i64 0) (.int .i64 0) 32
    rwa [World.size_alloc] at this)
  have F0 := Lib.hid ((Four.new w (.int .i64 0) (.int .i64 0) (.int .i64 0) (.int .i64 0) 32).alloc (by simp) (.cells #[.int .i64 0, .int .i64 0, .int .i64 0, .int .i64 0] 32))
  have H0 := Lib.hid (((Below.refl w.heap.size w).alloc (Nat.le_refl _) (.cells #[.int .i64 0, .int .i64 0, .int .i64 0, .int .i64 0] 32)).alloc (by simp) (.cells #[.int .i64 0, .int .i64 0, .int .i64 0, .int .i64 0] 32))
  go_wp2_with fail
  generalize (w.alloc (.cells #[.int .i64 0, .int .i64 0, .int .i64 0, .int .i64 0] 32)).alloc (.cells #[.int .i64 0, .int .i64 0, .int .i64 0, .int .i64 0] 32) = W0 at *
  go_loopw [8] (fun k wr => ∃ (j : Nat) (o : R), j ≤ len ∧ k = .int .i64 (j : Int) ∧ Hid (Four wr (w.heap.size + 1) (.int .i64 o.x0) (.int .i64 o.y0) (.int .i64 o.x1) (.int .i64 o.y1) ∧ Four wr w.heap.size (.int .i64 0) (.int .i64 0) (.int .i64 0) (.int .i64 0) ∧ Below w.heap.size w wr ∧ uniF (l.drop j) o = res)) (fun k _ => len - (intOf k).toNat)
  case atStart => exact ⟨0, zeroR, by omega, rfl, F1.out, F0.out, H0.out, HRES.out⟩
  case round =>
    obtain ⟨j, o, hj, rfl, hrel⟩ := hrel
    have HB := Lib.hid hrel.out.2.2.1
    have G1 := hrel.out.1
    have G0 := hrel.out.2.1
    by_cases hlt : j < len
    · obtain ⟨r, hr⟩ : ∃ r, l[j]? = some r := ⟨_, List.getElem?_eq_getElem (by rw [HN.out]; exact hlt)⟩
      obtain ⟨b, off, rfl, hb, hcs⟩ := HC.out (by rw [HN.out]; omega)
      have T := Lib.hid (hcs j r hr)
      have HR := Lib.hid (show uniF (l.drop (j + 1)) (uniR o r) = res by rw [← hrel.out.2.2.2, drop_at hr]; rfl)
      have q0 : (j : Int) < len := by omega
      have q1 : (0 : Int) ≤ j := by omega
      have hbr : b < wr.heap.size := Nat.lt_of_lt_of_le hb HB.out.size
      have hg1 : w.heap.size + 1 < wr.heap.size := World.block_lt_of_cell? wr _ G1.1
      have hg0 : w.heap.size < wr.heap.size := by omega
      have t0 := (HB.out.cell (p := ⟨b, off + j * 4, none⟩) hb).trans T.out.1
      have t1 := (HB.out.cell (p := ⟨b, off + j * 4 + 1, none⟩) hb).trans T.out.2.1
      have t2 := (HB.out.cell (p := ⟨b, off + j * 4 + 2, none⟩) hb).trans T.out.2.2.1
      have t3 := (HB.out.cell (p := ⟨b, off + j * 4 + 3, none⟩) hb).trans T.out.2.2.2
      have C1 := fun W => Lib.hid (uni_any o r W)
      have HG1 := Lib.hid G1
      have HG0 := Lib.hid G0
      obtain ⟨u, hu⟩ : ∃ u, uniR o r = u := ⟨_, rfl⟩
      rw [hu] at C1 HR
      obtain ⟨c0, c1, c2, c3, cf⟩ := G1
      clear hr hcs hrel G0 hu
      go_wp2_with fail
      refine (C1 _).out.mono ?_
      rintro e w1 ⟨rfl, hb1⟩
      have HB1 := Lib.hid ((HB.out.alloc HB.out.size _).trans (hb1.mono (by have := HB.out.size; simp; omega)))
      have HGA := Lib.hid ((HG1.out.alloc hg1 _).keep hb1 (by simp; omega))
      have HGB := Lib.hid ((HG0.out.alloc hg0 _).keep hb1 (by simp; omega))
      clear hb1 C1 t0 t1 t2 t3 c0 c1 c2 c3 cf HG1 HG0
      obtain ⟨c0, c1, c2, c3, cf⟩ := id HGA.out
      go_wp2_with fail
      have HE := Lib.hid (show Four (set4 w1 (w.heap.size + 1) (.int .i64 u.x0) (.int .i64 u.y0) (.int .i64 u.x1) (.int .i64 u.y1)) (w.heap.size + 1) (.int .i64 u.x0) (.int .i64 u.y0) (.int .i64 u.x1) (.int .i64 u.y1) from HGA.out.set)
      have HE0 := Lib.hid (show Four (set4 w1 (w.heap.size + 1) (.int .i64 u.x0) (.int .i64 u.y0) (.int .i64 u.x1) (.int .i64 u.y1)) w.heap.size (.int .i64 0) (.int .i64 0) (.int .i64 0) (.int .i64 0) from HGB.out.far (by omega))
      have HEB := Lib.hid (below_four (k := w.heap.size + 1) HB1.out (by omega) (x0 := .int .i64 u.x0) (x1 := .int .i64 u.y0) (x2 := .int .i64 u.x1) (x3 := .int .i64 u.y1))
      clear c0 c1 c2 c3 cf
      go_roundw
      case rel => exact ⟨j + 1, u, by omega, by go_num, HE.out, HE0.out, HEB.out, HR.out⟩
      case measure => simp [intOf]; omega
    · have q0 : (len : Int) ≤ (j : Int) := by omega
      have e : res = o := by
        rw [← hrel.out.2.2.2, List.drop_eq_nil_of_le (by rw [HN.out]; omega)]
        rfl
      subst e
      obtain ⟨c0, c1, c2, c3, cf⟩ := G1
      obtain ⟨d0, d1, d2, d3, df⟩ := id G0
      have HG0 := Lib.hid G0
      clear G0 hrel HRES
      go_wp2_with fail
      exact bodyPost_ret (v := .agg #[.int .i64 res.x0, .int .i64 res.y0, .int .i64 res.x1, .int .i64 res.y1]) (by simp [results, Try.results20, go_sem, d0, d1, d2, d3]) rfl ⟨rfl, below_four HB.out (Nat.le_refl _)⟩

theorem made_zero (n : Nat) : (madeCells (.agg #[.int .i64 0, .int .i64 0, .int .i64 0, .int .i64 0] : Value).cells (n * 4)).toList = flat (List.replicate n zeroR) := by
  have e1 : (madeCells (.agg #[.int .i64 0, .int .i64 0, .int .i64 0, .int .i64 0] : Value).cells (n * 4)).toList = List.replicate (n * 4) (.int .i64 0) := by
    rw [List.eq_replicate_iff]
    refine ⟨by rw [Array.length_toList, size_madeCells], fun b hb => ?_⟩
    unfold madeCells at hb
    simp only [Array.toList_map, List.mem_map] at hb
    obtain ⟨i, _, rfl⟩ := hb
    have h4 : i % 4 < 4 := Nat.mod_lt _ (by omega)
    have hsz : (Value.agg #[.int .i64 0, .int .i64 0, .int .i64 0, .int .i64 0] : Value).cells.size = 4 := rfl
    rw [hsz]
    have : i % 4 = 0 ∨ i % 4 = 1 ∨ i % 4 = 2 ∨ i % 4 = 3 := by omega
    rcases this with h | h | h | h <;> rw [h] <;> rfl
  rw [e1]
  clear e1
  induction n with
  | zero => rfl
  | succ n ih =>
    rw [List.replicate_succ, show flat (zeroR :: List.replicate n zeroR) = cells4 zeroR ++ flat (List.replicate n zeroR) by simp [flat], ← ih, show (n + 1) * 4 = n * 4 + 1 + 1 + 1 + 1 by omega]
    simp only [List.replicate_succ]
    rfl

theorem flat_put : ∀ (l : List R) (j : Nat) (r : R), j < l.length → ((((flat l).set (j * 4) (.int .i64 r.x0)).set (j * 4 + 1) (.int .i64 r.y0)).set (j * 4 + 2) (.int .i64 r.x1)).set (j * 4 + 3) (.int .i64 r.y1) = flat (l.set j r)
  | [], j, r, h => by simp at h
  | q :: l, 0, r, _ => rfl
  | q :: l, j + 1, r, h => by
    have ih := flat_put l j r (by simpa using h)
    have e : flat (q :: l) = cells4 q ++ flat l := by simp [flat]
    have e2 : flat ((q :: l).set (j + 1) r) = cells4 q ++ flat (l.set j r) := by simp [flat]
    rw [e, e2, ← ih]
    have h4 : (cells4 q).length = 4 := rfl
    rw [show (j + 1) * 4 = 4 + j * 4 by omega, show 4 + j * 4 + 1 = 4 + (j * 4 + 1) by omega, show 4 + j * 4 + 2 = 4 + (j * 4 + 2) by omega, show 4 + j * 4 + 3 = 4 + (j * 4 + 3) by omega]
    rw [set_append_right' _ _ _ 4 h4.symm, set_append_right' _ _ _ 4 h4.symm, set_append_right' _ _ _ 4 h4.symm, set_append_right' _ _ _ 4 h4.symm]

theorem owns_put4 {w : World} {base g cap n : Nat} {l : List R} (h : w.ownsRow base 32 4 (.slice (some ⟨g, 0, none⟩) n cap) n (flat l)) {j : Nat} (hj : j < l.length) (r : R) :
    ((((w.setCell ⟨g, j * 4, none⟩ (.int .i64 r.x0)).setCell ⟨g, j * 4 + 1, none⟩ (.int .i64 r.y0)).setCell ⟨g, j * 4 + 2, none⟩ (.int .i64 r.x1)).setCell ⟨g, j * 4 + 3, none⟩ (.int .i64 r.y1)).ownsRow base 32 4 (.slice (some ⟨g, 0, none⟩) n cap) n (flat (l.set j r)) := by
  rw [← flat_put l j r hj]
  exact owns_set (owns_set (owns_set (owns_set h _ _) _ _) _ _) _ _

/-- the rectangles moved so far, the rest still zero -/
def mixT (dx dy : Int) (l : List R) (j : Nat) : List R := (l.take j).map (trR · dx dy) ++ List.replicate (l.length - j) zeroR

theorem mixT_next {dx dy : Int} {l : List R} {j : Nat} {r : R} (h : l[j]? = some r) : (mixT dx dy l j).set j (trR r dx dy) = mixT dx dy l (j + 1) := by
  obtain ⟨hj, hr⟩ := List.getElem?_eq_some_iff.1 h
  unfold mixT
  rw [List.set_append_right _ _ (by simp; omega)]
  have e1 : j - ((l.take j).map (trR · dx dy)).length = 0 := by simp; omega
  rw [e1, show l.length - j = (l.length - (j + 1)) + 1 by omega, List.replicate_succ, List.set_cons_zero, List.take_add_one, h]
  simp

theorem mixT_len (dx dy : Int) (l : List R) {j : Nat} (h : j ≤ l.length) : (mixT dx dy l j).length = l.length := by
  unfold mixT
  simp
  omega

theorem mixT_at {dx dy : Int} {l : List R} {j : Nat} (h : j < l.length) : (mixT dx dy l j)[j]? = some zeroR := by
  unfold mixT
  rw [List.getElem?_append_right (by simp; omega)]
  have e1 : j - ((l.take j).map (trR · dx dy)).length = 0 := by simp; omega
  rw [e1, show l.length - j = (l.length - (j + 1)) + 1 by omega, List.replicate_succ]
  rfl

set_option maxRecDepth 100000 in
set_option maxHeartbeats 4000000 in
theorem transl_any {w : World} {v : Value} {l : List R} (h : Rs w v l) (hl : l.length ≤ 1000) (x y : Int) :
    Calls Try.prog 30 #[v, .int .i64 x, .int .i64 y] w (Lim (combP orB (l.map (trR · x y)) []) w) := by
  obtain ⟨i0, hi, hz0, hz1, hz2⟩ := info_parts rect_info
  obtain ⟨A, c, rfl, hc, hm, hcell⟩ := h
  simp only [maxLen] at hm
  have HC := Lib.hid hcell
  obtain ⟨len, hn⟩ : ∃ len, l.length = len := ⟨_, rfl⟩
  have HN := Lib.hid hn
  rw [hn] at hc hl ⊢
  obtain ⟨L, hL⟩ : ∃ L, combP orB (l.map (trR · x y)) [] = L := ⟨_, rfl⟩
  have HRES := Lib.hid hL
  rw [hL]
  clear hcell hn hL
  go_enter Try.func30, Try.ntmps30
  go_wp2_with (at_make; refine wpList_make_full _ rfl _ _ 22 rfl w.heap.size 32 i0 _ 4 Try.underlying22 hi hz0 hz1 .i64 .i64 _ _ len rfl rfl rfl rfl (by rw [hz2]; omega) (by simp only [maxLen]; omega) (Nat.le_refl _) ?_; intro w1 ho1 hg1)
  have HB1 := Lib.hid (show Below w.heap.size w w1 from ⟨hg1.os, hg1.tape, hg1.output, hg1.size, fun k hk => hg1.block k hk (by simp)⟩)
  have HO1 : Hid (w1.ownsRow w.heap.size 32 4 (.slice (some ⟨w.heap.size, 0, none⟩) len len) len (flat (mixT x y l 0))) := Lib.hid (by
    have h := ho1
    rw [made_zero] at h
    unfold mixT
    rw [HN.out]
    exact h)
  have HW1 : Hid (w.heap.size < w1.heap.size ∨ len = 0) := Lib.hid (by
    rcases Nat.eq_zero_or_pos len with h | h
    · exact .inr h
    · exact .inl (own_blk ho1 w.heap.size rfl).2)
  clear ho1 hg1
  go_loopw [16] (fun k wr => ∃ (j : Nat), j ≤ len ∧ k = .int .i64 (j : Int) ∧ Hid (wr.ownsRow w.heap.size 32 4 (.slice (some ⟨w.heap.size, 0, none⟩) len len) len (flat (mixT x y l j)) ∧ Below w.heap.size w wr)) (fun k _ => len - (intOf k).toNat)
  case atStart => exact ⟨0, by omega, rfl, HO1.out, HB1.out⟩
  case round =>
    obtain ⟨j, hj, rfl, hrel⟩ := hrel
    have HB := Lib.hid hrel.out.2
    have HO := Lib.hid hrel.out.1
    by_cases hlt : j < len
    · obtain ⟨r, hr⟩ : ∃ r, l[j]? = some r := ⟨_, List.getElem?_eq_getElem (by rw [HN.out]; exact hlt)⟩
      obtain ⟨b, off, rfl, hb, hcs⟩ := HC.out (by rw [HN.out]; omega)
      have T := Lib.hid (hcs j r hr)
      have HNX := Lib.hid (mixT_next (dx := x) (dy := y) hr)
      have q0 : (j : Int) < len := by omega
      have q1 : (0 : Int) ≤ j := by omega
      have hsz := HB.out.size
      have hbr : b < wr.heap.size := Nat.lt_of_lt_of_le hb hsz
      have hgw := (own_blk HO.out w.heap.size rfl).2
      have t0 := (HB.out.cell (p := ⟨b, off + j * 4, none⟩) hb).trans T.out.1
      have t1 := (HB.out.cell (p := ⟨b, off + j * 4 + 1, none⟩) hb).trans T.out.2.1
      have t2 := (HB.out.cell (p := ⟨b, off + j * 4 + 2, none⟩) hb).trans T.out.2.2.1
      have t3 := (HB.out.cell (p := ⟨b, off + j * 4 + 3, none⟩) hb).trans T.out.2.2.2
      have C1 := fun W => Lib.hid (trans_any r x y W)
      obtain ⟨u, hu⟩ : ∃ u, trR r x y = u := ⟨_, rfl⟩
      rw [hu] at C1 HNX
      clear hr hcs hrel hu
      go_wp2_with fail
      refine (C1 _).out.mono ?_
      rintro e w3 ⟨rfl, hb3⟩
      have HB3 := Lib.hid ((HB.out.alloc hsz _).trans (hb3.mono (by simp; omega)))
      have HO3 : Hid (w3.ownsRow w.heap.size 32 4 (.slice (some ⟨w.heap.size, 0, none⟩) len len) len (flat (mixT x y l j))) := Lib.hid ((GrownIn.of_below (X := fun _ => False) hb3).own (World.ownsRow.alloc HO.out _) (fun _ _ h => h))
      have hat := mixT_at (dx := x) (dy := y) (l := l) (j := j) (by rw [HN.out]; exact hlt)
      obtain ⟨⟨c0, c1, c2, c3⟩, cf⟩ := OwnR.cells HO3.out hat
      have HP := Lib.hid (owns_put4 HO3.out (j := j) (by rw [mixT_len _ _ _ (by rw [HN.out]; omega), HN.out]; exact hlt) u)
      clear hb3 C1 t0 t1 t2 t3 hat HO HB HO3
      go_wp2_with fail
      have HP2 : Hid (((((w3.setCell ⟨w.heap.size, j * 4, none⟩ (.int .i64 u.x0)).setCell ⟨w.heap.size, j * 4 + 1, none⟩ (.int .i64 u.y0)).setCell ⟨w.heap.size, j * 4 + 2, none⟩ (.int .i64 u.x1)).setCell ⟨w.heap.size, j * 4 + 3, none⟩ (.int .i64 u.y1)).ownsRow w.heap.size 32 4 (.slice (some ⟨w.heap.size, 0, none⟩) len len) len (flat (mixT x y l (j + 1)))) := Lib.hid (by rw [← HNX.out]; exact HP.out)
      have HBB : Hid (Below w.heap.size w ((((w3.setCell ⟨w.heap.size, j * 4, none⟩ (.int .i64 u.x0)).setCell ⟨w.heap.size, j * 4 + 1, none⟩ (.int .i64 u.y0)).setCell ⟨w.heap.size, j * 4 + 2, none⟩ (.int .i64 u.x1)).setCell ⟨w.heap.size, j * 4 + 3, none⟩ (.int .i64 u.y1))) := Lib.hid ((((HB3.out.setCell (p := ⟨w.heap.size, j * 4, none⟩) (Nat.le_refl _) _).setCell (p := ⟨w.heap.size, j * 4 + 1, none⟩) (Nat.le_refl _) _).setCell (p := ⟨w.heap.size, j * 4 + 2, none⟩) (Nat.le_refl _) _).setCell (p := ⟨w.heap.size, j * 4 + 3, none⟩) (Nat.le_refl _) _)
      clear c0 c1 c2 c3 cf HP HB3 HNX
      go_roundw
      case rel => exact ⟨j + 1, by omega, by go_num, HP2.out, HBB.out⟩
      case measure => simp [intOf]; omega
    · have q0 : (len : Int) ≤ (j : Int) := by omega
      have e : mixT x y l j = l.map (trR · x y) := by
        unfold mixT
        rw [List.take_of_length_le (by rw [HN.out]; omega), HN.out, show len - j = 0 by omega]
        simp
      have hml : (l.map (trR · x y)).length = len := by rw [List.length_map, HN.out]
      have HR : Rs wr (.slice (some ⟨w.heap.size, 0, none⟩) len len) (l.map (trR · x y)) := by
        have h := HO.out
        rw [e] at h
        have h2 : OwnR wr w.heap.size (.slice (some ⟨w.heap.size, 0, none⟩) len len) (l.map (trR · x y)) := by unfold OwnR; rw [hml]; exact h
        exact h2.rs
      have C : Hid (Calls Try.prog 11 #[.slice (some ⟨w.heap.size, 0, none⟩) len len] wr (Lim L wr)) := Lib.hid (by rw [← HRES.out]; exact new_any HR (by omega))
      have hsz := HB.out.size
      clear hrel HO HR e hml
      go_wp2_with fail
      refine C.out.mono ?_
      rintro e w3 hL
      obtain ⟨t, c2, rfl, hL⟩ := lim_gen hL
      have HO : Hid (Lim L w (.returned (.tuple #[t, .int .i64 c2])) w3) := Lib.hid (by
        obtain ⟨t', e1, h2, h3⟩ := hL
        exact ⟨t', e1, own_weaken h2 hsz, HB.out.trans (h3.mono hsz)⟩)
      clear C hL
      go_wp2_with fail
      go_ret2
      exact HO.out

end Go.Proofs.Ytclnepijbnhdfaa
