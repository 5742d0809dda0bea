/-
  changesByRow: the map of what changes at each row.
-/
import Derived.Test.YthedglfocjljjaaGreatDoorRoe
import Derived.Carry
import Derived.Test.YthedglfocjljjaaGreatDoorRod
import Derived.Shelf.SlIterI.Nil
import Derived.Shelf.SortM.Plain
import Derived.Shelf.SortM.SortNone
import Derived.Shelf.SlSortCmp.WholeK
import Derived.Shelf.SlSortCmp.NoneTotal
import Derived.Shelf.SlicesQ.IndexFunc
import Derived.Shelf.SlicesQ.Equal
import Derived.Test.YthedglfocjljjaaGreatDoorRows
import Derived.RangeFuncNested
import Derived.RangeFuncBound
import Derived.RangeFuncCalls
import Derived.RangeFuncLeaves
import Derived.Shelf.Abstract
import Derived.Shelf.RegionOpen
import Derived.OwnWalkIn
import Derived.TacticsInMore
import Derived.LoopNIn
import Derived.LoopIn
import Derived.Test.YthedglfocjljjaaGreatDoorRob
namespace Go.Proofs.YthedglfocjljjaaGreatDoor.Rgn
open Go.RowKit Go.Maps

def Changed (a b : List R) (w : World) (e : Ending) (w' : World) : Prop :=
  e = .returned (.map (some w.heap.size)) ∧ ∃ D n, GrpE w' (w.heap.size + 2) w.heap.size n D ∧ Cont D (chg a b) (fun y => keyL a y ∨ keyL b y) ∧ n ≤ 2 * (a.length + b.length) ∧ Below w.heap.size w w'

theorem rs_blk {w : World} {v : Value} {l : List R} (h : Rs w v l) : ∀ k, blk v k → 0 < l.length → k < w.heap.size := by
  obtain ⟨A, c, rfl, _, _, hc⟩ := h
  intro k hk hl
  obtain ⟨b, off, rfl, hb, _⟩ := hc hl
  simp only [blk, Value.ownBlock, Option.some.injEq] at hk
  omega

set_option maxRecDepth 100000 in
set_option maxHeartbeats 4000000 in
theorem changes_any {w : World} {va vb : Value} {a b : List R} (ha : Rs w va a) (hb : Rs w vb b) (hl : a.length + b.length ≤ 1000) : Calls Tryz.prog 115 #[va, vb] w (Changed a b w) := by
  have hmm := @run_makeMap Tryz.prog
  have HA := Lib.hid ha
  have HB := Lib.hid hb
  clear ha hb
  unfold Changed
  go_enter Tryz.func115, Tryz.ntmps115
  go_wp2_with fail
  have HM0 : Hid (GrpE ((w.alloc (.map #[] 0)).alloc (.cells #[.map (some w.heap.size)] 114)) (w.heap.size + 2) w.heap.size 0 (.map [])) := Lib.hid ((grp_made w (by omega)).kept ((GrownIn.refl _ _).alloc _))
  have HX0 : Hid (((w.alloc (.map #[] 0)).alloc (.cells #[.map (some w.heap.size)] 114)).cell? ⟨w.heap.size + 1, 0, none⟩ = some (.map (some w.heap.size))) := Lib.hid (by
    have h := (Bx.new (w.alloc (.map #[] 0)) #[.map (some w.heap.size)] 114).cell 0
    rw [World.size_alloc] at h
    exact h)
  have HL0 : Hid (Below w.heap.size w ((w.alloc (.map #[] 0)).alloc (.cells #[.map (some w.heap.size)] 114))) := Lib.hid (((Below.refl w.heap.size w).alloc (Nat.le_refl _) _).alloc (by simp) _)
  have hz0 : ((w.alloc (.map #[] 0)).alloc (.cells #[.map (some w.heap.size)] 114)).heap.size = w.heap.size + 2 := by simp
  generalize (w.alloc (.map #[] 0)).alloc (.cells #[.map (some w.heap.size)] 114) = w1 at *
  refine (adds_any (N := 0) (HA.out.below HL0.out) (fun h k hk => by have := rs_blk HA.out k hk h; omega) HM0.out cont_start HX0.out ⟨by omega, by omega⟩ (by omega) (by decide) (fun _ => by simp) (by omega)).mono ?_
  rintro e w2 ⟨rfl, D, n, hG, hC, hn, hg⟩
  have HG := Lib.hid hG
  have HC := Lib.hid hC
  have HW := Lib.hid hg
  have HL2 : Hid (Below w.heap.size w w2) := Lib.hid (HL0.out.trans (hg.below (by omega) (fun k h => by omega)))
  have HX2 : Hid (w2.cell? ⟨w.heap.size + 1, 0, none⟩ = some (.map (some w.heap.size))) := Lib.hid ((hg.cell (a := ⟨w.heap.size + 1, 0, none⟩) (World.block_lt_of_cell? w1 _ HX0.out) (fun h => by rcases h with h | h; exact absurd (show w.heap.size + 1 = w.heap.size from h) (by omega); exact absurd (show w.heap.size + 2 ≤ w.heap.size + 1 from h) (by omega))).trans HX0.out)
  have hz2 := hg.size
  clear hG hC hg HM0 HX0 HL0
  go_wp2_with fail
  refine (adds_any (N := 2 * a.length) (HB.out.below HL2.out) (fun h k hk => by have := rs_blk HB.out k hk h; omega) HG.out HC.out HX2.out ⟨by omega, by omega⟩ (by omega) (by decide) (fun y => by have := (chgL_wt (sa := 1) (sb := 0) rfl y a).2; simpa using this) (by omega)).mono ?_
  rintro e w3 ⟨rfl, D', n', hG, hC, hn', hg⟩
  have HF : Hid (GrpE w3 (w.heap.size + 2) w.heap.size n' D' ∧ Cont D' (chg a b) (fun y => keyL a y ∨ keyL b y) ∧ n' ≤ 2 * (a.length + b.length) ∧ Below w.heap.size w w3) := Lib.hid ⟨hG, hC.congr (fun y => by simp [chg]) (fun y => by simp), by omega, HL2.out.trans (hg.below (by omega) (fun k h => by omega))⟩
  have x0 : w3.cell? ⟨w.heap.size + 1, 0, none⟩ = some (.map (some w.heap.size)) := (hg.cell (a := ⟨w.heap.size + 1, 0, none⟩) (World.block_lt_of_cell? w2 _ HX2.out) (fun h => by rcases h with h | h; exact absurd (show w.heap.size + 1 = w.heap.size from h) (by omega); exact absurd (show w.heap.size + 2 ≤ w.heap.size + 1 from h) (by omega))).trans HX2.out
  clear hG hC hg HG HC HX2 HL2
  go_wp2_with fail
  go_ret
  exact ⟨rfl, D', n', HF.out.1, HF.out.2.1, HF.out.2.2.1, HF.out.2.2.2⟩

end Go.Proofs.YthedglfocjljjaaGreatDoor.Rgn
namespace Go.Proofs.YthedglfocjljjaaGreatDoor.Rgn
open Go.RowKit

def sumN (f : Int → Nat) : List Int → Nat
  | [] => 0
  | y :: ys => f y + sumN f ys

theorem sumN_add (f g : Int → Nat) : ∀ ys, sumN (fun y => f y + g y) ys = sumN f ys + sumN g ys
  | [] => rfl
  | y :: ys => by simp only [sumN, sumN_add f g ys]; omega
theorem sumN_le {f g : Int → Nat} (h : ∀ y, f y ≤ g y) : ∀ ys, sumN f ys ≤ sumN g ys
  | [] => Nat.le_refl _
  | y :: ys => by have := h y; have := sumN_le h ys; simp only [sumN]; omega
theorem sumN_congr {f g : Int → Nat} (h : ∀ y, f y = g y) (ys : List Int) : sumN f ys = sumN g ys := by
  have e : f = g := funext h
  rw [e]
theorem sumN_zero : ∀ ys, sumN (fun _ => 0) ys = 0
  | [] => rfl
  | _ :: ys => by simp only [sumN, sumN_zero ys]
theorem sumN_append (f : Int → Nat) : ∀ l m, sumN f (l ++ m) = sumN f l + sumN f m
  | [], m => by simp [sumN]
  | y :: l, m => by simp only [List.cons_append, sumN, sumN_append f l m]; omega
theorem sumN_one (p : Int) : ∀ {ys : List Int}, ys.Nodup → sumN (fun y => if p = y then 2 else 0) ys ≤ 2
  | [], _ => by simp [sumN]
  | y :: ys, h => by
    obtain ⟨h1, h2⟩ := List.nodup_cons.1 h
    have ih := sumN_one p h2
    simp only [sumN]
    by_cases e : p = y
    · have : sumN (fun y => if p = y then 2 else 0) ys = 0 := by
        have : ∀ zs : List Int, p ∉ zs → sumN (fun y => if p = y then 2 else 0) zs = 0 := by
          intro zs
          induction zs with
          | nil => intro _; rfl
          | cons z zs ih =>
            intro hz
            simp only [sumN]
            rw [if_neg (fun e => hz (by simp [e])), ih (fun h => hz (by simp [h]))]
        exact this ys (by rw [e]; exact h1)
      rw [this, if_pos e]
      omega
    · rw [if_neg e]
      omega

theorem chgR_wt' {sa sb : Int} (h : sa.natAbs + sb.natAbs = 1) (y : Int) (r : R) : wt (chgR sa sb y r) ≤ (if r.y0 = y then 2 else 0) + (if r.y1 = y then 2 else 0) := by
  unfold chgR
  split
  · simp [wt]
  · split
    · simp only [wt, Int.natAbs_neg]; omega
    · split
      · simp only [wt, Int.natAbs_neg]; omega
      · simp [wt]

theorem chgL_sum {sa sb : Int} (h : sa.natAbs + sb.natAbs = 1) {ys : List Int} (hn : ys.Nodup) : ∀ l : List R, sumN (fun y => wt (chgL sa sb l y)) ys ≤ 4 * l.length
  | [] => by
    have e : sumN (fun y => wt (chgL sa sb [] y)) ys = 0 := (sumN_congr (g := fun _ => 0) (fun y => rfl) ys).trans (sumN_zero ys)
    omega
  | r :: l => by
    have ih := chgL_sum h hn l
    have e : ∀ y, wt (chgL sa sb (r :: l) y) = wt (chgR sa sb y r) + wt (chgL sa sb l y) := fun y => by
      rw [show chgL sa sb (r :: l) y = chgR sa sb y r ++ chgL sa sb l y by simp [chgL], wt_append]
    rw [sumN_congr e, sumN_add]
    have h1 := sumN_le (chgR_wt' h · r) ys
    rw [sumN_add] at h1
    have h2 := sumN_one r.y0 hn
    have h3 := sumN_one r.y1 hn
    simp only [List.length_cons]
    omega

theorem chgL_len {sa sb : Int} (h : sa.natAbs + sb.natAbs = 1) (y : Int) : ∀ l : List R, (chgL sa sb l y).length = wt (chgL sa sb l y)
  | [] => rfl
  | r :: l => by
    have e : chgL sa sb (r :: l) y = chgR sa sb y r ++ chgL sa sb l y := by simp [chgL]
    rw [e, wt_append, List.length_append, chgL_len h y l]
    unfold chgR
    split
    · simp [wt]
    · split
      · simp only [wt, Int.natAbs_neg, List.length_cons, List.length_nil]; omega
      · split
        · simp only [wt, Int.natAbs_neg, List.length_cons, List.length_nil]; omega
        · simp [wt]

def sumC (a b : List R) (ys : List Int) : Nat := sumN (fun y => wt (chg a b y)) ys

theorem sumC_le (a b : List R) {ys : List Int} (hn : ys.Nodup) : sumC a b ys ≤ 4 * (a.length + b.length) := by
  unfold sumC
  rw [sumN_congr (g := fun y => wt (chgL 1 0 a y) + wt (chgL 0 1 b y)) (fun y => by unfold chg; rw [wt_append]), sumN_add]
  have h1 := chgL_sum (sa := 1) (sb := 0) rfl hn a
  have h2 := chgL_sum (sa := 0) (sb := 1) rfl hn b
  omega

theorem chg_len (a b : List R) (y : Int) : (chg a b y).length = wt (chg a b y) := by
  unfold chg
  rw [wt_append, List.length_append, chgL_len rfl, chgL_len rfl]

def rowAt (zs : List Int) : Nat → Int
  | 0 => -20000
  | k + 1 => (zs[k]?).getD 0

theorem cov_out {l : List R} {x y : Int} (h : x < -16384 ∨ 16384 ≤ x ∨ y < -16384 ∨ 16384 ≤ y) : cov l x y = 0 := by
  have h0 := cov_nonneg l x y
  have h1 := cov_in l x y
  have h2 : inL l x y = false := by
    cases e : inL l x y
    · rfl
    · have := inL_inside l x y e
      omega
  rw [h2] at h1
  have h3 := of_decide_eq_false h1
  omega

structure Est (a b : List R) (zs : List Int) (j : Nat) (es : List E) : Prop where
  inc : Inc es
  cnt : ∀ x, cntLe E.a x es = cov a x (rowAt zs j) ∧ cntLe E.b x es = cov b x (rowAt zs j)
  wt : wt es ≤ sumC a b (zs.take j)
  len : es.length ≤ sumC a b (zs.take j)

theorem est_start (a b : List R) (zs : List Int) : Est a b zs 0 [] :=
  ⟨List.Pairwise.nil, fun x => by rw [show rowAt zs 0 = -20000 from rfl, cov_out (by omega), cov_out (by omega)]; exact ⟨rfl, rfl⟩, by simp [Go.Proofs.YthedglfocjljjaaGreatDoor.Rgn.wt], by simp⟩

theorem clear_at {a b : List R} {j : Nat} {y : Int} (h : (ysP a b)[j]? = some y) : rowAt (ysP a b) j < y ∧ Clear a (rowAt (ysP a b) j) y ∧ Clear b (rowAt (ysP a b) j) y := by
  have hp := ysP_inc a b
  have hp' := List.pairwise_iff_getElem.1 hp
  obtain ⟨hj, hy⟩ := List.getElem?_eq_some_iff.1 h
  have hyin : ∀ z ∈ ysP a b, -16384 ≤ z ∧ z ≤ 16384 := fun z hz => by
    rcases ysP_mem.1 hz with ⟨r, _, he, h⟩ | ⟨r, _, he, h⟩ <;> (have := (emp_no r).1 he; omega)
  have key : rowAt (ysP a b) j < y ∧ ∀ z ∈ ysP a b, z ≤ rowAt (ysP a b) j ∨ y ≤ z := by
    cases j with
    | zero =>
      refine ⟨by have := hyin y (List.mem_of_getElem? h); simp only [rowAt]; omega, fun z hz => .inr ?_⟩
      obtain ⟨i, hi, rfl⟩ := List.getElem_of_mem hz
      by_cases h0 : i = 0
      · subst h0; rw [← hy]; omega
      · have := hp' 0 i hj hi (by omega); rw [← hy]; omega
    | succ k =>
      have hk : k < (ysP a b).length := by omega
      have e : rowAt (ysP a b) (k + 1) = (ysP a b)[k] := by simp only [rowAt]; rw [List.getElem?_eq_getElem hk]; rfl
      rw [e]
      refine ⟨by rw [← hy]; exact hp' k (k + 1) hk hj (by omega), fun z hz => ?_⟩
      obtain ⟨i, hi, rfl⟩ := List.getElem_of_mem hz
      by_cases h0 : i ≤ k
      · by_cases h1 : i = k
        · subst h1; exact .inl (Int.le_refl _)
        · have := hp' i k hi hk (by omega); exact .inl (by omega)
      · by_cases h1 : i = k + 1
        · subst h1; rw [← hy]; exact .inr (Int.le_refl _)
        · have := hp' (k + 1) i hj hi (by omega); rw [← hy]; exact .inr (by omega)
  refine ⟨key.1, fun r hr he => ⟨key.2 _ (ysP_mem.2 (.inl ⟨r, hr, he, .inl rfl⟩)), key.2 _ (ysP_mem.2 (.inl ⟨r, hr, he, .inr rfl⟩))⟩, fun r hr he => ⟨key.2 _ (ysP_mem.2 (.inr ⟨r, hr, he, .inl rfl⟩)), key.2 _ (ysP_mem.2 (.inr ⟨r, hr, he, .inr rfl⟩))⟩⟩

theorem rowAt_next {zs : List Int} {j : Nat} {y : Int} (h : zs[j]? = some y) : rowAt zs (j + 1) = y := by simp only [rowAt]; rw [h]; rfl

theorem Est.next {a b : List R} {j : Nat} {es ch : List E} {y : Int} (h : Est a b (ysP a b) j es) (hy : (ysP a b)[j]? = some y) (hp : ch.Perm (chg a b y)) (hs : ch.Pairwise (fun p q => p.x ≤ q.x)) : Est a b (ysP a b) (j + 1) (addAll [] es ch) := by
  obtain ⟨h1, h2, h3, h4⟩ := addAll_sum h.inc hs
  obtain ⟨ht, ca, cb⟩ := clear_at hy
  have hwt := wt_perm hp
  have hlen := hp.length_eq
  have e : sumC a b ((ysP a b).take (j + 1)) = sumC a b ((ysP a b).take j) + Go.Proofs.YthedglfocjljjaaGreatDoor.Rgn.wt (chg a b y) := by
    rw [List.take_add_one, hy]
    unfold sumC
    rw [sumN_append]
    simp [sumN]
  refine ⟨h1, fun x => ?_, by rw [e]; have := h.wt; omega, by rw [e]; have := h.len; rw [chg_len] at hlen; omega⟩
  rw [rowAt_next hy]
  have hc := chg_cnt (a := a) (b := b) ht ca cb x
  rw [h2 E.a lin_a x, h2 E.b lin_b x, cntLe_perm hp, cntLe_perm hp, (h.cnt x).1, (h.cnt x).2]
  exact ⟨hc.1.symm, hc.2.symm⟩

theorem Est.runs {op : Op2} (h0 : op false false = false) {a b : List R} {zs : List Int} {j : Nat} {es : List E} (h : Est a b zs j es) : runsGo op es 0 0 none = rrP op a b (rowAt zs j) := by
  have h1 := runs_of_edges h0 h.inc (A := 16384) (fun x hx => by rw [(h.cnt x).1]; exact cov_out (by omega)) (fun x hx => by rw [(h.cnt x).2]; exact cov_out (by omega))
  refine runs_unique (f := fun x => setS op a b x (rowAt zs j)) (h1.congr fun x => ?_) (rrP_ok h0 a b _)
  unfold setS
  rw [(h.cnt x).1, (h.cnt x).2, cov_in, cov_in]

def restAt (op : Op2) (a b : List R) : Nat → List Band
  | 0 => stripsAt (rrP op a b) (ysP a b) 0
  | k + 1 => stripsAt (rrP op a b) (ysP a b) k

def stripsL (op : Op2) (a b : List R) : List Band := stripsAt (rrP op a b) (ysP a b) 0

theorem rest_next {op : Op2} (h0 : op false false = false) {a b : List R} {j : Nat} {y : Int} (hy : (ysP a b)[j]? = some y) :
    restAt op a b j = if rrP op a b (rowAt (ysP a b) j) = [] then restAt op a b (j + 1) else (rowAt (ysP a b) j, y, rrP op a b (rowAt (ysP a b) j)) :: restAt op a b (j + 1) := by
  cases j with
  | zero =>
    have e : rrP op a b (rowAt (ysP a b) 0) = [] := by
      refine runs_unique (rrP_ok h0 a b _) (runs_nil fun x => ?_)
      cases e : setS op a b x (rowAt (ysP a b) 0)
      · rfl
      · have := setS_inside h0 a b x _ e
        simp only [rowAt] at this
        omega
    rw [if_pos e]
    rfl
  | succ k =>
    have hk : k < (ysP a b).length := by have := (List.getElem?_eq_some_iff.1 hy).1; omega
    have ht : (ysP a b)[k]? = some (rowAt (ysP a b) (k + 1)) := by simp only [rowAt]; rw [List.getElem?_eq_getElem hk]; rfl
    exact stripsAt_next ht hy

theorem rest_end {op : Op2} {a b : List R} {j : Nat} (h : (ysP a b).length ≤ j) : restAt op a b j = [] := by
  cases j with
  | zero => exact stripsAt_last (by omega)
  | succ k => exact stripsAt_last h

theorem ys_len (a b : List R) : (ysP a b).length ≤ 2 * (a.length + b.length) := by
  unfold ysP
  have h1 := rowsP_len a []
  have h2 := rowsP_len b (rowsP a [])
  simp at h1
  omega

theorem ys_nodup (a b : List R) : (ysP a b).Nodup := (ysP_inc a b).imp (fun h e => by omega)

theorem Est.bound {a b : List R} {j : Nat} {es : List E} (h : Est a b (ysP a b) j es) : Go.Proofs.YthedglfocjljjaaGreatDoor.Rgn.wt es ≤ 4 * (a.length + b.length) ∧ es.length ≤ 4 * (a.length + b.length) := by
  have h1 := sumC_le a b (ys := (ysP a b).take j) ((ys_nodup a b).sublist (List.take_sublist _ _))
  exact ⟨Nat.le_trans h.wt h1, Nat.le_trans h.len h1⟩

end Go.Proofs.YthedglfocjljjaaGreatDoor.Rgn
namespace Go.Proofs.YthedglfocjljjaaGreatDoor.Rgn
open Go.Shelf

def LkeysA_ren : Go.Shelf.Ren := ⟨fun | 7 => 117 | 10 => 127 | n => n, fun | 23 => 114 | 26 => 3 | 3 => 116 | 28 => 119 | 0 => 0 | 27 => 118 | 33 => 60 | 4 => 4 | n => n, fun | n => n⟩

set_option maxRecDepth 100000 in
theorem LkeysA : Go.Proofs.SlLaysZI.n7 Tryz.prog LkeysA_ren := {
  mixed := by kernel_rfl,
  f7 := ⟨Tryz.f117.name, by decide, Tryz.func117.trans (congrArg some (by kernel_rfl))⟩,
  f10 := ⟨Tryz.f127.name, by decide, Tryz.func127.trans (congrArg some (by kernel_rfl))⟩,
  t0 := Tryz.underlying0,
  a0 := Tryz.isAgg0,
  z0 := Tryz.sizeOf0,
  v0 := Tryz.zeroValue0,
  t4 := Tryz.underlying4,
  a4 := Tryz.isAgg4,
  z4 := Tryz.sizeOf4,
  v4 := Tryz.zeroValue4,
  t23 := Tryz.underlying114,
  a23 := Tryz.isAgg114,
  z23 := Tryz.sizeOf114,
  v23 := Tryz.zeroValue114,
  t26 := Tryz.underlying3,
  a26 := Tryz.isAgg3,
  z26 := Tryz.sizeOf3,
  v26 := Tryz.zeroValue3,
  t27 := Tryz.underlying118,
  a27 := Tryz.isAgg118,
  z27 := Tryz.sizeOf118,
  v27 := Tryz.zeroValue118,
  t28 := Tryz.underlying119,
  a28 := Tryz.isAgg119,
  z28 := Tryz.sizeOf119,
  v28 := Tryz.zeroValue119,
  t33 := Tryz.underlying60,
  a33 := Tryz.isAgg60,
  z33 := Tryz.sizeOf60,
  v33 := Tryz.zeroValue60 }

def LsortedA_ren : Go.Shelf.Ren := ⟨fun | 6 => 116 | 8 => 125 | 9 => 126 | 11 => 134 | 13 => 136 | 12 => 135 | 23 => 149 | 24 => 150 | 14 => 140 | 15 => 141 | 16 => 142 | 17 => 143 | 18 => 144 | 19 => 145 | 20 => 146 | 21 => 147 | 22 => 148 | 25 => 160 | 26 => 161 | 27 => 162 | 28 => 163 | 29 => 164 | 30 => 138 | 31 => 168 | n => n, fun | 26 => 3 | 28 => 119 | 24 => 94 | 0 => 0 | 3 => 3 | 37 => 139 | 48 => 50 | 50 => 151 | 4 => 4 | 40 => 143 | 39 => 142 | 45 => 147 | 5 => 5 | 9 => 9 | 51 => 157 | 55 => 161 | 57 => 165 | 58 => 38 | 33 => 60 | n => n, fun | n => n⟩

set_option maxRecDepth 100000 in
theorem LsortedA : Go.Proofs.SlLaysZI.n6 Tryz.prog LsortedA_ren := {
  mixed := by kernel_rfl,
  f6 := ⟨Tryz.f116.name, by decide, Tryz.func116.trans (congrArg some (by kernel_rfl))⟩,
  f8 := ⟨Tryz.f125.name, by decide, Tryz.func125.trans (congrArg some (by kernel_rfl))⟩,
  f11 := ⟨Tryz.f134.name, by decide, Tryz.func134.trans (congrArg some (by kernel_rfl))⟩,
  t0 := Tryz.underlying0,
  a0 := Tryz.isAgg0,
  z0 := Tryz.sizeOf0,
  v0 := Tryz.zeroValue0,
  t24 := Tryz.underlying94,
  a24 := Tryz.isAgg94,
  z24 := Tryz.sizeOf94,
  v24 := Tryz.zeroValue94,
  t26 := Tryz.underlying3,
  a26 := Tryz.isAgg3,
  z26 := Tryz.sizeOf3,
  v26 := Tryz.zeroValue3,
  t28 := Tryz.underlying119,
  a28 := Tryz.isAgg119,
  z28 := Tryz.sizeOf119,
  v28 := Tryz.zeroValue119,
  i26 := by kernel_rfl }

def LsortA_ren : Go.Shelf.Ren := ⟨fun | 5 => 126 | 8 => 136 | 7 => 135 | 19 => 149 | 20 => 150 | 10 => 140 | 11 => 141 | 12 => 142 | 13 => 143 | 14 => 144 | 15 => 145 | 16 => 146 | 17 => 147 | 18 => 148 | 30 => 160 | 31 => 161 | 32 => 162 | 33 => 163 | 34 => 164 | 35 => 138 | 40 => 168 | n => n, fun | 23 => 94 | 25 => 3 | 3 => 3 | 32 => 139 | 22 => 94 | 0 => 0 | 44 => 50 | 46 => 151 | 4 => 4 | 36 => 143 | 35 => 142 | 41 => 147 | 5 => 5 | 9 => 9 | 53 => 157 | 57 => 161 | 63 => 165 | 64 => 38 | n => n, fun | n => n⟩

set_option maxRecDepth 100000 in
theorem LsortA : Go.Proofs.SlLaysM.n5 Tryz.prog LsortA_ren := {
  mixed := by kernel_rfl,
  f5 := ⟨Tryz.f126.name, by decide, Tryz.func126.trans (congrArg some (by kernel_rfl))⟩,
  f7 := ⟨Tryz.f135.name, by decide, Tryz.func135.trans (congrArg some (by kernel_rfl))⟩,
  f8 := Tryz.func136.trans (congrArg some (by kernel_rfl)),
  f10 := ⟨Tryz.f140.name, by decide, Tryz.func140.trans (congrArg some (by kernel_rfl))⟩,
  f11 := ⟨Tryz.f141.name, by decide, Tryz.func141.trans (congrArg some (by kernel_rfl))⟩,
  f12 := ⟨Tryz.f142.name, by decide, Tryz.func142.trans (congrArg some (by kernel_rfl))⟩,
  f13 := ⟨Tryz.f143.name, by decide, Tryz.func143.trans (congrArg some (by kernel_rfl))⟩,
  f14 := ⟨Tryz.f144.name, by decide, Tryz.func144.trans (congrArg some (by kernel_rfl))⟩,
  f15 := ⟨Tryz.f145.name, by decide, Tryz.func145.trans (congrArg some (by kernel_rfl))⟩,
  f16 := ⟨Tryz.f146.name, by decide, Tryz.func146.trans (congrArg some (by kernel_rfl))⟩,
  f17 := ⟨Tryz.f147.name, by decide, Tryz.func147.trans (congrArg some (by kernel_rfl))⟩,
  f18 := ⟨Tryz.f148.name, by decide, Tryz.func148.trans (congrArg some (by kernel_rfl))⟩,
  f19 := Tryz.func149.trans (congrArg some (by kernel_rfl)),
  f20 := Tryz.func150.trans (congrArg some (by kernel_rfl)),
  f30 := ⟨Tryz.f160.name, by decide, Tryz.func160.trans (congrArg some (by kernel_rfl))⟩,
  f31 := Tryz.func161.trans (congrArg some (by kernel_rfl)),
  f32 := Tryz.func162.trans (congrArg some (by kernel_rfl)),
  f33 := ⟨Tryz.f163.name, by decide, Tryz.func163.trans (congrArg some (by kernel_rfl))⟩,
  f34 := ⟨Tryz.f164.name, by decide, Tryz.func164.trans (congrArg some (by kernel_rfl))⟩,
  f35 := ⟨Tryz.f138.name, by decide, Tryz.func138.trans (congrArg some (by kernel_rfl))⟩,
  f40 := ⟨Tryz.f168.name, by decide, Tryz.func168.trans (congrArg some (by kernel_rfl))⟩,
  t0 := Tryz.underlying0,
  a0 := Tryz.isAgg0,
  z0 := Tryz.sizeOf0,
  v0 := Tryz.zeroValue0,
  t3 := Tryz.underlying3,
  a3 := Tryz.isAgg3,
  z3 := Tryz.sizeOf3,
  v3 := Tryz.zeroValue3,
  t4 := Tryz.underlying4,
  a4 := Tryz.isAgg4,
  z4 := Tryz.sizeOf4,
  v4 := Tryz.zeroValue4,
  t5 := Tryz.underlying5,
  a5 := Tryz.isAgg5,
  z5 := Tryz.sizeOf5,
  v5 := Tryz.zeroValue5,
  t9 := Tryz.underlying9,
  a9 := Tryz.isAgg9,
  z9 := Tryz.sizeOf9,
  v9 := Tryz.zeroValue9,
  t22 := Tryz.underlying94,
  a22 := Tryz.isAgg94,
  z22 := Tryz.sizeOf94,
  v22 := Tryz.zeroValue94,
  t23 := Tryz.underlying94,
  a23 := Tryz.isAgg94,
  z23 := Tryz.sizeOf94,
  v23 := Tryz.zeroValue94,
  t25 := Tryz.underlying3,
  a25 := Tryz.isAgg3,
  z25 := Tryz.sizeOf3,
  v25 := Tryz.zeroValue3,
  t32 := Tryz.underlying139,
  a32 := Tryz.isAgg139,
  z32 := Tryz.sizeOf139,
  v32 := Tryz.zeroValue139,
  t35 := Tryz.underlying142,
  a35 := Tryz.isAgg142,
  z35 := Tryz.sizeOf142,
  v35 := Tryz.zeroValue142,
  t36 := Tryz.underlying143,
  a36 := Tryz.isAgg143,
  z36 := Tryz.sizeOf143,
  v36 := Tryz.zeroValue143,
  t41 := Tryz.underlying147,
  a41 := Tryz.isAgg147,
  z41 := Tryz.sizeOf147,
  v41 := Tryz.zeroValue147,
  t44 := Tryz.underlying50,
  a44 := Tryz.isAgg50,
  z44 := Tryz.sizeOf50,
  v44 := Tryz.zeroValue50,
  t46 := Tryz.underlying151,
  a46 := Tryz.isAgg151,
  z46 := Tryz.sizeOf151,
  v46 := Tryz.zeroValue151,
  t53 := Tryz.underlying157,
  a53 := Tryz.isAgg157,
  z53 := Tryz.sizeOf157,
  v53 := Tryz.zeroValue157,
  t57 := Tryz.underlying161,
  a57 := Tryz.isAgg161,
  z57 := Tryz.sizeOf161,
  v57 := Tryz.zeroValue161,
  t63 := Tryz.underlying165,
  a63 := Tryz.isAgg165,
  z63 := Tryz.sizeOf165,
  v63 := Tryz.zeroValue165,
  t64 := Tryz.underlying38,
  a64 := Tryz.isAgg38,
  z64 := Tryz.sizeOf38,
  v64 := Tryz.zeroValue38 }

def LsortE_ren : Go.Shelf.Ren := ⟨fun | 6 => 129 | 15 => 136 | 14 => 137 | 28 => 149 | 29 => 150 | 20 => 151 | 21 => 152 | 22 => 153 | 23 => 154 | 24 => 155 | 25 => 156 | 26 => 157 | 27 => 158 | 46 => 165 | 47 => 161 | 48 => 162 | 49 => 166 | 50 => 167 | 57 => 169 | n => n, fun | 22 => 116 | 24 => 129 | 25 => 134 | 3 => 3 | 39 => 139 | 0 => 0 | 53 => 50 | 55 => 151 | 4 => 4 | 46 => 143 | 45 => 142 | 50 => 147 | 5 => 5 | 9 => 9 | 66 => 157 | 70 => 161 | 76 => 165 | 77 => 38 | n => n, fun | n => n⟩

set_option maxRecDepth 100000 in
theorem LsortE : Go.Proofs.SlLaysF0.n6 Tryz.prog LsortE_ren := {
  mixed := by kernel_rfl,
  f6 := ⟨Tryz.f129.name, by decide, Tryz.func129.trans (congrArg some (by kernel_rfl))⟩,
  f14 := ⟨Tryz.f137.name, by decide, Tryz.func137.trans (congrArg some (by kernel_rfl))⟩,
  f15 := Tryz.func136.trans (congrArg some (by kernel_rfl)),
  f20 := ⟨Tryz.f151.name, by decide, Tryz.func151.trans (congrArg some (by kernel_rfl))⟩,
  f21 := ⟨Tryz.f152.name, by decide, Tryz.func152.trans (congrArg some (by kernel_rfl))⟩,
  f22 := ⟨Tryz.f153.name, by decide, Tryz.func153.trans (congrArg some (by kernel_rfl))⟩,
  f23 := ⟨Tryz.f154.name, by decide, Tryz.func154.trans (congrArg some (by kernel_rfl))⟩,
  f24 := ⟨Tryz.f155.name, by decide, Tryz.func155.trans (congrArg some (by kernel_rfl))⟩,
  f25 := ⟨Tryz.f156.name, by decide, Tryz.func156.trans (congrArg some (by kernel_rfl))⟩,
  f26 := ⟨Tryz.f157.name, by decide, Tryz.func157.trans (congrArg some (by kernel_rfl))⟩,
  f27 := ⟨Tryz.f158.name, by decide, Tryz.func158.trans (congrArg some (by kernel_rfl))⟩,
  f28 := Tryz.func149.trans (congrArg some (by kernel_rfl)),
  f29 := Tryz.func150.trans (congrArg some (by kernel_rfl)),
  f46 := ⟨Tryz.f165.name, by decide, Tryz.func165.trans (congrArg some (by kernel_rfl))⟩,
  f47 := Tryz.func161.trans (congrArg some (by kernel_rfl)),
  f48 := Tryz.func162.trans (congrArg some (by kernel_rfl)),
  f49 := ⟨Tryz.f166.name, by decide, Tryz.func166.trans (congrArg some (by kernel_rfl))⟩,
  f50 := ⟨Tryz.f167.name, by decide, Tryz.func167.trans (congrArg some (by kernel_rfl))⟩,
  f57 := ⟨Tryz.f169.name, by decide, Tryz.func169.trans (congrArg some (by kernel_rfl))⟩,
  t0 := Tryz.underlying0,
  a0 := Tryz.isAgg0,
  z0 := Tryz.sizeOf0,
  v0 := Tryz.zeroValue0,
  t3 := Tryz.underlying3,
  a3 := Tryz.isAgg3,
  z3 := Tryz.sizeOf3,
  v3 := Tryz.zeroValue3,
  t4 := Tryz.underlying4,
  a4 := Tryz.isAgg4,
  z4 := Tryz.sizeOf4,
  v4 := Tryz.zeroValue4,
  t5 := Tryz.underlying5,
  a5 := Tryz.isAgg5,
  z5 := Tryz.sizeOf5,
  v5 := Tryz.zeroValue5,
  t9 := Tryz.underlying9,
  a9 := Tryz.isAgg9,
  z9 := Tryz.sizeOf9,
  v9 := Tryz.zeroValue9,
  t22 := Tryz.underlying116,
  a22 := Tryz.isAgg116,
  z22 := Tryz.sizeOf116,
  v22 := Tryz.zeroValue116,
  t25 := Tryz.underlying134,
  a25 := Tryz.isAgg134,
  z25 := Tryz.sizeOf134,
  v25 := Tryz.zeroValue134,
  t39 := Tryz.underlying139,
  a39 := Tryz.isAgg139,
  z39 := Tryz.sizeOf139,
  v39 := Tryz.zeroValue139,
  t45 := Tryz.underlying142,
  a45 := Tryz.isAgg142,
  z45 := Tryz.sizeOf142,
  v45 := Tryz.zeroValue142,
  t46 := Tryz.underlying143,
  a46 := Tryz.isAgg143,
  z46 := Tryz.sizeOf143,
  v46 := Tryz.zeroValue143,
  t50 := Tryz.underlying147,
  a50 := Tryz.isAgg147,
  z50 := Tryz.sizeOf147,
  v50 := Tryz.zeroValue147,
  t53 := Tryz.underlying50,
  a53 := Tryz.isAgg50,
  z53 := Tryz.sizeOf50,
  v53 := Tryz.zeroValue50,
  t55 := Tryz.underlying151,
  a55 := Tryz.isAgg151,
  z55 := Tryz.sizeOf151,
  v55 := Tryz.zeroValue151,
  t66 := Tryz.underlying157,
  a66 := Tryz.isAgg157,
  z66 := Tryz.sizeOf157,
  v66 := Tryz.zeroValue157,
  t70 := Tryz.underlying161,
  a70 := Tryz.isAgg161,
  z70 := Tryz.sizeOf161,
  v70 := Tryz.zeroValue161,
  t76 := Tryz.underlying165,
  a76 := Tryz.isAgg165,
  z76 := Tryz.sizeOf165,
  v76 := Tryz.zeroValue165,
  t77 := Tryz.underlying38,
  a77 := Tryz.isAgg38,
  z77 := Tryz.sizeOf38,
  v77 := Tryz.zeroValue38 }

end Go.Proofs.YthedglfocjljjaaGreatDoor.Rgn
namespace Go.Proofs.YthedglfocjljjaaGreatDoor.Rgn
open Go.RowKit Go.Maps Go.Shelf
open Go.ChangeMaps Go.MapKept
open Go.WideElems (Fit rd rg pl rd_val rd_key)

def RowAtKey (b : Nat) (h : Option Obj) (y : Int) (v : Value) : Prop := ∀ W : World, W.heap[b]? = h → (Instr.lookup 114 (.map (some b)) (.int .i64 y) false).run Tryz.prog W = .ok v W

set_option maxRecDepth 100000 in
theorem grp_pick {w : World} {base b n : Nat} {D : DE} (h : GrpE w base b n D) (hmax : n < maxLen) {f : Int → List E} {ks : Int → Prop} (hc : Cont D f ks) :
    ∃ V : Int → Value, (∀ y, (Lit.int .i64 y).wf = true → RowAtKey b w.heap[b]? y (V y) ∧ OwnE w base (V y) (f y)) ∧
      ∀ y z, (Lit.int .i64 y).wf = true → (Lit.int .i64 z).wf = true → y ≠ z → ∀ k, blk (V y) k → ¬ blk (V z) k := by
  obtain ⟨es, clock, hb, F, hn, hD, hbb, hap⟩ := id h
  have hz : ∀ W, (zeroValue 116).run Tryz.prog W = .ok (.slice none 0 0) W := fun W => by kernel_rfl
  have ex : ∀ y, ∃ v, (Lit.int .i64 y).wf = true → (RowAtKey b w.heap[b]? y v ∧ OwnE w base v (f y)) ∧ (v = .slice none 0 0 ∨ ∃ e ∈ es.toList, e.key = .int .i64 y ∧ e.val = v) := fun y => by
    by_cases hy : (Lit.int .i64 y).wf = true
    · obtain ⟨v, l, hlk, hat, hov, _⟩ := h.at hmax hy
      have hl : l = f y := by have h2 := (hc.row y).symm.trans hat; injection h2 with h2; exact h2.symm
      subst hl
      refine ⟨v, fun _ => ⟨⟨hlk, hov⟩, ?_⟩⟩
      have hkey : keyOf Tryz.prog 3 (.int .i64 y) = some (.int .i64 y) := keyOf_int_mk Tryz.underlying3 hy
      have h1 := hlk w rfl
      rcases Maps.fit_look (w := w) false key3 Tryz.underlying114 (hz w) hb F hkey with ⟨hrun, _, _⟩ | ⟨e0, z, hm0, h3, hrun, _⟩
      · rw [hrun] at h1
        cases h1
        exact .inl rfl
      · rw [hrun] at h1
        cases h1
        exact .inr ⟨e0, hm0, h3, rfl⟩
    · exact ⟨.slice none 0 0, fun h => absurd h hy⟩
  obtain ⟨V, hV⟩ := Classical.axiomOfChoice ex
  refine ⟨V, fun y hy => (hV y hy).1, fun y z hy hz' hne k hk hk' => ?_⟩
  rcases (hV y hy).2 with h1 | ⟨e, he, he1, he2⟩
  · rw [h1] at hk
    simp [blk, Value.ownBlock] at hk
  · rcases (hV z hz').2 with h1 | ⟨e', he', he1', he2'⟩
    · rw [h1] at hk'
      simp [blk, Value.ownBlock] at hk'
    · rw [← he2] at hk
      rw [← he2'] at hk'
      exact hap e he e' he' (by rw [he1, he1']; intro h; injection h with _ h; exact hne h) k hk hk'

set_option maxRecDepth 100000 in
theorem sortsA (m : Nat) : AnyZI.SortsIn Tryz.prog LsortedA_ren Fence.wide m :=
  ⟨fun blk off cap ss W hH hblk hsz => callsIn_wide.2 (AnyM.slices_Sort_int LsortA blk off cap ss W hH hblk hsz),
   fun p cap W => callsIn_wide.2 (AnyM.slices_Sort_int_none LsortA p cap W)⟩

set_option maxRecDepth 100000 in
theorem keys_calls (mb : Option Nat) (w : World) : Calls Tryz.prog 117 #[.map mb] w fun e w' => e = .returned (.func (.func 127) #[] #[.pointer (some ⟨w.heap.size, 0, none⟩)]) ∧ w' = w.alloc (.cells #[.map mb] 114) :=
  callsIn_wide.1 (AnyZI.keys_in LkeysA Fence.wide 5 trivial rfl mb w)

set_option maxRecDepth 100000 in
theorem sorted_calls {w : World} {base b n : Nat} {D : DE} (h : GrpE w base b n D) {f : Int → List E} {ks : Int → Prop} (hc : Cont D f ks) {ys : List Int} (hys : ys.Pairwise (· < ·)) (hk : ∀ z, ks z ↔ z ∈ ys) (hl : ys.length ≤ 100000) :
    Calls Tryz.prog 116 #[.func (.func 127) #[] #[.pointer (some ⟨w.heap.size, 0, none⟩)]] (w.alloc (.cells #[.map (some b)] 114)) fun e w' => ∃ v, e = .returned v ∧ OwnI w' (w.heap.size + 1) v ys ∧ Below (w.heap.size + 1) (w.alloc (.cells #[.map (some b)] 114)) w' := by
  have hown := h.owns
  have hbl := hown.lt
  have hsz : Maps.size D = ys.length := by
    obtain ⟨es, hD, _⟩ := hown.entries key3
    have h1 : Maps.size D = (intKeys D).length := by rw [hD]; simp [Maps.size, intKeys]
    have h2 := keys_sorted h hc (List.Perm.refl _) hys hk
    rw [h1, ← h2, List.length_mergeSort]
  have hseq : SeqGives Fence.wide 2 Tryz.prog 127 #[.pointer (some ⟨w.heap.size, 0, none⟩)] encZ (fun ss => ss.Perm (intKeys D)) (Maps.size D) (w.alloc (.cells #[.map (some b)] 114)) :=
    AnyZI.keys_gives (ρ := LkeysA_ren) { LkeysA with } Fence.wide _ trivial rfl (by omega) w.heap.size b n D _ (by simp) (by simp) (by
      obtain ⟨es, clock, hb, Ft, hs, hD⟩ := hown
      exact ⟨es, clock, (Below.heap_alloc _ _ b hbl).trans hb, Ft, hs, hD⟩)
  have cS := AnyZI.sorted_in LsortedA Fence.wide 5 trivial trivial trivial trivial rfl (by omega) (sortsA _) (enters_of Tryz.func126 (by kernel_rfl) rfl) 127 #[.pointer (some ⟨w.heap.size, 0, none⟩)] trivial (enters_of Tryz.func127 (by kernel_rfl) rfl) _ _ (by rw [hsz]; simp only [maxLen]; omega) (by rw [hsz]; omega) _ hseq
  change CallsIn _ _ Tryz.prog 116 _ _ _ at cS
  refine (callsIn_wide.1 cS).mono ?_
  rintro e w' ⟨v, ss, rfl, hS, hrow, _, hb⟩
  have h2 := keys_sorted h hc hS hys hk
  have hrow' : OwnI w' (w.heap.size + 1) v ys := by
    unfold OwnI
    rw [← h2, List.length_mergeSort]
    rw [World.size_alloc] at hrow
    exact hrow
  rw [World.size_alloc] at hb
  exact ⟨v, rfl, hrow', hb⟩

end Go.Proofs.YthedglfocjljjaaGreatDoor.Rgn
namespace Go.Proofs.YthedglfocjljjaaGreatDoor.Rgn
open Go.RowKit

def AbX (J : (Nat → Prop) → List Band → World → Prop) : Prop :=
  ∀ X X' pre U V, J X pre U → GrownIn X U V → (∀ k, X' k → X k ∨ U.heap.size ≤ k) → J X' pre V

def SeqX (n : Nat) (g : Nat) (lb : Array Value) (L : List Band) (X0 : Nat → Prop) (w : World) : Prop :=
  ∀ (l : Nat) (J : (Nat → Prop) → List Band → World → Prop) (Jx : List Band → World → Prop) (W : World), Below w.heap.size w W → AbX J →
    (∀ X pre b v U, J X pre U → pre ++ [b] <+: L → Rs U v (bandR b) → (∀ k, blk v k → X k) → (∀ k, X k → k < U.heap.size) → YieldAt Fence.wide (n - 1) Tryz.prog l #[v] U fun e U' =>
      (e = .returned (.bool true) ∧ J X (pre ++ [b]) U' ∧ GrownIn (fun k => ¬ X k) U U') ∨ (e = .returned (.bool false) ∧ Jx (pre ++ [b]) U')) →
    J X0 [] W →
    CallsIn Fence.wide n Tryz.prog g (#[.func (.yield l) #[] #[]] ++ lb) W fun e W' => (∃ v, e = .returned v) ∧ ((∃ X, J X L W') ∨ (∃ pre, pre <+: L ∧ Jx pre W'))

def postX (B : Nat) (X : Nat → Prop) (I : (Nat → Prop) → List Band → World → Prop) (Ix : List Band → World → Prop) (pre : List Band) (W : World) : Exit → Act → World → Prop
  | .normal, _, W' => KeepsFrom B W W' ∧ GrownIn (fun k => ¬ X k) W W' ∧ I X pre W'
  | .ret, _, W' => KeepsFrom B W W' ∧ Ix pre W'
  | _, _, _ => False

def Own' (B : Nat) (U : World) (k : Nat) : Prop := B ≤ k ∧ ∃ o : Obj, U.heap[k]? = some o ∧ o.isCells = false

theorem grown_put_obj {B l : Nat} {U : World} {o : Obj} (o' : Obj) (hB : B ≤ l) (h : U.heap[l]? = some o) (hc : o.isCells = false) : GrownIn (Own' B U) U (U.putObj l o') :=
  (GrownIn.of_grown (grownBy_putObj' U l o')).mono (fun k _ e => by cases e; exact ⟨hB, o, h, hc⟩)

set_option maxRecDepth 100000 in
set_option maxHeartbeats 1000000 in
theorem wpIn_rangeX {n : Nat} {g : Operand} {ps : Array Tmp} {assign body : Code} {Q : Exit → Act → World → Prop} {a : Act} {w : World} (h1 : 1 ≤ n) {gf : Nat} {lb : Array Value} (hg : a.eval g = .func (.func gf) #[] lb)
    (eg : ∀ args w, (callFunc gf args).run Tryz.prog w = .ok (.enter gf args) w) {L : List Band} {X0 : Nat → Prop} {w0 : World} (hseq : SeqX (n - 1) gf lb L X0 w0) (hb0 : Below w0.heap.size w0 w) (hps : ps.size = 1) (hX0 : ∀ k, X0 k → k < w.heap.size)
    (I : (Nat → Prop) → List Band → World → Prop) (Ix : List Band → World → Prop)
    (hI : ∀ X X' pre U V, I X pre U → GrownIn (fun k => X k ∨ Own' w.heap.size U k) U V → (∀ k, X' k → X k ∨ U.heap.size ≤ k) → I X' pre V)
    (hIx : ∀ pre U V, Ix pre U → GrownIn (Own' w.heap.size U) U V → Ix pre V) (h0 : I X0 [] w) (a₁ : Value → Act)
    (hassign : ∀ (l : Nat) (v : Value) (W : World) (K : Act → World → Prop), K (a₁ v) W →
      assign.wpIn (Fence.wide.inRound l) (n - 1 - 1) Tryz.prog (Exit.then K (fun _ _ _ => False)) { tmps := (ps.zip #[v]).foldl (fun t (p, v) => t.setIfInBounds p v) a.tmps, defers := [] } W)
    (hbody : ∀ (l : Nat) (X : Nat → Prop) (pre : List Band) (b : Band) (v : Value) (W : World), I X pre W → pre ++ [b] <+: L → Rs W v (bandR b) → (∀ k, blk v k → X k) → (∀ k, X k → k < W.heap.size) → body.wpIn (Fence.wide.inRound l) (n - 1 - 1) Tryz.prog (postX w.heap.size X I Ix (pre ++ [b]) W) (a₁ v) W)
    (hdone : ∀ (D : Nat) (X : Nat → Prop) (W : World), w.heap.size ≤ D → I X L W → W.heap[D]? = some (.deferred (some [])) → Q .normal { a with defers := { target := .collected D, args := #[] } :: a.defers } W)
    (hstop : ∀ (D : Nat) (pre : List Band) (W : World), w.heap.size ≤ D → pre <+: L → Ix pre W → W.heap[D]? = some (.deferred (some [])) → Code.ret.wpIn Fence.wide n Tryz.prog Q { a with defers := { target := .collected D, args := #[] } :: a.defers } W) :
    (Code.rangeFunc g ps assign body).wpIn Fence.wide n Tryz.prog Q a w := by
  refine wpIn_rangeFunc fun fn hfn => ?_
  obtain ⟨d, hd⟩ : ∃ d, w.heap.size = d := ⟨_, rfl⟩
  let rc : LoopState → Option Code → Loop := fun st pe => { state := st, pending := pe, fn, tmps := a.tmps, params := ps, assign, body, defers := d }
  obtain ⟨V, hV⟩ : ∃ V, (w.alloc (.deferred (some []))).alloc (.loop (rc .ready none)) = V := ⟨_, rfl⟩
  have gV : GrownIn (fun _ => False) w V := by rw [← hV]; exact ((GrownIn.refl _ w).alloc _).alloc _
  have hVl : V.heap[d + 1]? = some (.loop (rc .ready none)) := by
    rw [← hV, ← hd]
    have := World.alloc_heap_new (w.alloc (.deferred (some []))) (.loop (rc .ready none))
    rwa [World.size_alloc] at this
  have hVd : V.heap[d]? = some (.deferred (some [])) := by
    rw [← hV, ← hd]
    exact (Below.heap_alloc _ _ _ (by simp)).trans (World.alloc_heap_new w _)
  have hIV : I X0 [] V := hI X0 X0 [] w V h0 (gV.mono (fun _ _ h => h.elim)) (fun k h => .inl h)
  refine ⟨d + 1, [{ target := .collected d, args := #[] }], V, { target := .fn (.func gf) lb, args := #[.func (.yield (d + 1)) #[] #[]] }, V, gf, #[.func (.yield (d + 1)) #[] #[]] ++ lb, V, ?_, ?_, ?_, ?_, fun _ => h1, ?_⟩
  · rw [← hV, ← hd]
    have h := run_enterLoop_outer (P := Tryz.prog) (w := w) fn a.tmps ps assign body
    simpa [rc, hd] using h
  · simp only [resolve, hg]
    simp [go_sem]
  · intro f' _
    trivial
  · simp [invoke, go_sem, eg]
  · -- the record and the block for deferred calls are none of the iterator's
    refine (hseq (d + 1)
      (fun X pre U => I X pre U ∧ U.heap[d + 1]? = some (.loop (rc .ready none)) ∧ U.heap[d]? = some (.deferred (some [])) ∧ ¬ X d ∧ ¬ X (d + 1))
      (fun pre U => Ix pre U ∧ U.heap[d + 1]? = some (.loop (rc .done (some .ret))) ∧ U.heap[d]? = some (.deferred (some []))) V
      (hb0.trans ((gV.below (Nat.le_refl _) (fun _ h => h.elim)).mono hb0.size)) ?_ ?_ ⟨hIV, hVl, hVd, fun h => by have := hX0 _ h; omega, fun h => by have := hX0 _ h; omega⟩).mono ?_
    · rintro X X' pre U U' ⟨hi, hl, hk, n0, n1⟩ hg' hX
      have l1 := (Array.getElem?_eq_some_iff.1 hl).1
      exact ⟨hI X X' pre U U' hi (hg'.mono (fun k _ h => .inl h)) hX, (hg'.block _ l1 n1).trans hl, (hg'.block _ (by omega) n0).trans hk, fun h => by rcases hX _ h with h | h; exact n0 h; omega, fun h => by rcases hX _ h with h | h; exact n1 h; omega⟩
    · rintro X pre b v U ⟨hi, hl, hk, n0, n1⟩ hpre hrs hvX hXU
      have l1 := (Array.getElem?_eq_some_iff.1 hl).1
      have hy := run_yield (P := Tryz.prog) (args := #[v]) hl (by simp only [rc, hps]; rfl)
      refine ⟨fn, _, assign, body, hy, roundIn_of_wpIn hfn (hassign _ v U _ ⟨_, run_beginRound hl rfl, ?_⟩)⟩
      have gb := grown_put_obj (B := d) (.loop { rc .ready none with state := .busy }) (by omega) hl rfl
      have hl2 : (U.putObj (d + 1) (.loop { rc .ready none with state := .busy })).heap[d + 1]? = some (.loop { rc .ready none with state := .busy }) := World.putObj_heap_same l1
      have hk2 : (U.putObj (d + 1) (.loop { rc .ready none with state := .busy })).heap[d]? = some (.deferred (some [])) := (World.putObj_heap_other (by omega)).trans hk
      have gx : GrownIn (fun k => ¬ X k) U (U.putObj (d + 1) (.loop { rc .ready none with state := .busy })) := (GrownIn.of_grown (grownBy_putObj' U (d + 1) _)).mono (fun k _ e => by cases e; exact n1)
      refine wpIn_mono (hbody _ X pre b v _ (hI X X pre _ _ hi (gb.mono (fun k _ h => by rw [hd]; exact .inr h)) (fun k h => .inl h)) hpre (gx.rs hrs (fun k h h' => h' (hvX k h))) hvX (fun k h => Nat.lt_of_lt_of_le (hXU k h) gx.size)) ?_
      rintro e a3 W3 hp
      cases e with
      | normal =>
        obtain ⟨hk3, hg3, hi3⟩ := hp
        have hl3 := hk3.same _ _ (by omega) hl2 rfl
        have hd3 := hk3.same _ _ (by omega) hk2 rfl
        have l3 := (Array.getElem?_eq_some_iff.1 hl3).1
        have gb3 := grown_put_obj (B := d) (.loop (rc .ready none)) (by omega) hl3 rfl
        refine ⟨_, _, run_endRound none hl3, .inl ⟨rfl, ⟨hI X X _ _ _ hi3 (gb3.mono (fun k _ h => by rw [hd]; exact .inr h)) (fun k h => .inl h), World.putObj_heap_same l3, (World.putObj_heap_other (by omega)).trans hd3, n0, n1⟩, ?_⟩⟩
        exact (gx.trans hg3).trans ((GrownIn.of_grown (grownBy_putObj' W3 (d + 1) _)).mono (fun k _ e => by cases e; exact n1))
      | ret =>
        obtain ⟨hk3, hi3⟩ := hp
        have hl3 := hk3.same _ _ (by omega) hl2 rfl
        have hd3 := hk3.same _ _ (by omega) hk2 rfl
        have l3 := (Array.getElem?_eq_some_iff.1 hl3).1
        have gb3 := grown_put_obj (B := d) (.loop (rc .done (some .ret))) (by omega) hl3 rfl
        exact ⟨_, _, run_endRound (some .ret) hl3, .inr ⟨rfl, hIx _ _ _ hi3 (by rw [hd]; exact gb3), World.putObj_heap_same l3, (World.putObj_heap_other (by omega)).trans hd3⟩⟩
      | exit id => exact hp.elim
      | goto t => exact hp.elim
      | panic ch => exact hp.elim
      | outgrown => exact hp.elim
    · rintro e W2 ⟨⟨v, rfl⟩, (⟨X, hi, hl, hk, _, _⟩ | ⟨pre, hpre, hi, hl, hk⟩)⟩
      · exact ⟨none, _, run_endLoop hl (by simp [rc]), hdone d X _ (by omega) (hI X X _ _ _ hi ((grown_put_obj (B := d) _ (by omega) hl rfl).mono (fun k _ h => by rw [hd]; exact .inr h)) (fun k h => .inl h)) ((World.putObj_heap_other (by omega)).trans hk)⟩
      · exact ⟨some .ret, _, run_endLoop hl (by simp [rc]), hstop d pre _ (by omega) hpre (hIx _ _ _ hi (by rw [hd]; exact grown_put_obj (B := d) _ (by omega) hl rfl)) ((World.putObj_heap_other (by omega)).trans hk)⟩

end Go.Proofs.YthedglfocjljjaaGreatDoor.Rgn
