/-
  Sizes, regions and contents of small states: what the law StateSizes asks.
-/
import Derived.Test.YthedglfocjljjaaGreatDoorSct
import Derived.Test.YthedglfocjljjaaGreatDoorSmt
import Derived.Test.YthedglfocjljjaaGreatDoorRcl
import Derived.Test.YthedglfocjljjaaGreatDoorRoi
namespace Go.Proofs.YthedglfocjljjaaGreatDoor.Rgn

theorem setS_nil (l : List R) (x y : Int) : setS orB l [] x y = inL l x y := by simp [setS, inL]
theorem comb_fix {S : Int → Int → Bool} {l : List R} (h : Region S l) (hi : Inside S) : combP orB l [] = l :=
  region_unique ((combP_ok (op := orB) rfl l []).congr fun x y => by rw [setS_nil, region_in h hi]) h
theorem region_nil {S : Int → Int → Bool} (h : ∀ x y, S x y = false) : Region S [] := ⟨[], rfl, ⟨0, trivial⟩, fun y => runs_nil fun x => h x y⟩
theorem comb_none {op : Op2} (h0 : op false false = false) {a b : List R} (h : ∀ x y, setS op a b x y = false) : combP op a b = [] :=
  region_unique (combP_ok h0 a b) (region_nil h)
/-- a rectangle that is not empty is a canonical region -/
theorem region_one {p q : Int} (hp : 1 ≤ p ∧ p ≤ 256) (hq : 1 ≤ q ∧ q ≤ 256) : Region (inL [⟨0, 0, p, q⟩]) [⟨0, 0, p, q⟩] := by
  refine ⟨[(0, q, [(0, p)])], rfl, ⟨0, by show (0 : Int) ≤ 0; omega, fun _ => by simp, by simp, by show (0 : Int) < q; omega, trivial⟩, fun y => ?_⟩
  have hv : val ([] : Runs) [(0, q, [(0, p)])] y = if 0 ≤ y ∧ y < q then [(0, p)] else [] := rfl
  rw [hv]
  by_cases hy : 0 ≤ y ∧ y < q
  · rw [if_pos hy]
    refine ⟨⟨-1, by show (-1 : Int) ≤ 0; omega, fun e => by simp at e, by simp, by show (0 : Int) < p; omega, trivial⟩, fun x => ?_⟩
    have e : val false (withT [(0, p)]) x = if 0 ≤ x ∧ x < p then true else false := rfl
    rw [e]
    have hv2 : vldB ⟨0, 0, p, q⟩ = true := by simp [vldB, okC]; omega
    by_cases hx : 0 ≤ x ∧ x < p
    · rw [if_pos hx]
      simp [inL, conB, hv2, hx, hy]
    · rw [if_neg hx]
      have : (decide (0 ≤ x) && decide (x < p)) = false := by
        simp only [Bool.and_eq_false_iff, decide_eq_false_iff_not]
        omega
      simp only [inL, List.any_cons, List.any_nil, Bool.or_false, conB, hv2, Bool.true_and]
      rw [this]
      rfl
  · rw [if_neg hy]
    refine runs_nil fun x => ?_
    have : (decide (0 ≤ y) && decide (y < q)) = false := by
      simp only [Bool.and_eq_false_iff, decide_eq_false_iff_not]
      omega
    simp only [inL, List.any_cons, List.any_nil, Bool.or_false, conB]
    rw [Bool.and_assoc, this, Bool.and_false]
theorem inL_empty {p q : Int} (h : p ≤ 0 ∨ q ≤ 0) (x y : Int) : inL [⟨0, 0, p, q⟩] x y = false := by
  cases e : inL [⟨0, 0, p, q⟩] x y with
  | false => rfl
  | true =>
    simp only [inL, List.any_cons, List.any_nil, Bool.or_false, conB, Bool.and_eq_true, decide_eq_true_eq] at e
    omega

end Go.Proofs.YthedglfocjljjaaGreatDoor.Rgn
namespace Go.Proofs.YthedglfocjljjaaGreatDoor
open Go.RowKit

theorem whole_vld {p q : Nat} (hp : p ≤ 256) (hq : q ≤ 256) : vldB ⟨0, 0, p, q⟩ = true := by simp [vldB, okC]; omega
theorem canS_whole {p q : Nat} (hp : p ≤ 256) (hq : q ≤ 256) : canS [⟨0, 0, (p : Int), (q : Int)⟩] = if 1 ≤ p ∧ 1 ≤ q then [⟨0, 0, (p : Int), (q : Int)⟩] else [] := by
  by_cases h : 1 ≤ p ∧ 1 ≤ q
  · rw [if_pos h]
    exact Rgn.comb_fix (Rgn.region_one (by omega) (by omega)) (Rgn.inL_inside _)
  · rw [if_neg h]
    refine Rgn.comb_none rfl fun x y => ?_
    rw [Rgn.setS_nil]
    exact Rgn.inL_empty (by omega) x y
theorem whole_area {p q : Nat} (hp : p ≤ 256) (hq : q ≤ 256) : Rgn.sumP (canS [⟨0, 0, (p : Int), (q : Int)⟩]) = (p : Int) * q := by
  rw [canS_whole hp hq]
  by_cases h : 1 ≤ p ∧ 1 ≤ q
  · rw [if_pos h]
    simp [Rgn.sumP, Rgn.areaP]
  · rw [if_neg h]
    simp only [Rgn.sumP]
    have : p = 0 ∨ q = 0 := by omega
    rcases this with rfl | rfl <;> simp
/-- a list clipped by the surface -/
structure Clipd (r : R) (l d : List R) : Prop where
  len : d.length ≤ 256
  can : Rgn.isCanP d = true
  sub : Rgn.combP (fun x y => x && !y) d [r] = []
theorem clipd_of {p q : Nat} (hp : p ≤ 256) (hq : q ≤ 256) {l : List R} (hl : (canS l).length ≤ 256) : Clipd ⟨0, 0, p, q⟩ l (Rgn.combP (fun x y => x && y) l [⟨0, 0, p, q⟩]) := by
  have h1 : (Rgn.combP (fun x y => x && y) l [⟨0, 0, (p : Int), (q : Int)⟩]).length ≤ 256 := Nat.le_trans (Rgn.inter_len l (whole_vld hp hq)) hl
  have hR := Rgn.combP_ok (op := fun x y => x && y) rfl l [⟨0, 0, (p : Int), (q : Int)⟩]
  have hI := Rgn.setS_inside (op := fun x y => x && y) rfl l [⟨0, 0, (p : Int), (q : Int)⟩]
  refine ⟨h1, ?_, ?_⟩
  · unfold Rgn.isCanP
    rw [Rgn.comb_fix hR hI, decide_eq_true h1, Bool.true_and]
    exact Rgn.sameL_iff.2 rfl
  · refine Rgn.comb_none rfl fun x y => ?_
    unfold Rgn.setS
    rw [Rgn.region_in hR hI]
    unfold Rgn.setS
    cases Rgn.inL l x y <;> cases Rgn.inL [⟨0, 0, (p : Int), (q : Int)⟩] x y <;> rfl

/-- what the law StateSizes asks of a small state without errors -/
theorem siz_facts {s : St} (hc : chkS s = 0) : ∃ p q : Nat, sizS s = ((p : Int), (q : Int)) ∧ p ≤ 256 ∧ q ≤ 256 ∧ hasC s = decide (s.bf.length = 1) ∧ (conR s).length = p * q ∧ (s.bf.length = 1 → 1 ≤ p ∧ 1 ≤ q) ∧ (∀ x, s.bf = [x] → ∀ z ∈ conR s, z ∈ x.l) := by
  obtain ⟨a1, -, -, -⟩ := chk_ok hc
  obtain ⟨-, -, hl⟩ := arg_ok a1
  rcases one_list hl with hb | ⟨x, hb⟩
  · have e1 : hasC s = false := by simp [hasC, hb]
    refine ⟨0, 0, ?_, by omega, by omega, by rw [e1, hb]; rfl, ?_, fun h => by rw [hb] at h; simp at h, fun x h => by rw [hb] at h; simp at h⟩
    · unfold sizS
      rw [if_neg (by simpa using hc), hb]
      rfl
    · unfold conR
      rw [e1]
      rfl
  · obtain ⟨A, B, p, q, hA, hB, hV, hS, hp, hq, hL, hvb⟩ := con_facts hc hb
    have e1 : hasC s = true := by simp [hasC, hc, hb]
    have e2 : conR s = nearL A B (imgS s x) p q := by unfold conR; rw [e1, if_pos rfl, hL]
    refine ⟨p, q, hS, hp.2, hq.2, by rw [e1, hb]; rfl, by rw [e2, near_len], fun _ => ⟨hp.1, hq.1⟩, fun x' hx' z hz => ?_⟩
    rw [hb] at hx'
    injection hx' with hx' _
    subst hx'
    rw [e2] at hz
    -- a pixel of the scaled image is one of the image
    obtain ⟨k, hk, rfl⟩ := List.getElem_of_mem hz
    have hk2 : k < p * q := by rw [near_len] at hk; exact hk
    have hx1 := near_lt (x := k / p) (n := B) (m := q) (by exact row_lt hk2) hV.b1
    have hx2 := near_lt (x := k % p) (n := A) (m := p) (col_lt hp.1) hV.a1
    have hidx := idx_lt hx2 hx1
    rw [← hV.len] at hidx
    have hz2 : (nearL A B (imgS s x) p q)[k] ∈ imgS s x := by
      have e : (nearL A B (imgS s x) p q)[k]? = some ((imgS s x).getD (nrsI (k / p) B q * A + nrsI (k % p) A p) zeroPx) := by
        unfold nearL
        rw [tab_get, if_pos hk2]
      have e3 := (List.getElem?_eq_some_iff.1 e).2
      rw [e3, List.getD_eq_getElem?_getD, List.getElem?_eq_getElem hidx]
      exact List.getElem_mem hidx
    -- a pixel of the turned image is one of the buffer
    obtain ⟨h0, h1, h2, h3⟩ := vBuf_iff.1 hvb
    obtain ⟨j, hj, hje⟩ := List.getElem_of_mem hz2
    have hj2 : j < x.l.length := by
      have : (imgS s x).length = x.l.length := imgN_len _ _ _ _
      omega
    obtain ⟨i, hi, hij⟩ := Trf.sig_onto (Trf.inv s.tr) (w := x.a) (h := x.b) (n := x.l.length) (by omega) (by omega) h2 hj2
    have hT := Trf.img_get (Trf.inv s.tr) (w := x.a) (h := x.b) (l := x.l.map toT) (by omega) (by rw [List.length_map]; exact h2) (i := i) (by rw [List.length_map]; exact hi)
    rw [imgN_T, hij, List.getElem?_map, List.getElem?_map] at hT
    have e4 : (imgN (Trf.inv s.tr) x.a x.b x.l)[j]? = x.l[i]? := by
      have hinj : ∀ a b : Option Px, a.map toT = b.map toT → a = b := by
        intro a b h
        cases a <;> cases b <;> simp_all [toT]
        rename_i u v
        obtain ⟨h1, h2, h3, h4⟩ := h
        cases u
        cases v
        simp only [Px.mk.injEq]
        exact ⟨Int.ofNat_inj.1 h1, Int.ofNat_inj.1 h2, Int.ofNat_inj.1 h3, Int.ofNat_inj.1 h4⟩
      exact hinj _ _ hT
    have e5 : (imgN (Trf.inv s.tr) x.a x.b x.l)[j]? = some ((nearL A B (imgS s x) p q)[k]) := by
      rw [← hje]
      exact List.getElem?_eq_getElem hj
    rw [e4] at e5
    exact List.mem_of_getElem? e5

set_option maxRecDepth 100000 in
set_option maxHeartbeats 4000000 in
/-- the law's function has finds a pixel that is in the list -/
theorem has_any {w : World} {v : Value} {l : List Px} (h : Pxs w v l) {p : Px} (hp : p ∈ l) : Calls Tryz.prog 34 #[v, .agg #[.int .u8 (p.r : Int), .int .u8 (p.g : Int), .int .u8 (p.b : Int), .int .u8 (p.a : Int)]] w fun e w' => e = .returned (.bool true) ∧ Below w.heap.size w w' := by
  obtain ⟨A, c, rfl, hc1, hm1, hcell1⟩ := h
  simp only [maxLen] at hm1
  obtain ⟨j0, hj0, hjp⟩ := List.getElem_of_mem hp
  have hat : l[j0]? = some p := by rw [List.getElem?_eq_getElem hj0, hjp]
  have HC1 := Lib.hid hcell1
  have HAT := Lib.hid hat
  obtain ⟨n, hn⟩ : ∃ n, l.length = n := ⟨_, rfl⟩
  have HN := Lib.hid hn
  rw [hn] at hc1 hj0 ⊢
  have HP := fun (q : Px) (w : World) => eql_px q p w
  clear hcell1 hn hat hp hjp
  have J := Lib.hid (HeldC.new w p)
  go_enter Tryz.func34, Tryz.ntmps34
  go_wp2_with fail
  go_loopw [5] (fun k wr => ∃ j : Nat, j ≤ j0 ∧ k = .int .i64 (j : Int) ∧ Hid (HeldC w wr w.heap.size p)) (fun k _ => leftN n k)
  case atStart => exact ⟨0, by omega, rfl, J⟩
  case round =>
    obtain ⟨j, hj, rfl, K⟩ := hrel
    have o := K.out.cells
    have hlt : j < n := by omega
    obtain ⟨x, hpx⟩ : ∃ x, l[j]? = some x := ⟨_, List.getElem?_eq_getElem (by rw [HN.out]; exact hlt)⟩
    obtain ⟨bb, off, rfl, hb, hcs⟩ := HC1.out (by rw [HN.out]; omega)
    obtain ⟨t0, t1, t2, t3⟩ := (hcs j x hpx).keep K.out.below hb
    have HPX := Lib.hid hpx
    have HX := HP x
    clear hpx hcs HC1 HP
    have q0 : (j : Int) < n := by omega
    have q1 : (0 : Int) ≤ j := by omega
    cases hs : sameP x p with
    | true =>
      rw [hs] at HX
      clear hs
      go_wp2_with fail
      go_region
      go_wp2_with fail
      go_ret
      exact ⟨rfl, by first | exact K.out.below | exact K.out.below.drew | exact Below.next K.out.below (below_drewN (Below.refl _ _) _)⟩
    | false =>
      rw [hs] at HX
      have hne : j < j0 := by
        rcases Nat.lt_or_ge j j0 with e | e
        · exact e
        · obtain rfl : j = j0 := by omega
          have := HPX.out.symm.trans HAT.out
          injection this with this
          rw [(same_iff x p).2 this] at hs
          cases hs
      clear hs
      go_wp2_with fail
      go_region
      go_wp2_with fail
      go_roundw
      case rel => exact ⟨j + 1, by omega, by go_num, Lib.hid (K.out.step (Below.refl _ _).drew)⟩
      case measure =>
        unfold leftN
        simp [RowKit.intOf]
        omega

end Go.Proofs.YthedglfocjljjaaGreatDoor
