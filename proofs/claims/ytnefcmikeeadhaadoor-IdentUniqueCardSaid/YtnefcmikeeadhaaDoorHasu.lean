/-
  has, without and with of the reference of package ident and of its laws.
-/
import Derived.Test.YtnefcmikeeadhaaDoorUls
namespace Go.Proofs.YtnefcmikeeadhaaDoor
open Go.RowKit

/-- the list without a number -/
def wouN (l : List Nat) (n : Nat) : List Nat := l.filter (fun x => !decide (x = n))
theorem wou_step {l : List Nat} {i n x : Nat} (hx : l[i]? = some x) : wouN (l.take (i + 1)) n = if x = n then wouN (l.take i) n else wouN (l.take i) n ++ [x] := by
  unfold wouN
  rw [List.take_add_one, hx, List.filter_append]
  by_cases h : x = n
  · rw [if_pos h]
    simp [h]
  · rw [if_neg h]
    simp [h]
theorem wou_le (l : List Nat) (n : Nat) : (wouN l n).length ≤ l.length := List.length_filter_le _ _
theorem mem_step {l : List Nat} {i n x : Nat} (hx : l[i]? = some x) : (n ∈ l.take (i + 1)) ↔ (n ∈ l.take i ∨ n = x) := by
  rw [List.take_add_one, hx]
  simp

/-- a row of one's own was appended to -/
theorem below_grownU {w W W' : World} {v : Value} {L : List Nat} (h : Below w.heap.size w W) (hg : W.grownBy W' v.ownBlock) (ho : OwnU W w.heap.size v L) : Below w.heap.size w W' := by
  have hk := World.ownsRow.lt ho
  exact h.grown hg h.size (fun k e => (hk k e).1)
theorem Us.shape {w : World} {v : Value} {l : List Nat} (h : Us w v l) : ∃ A cap, v = .slice A l.length cap ∧ l.length ≤ cap ∧ cap ≤ maxLen := by
  obtain ⟨A, cap, hv, h1, h2, _⟩ := h
  exact ⟨A, cap, hv, h1, h2⟩

set_option maxRecDepth 100000 in
set_option maxHeartbeats 4000000 in
theorem rhas_any {v : Value} {l : List Nat} {n : Nat} {w : World} (h : Us w v l) : Calls Tryd.prog 28 #[v, .int .u32 (n : Int)] w fun e w' => e = .returned (.bool (decide (n ∈ l))) ∧ w = w' := by
  obtain ⟨A, c, rfl, hc, hm, hcell⟩ := h
  simp only [maxLen] at hm
  have HC := Lib.hid hcell
  obtain ⟨k, hk⟩ : ∃ k, l.length = k := ⟨_, rfl⟩
  have HK := Lib.hid hk
  rw [hk] at hc ⊢
  obtain ⟨res, hres⟩ : ∃ res, decide (n ∈ l) = res := ⟨_, rfl⟩
  rw [hres]
  replace hres := Lib.hid hres
  clear hcell hk
  go_enter Tryd.func28, Tryd.ntmps28
  go_wp2_with fail
  go_loopw [5] (fun s5 wr => ∃ i : Nat, i ≤ k ∧ s5 = .int .i64 (i : Int) ∧ Hid (¬ n ∈ l.take i) ∧ wr = w) (fun s5 _ => leftN k s5)
  case atStart => exact ⟨0, Nat.zero_le _, rfl, Lib.hid (by simp), rfl⟩
  case round =>
    obtain ⟨i, hi, rfl, HN, rfl⟩ := hrel
    by_cases hlt : i < k
    · have q0 : (0 : Int) ≤ i := by omega
      have q1 : (i : Int) < k := by omega
      obtain ⟨x, hx⟩ : ∃ x, l[i]? = some x := ⟨_, List.getElem?_eq_getElem (by rw [HK.out]; exact hlt)⟩
      obtain ⟨bb, off, rfl, hbb, hcs⟩ := HC.out (by rw [HK.out]; omega)
      have c0 := hcs i x hx
      have hst := mem_step (n := n) hx
      clear hcs
      by_cases he : x = n
      · have e0 : (x : Int) = n := by omega
        obtain rfl : res = true := hres.out.symm.trans (decide_eq_true (List.mem_of_mem_take (hst.2 (.inr he.symm))))
        clear hst hx he HN
        go_wp2_with fail
        go_ret
        exact ⟨rfl, rfl⟩
      · have e0 : ¬ (x : Int) = n := by omega
        have HN2 := Lib.hid (show ¬ n ∈ l.take (i + 1) from fun h => (hst.1 h).elim HN.out (fun h => he h.symm))
        clear hst hx he HN
        go_wp2_with fail
        go_roundw
        case rel => exact ⟨i + 1, by omega, by go_num, HN2, trivial⟩
        case measure =>
          unfold leftN
          simp [intOf]
          omega
    · obtain rfl : k = i := by omega
      have q1 : ¬ (k : Int) < k := by omega
      obtain rfl : res = false := hres.out.symm.trans (decide_eq_false (by
        have := HN.out
        rw [List.take_of_length_le (by rw [HK.out]; exact Nat.le_refl _)] at this
        exact this))
      go_wp2_with fail
      go_ret
      exact ⟨rfl, rfl⟩
set_option maxRecDepth 100000 in
set_option maxHeartbeats 4000000 in
theorem lhas_any {v : Value} {l : List Nat} {n : Nat} {w : World} (h : Us w v l) : Calls Tryd.prog 17 #[v, .int .u32 (n : Int)] w fun e w' => e = .returned (.bool (decide (n ∈ l))) ∧ w = w' := by
  obtain ⟨A, c, rfl, hc, hm, hcell⟩ := h
  simp only [maxLen] at hm
  have HC := Lib.hid hcell
  obtain ⟨k, hk⟩ : ∃ k, l.length = k := ⟨_, rfl⟩
  have HK := Lib.hid hk
  rw [hk] at hc ⊢
  obtain ⟨res, hres⟩ : ∃ res, decide (n ∈ l) = res := ⟨_, rfl⟩
  rw [hres]
  replace hres := Lib.hid hres
  clear hcell hk
  go_enter Tryd.func17, Tryd.ntmps17
  go_wp2_with fail
  go_loopw [8] (fun s8 wr => ∃ i : Nat, i ≤ k ∧ s8 = .int .i64 (i : Int) ∧ Hid (¬ n ∈ l.take i) ∧ wr = w) (fun s8 _ => leftN k s8)
  case atStart => exact ⟨0, Nat.zero_le _, rfl, Lib.hid (by simp), rfl⟩
  case round =>
    obtain ⟨i, hi, rfl, HN, rfl⟩ := hrel
    by_cases hlt : i < k
    · have q0 : (0 : Int) ≤ i := by omega
      have q1 : (i : Int) < k := by omega
      obtain ⟨x, hx⟩ : ∃ x, l[i]? = some x := ⟨_, List.getElem?_eq_getElem (by rw [HK.out]; exact hlt)⟩
      obtain ⟨bb, off, rfl, hbb, hcs⟩ := HC.out (by rw [HK.out]; omega)
      have c0 := hcs i x hx
      have hst := mem_step (n := n) hx
      clear hcs
      by_cases he : x = n
      · have e0 : (x : Int) = n := by omega
        obtain rfl : res = true := hres.out.symm.trans (decide_eq_true (List.mem_of_mem_take (hst.2 (.inr he.symm))))
        clear hst hx he HN
        go_wp2_with fail
        go_ret
        exact ⟨rfl, rfl⟩
      · have e0 : ¬ (x : Int) = n := by omega
        have HN2 := Lib.hid (show ¬ n ∈ l.take (i + 1) from fun h => (hst.1 h).elim HN.out (fun h => he h.symm))
        clear hst hx he HN
        go_wp2_with fail
        go_roundw
        case rel => exact ⟨i + 1, by omega, by go_num, HN2, trivial⟩
        case measure =>
          unfold leftN
          simp [intOf]
          omega
    · obtain rfl : k = i := by omega
      have q1 : ¬ (k : Int) < k := by omega
      obtain rfl : res = false := hres.out.symm.trans (decide_eq_false (by
        have := HN.out
        rw [List.take_of_length_le (by rw [HK.out]; exact Nat.le_refl _)] at this
        exact this))
      go_wp2_with fail
      go_ret
      exact ⟨rfl, rfl⟩

set_option maxRecDepth 100000 in
set_option maxHeartbeats 4000000 in
theorem rwithout_any {v : Value} {l : List Nat} {n : Nat} {w : World} (h : Us w v l) (hsm : l.length ≤ 100000) : Calls Tryd.prog 34 #[v, .int .u32 (n : Int)] w fun e w' => ∃ u, e = .returned u ∧ OwnU w' w.heap.size u (wouN l n) ∧ Below w.heap.size w w' := by
  obtain ⟨A, c, rfl, hc, hm, hcell⟩ := h
  simp only [maxLen] at hm
  have HC := Lib.hid hcell
  obtain ⟨k, hk⟩ : ∃ k, l.length = k := ⟨_, rfl⟩
  have HK := Lib.hid hk
  rw [hk] at hc hsm ⊢
  clear hcell hk
  go_enter Tryd.func34, Tryd.ntmps34
  go_wp2_with fail
  go_loopw [5, 6] (fun s5 st wr => ∃ (i : Nat) (A1 : Option Addr) (k1 c1 : Nat), i ≤ k ∧ st = .int .i64 (i : Int) ∧ s5 = .slice A1 k1 c1 ∧ Hid (OwnU wr w.heap.size (.slice A1 k1 c1) (wouN (l.take i) n) ∧ Below w.heap.size w wr)) (fun s5 st _ => leftN k st)
  case atStart => exact ⟨0, none, 0, 0, Nat.zero_le _, rfl, rfl, Lib.hid ⟨by rw [List.take_zero]; exact ownU_nil _ _, Below.refl _ _⟩⟩
  case round =>
    obtain ⟨i, A1, k1, c1, hi, rfl, rfl, HR⟩ := hrel
    by_cases hlt : i < k
    · have q0 : (0 : Int) ≤ i := by omega
      have q1 : (i : Int) < k := by omega
      obtain ⟨x, hx⟩ : ∃ x, l[i]? = some x := ⟨_, List.getElem?_eq_getElem (by rw [HK.out]; exact hlt)⟩
      obtain ⟨bb, off, rfl, hbb, hcs⟩ := HC.out (by rw [HK.out]; omega)
      have c0 := (HR.out.2.cell (p := ⟨bb, off + i, none⟩) hbb.lt).trans (hcs i x hx)
      have hst := wou_step (n := n) hx
      have hsz := HR.out.2.size
      have hle : (wouN (l.take i) n).length ≤ 100000 := Nat.le_trans (wou_le _ _) (by rw [List.length_take]; omega)
      clear hcs hx
      by_cases he : x = n
      · have e0 : (x : Int) = n := by omega
        rw [if_pos he] at hst
        have HR2 := Lib.hid (show OwnU wr w.heap.size (.slice A1 k1 c1) (wouN (l.take (i + 1)) n) ∧ Below w.heap.size w wr from by rw [hst]; exact HR.out)
        clear hst HR hle
        go_wp2_with fail
        go_roundw
        case rel => exact ⟨i + 1, A1, k1, c1, by omega, by go_num, rfl, HR2⟩
        case measure =>
          unfold leftN
          simp [intOf]
          omega
      · have e0 : ¬ (x : Int) = n := by omega
        rw [if_neg he] at hst
        have hlen := Lib.hid (show (wouN (l.take i) n).length + [x].length ≤ 4000000 by rw [List.length_singleton]; omega)
        have hbase := HR.out.2.size
        generalize wouN (l.take i) n = L at *
        clear he hle
        go_wp2_with (at_builtin; refine wpList_appU rfl _ _ rfl (base := w.heap.size) (l := L) (m := [x]) rfl (World.ownsRow.alloc HR.out.1 _) rfl (us_one _ x) hlen.out (by rw [World.size_alloc]; omega) ?_; intro v1 w1 ho1 hg1 hl1 _)
        obtain ⟨A6, c6, rfl, _, _⟩ := ho1.us.shape
        have Z := Lib.hid (show OwnU w1 w.heap.size (.slice A6 (L ++ [x]).length c6) (wouN (l.take (i + 1)) n) ∧ Below w.heap.size w w1 from by
          rw [hst]
          exact ⟨ho1, below_grownU (HR.out.2.alloc HR.out.2.size _) hg1 (World.ownsRow.alloc HR.out.1 _)⟩)
        clear ho1 hg1 hl1 HR hst
        go_roundw
        case rel => exact ⟨i + 1, A6, _, c6, by omega, by go_num, rfl, Z⟩
        case measure =>
          unfold leftN
          simp [intOf]
          omega
    · obtain rfl : k = i := by omega
      have q1 : ¬ (k : Int) < k := by omega
      rw [List.take_of_length_le (by rw [HK.out]; exact Nat.le_refl _)] at HR
      go_wp2_with fail
      go_ret
      exact ⟨_, rfl, HR.out.1, HR.out.2⟩

set_option maxRecDepth 100000 in
set_option maxHeartbeats 4000000 in
theorem lwithout_any {v : Value} {l : List Nat} {n : Nat} {w : World} (h : Us w v l) (hsm : l.length ≤ 100000) : Calls Tryd.prog 18 #[v, .int .u32 (n : Int)] w fun e w' => ∃ u, e = .returned u ∧ OwnU w' w.heap.size u (wouN l n) ∧ Below w.heap.size w w' := by
  obtain ⟨A, c, rfl, hc, hm, hcell⟩ := h
  simp only [maxLen] at hm
  have HC := Lib.hid hcell
  obtain ⟨k, hk⟩ : ∃ k, l.length = k := ⟨_, rfl⟩
  have HK := Lib.hid hk
  rw [hk] at hc hsm ⊢
  clear hcell hk
  go_enter Tryd.func18, Tryd.ntmps18
  go_wp2_with fail
  go_loopw [5, 9] (fun s5 st wr => ∃ (i : Nat) (A1 : Option Addr) (k1 c1 : Nat), i ≤ k ∧ st = .int .i64 (i : Int) ∧ s5 = .slice A1 k1 c1 ∧ Hid (OwnU wr w.heap.size (.slice A1 k1 c1) (wouN (l.take i) n) ∧ Below w.heap.size w wr)) (fun s5 st _ => leftN k st)
  case atStart => exact ⟨0, none, 0, 0, Nat.zero_le _, rfl, rfl, Lib.hid ⟨by rw [List.take_zero]; exact ownU_nil _ _, Below.refl _ _⟩⟩
  case round =>
    obtain ⟨i, A1, k1, c1, hi, rfl, rfl, HR⟩ := hrel
    by_cases hlt : i < k
    · have q0 : (0 : Int) ≤ i := by omega
      have q1 : (i : Int) < k := by omega
      obtain ⟨x, hx⟩ : ∃ x, l[i]? = some x := ⟨_, List.getElem?_eq_getElem (by rw [HK.out]; exact hlt)⟩
      obtain ⟨bb, off, rfl, hbb, hcs⟩ := HC.out (by rw [HK.out]; omega)
      have c0 := (HR.out.2.cell (p := ⟨bb, off + i, none⟩) hbb.lt).trans (hcs i x hx)
      have hst := wou_step (n := n) hx
      have hsz := HR.out.2.size
      have hle : (wouN (l.take i) n).length ≤ 100000 := Nat.le_trans (wou_le _ _) (by rw [List.length_take]; omega)
      clear hcs hx
      by_cases he : x = n
      · have e0 : (x : Int) = n := by omega
        rw [if_pos he] at hst
        have HR2 := Lib.hid (show OwnU wr w.heap.size (.slice A1 k1 c1) (wouN (l.take (i + 1)) n) ∧ Below w.heap.size w wr from by rw [hst]; exact HR.out)
        clear hst HR hle
        go_wp2_with fail
        go_roundw
        case rel => exact ⟨i + 1, A1, k1, c1, by omega, by go_num, rfl, HR2⟩
        case measure =>
          unfold leftN
          simp [intOf]
          omega
      · have e0 : ¬ (x : Int) = n := by omega
        rw [if_neg he] at hst
        have hlen := Lib.hid (show (wouN (l.take i) n).length + [x].length ≤ 4000000 by rw [List.length_singleton]; omega)
        have hbase := HR.out.2.size
        generalize wouN (l.take i) n = L at *
        clear he hle
        go_wp2_with (at_builtin; refine wpList_appU rfl _ _ rfl (base := w.heap.size) (l := L) (m := [x]) rfl (World.ownsRow.alloc HR.out.1 _) rfl (us_one _ x) hlen.out (by rw [World.size_alloc]; omega) ?_; intro v1 w1 ho1 hg1 hl1 _)
        obtain ⟨A6, c6, rfl, _, _⟩ := ho1.us.shape
        have Z := Lib.hid (show OwnU w1 w.heap.size (.slice A6 (L ++ [x]).length c6) (wouN (l.take (i + 1)) n) ∧ Below w.heap.size w w1 from by
          rw [hst]
          exact ⟨ho1, below_grownU (HR.out.2.alloc HR.out.2.size _) hg1 (World.ownsRow.alloc HR.out.1 _)⟩)
        clear ho1 hg1 hl1 HR hst
        go_roundw
        case rel => exact ⟨i + 1, A6, _, c6, by omega, by go_num, rfl, Z⟩
        case measure =>
          unfold leftN
          simp [intOf]
          omega
    · obtain rfl : k = i := by omega
      have q1 : ¬ (k : Int) < k := by omega
      rw [List.take_of_length_le (by rw [HK.out]; exact Nat.le_refl _)] at HR
      go_wp2_with fail
      go_ret
      exact ⟨_, rfl, HR.out.1, HR.out.2⟩

end Go.Proofs.YtnefcmikeeadhaaDoor
