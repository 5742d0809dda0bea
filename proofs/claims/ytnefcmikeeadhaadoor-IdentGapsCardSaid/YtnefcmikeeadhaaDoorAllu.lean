/-
  Allocate of the reference of package ident.
-/
import Derived.Test.YtnefcmikeeadhaaDoorTaku
namespace Go.Proofs.YtnefcmikeeadhaaDoor
open Go.RowKit

/-- how many lie at i or above -/
def cntN (l : List Nat) (i : Nat) : Nat := (l.filter (fun x => decide (i ≤ x))).length
theorem cnt_le (l : List Nat) (i : Nat) : cntN l i ≤ l.length := List.length_filter_le _ _
theorem cnt_mono (l : List Nat) (i : Nat) : cntN l (i + 1) ≤ cntN l i := by
  unfold cntN
  induction l with
  | nil => exact Nat.le_refl _
  | cons x l ih =>
    by_cases h : i + 1 ≤ x
    · rw [List.filter_cons_of_pos (by simpa using h), List.filter_cons_of_pos (by simp; omega), List.length_cons, List.length_cons]
      omega
    · rw [List.filter_cons_of_neg (by simpa using h)]
      by_cases h2 : i ≤ x
      · rw [List.filter_cons_of_pos (by simpa using h2), List.length_cons]
        omega
      · rw [List.filter_cons_of_neg (by simpa using h2)]
        exact ih
theorem cnt_next {l : List Nat} {i : Nat} (h : i ∈ l) : cntN l (i + 1) + 1 ≤ cntN l i := by
  induction l with
  | nil => simp at h
  | cons x l ih =>
    have hm := cnt_mono l i
    unfold cntN at *
    rcases List.mem_cons.1 h with rfl | h
    · rw [List.filter_cons_of_neg (by simp), List.filter_cons_of_pos (by simp), List.length_cons]
      omega
    · have ih := ih h
      by_cases h1 : i + 1 ≤ x
      · rw [List.filter_cons_of_pos (by simpa using h1), List.filter_cons_of_pos (by simp; omega), List.length_cons, List.length_cons]
        omega
      · rw [List.filter_cons_of_neg (by simpa using h1)]
        by_cases h2 : i ≤ x
        · rw [List.filter_cons_of_pos (by simpa using h2), List.length_cons]
          omega
        · rw [List.filter_cons_of_neg (by simpa using h2)]
          exact ih
/-- the first number from i on that is not in l (k steps at most) -/
def nextF (l : List Nat) : Nat → Nat → Nat
  | 0, i => i
  | k + 1, i => if i ∈ l then nextF l k (i + 1) else i
def fstN (s : Bool) : Nat := if s then 4278190080 else 1
def frsT (t : Tb) : Nat := nextF (t.lv ++ t.rl) ((t.lv ++ t.rl).length + 1) (fstN t.sv)
def allT (t : Tb) : Tb × Nat × Int := if 256 ≤ t.lv.length then (t, 0, 5) else (usedT t (frsT t), frsT t, 0)

set_option maxRecDepth 100000 in
set_option maxHeartbeats 8000000 in
theorem rall_true {v : Value} {g : Int} {lv rl : List Nat} {w : World} (h : Tabs w v ⟨true, g, lv, rl⟩) (hf : Few ⟨true, g, lv, rl⟩) : Calls Tryd.prog 23 #[v] w fun e w' => ∃ u, e = .returned (.tuple #[u, .int .u32 (((allT ⟨true, g, lv, rl⟩).2.1 : Nat) : Int), .int .i64 (allT ⟨true, g, lv, rl⟩).2.2]) ∧ Tabs w' u (allT ⟨true, g, lv, rl⟩).1 ∧ Below w.heap.size w w' := by
  obtain ⟨A1, c1, A2, c2, rfl, h1, h2⟩ := h
  have H1 := Lib.hid h1
  have H2 := Lib.hid h2
  obtain ⟨hf1, hf2⟩ := hf
  simp only at H1 H2 h1 h2 hf1 hf2 ⊢
  have J := Lib.hid (heldT w true g (.slice A1 lv.length c1) (.slice A2 rl.length c2))
  have C1 := fun n W (hb : Below w.heap.size w W) => Lib.hid (rhas_any (n := n) (H1.out.below hb))
  have C2 := fun n W (hb : Below w.heap.size w W) => Lib.hid (rhas_any (n := n) (H2.out.below hb))
  have CU := fun n (hn : n < 4294967296) W (hb : Below w.heap.size w W) => Lib.hid (rused_row (s := true) (g := g) (rl := rl) (A2 := A2) (c2 := c2) (n := n) (H1.out.below hb) hf1 hn)
  have HP := Lib.hid (fun W hb => tabs_put (W := W) (s := true) (g := g) h1 h2 hb)
  by_cases m3 : 256 ≤ lv.length
  · rw [show allT ⟨true, g, lv, rl⟩ = (⟨true, g, lv, rl⟩, 0, 5) from if_pos m3]
    generalize lv.length = k1 at *
    generalize rl.length = k2 at *
    have e4 : (256 : Int) ≤ k1 := by omega
    have e5 : decide ((256 : Int) ≤ k1) = true := decide_eq_true e4
    clear h1 h2 hf1 hf2 CU C1 C2 m3
    go_enter Tryd.func23, Tryd.ntmps23
    go_wp2_with fail
    have K := (((Held.nil w).alloc [.bool true, .int .i64 g, .slice A1 k1 c1, .slice A2 k2 c2] 29).alloc [.bool true, .int .i64 g, .slice A1 k1 c1, .slice A2 k2 c2] 29).below
    exact bodyPost_ret (v := .tuple #[.agg #[.bool true, .int .i64 g, .slice A1 k1 c1, .slice A2 k2 c2], .int .u32 0, .int .i64 5]) (by simp [results, Tryd.results23, go_sem]) rfl ⟨_, rfl, HP.out _ K, K⟩
  · obtain ⟨R, hR⟩ : ∃ R, frsT ⟨true, g, lv, rl⟩ = R := ⟨_, rfl⟩
    rw [show allT ⟨true, g, lv, rl⟩ = (usedT ⟨true, g, lv, rl⟩ R, R, 0) from by rw [← hR]; exact if_neg m3]
    have hR0 := Lib.hid (show nextF (lv ++ rl) ((lv ++ rl).length + 1) 4278190080 = R from hR)
    have hU := fun i => Lib.hid (show i ∈ lv ++ rl ↔ i ∈ lv ∨ i ∈ rl from List.mem_append)
    have hS : (lv ++ rl).length ≤ 4000 := by rw [List.length_append]; omega
    have hc0 := Lib.hid (cnt_le (lv ++ rl) 4278190080)
    unfold usedT Tabs
    simp only
    generalize lv ++ rl = l at *
    generalize l.length = N at *
    have e4 : ¬ (256 : Int) ≤ lv.length := by omega
    obtain ⟨k1, hk1⟩ : ∃ k, lv.length = k := ⟨_, rfl⟩
    rw [hk1] at J CU C1 HP e4 H1 ⊢
    have e5 : decide ((256 : Int) ≤ k1) = false := decide_eq_false e4
    generalize rl.length = k2 at *
    have CUR := CU R
    clear CU
    generalize (lv ++ [R]).length = k3 at *
    generalize lv ++ [R] = L3 at *
    clear h1 h2 hf1 hf2 m3 HP hk1 hR
    have hlt := (J.out.four (l1 := [])).2.2.2.2.2
    go_enter Tryd.func23, Tryd.ntmps23
    go_wp2_with fail
    go_loopw [5] (fun s5 wr => ∃ (i k : Nat), s5 = .int .u32 (i : Int) ∧ Hid (nextF l k i = R ∧ cntN l i < k ∧ i + k = 4278190080 + N + 1) ∧ wr = (w.alloc (.cells #[.bool true, .int .i64 g, .slice A1 k1 c1, .slice A2 k2 c2] 29)).alloc (.cells #[.bool false, .int .i64 0, .slice none 0 0, .slice none 0 0] 29)) (fun s5 _ => leftN (4278190080 + N + 1) s5)
    case atStart => exact ⟨4278190080, N + 1, rfl, Lib.hid ⟨hR0.out, by have := hc0.out; omega, by omega⟩, rfl⟩
    case round =>
      obtain ⟨i, k, rfl, HR, rfl⟩ := hrel
      obtain ⟨f1, f2, f3⟩ := HR.out
      have hi : i < 4294967295 := by omega
      have hi0 : i < 4278190080 + N + 1 := by omega
      have E := Lib.hid (show IntKind.u32.wrap ((i : Int) + 1) = ((i + 1 : Nat) : Int) ∧ IntKind.u32.wrap ((i : Int) + 1) = (i : Int) + 1 from ⟨IntWalk.u32_in _ (by omega), IntWalk.u32_in _ (by omega)⟩)
      have D1 := C1 i
      have D2 := C2 i
      by_cases hm : i ∈ l
      · obtain ⟨k, rfl⟩ : ∃ j, k = j + 1 := ⟨k - 1, by omega⟩
        have HR2 := Lib.hid (show nextF l k (i + 1) = R ∧ cntN l (i + 1) < k ∧ (i + 1) + k = 4278190080 + N + 1 from by
          have g1 := cnt_next hm
          refine ⟨?_, by omega, by omega⟩
          have g2 : nextF l (k + 1) i = nextF l k (i + 1) := if_pos hm
          rw [← g2]
          exact f1)
        clear f1 f2 f3 HR hR0
        by_cases m1 : i ∈ lv
        · rw [decide_eq_true m1] at D1
          clear hm m1
          go_wp2_with fail
          refine (D1 _ J.out.below).out.mono ?_
          rintro e w1 ⟨rfl, rfl⟩
          have e1 := E.out.2
          go_wp2_with fail
          clear e1
          go_roundw
          case rel => exact ⟨i + 1, k, by first | rfl | (rw [E.out.1]), HR2, trivial⟩
          case measure =>
            unfold leftN
            simp [intOf]
            omega
        · rw [decide_eq_false m1] at D1
          rw [decide_eq_true ((hU i).out.1 hm |>.resolve_left m1)] at D2
          clear hm m1
          go_wp2_with fail
          refine (D1 _ J.out.below).out.mono ?_
          rintro e w1 ⟨rfl, rfl⟩
          go_wp2_with fail
          refine (D2 _ J.out.below).out.mono ?_
          rintro e w1 ⟨rfl, rfl⟩
          have e1 := E.out.2
          go_wp2_with fail
          clear e1
          go_roundw
          case rel => exact ⟨i + 1, k, by first | rfl | (rw [E.out.1]), HR2, trivial⟩
          case measure =>
            unfold leftN
            simp [intOf]
            omega
      · obtain ⟨k, rfl⟩ : ∃ j, k = j + 1 := ⟨k - 1, by omega⟩
        obtain rfl : i = R := by
          have g2 : nextF l (k + 1) i = i := if_neg hm
          rw [← g2]
          exact f1
        have m1 : ¬ i ∈ lv := fun h => hm ((hU i).out.2 (.inl h))
        have m2 : ¬ i ∈ rl := fun h => hm ((hU i).out.2 (.inr h))
        rw [decide_eq_false m1] at D1
        rw [decide_eq_false m2] at D2
        have DU := CUR (by omega)
        clear f1 f2 f3 HR hR0 hm m1 m2 hc0 CUR C1 C2
        go_wp2_with fail
        refine (D1 _ J.out.below).out.mono ?_
        rintro e w1 ⟨rfl, rfl⟩
        go_wp2_with fail
        refine (D2 _ J.out.below).out.mono ?_
        rintro e w1 ⟨rfl, rfl⟩
        go_wp2_with fail
        refine (DU _ J.out.below).out.mono ?_
        rintro e w1 ⟨A6, c6, rfl, ho, hb⟩
        have O := Lib.hid (ho.set4 (k := w.heap.size + 1) hlt (.bool true) (.int .i64 (max g (i : Int))) (.slice A6 k3 c6) (.slice A2 k2 c2))
        replace J := Lib.hid (J.out.step hb)
        have J3 := Lib.hid (J.out.set4 (l1 := []) (.bool true) (.int .i64 (max g (i : Int))) (.slice A6 k3 c6) (.slice A2 k2 c2))
        obtain ⟨y0, y1, y2, y3, yf, yt⟩ := J.out.four (l1 := [])
        clear ho hb hlt
        go_wp2_with fail
        exact bodyPost_ret (v := .tuple #[.agg #[.bool true, .int .i64 (max g (i : Int)), .slice A6 k3 c6, .slice A2 k2 c2], .int .u32 (i : Int), .int .i64 0]) (by simp [results, Tryd.results23, go_sem, y0, y1, y2, y3]) rfl ⟨_, rfl, ⟨A6, c6, A2, c2, rfl, O.out.us, H2.out.below J3.out.below⟩, J3.out.below⟩

set_option maxRecDepth 100000 in
set_option maxHeartbeats 8000000 in
theorem rall_false {v : Value} {g : Int} {lv rl : List Nat} {w : World} (h : Tabs w v ⟨false, g, lv, rl⟩) (hf : Few ⟨false, g, lv, rl⟩) : Calls Tryd.prog 23 #[v] w fun e w' => ∃ u, e = .returned (.tuple #[u, .int .u32 (((allT ⟨false, g, lv, rl⟩).2.1 : Nat) : Int), .int .i64 (allT ⟨false, g, lv, rl⟩).2.2]) ∧ Tabs w' u (allT ⟨false, g, lv, rl⟩).1 ∧ Below w.heap.size w w' := by
  obtain ⟨A1, c1, A2, c2, rfl, h1, h2⟩ := h
  have H1 := Lib.hid h1
  have H2 := Lib.hid h2
  obtain ⟨hf1, hf2⟩ := hf
  simp only at H1 H2 h1 h2 hf1 hf2 ⊢
  have J := Lib.hid (heldT w false g (.slice A1 lv.length c1) (.slice A2 rl.length c2))
  have C1 := fun n W (hb : Below w.heap.size w W) => Lib.hid (rhas_any (n := n) (H1.out.below hb))
  have C2 := fun n W (hb : Below w.heap.size w W) => Lib.hid (rhas_any (n := n) (H2.out.below hb))
  have CU := fun n (hn : n < 4294967296) W (hb : Below w.heap.size w W) => Lib.hid (rused_row (s := false) (g := g) (rl := rl) (A2 := A2) (c2 := c2) (n := n) (H1.out.below hb) hf1 hn)
  have HP := Lib.hid (fun W hb => tabs_put (W := W) (s := false) (g := g) h1 h2 hb)
  by_cases m3 : 256 ≤ lv.length
  · rw [show allT ⟨false, g, lv, rl⟩ = (⟨false, g, lv, rl⟩, 0, 5) from if_pos m3]
    generalize lv.length = k1 at *
    generalize rl.length = k2 at *
    have e4 : (256 : Int) ≤ k1 := by omega
    have e5 : decide ((256 : Int) ≤ k1) = true := decide_eq_true e4
    clear h1 h2 hf1 hf2 CU C1 C2 m3
    go_enter Tryd.func23, Tryd.ntmps23
    go_wp2_with fail
    have K := (((Held.nil w).alloc [.bool false, .int .i64 g, .slice A1 k1 c1, .slice A2 k2 c2] 29).alloc [.bool false, .int .i64 g, .slice A1 k1 c1, .slice A2 k2 c2] 29).below
    exact bodyPost_ret (v := .tuple #[.agg #[.bool false, .int .i64 g, .slice A1 k1 c1, .slice A2 k2 c2], .int .u32 0, .int .i64 5]) (by simp [results, Tryd.results23, go_sem]) rfl ⟨_, rfl, HP.out _ K, K⟩
  · obtain ⟨R, hR⟩ : ∃ R, frsT ⟨false, g, lv, rl⟩ = R := ⟨_, rfl⟩
    rw [show allT ⟨false, g, lv, rl⟩ = (usedT ⟨false, g, lv, rl⟩ R, R, 0) from by rw [← hR]; exact if_neg m3]
    have hR0 := Lib.hid (show nextF (lv ++ rl) ((lv ++ rl).length + 1) 1 = R from hR)
    have hU := fun i => Lib.hid (show i ∈ lv ++ rl ↔ i ∈ lv ∨ i ∈ rl from List.mem_append)
    have hS : (lv ++ rl).length ≤ 4000 := by rw [List.length_append]; omega
    have hc0 := Lib.hid (cnt_le (lv ++ rl) 1)
    unfold usedT Tabs
    simp only
    generalize lv ++ rl = l at *
    generalize l.length = N at *
    have e4 : ¬ (256 : Int) ≤ lv.length := by omega
    obtain ⟨k1, hk1⟩ : ∃ k, lv.length = k := ⟨_, rfl⟩
    rw [hk1] at J CU C1 HP e4 H1 ⊢
    have e5 : decide ((256 : Int) ≤ k1) = false := decide_eq_false e4
    generalize rl.length = k2 at *
    have CUR := CU R
    clear CU
    generalize (lv ++ [R]).length = k3 at *
    generalize lv ++ [R] = L3 at *
    clear h1 h2 hf1 hf2 m3 HP hk1 hR
    have hlt := (J.out.four (l1 := [])).2.2.2.2.2
    go_enter Tryd.func23, Tryd.ntmps23
    go_wp2_with fail
    go_loopw [5] (fun s5 wr => ∃ (i k : Nat), s5 = .int .u32 (i : Int) ∧ Hid (nextF l k i = R ∧ cntN l i < k ∧ i + k = 1 + N + 1) ∧ wr = (w.alloc (.cells #[.bool false, .int .i64 g, .slice A1 k1 c1, .slice A2 k2 c2] 29)).alloc (.cells #[.bool false, .int .i64 0, .slice none 0 0, .slice none 0 0] 29)) (fun s5 _ => leftN (1 + N + 1) s5)
    case atStart => exact ⟨1, N + 1, rfl, Lib.hid ⟨hR0.out, by have := hc0.out; omega, by omega⟩, rfl⟩
    case round =>
      obtain ⟨i, k, rfl, HR, rfl⟩ := hrel
      obtain ⟨f1, f2, f3⟩ := HR.out
      have hi : i < 4294967295 := by omega
      have hi0 : i < 1 + N + 1 := by omega
      have E := Lib.hid (show IntKind.u32.wrap ((i : Int) + 1) = ((i + 1 : Nat) : Int) ∧ IntKind.u32.wrap ((i : Int) + 1) = (i : Int) + 1 from ⟨IntWalk.u32_in _ (by omega), IntWalk.u32_in _ (by omega)⟩)
      have D1 := C1 i
      have D2 := C2 i
      by_cases hm : i ∈ l
      · obtain ⟨k, rfl⟩ : ∃ j, k = j + 1 := ⟨k - 1, by omega⟩
        have HR2 := Lib.hid (show nextF l k (i + 1) = R ∧ cntN l (i + 1) < k ∧ (i + 1) + k = 1 + N + 1 from by
          have g1 := cnt_next hm
          refine ⟨?_, by omega, by omega⟩
          have g2 : nextF l (k + 1) i = nextF l k (i + 1) := if_pos hm
          rw [← g2]
          exact f1)
        clear f1 f2 f3 HR hR0
        by_cases m1 : i ∈ lv
        · rw [decide_eq_true m1] at D1
          clear hm m1
          go_wp2_with fail
          refine (D1 _ J.out.below).out.mono ?_
          rintro e w1 ⟨rfl, rfl⟩
          have e1 := E.out.2
          go_wp2_with fail
          clear e1
          go_roundw
          case rel => exact ⟨i + 1, k, by first | rfl | (rw [E.out.1]), HR2, trivial⟩
          case measure =>
            unfold leftN
            simp [intOf]
            omega
        · rw [decide_eq_false m1] at D1
          rw [decide_eq_true ((hU i).out.1 hm |>.resolve_left m1)] at D2
          clear hm m1
          go_wp2_with fail
          refine (D1 _ J.out.below).out.mono ?_
          rintro e w1 ⟨rfl, rfl⟩
          go_wp2_with fail
          refine (D2 _ J.out.below).out.mono ?_
          rintro e w1 ⟨rfl, rfl⟩
          have e1 := E.out.2
          go_wp2_with fail
          clear e1
          go_roundw
          case rel => exact ⟨i + 1, k, by first | rfl | (rw [E.out.1]), HR2, trivial⟩
          case measure =>
            unfold leftN
            simp [intOf]
            omega
      · obtain ⟨k, rfl⟩ : ∃ j, k = j + 1 := ⟨k - 1, by omega⟩
        obtain rfl : i = R := by
          have g2 : nextF l (k + 1) i = i := if_neg hm
          rw [← g2]
          exact f1
        have m1 : ¬ i ∈ lv := fun h => hm ((hU i).out.2 (.inl h))
        have m2 : ¬ i ∈ rl := fun h => hm ((hU i).out.2 (.inr h))
        rw [decide_eq_false m1] at D1
        rw [decide_eq_false m2] at D2
        have DU := CUR (by omega)
        clear f1 f2 f3 HR hR0 hm m1 m2 hc0 CUR C1 C2
        go_wp2_with fail
        refine (D1 _ J.out.below).out.mono ?_
        rintro e w1 ⟨rfl, rfl⟩
        go_wp2_with fail
        refine (D2 _ J.out.below).out.mono ?_
        rintro e w1 ⟨rfl, rfl⟩
        go_wp2_with fail
        refine (DU _ J.out.below).out.mono ?_
        rintro e w1 ⟨A6, c6, rfl, ho, hb⟩
        have O := Lib.hid (ho.set4 (k := w.heap.size + 1) hlt (.bool false) (.int .i64 (max g (i : Int))) (.slice A6 k3 c6) (.slice A2 k2 c2))
        replace J := Lib.hid (J.out.step hb)
        have J3 := Lib.hid (J.out.set4 (l1 := []) (.bool false) (.int .i64 (max g (i : Int))) (.slice A6 k3 c6) (.slice A2 k2 c2))
        obtain ⟨y0, y1, y2, y3, yf, yt⟩ := J.out.four (l1 := [])
        clear ho hb hlt
        go_wp2_with fail
        exact bodyPost_ret (v := .tuple #[.agg #[.bool false, .int .i64 (max g (i : Int)), .slice A6 k3 c6, .slice A2 k2 c2], .int .u32 (i : Int), .int .i64 0]) (by simp [results, Tryd.results23, go_sem, y0, y1, y2, y3]) rfl ⟨_, rfl, ⟨A6, c6, A2, c2, rfl, O.out.us, H2.out.below J3.out.below⟩, J3.out.below⟩

end Go.Proofs.YtnefcmikeeadhaaDoor
