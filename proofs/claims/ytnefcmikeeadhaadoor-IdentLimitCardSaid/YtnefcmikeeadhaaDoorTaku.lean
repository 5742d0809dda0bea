/-
  Take of the reference of package ident.
-/
import Derived.Test.YtnefcmikeeadhaaDoorRelu
namespace Go.Proofs.YtnefcmikeeadhaaDoor
open Go.RowKit

theorem OwnU.mono {w : World} {B C : Nat} {v : Value} {l : List Nat} (h : OwnU w B v l) (hb : C ≤ B) : OwnU w C v l := by
  obtain ⟨h1, h2⟩ := h
  refine ⟨h1, ?_⟩
  rcases h2 with h2 | ⟨g, cap, cur, e, hg, rest⟩
  · exact .inl h2
  · exact .inr ⟨g, cap, cur, e, Nat.le_trans hb hg, rest⟩

set_option maxRecDepth 100000 in
set_option maxHeartbeats 4000000 in
theorem rused_row {s : Bool} {g : Int} {lv rl : List Nat} {A1 A2 : Option Addr} {c1 c2 n : Nat} {w : World} (h1 : Us w (.slice A1 lv.length c1) lv) (hs : lv.length ≤ 2000) (hn : n < 4294967296) : Calls Tryd.prog 33 #[.agg #[.bool s, .int .i64 g, .slice A1 lv.length c1, .slice A2 rl.length c2], .int .u32 (n : Int)] w fun e w' => ∃ A c, e = .returned (.agg #[.bool s, .int .i64 (max g (n : Int)), .slice A (lv ++ [n]).length c, .slice A2 rl.length c2]) ∧ OwnU w' w.heap.size (.slice A (lv ++ [n]).length c) (lv ++ [n]) ∧ Below w.heap.size w w' := by
  have H1 := Lib.hid h1
  have J := Lib.hid (heldT w s g (.slice A1 lv.length c1) (.slice A2 rl.length c2))
  have C := fun W (hb : Below w.heap.size w W) => Lib.hid (rwith_any (n := n) (H1.out.below hb) (by omega))
  have E := Lib.hid (show IntKind.i64.wrap (n : Int) = (n : Int) ∧ wrap64 (n : Int) = (n : Int) from ⟨IntWalk.i64_in _ (by omega), IntWalk.wrap64_in _ (by omega)⟩)
  generalize (lv ++ [n]).length = k3 at *
  generalize lv ++ [n] = L at *
  generalize lv.length = k1 at *
  generalize rl.length = k2 at *
  clear h1 H1 hs hn
  go_enter Tryd.func33, Tryd.ntmps33
  go_wp2_with fail
  refine (C _ J.out.below).out.mono ?_
  rintro e w1 ⟨A6, c6, rfl, ho, hb⟩
  have hlt := (J.out.four (l1 := [])).2.2.2.2.2
  have O := Lib.hid (((ho.cell (k := w.heap.size) (by omega) 2 (.slice A6 k3 c6)).cell (k := w.heap.size) (by omega) 1 (.int .i64 (max g (n : Int)))).set4 (k := w.heap.size + 1) hlt (.bool s) (.int .i64 (max g (n : Int))) (.slice A6 k3 c6) (.slice A2 k2 c2))
  replace J := Lib.hid (J.out.step hb)
  have J2 := (J.out.cell (l1 := [_]) (i := 2) (by simp) (.slice A6 k3 c6)).cell (l1 := [_]) (i := 1) (by simp) (.int .i64 (max g (n : Int)))
  have J3 := Lib.hid (J2.set4 (l1 := []) (.bool s) (.int .i64 (max g (n : Int))) (.slice A6 k3 c6) (.slice A2 k2 c2))
  obtain ⟨z0, z1, z2, z3, zf, zt⟩ := J.out.four (l1 := [_])
  obtain ⟨y0, y1, y2, y3, yf, yt⟩ := J.out.four (l1 := [])
  clear ho hb J2 hlt
  obtain ⟨i1, i2⟩ := E.out
  go_wp2_with fail
  exact bodyPost_ret (v := .agg #[.bool s, .int .i64 (max g (n : Int)), .slice A6 k3 c6, .slice A2 k2 c2]) (by simp [results, Tryd.results33, go_sem, y0, y1, y2, y3]) rfl ⟨A6, c6, rfl, O.out.mono (by rw [World.size_alloc, World.size_alloc]; omega), J3.out.below⟩


def takT (t : Tb) (n : Nat) : Tb × Int :=
  if n = 0 ∨ t.sv ≠ decide (4278190080 ≤ n) then (t, 6) else if n ∈ t.lv ∨ n ∈ t.rl then (t, 7) else if 256 ≤ t.lv.length then (t, 5) else if t.lg + 1 < n then (t, 2) else (usedT t n, 0)

theorem tabs_put {w W : World} {s : Bool} {g : Int} {lv rl : List Nat} {A1 A2 : Option Addr} {c1 c2 : Nat} (h1 : Us w (.slice A1 lv.length c1) lv) (h2 : Us w (.slice A2 rl.length c2) rl) (hb : Below w.heap.size w W) : Tabs W (.agg #[.bool s, .int .i64 g, .slice A1 lv.length c1, .slice A2 rl.length c2]) ⟨s, g, lv, rl⟩ := ⟨A1, c1, A2, c2, rfl, h1.below hb, h2.below hb⟩

set_option maxRecDepth 100000 in
set_option maxHeartbeats 8000000 in
theorem rtak_true {v : Value} {g : Int} {lv rl : List Nat} {n : Nat} {w : World} (h : Tabs w v ⟨true, g, lv, rl⟩) (hf : Few ⟨true, g, lv, rl⟩) (hg : 0 ≤ g ∧ g ≤ 4294967295) (hn : n < 4294967296) : Calls Tryd.prog 24 #[v, .int .u32 (n : Int)] w (GivesT (takT ⟨true, g, lv, rl⟩ n).1 (takT ⟨true, g, lv, rl⟩ n).2 w) := by
  obtain ⟨A1, c1, A2, c2, rfl, h1, h2⟩ := h
  have H1 := Lib.hid h1
  have H2 := Lib.hid h2
  simp only at H1 H2 h1 h2 ⊢
  have J := Lib.hid (heldT w true g (.slice A1 lv.length c1) (.slice A2 rl.length c2))
  have C1 := fun W (hb : Below w.heap.size w W) => Lib.hid (rhas_any (n := n) (H1.out.below hb))
  have C2 := fun W (hb : Below w.heap.size w W) => Lib.hid (rhas_any (n := n) (H2.out.below hb))
  have CU := fun W (hb : Below w.heap.size w W) => Lib.hid (rused_row (s := true) (g := g) (rl := rl) (A2 := A2) (c2 := c2) (n := n) (H1.out.below hb) hf.1 hn)
  have HP := Lib.hid (fun W hb => tabs_put (W := W) (s := true) (g := g) h1 h2 hb)
  have E := Lib.hid (show IntKind.i64.wrap (n : Int) = (n : Int) ∧ wrap64 (n : Int) = (n : Int) ∧ wrap64 (g + 1) = g + 1 ∧ IntKind.i64.wrap (g + 1) = g + 1 from ⟨IntWalk.i64_in _ (by omega), IntWalk.wrap64_in _ (by omega), IntWalk.wrap64_in _ (by omega), IntWalk.i64_in _ (by omega)⟩)
  unfold GivesT
  by_cases r1 : n = 0
  · rw [show takT ⟨true, g, lv, rl⟩ n = (⟨true, g, lv, rl⟩, 6) from if_pos (.inl r1)]
    generalize lv.length = k1 at *
    generalize rl.length = k2 at *
    have e1 : (n : Int) = 0 := by omega
    clear h1 h2 hf hg hn C1 C2 CU r1
    go_enter Tryd.func24, Tryd.ntmps24
    go_wp2_with fail
    have K := (((Held.nil w).alloc [.bool true, .int .i64 g, .slice A1 k1 c1, .slice A2 k2 c2] 29).alloc [.bool true, .int .i64 g, .slice A1 k1 c1, .slice A2 k2 c2] 29).below
    exact bodyPost_ret (v := .tuple #[.agg #[.bool true, .int .i64 g, .slice A1 k1 c1, .slice A2 k2 c2], .int .i64 6]) (by simp [results, Tryd.results24, go_sem]) rfl ⟨_, rfl, HP.out _ K, K⟩
  · have e1 : ¬ (n : Int) = 0 := by omega
    by_cases r2 : 4278190080 ≤ n
    · have e2 : (4278190080 : Int) ≤ (n : Int) := by omega
      have e3 : decide ((4278190080 : Int) ≤ (n : Int)) = true := decide_eq_true e2
      have hx : ¬ (n = 0 ∨ true ≠ decide (4278190080 ≤ n)) := by simp [r1, r2]
      have ht : takT ⟨true, g, lv, rl⟩ n = if n ∈ lv ∨ n ∈ rl then (⟨true, g, lv, rl⟩, 7) else if 256 ≤ lv.length then (⟨true, g, lv, rl⟩, 5) else if g + 1 < n then (⟨true, g, lv, rl⟩, 2) else (usedT ⟨true, g, lv, rl⟩ n, 0) := if_neg hx
      rw [ht]
      clear ht hx r1 r2
      by_cases m1 : n ∈ lv
      · rw [if_pos (.inl m1)]
        rw [decide_eq_true m1] at C1
        generalize lv.length = k1 at *
        generalize rl.length = k2 at *
        clear h1 h2 hf hg hn C2 CU m1
        go_enter Tryd.func24, Tryd.ntmps24
        go_wp2_with fail
        refine (C1 _ J.out.below).out.mono ?_
        rintro e w1 ⟨rfl, rfl⟩
        go_wp2_with fail
        have K := (((Held.nil w).alloc [.bool true, .int .i64 g, .slice A1 k1 c1, .slice A2 k2 c2] 29).alloc [.bool true, .int .i64 g, .slice A1 k1 c1, .slice A2 k2 c2] 29).below
        exact bodyPost_ret (v := .tuple #[.agg #[.bool true, .int .i64 g, .slice A1 k1 c1, .slice A2 k2 c2], .int .i64 7]) (by simp [results, Tryd.results24, go_sem]) rfl ⟨_, rfl, HP.out _ K, K⟩
      · rw [decide_eq_false m1] at C1
        by_cases m2 : n ∈ rl
        · rw [if_pos (.inr m2)]
          rw [decide_eq_true m2] at C2
          generalize lv.length = k1 at *
          generalize rl.length = k2 at *
          clear h1 h2 hf hg hn CU m1 m2
          go_enter Tryd.func24, Tryd.ntmps24
          go_wp2_with fail
          refine (C1 _ J.out.below).out.mono ?_
          rintro e w1 ⟨rfl, rfl⟩
          go_wp2_with fail
          refine (C2 _ J.out.below).out.mono ?_
          rintro e w1 ⟨rfl, rfl⟩
          go_wp2_with fail
          have K := (((Held.nil w).alloc [.bool true, .int .i64 g, .slice A1 k1 c1, .slice A2 k2 c2] 29).alloc [.bool true, .int .i64 g, .slice A1 k1 c1, .slice A2 k2 c2] 29).below
          exact bodyPost_ret (v := .tuple #[.agg #[.bool true, .int .i64 g, .slice A1 k1 c1, .slice A2 k2 c2], .int .i64 7]) (by simp [results, Tryd.results24, go_sem]) rfl ⟨_, rfl, HP.out _ K, K⟩
        · rw [decide_eq_false m2] at C2
          rw [if_neg (by simp [m1, m2])]
          by_cases m3 : 256 ≤ lv.length
          · rw [if_pos m3]
            generalize lv.length = k1 at *
            generalize rl.length = k2 at *
            have e4 : (256 : Int) ≤ k1 := by omega
            have e5 : decide ((256 : Int) ≤ k1) = true := decide_eq_true e4
            clear h1 h2 hf hg hn CU m1 m2 m3
            go_enter Tryd.func24, Tryd.ntmps24
            go_wp2_with fail
            refine (C1 _ J.out.below).out.mono ?_
            rintro e w1 ⟨rfl, rfl⟩
            go_wp2_with fail
            refine (C2 _ J.out.below).out.mono ?_
            rintro e w1 ⟨rfl, rfl⟩
            go_wp2_with fail
            have K := (((Held.nil w).alloc [.bool true, .int .i64 g, .slice A1 k1 c1, .slice A2 k2 c2] 29).alloc [.bool true, .int .i64 g, .slice A1 k1 c1, .slice A2 k2 c2] 29).below
            exact bodyPost_ret (v := .tuple #[.agg #[.bool true, .int .i64 g, .slice A1 k1 c1, .slice A2 k2 c2], .int .i64 5]) (by simp [results, Tryd.results24, go_sem]) rfl ⟨_, rfl, HP.out _ K, K⟩
          · rw [if_neg m3]
            by_cases m4 : g + 1 < n
            · rw [if_pos m4]
              generalize lv.length = k1 at *
              generalize rl.length = k2 at *
              have e4 : ¬ (256 : Int) ≤ k1 := by omega
              have e5 : decide ((256 : Int) ≤ k1) = false := decide_eq_false e4
              have e6 : decide (g + 1 < (n : Int)) = true := decide_eq_true m4
              clear h1 h2 hf hg hn CU m1 m2 m3
              obtain ⟨i1, i2, i3, i4⟩ := E.out
              go_enter Tryd.func24, Tryd.ntmps24
              go_wp2_with fail
              refine (C1 _ J.out.below).out.mono ?_
              rintro e w1 ⟨rfl, rfl⟩
              go_wp2_with fail
              refine (C2 _ J.out.below).out.mono ?_
              rintro e w1 ⟨rfl, rfl⟩
              go_wp2_with fail
              have K := (((Held.nil w).alloc [.bool true, .int .i64 g, .slice A1 k1 c1, .slice A2 k2 c2] 29).alloc [.bool true, .int .i64 g, .slice A1 k1 c1, .slice A2 k2 c2] 29).below
              exact bodyPost_ret (v := .tuple #[.agg #[.bool true, .int .i64 g, .slice A1 k1 c1, .slice A2 k2 c2], .int .i64 2]) (by simp [results, Tryd.results24, go_sem]) rfl ⟨_, rfl, HP.out _ K, K⟩
            · rw [if_neg m4]
              unfold usedT Tabs
              simp only
              generalize (lv ++ [n]).length = k3 at *
              generalize lv ++ [n] = L3 at *
              generalize lv.length = k1 at *
              generalize rl.length = k2 at *
              have e4 : ¬ (256 : Int) ≤ k1 := by omega
              have e5 : decide ((256 : Int) ≤ k1) = false := decide_eq_false e4
              have e6 : decide (g + 1 < (n : Int)) = false := decide_eq_false m4
              clear h1 h2 hf hg hn m1 m2 m3 HP
              have hlt := (J.out.four (l1 := [])).2.2.2.2.2
              obtain ⟨i1, i2, i3, i4⟩ := E.out
              go_enter Tryd.func24, Tryd.ntmps24
              go_wp2_with fail
              refine (C1 _ J.out.below).out.mono ?_
              rintro e w1 ⟨rfl, rfl⟩
              go_wp2_with fail
              refine (C2 _ J.out.below).out.mono ?_
              rintro e w1 ⟨rfl, rfl⟩
              go_wp2_with fail
              refine (CU _ J.out.below).out.mono ?_
              rintro e w1 ⟨A6, c6, rfl, ho, hb⟩
              clear i1 i2 i3 i4
              have O := Lib.hid (ho.set4 (k := w.heap.size + 1) hlt (.bool true) (.int .i64 (max g (n : Int))) (.slice A6 k3 c6) (.slice A2 k2 c2))
              replace J := Lib.hid (J.out.step hb)
              have J3 := Lib.hid (J.out.set4 (l1 := []) (.bool true) (.int .i64 (max g (n : Int))) (.slice A6 k3 c6) (.slice A2 k2 c2))
              obtain ⟨y0, y1, y2, y3, yf, yt⟩ := J.out.four (l1 := [])
              clear ho hb hlt
              go_wp2_with fail
              exact bodyPost_ret (v := .tuple #[.agg #[.bool true, .int .i64 (max g (n : Int)), .slice A6 k3 c6, .slice A2 k2 c2], .int .i64 0]) (by simp [results, Tryd.results24, go_sem, y0, y1, y2, y3]) rfl ⟨_, rfl, ⟨A6, c6, A2, c2, rfl, O.out.us, H2.out.below J3.out.below⟩, J3.out.below⟩

    · rw [show takT ⟨true, g, lv, rl⟩ n = (⟨true, g, lv, rl⟩, 6) from if_pos (.inr (by simp [r2]))]
      generalize lv.length = k1 at *
      generalize rl.length = k2 at *
      have e2 : ¬ (4278190080 : Int) ≤ (n : Int) := by omega
      have e3 : decide ((4278190080 : Int) ≤ (n : Int)) = false := decide_eq_false e2
      clear h1 h2 hf hg hn C1 C2 CU r1 r2
      go_enter Tryd.func24, Tryd.ntmps24
      go_wp2_with fail
      have K := (((Held.nil w).alloc [.bool true, .int .i64 g, .slice A1 k1 c1, .slice A2 k2 c2] 29).alloc [.bool true, .int .i64 g, .slice A1 k1 c1, .slice A2 k2 c2] 29).below
      exact bodyPost_ret (v := .tuple #[.agg #[.bool true, .int .i64 g, .slice A1 k1 c1, .slice A2 k2 c2], .int .i64 6]) (by simp [results, Tryd.results24, go_sem]) rfl ⟨_, rfl, HP.out _ K, K⟩

set_option maxRecDepth 100000 in
set_option maxHeartbeats 8000000 in
theorem rtak_false {v : Value} {g : Int} {lv rl : List Nat} {n : Nat} {w : World} (h : Tabs w v ⟨false, g, lv, rl⟩) (hf : Few ⟨false, g, lv, rl⟩) (hg : 0 ≤ g ∧ g ≤ 4294967295) (hn : n < 4294967296) : Calls Tryd.prog 24 #[v, .int .u32 (n : Int)] w (GivesT (takT ⟨false, g, lv, rl⟩ n).1 (takT ⟨false, g, lv, rl⟩ n).2 w) := by
  obtain ⟨A1, c1, A2, c2, rfl, h1, h2⟩ := h
  have H1 := Lib.hid h1
  have H2 := Lib.hid h2
  simp only at H1 H2 h1 h2 ⊢
  have J := Lib.hid (heldT w false g (.slice A1 lv.length c1) (.slice A2 rl.length c2))
  have C1 := fun W (hb : Below w.heap.size w W) => Lib.hid (rhas_any (n := n) (H1.out.below hb))
  have C2 := fun W (hb : Below w.heap.size w W) => Lib.hid (rhas_any (n := n) (H2.out.below hb))
  have CU := fun W (hb : Below w.heap.size w W) => Lib.hid (rused_row (s := false) (g := g) (rl := rl) (A2 := A2) (c2 := c2) (n := n) (H1.out.below hb) hf.1 hn)
  have HP := Lib.hid (fun W hb => tabs_put (W := W) (s := false) (g := g) h1 h2 hb)
  have E := Lib.hid (show IntKind.i64.wrap (n : Int) = (n : Int) ∧ wrap64 (n : Int) = (n : Int) ∧ wrap64 (g + 1) = g + 1 ∧ IntKind.i64.wrap (g + 1) = g + 1 from ⟨IntWalk.i64_in _ (by omega), IntWalk.wrap64_in _ (by omega), IntWalk.wrap64_in _ (by omega), IntWalk.i64_in _ (by omega)⟩)
  unfold GivesT
  by_cases r1 : n = 0
  · rw [show takT ⟨false, g, lv, rl⟩ n = (⟨false, g, lv, rl⟩, 6) from if_pos (.inl r1)]
    generalize lv.length = k1 at *
    generalize rl.length = k2 at *
    have e1 : (n : Int) = 0 := by omega
    clear h1 h2 hf hg hn C1 C2 CU r1
    go_enter Tryd.func24, Tryd.ntmps24
    go_wp2_with fail
    have K := (((Held.nil w).alloc [.bool false, .int .i64 g, .slice A1 k1 c1, .slice A2 k2 c2] 29).alloc [.bool false, .int .i64 g, .slice A1 k1 c1, .slice A2 k2 c2] 29).below
    exact bodyPost_ret (v := .tuple #[.agg #[.bool false, .int .i64 g, .slice A1 k1 c1, .slice A2 k2 c2], .int .i64 6]) (by simp [results, Tryd.results24, go_sem]) rfl ⟨_, rfl, HP.out _ K, K⟩
  · have e1 : ¬ (n : Int) = 0 := by omega
    by_cases r2 : 4278190080 ≤ n
    · rw [show takT ⟨false, g, lv, rl⟩ n = (⟨false, g, lv, rl⟩, 6) from if_pos (.inr (by simp [r2]))]
      generalize lv.length = k1 at *
      generalize rl.length = k2 at *
      have e2 : (4278190080 : Int) ≤ (n : Int) := by omega
      have e3 : decide ((4278190080 : Int) ≤ (n : Int)) = true := decide_eq_true e2
      clear h1 h2 hf hg hn C1 C2 CU r1 r2
      go_enter Tryd.func24, Tryd.ntmps24
      go_wp2_with fail
      have K := (((Held.nil w).alloc [.bool false, .int .i64 g, .slice A1 k1 c1, .slice A2 k2 c2] 29).alloc [.bool false, .int .i64 g, .slice A1 k1 c1, .slice A2 k2 c2] 29).below
      exact bodyPost_ret (v := .tuple #[.agg #[.bool false, .int .i64 g, .slice A1 k1 c1, .slice A2 k2 c2], .int .i64 6]) (by simp [results, Tryd.results24, go_sem]) rfl ⟨_, rfl, HP.out _ K, K⟩
    · have e2 : ¬ (4278190080 : Int) ≤ (n : Int) := by omega
      have e3 : decide ((4278190080 : Int) ≤ (n : Int)) = false := decide_eq_false e2
      have hx : ¬ (n = 0 ∨ false ≠ decide (4278190080 ≤ n)) := by simp [r1, r2]
      have ht : takT ⟨false, g, lv, rl⟩ n = if n ∈ lv ∨ n ∈ rl then (⟨false, g, lv, rl⟩, 7) else if 256 ≤ lv.length then (⟨false, g, lv, rl⟩, 5) else if g + 1 < n then (⟨false, g, lv, rl⟩, 2) else (usedT ⟨false, g, lv, rl⟩ n, 0) := if_neg hx
      rw [ht]
      clear ht hx r1 r2
      by_cases m1 : n ∈ lv
      · rw [if_pos (.inl m1)]
        rw [decide_eq_true m1] at C1
        generalize lv.length = k1 at *
        generalize rl.length = k2 at *
        clear h1 h2 hf hg hn C2 CU m1
        go_enter Tryd.func24, Tryd.ntmps24
        go_wp2_with fail
        refine (C1 _ J.out.below).out.mono ?_
        rintro e w1 ⟨rfl, rfl⟩
        go_wp2_with fail
        have K := (((Held.nil w).alloc [.bool false, .int .i64 g, .slice A1 k1 c1, .slice A2 k2 c2] 29).alloc [.bool false, .int .i64 g, .slice A1 k1 c1, .slice A2 k2 c2] 29).below
        exact bodyPost_ret (v := .tuple #[.agg #[.bool false, .int .i64 g, .slice A1 k1 c1, .slice A2 k2 c2], .int .i64 7]) (by simp [results, Tryd.results24, go_sem]) rfl ⟨_, rfl, HP.out _ K, K⟩
      · rw [decide_eq_false m1] at C1
        by_cases m2 : n ∈ rl
        · rw [if_pos (.inr m2)]
          rw [decide_eq_true m2] at C2
          generalize lv.length = k1 at *
          generalize rl.length = k2 at *
          clear h1 h2 hf hg hn CU m1 m2
          go_enter Tryd.func24, Tryd.ntmps24
          go_wp2_with fail
          refine (C1 _ J.out.below).out.mono ?_
          rintro e w1 ⟨rfl, rfl⟩
          go_wp2_with fail
          refine (C2 _ J.out.below).out.mono ?_
          rintro e w1 ⟨rfl, rfl⟩
          go_wp2_with fail
          have K := (((Held.nil w).alloc [.bool false, .int .i64 g, .slice A1 k1 c1, .slice A2 k2 c2] 29).alloc [.bool false, .int .i64 g, .slice A1 k1 c1, .slice A2 k2 c2] 29).below
          exact bodyPost_ret (v := .tuple #[.agg #[.bool false, .int .i64 g, .slice A1 k1 c1, .slice A2 k2 c2], .int .i64 7]) (by simp [results, Tryd.results24, go_sem]) rfl ⟨_, rfl, HP.out _ K, K⟩
        · rw [decide_eq_false m2] at C2
          rw [if_neg (by simp [m1, m2])]
          by_cases m3 : 256 ≤ lv.length
          · rw [if_pos m3]
            generalize lv.length = k1 at *
            generalize rl.length = k2 at *
            have e4 : (256 : Int) ≤ k1 := by omega
            have e5 : decide ((256 : Int) ≤ k1) = true := decide_eq_true e4
            clear h1 h2 hf hg hn CU m1 m2 m3
            go_enter Tryd.func24, Tryd.ntmps24
            go_wp2_with fail
            refine (C1 _ J.out.below).out.mono ?_
            rintro e w1 ⟨rfl, rfl⟩
            go_wp2_with fail
            refine (C2 _ J.out.below).out.mono ?_
            rintro e w1 ⟨rfl, rfl⟩
            go_wp2_with fail
            have K := (((Held.nil w).alloc [.bool false, .int .i64 g, .slice A1 k1 c1, .slice A2 k2 c2] 29).alloc [.bool false, .int .i64 g, .slice A1 k1 c1, .slice A2 k2 c2] 29).below
            exact bodyPost_ret (v := .tuple #[.agg #[.bool false, .int .i64 g, .slice A1 k1 c1, .slice A2 k2 c2], .int .i64 5]) (by simp [results, Tryd.results24, go_sem]) rfl ⟨_, rfl, HP.out _ K, K⟩
          · rw [if_neg m3]
            by_cases m4 : g + 1 < n
            · rw [if_pos m4]
              generalize lv.length = k1 at *
              generalize rl.length = k2 at *
              have e4 : ¬ (256 : Int) ≤ k1 := by omega
              have e5 : decide ((256 : Int) ≤ k1) = false := decide_eq_false e4
              have e6 : decide (g + 1 < (n : Int)) = true := decide_eq_true m4
              clear h1 h2 hf hg hn CU m1 m2 m3
              obtain ⟨i1, i2, i3, i4⟩ := E.out
              go_enter Tryd.func24, Tryd.ntmps24
              go_wp2_with fail
              refine (C1 _ J.out.below).out.mono ?_
              rintro e w1 ⟨rfl, rfl⟩
              go_wp2_with fail
              refine (C2 _ J.out.below).out.mono ?_
              rintro e w1 ⟨rfl, rfl⟩
              go_wp2_with fail
              have K := (((Held.nil w).alloc [.bool false, .int .i64 g, .slice A1 k1 c1, .slice A2 k2 c2] 29).alloc [.bool false, .int .i64 g, .slice A1 k1 c1, .slice A2 k2 c2] 29).below
              exact bodyPost_ret (v := .tuple #[.agg #[.bool false, .int .i64 g, .slice A1 k1 c1, .slice A2 k2 c2], .int .i64 2]) (by simp [results, Tryd.results24, go_sem]) rfl ⟨_, rfl, HP.out _ K, K⟩
            · rw [if_neg m4]
              unfold usedT Tabs
              simp only
              generalize (lv ++ [n]).length = k3 at *
              generalize lv ++ [n] = L3 at *
              generalize lv.length = k1 at *
              generalize rl.length = k2 at *
              have e4 : ¬ (256 : Int) ≤ k1 := by omega
              have e5 : decide ((256 : Int) ≤ k1) = false := decide_eq_false e4
              have e6 : decide (g + 1 < (n : Int)) = false := decide_eq_false m4
              clear h1 h2 hf hg hn m1 m2 m3 HP
              have hlt := (J.out.four (l1 := [])).2.2.2.2.2
              obtain ⟨i1, i2, i3, i4⟩ := E.out
              go_enter Tryd.func24, Tryd.ntmps24
              go_wp2_with fail
              refine (C1 _ J.out.below).out.mono ?_
              rintro e w1 ⟨rfl, rfl⟩
              go_wp2_with fail
              refine (C2 _ J.out.below).out.mono ?_
              rintro e w1 ⟨rfl, rfl⟩
              go_wp2_with fail
              refine (CU _ J.out.below).out.mono ?_
              rintro e w1 ⟨A6, c6, rfl, ho, hb⟩
              clear i1 i2 i3 i4
              have O := Lib.hid (ho.set4 (k := w.heap.size + 1) hlt (.bool false) (.int .i64 (max g (n : Int))) (.slice A6 k3 c6) (.slice A2 k2 c2))
              replace J := Lib.hid (J.out.step hb)
              have J3 := Lib.hid (J.out.set4 (l1 := []) (.bool false) (.int .i64 (max g (n : Int))) (.slice A6 k3 c6) (.slice A2 k2 c2))
              obtain ⟨y0, y1, y2, y3, yf, yt⟩ := J.out.four (l1 := [])
              clear ho hb hlt
              go_wp2_with fail
              exact bodyPost_ret (v := .tuple #[.agg #[.bool false, .int .i64 (max g (n : Int)), .slice A6 k3 c6, .slice A2 k2 c2], .int .i64 0]) (by simp [results, Tryd.results24, go_sem, y0, y1, y2, y3]) rfl ⟨_, rfl, ⟨A6, c6, A2, c2, rfl, O.out.us, H2.out.below J3.out.below⟩, J3.out.below⟩


end Go.Proofs.YtnefcmikeeadhaaDoor
