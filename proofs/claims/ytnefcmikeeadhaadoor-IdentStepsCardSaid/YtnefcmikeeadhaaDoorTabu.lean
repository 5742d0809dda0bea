/-
  The tables of the reference of package ident.
-/
import Derived.Test.YtnefcmikeeadhaaDoorHasu
namespace Go.Proofs.YtnefcmikeeadhaaDoor
open Go.RowKit

/-- a table of the reference -/
structure Tb where
  sv : Bool
  lg : Int
  lv : List Nat
  rl : List Nat

/-- the value v is the table t -/
def Tabs (W : World) (v : Value) (t : Tb) : Prop := ∃ A1 c1 A2 c2, v = .agg #[.bool t.sv, .int .i64 t.lg, .slice A1 t.lv.length c1, .slice A2 t.rl.length c2] ∧ Us W (.slice A1 t.lv.length c1) t.lv ∧ Us W (.slice A2 t.rl.length c2) t.rl
theorem Tabs.below {W W' : World} {v : Value} {t : Tb} (h : Tabs W v t) (hb : Below W.heap.size W W') : Tabs W' v t := by
  obtain ⟨A1, c1, A2, c2, rfl, h1, h2⟩ := h
  exact ⟨A1, c1, A2, c2, rfl, h1.below hb, h2.below hb⟩

/-- few enough identifiers for the memory of the walk -/
def Few (t : Tb) : Prop := t.lv.length ≤ 2000 ∧ t.rl.length ≤ 2000

def usedT (t : Tb) (n : Nat) : Tb := ⟨t.sv, max t.lg n, t.lv ++ [n], t.rl⟩
def newT (s : Bool) : Tb := if s then ⟨true, 4278190079, [], []⟩ else ⟨false, 0, [], []⟩

/-- a table and an error -/
def GivesT (t : Tb) (er : Int) (w : World) (e : Ending) (w' : World) : Prop := ∃ v, e = .returned (.tuple #[v, .int .i64 er]) ∧ Tabs w' v t ∧ Below w.heap.size w w'

set_option maxRecDepth 100000 in
set_option maxHeartbeats 4000000 in
theorem rwith_any {v : Value} {l : List Nat} {n : Nat} {w : World} (h : Us w v l) (hsm : l.length ≤ 100000) : Calls Tryd.prog 35 #[v, .int .u32 (n : Int)] w fun e w' => ∃ A c, e = .returned (.slice A (l ++ [n]).length c) ∧ OwnU w' w.heap.size (.slice A (l ++ [n]).length c) (l ++ [n]) ∧ Below w.heap.size w w' := by
  have H := Lib.hid h
  obtain ⟨A, c, rfl, _⟩ := h.shape
  have h1 := Lib.hid (show ([] : List Nat).length + l.length ≤ 4000000 by simp; omega)
  have h2 := Lib.hid (show ([] ++ l).length + [n].length ≤ 4000000 by simp; omega)
  obtain ⟨k, hk⟩ : ∃ k, l.length = k := ⟨_, rfl⟩
  rw [hk] at H ⊢
  clear hsm hk h
  go_enter Tryd.func35, Tryd.ntmps35
  go_wp2_with (first
    | (at_builtin; refine wpList_appU rfl _ _ rfl (base := w.heap.size) (l := []) (m := l) rfl (ownU_nil _ _) rfl H.out h1.out (Nat.le_refl _) ?_; intro v1 w1 ho1 hg1 hl1 _)
    | (at_builtin; refine wpList_appU rfl _ _ rfl (base := w.heap.size) (l := [] ++ l) (m := [n]) rfl (World.ownsRow.alloc ho1 _) rfl (us_one _ n) h2.out (by have := (below_grownU (Below.refl _ _) hg1 (ownU_nil w _)).size; rw [World.size_alloc]; omega) ?_; intro v2 w2 ho2 hg2 hl2 _))
  have b1 := below_grownU (Below.refl _ _) hg1 (ownU_nil w w.heap.size)
  have b2 := below_grownU (b1.alloc b1.size _) hg2 (World.ownsRow.alloc ho1 _)
  rw [List.nil_append] at ho2
  obtain ⟨A6, c6, rfl, _, _⟩ := ho2.us.shape
  clear ho1 hg1 hl1 hg2 hl2 b1
  go_ret
  exact ⟨_, _, rfl, ho2, b2⟩

theorem heldT (w : World) (s : Bool) (g : Int) (v1 v2 : Value) : Held w ((w.alloc (.cells #[.bool s, .int .i64 g, v1, v2] 29)).alloc (.cells #[.bool false, .int .i64 0, .slice none 0 0, .slice none 0 0] 29)) [(w.heap.size + 1, [.bool false, .int .i64 0, .slice none 0 0, .slice none 0 0]), (w.heap.size, [.bool s, .int .i64 g, v1, v2])] := by
  have h := ((Held.nil w).alloc [.bool s, .int .i64 g, v1, v2] 29).alloc [.bool false, .int .i64 0, .slice none 0 0, .slice none 0 0] 29
  rw [World.size_alloc] at h
  exact h

theorem OwnU.cell {w : World} {base : Nat} {v : Value} {l : List Nat} (h : OwnU w base v l) {k : Nat} (hk : k < base) (i : Nat) (u : Value) : OwnU (w.setCell ⟨k, i, none⟩ u) base v l := ownsRow_setCell_below h (a := ⟨k, i, none⟩) hk u
theorem OwnU.set4 {w : World} {base : Nat} {v : Value} {l : List Nat} (h : OwnU w base v l) {k : Nat} (hk : k < base) (y0 y1 y2 y3 : Value) : OwnU (set4 w k y0 y1 y2 y3) base v l := (((h.cell hk 0 y0).cell hk 1 y1).cell hk 2 y2).cell hk 3 y3

set_option maxRecDepth 100000 in
set_option maxHeartbeats 4000000 in
theorem rnew_any (s : Bool) (w : World) : Calls Tryd.prog 10 #[.bool s] w fun e w' => ∃ v, e = .returned v ∧ Tabs w' v (newT s) ∧ Below w.heap.size w w' := by
  have J := Lib.hid ((Held.nil w).alloc [.bool false, .int .i64 0, .slice none 0 0, .slice none 0 0] 29)
  have J1 := Lib.hid ((Held.nil w).alloc [.bool true, .int .i64 4278190079, .slice none 0 0, .slice none 0 0] 29)
  cases s
  · go_enter Tryd.func10, Tryd.ntmps10
    go_wp2_with fail
    exact bodyPost_ret (v := .agg #[.bool false, .int .i64 0, .slice none 0 0, .slice none 0 0]) (by simp [results, Tryd.results10, go_sem]) rfl ⟨_, rfl, ⟨none, 0, none, 0, rfl, us_nil _, us_nil _⟩, J.out.below⟩
  · go_enter Tryd.func10, Tryd.ntmps10
    go_wp2_with fail
    exact bodyPost_ret (v := .agg #[.bool true, .int .i64 4278190079, .slice none 0 0, .slice none 0 0]) (by simp [results, Tryd.results10, go_sem]) rfl ⟨_, rfl, ⟨none, 0, none, 0, rfl, us_nil _, us_nil _⟩, J1.out.below⟩

set_option maxRecDepth 100000 in
set_option maxHeartbeats 4000000 in
theorem rlive_any {v : Value} {t : Tb} {n : Nat} {w : World} (h : Tabs w v t) : Calls Tryd.prog 16 #[v, .int .u32 (n : Int)] w fun e w' => e = .returned (.bool (decide (n ∈ t.lv))) ∧ Below w.heap.size w w' := by
  obtain ⟨A1, c1, A2, c2, rfl, h1, h2⟩ := h
  have H1 := Lib.hid h1
  have J := Lib.hid ((Held.nil w).alloc [.bool t.sv, .int .i64 t.lg, .slice A1 t.lv.length c1, .slice A2 t.rl.length c2] 29)
  have C := fun W (hb : Below w.heap.size w W) => Lib.hid (rhas_any (n := n) (H1.out.below hb))
  generalize decide (n ∈ t.lv) = res at *
  generalize t.lv.length = k1 at *
  generalize t.rl.length = k2 at *
  generalize t.sv = s at *
  generalize t.lg = g at *
  clear h1 h2 H1
  go_enter Tryd.func16, Tryd.ntmps16
  go_wp2_with fail
  refine (C _ J.out.below).out.mono ?_
  rintro e w1 ⟨rfl, rfl⟩
  go_wp2_with fail
  go_ret
  exact ⟨rfl, J.out.below⟩

set_option maxRecDepth 100000 in
set_option maxHeartbeats 4000000 in
theorem rcount_any {v : Value} {t : Tb} {w : World} (h : Tabs w v t) : Calls Tryd.prog 14 #[v] w fun e w' => e = .returned (.int .i64 (t.lv.length : Int)) ∧ Below w.heap.size w w' := by
  obtain ⟨A1, c1, A2, c2, rfl, h1, h2⟩ := h
  have J := Lib.hid ((Held.nil w).alloc [.bool t.sv, .int .i64 t.lg, .slice A1 t.lv.length c1, .slice A2 t.rl.length c2] 29)
  generalize t.lv.length = k1 at *
  generalize t.rl.length = k2 at *
  generalize t.sv = s at *
  generalize t.lg = g at *
  clear h1 h2
  go_enter Tryd.func14, Tryd.ntmps14
  go_wp2_with fail
  go_ret
  exact ⟨rfl, J.out.below⟩

set_option maxRecDepth 100000 in
set_option maxHeartbeats 4000000 in
theorem rused_any {v : Value} {t : Tb} {n : Nat} {w : World} (h : Tabs w v t) (hf : Few t) (hn : n < 4294967296) : Calls Tryd.prog 33 #[v, .int .u32 (n : Int)] w fun e w' => ∃ u, e = .returned u ∧ Tabs w' u (usedT t n) ∧ Below w.heap.size w w' := by
  obtain ⟨A1, c1, A2, c2, rfl, h1, h2⟩ := h
  have H1 := Lib.hid h1
  have H2 := Lib.hid h2
  have J := Lib.hid (heldT w t.sv t.lg (.slice A1 t.lv.length c1) (.slice A2 t.rl.length c2))
  have hs := hf.1
  have C := fun W (hb : Below w.heap.size w W) => Lib.hid (rwith_any (n := n) (H1.out.below hb) (by omega))
  have E := Lib.hid (show IntKind.i64.wrap (n : Int) = (n : Int) ∧ wrap64 (n : Int) = (n : Int) from ⟨IntWalk.i64_in _ (by omega), IntWalk.wrap64_in _ (by omega)⟩)
  unfold usedT Tabs
  simp only
  generalize (t.lv ++ [n]).length = k3 at *
  generalize t.lv ++ [n] = L at *
  generalize t.lv.length = k1 at *
  generalize t.rl.length = k2 at *
  generalize t.sv = s at *
  generalize t.lg = g at *
  clear h1 h2 H1 hs hf
  go_enter Tryd.func33, Tryd.ntmps33
  go_wp2_with fail
  refine (C _ J.out.below).out.mono ?_
  rintro e w1 ⟨A6, c6, rfl, ho, hb⟩
  have hlt := (J.out.four (l1 := [])).2.2.2.2.2
  have O := Lib.hid (((ho.cell (k := w.heap.size) (by omega) 2 (.slice A6 k3 c6)).cell (k := w.heap.size) (by omega) 1 (.int .i64 (max g (n : Int)))).set4 (k := w.heap.size + 1) hlt (.bool s) (.int .i64 (max g (n : Int))) (.slice A6 k3 c6) (.slice A2 k2 c2))
  replace J := Lib.hid (J.out.step hb)
  have J2 := (J.out.cell (l1 := [_]) (i := 2) (by simp) (.slice A6 k3 c6)).cell (l1 := [_]) (i := 1) (by simp) (.int .i64 (max g (n : Int)))
  have J3 := Lib.hid (J2.set4 (l1 := []) (.bool s) (.int .i64 (max g (n : Int))) (.slice A6 k3 c6) (.slice A2 k2 c2))
  obtain ⟨z0, z1, z2, z3, zf, zt⟩ := J.out.four (l1 := [_])
  obtain ⟨y0, y1, y2, y3, yf, yt⟩ := J.out.four (l1 := [])
  clear ho hb J2 hlt
  obtain ⟨i1, i2⟩ := E.out
  go_wp2_with fail
  exact bodyPost_ret (v := .agg #[.bool s, .int .i64 (max g (n : Int)), .slice A6 k3 c6, .slice A2 k2 c2]) (by simp [results, Tryd.results33, go_sem, y0, y1, y2, y3]) rfl ⟨_, rfl, ⟨A6, c6, A2, c2, rfl, O.out.us, H2.out.below J3.out.below⟩, J3.out.below⟩

end Go.Proofs.YtnefcmikeeadhaaDoor
