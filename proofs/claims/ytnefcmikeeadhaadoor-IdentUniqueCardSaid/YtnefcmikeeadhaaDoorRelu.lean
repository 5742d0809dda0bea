/-
  Release and Confirm of the reference of package ident.
-/
import Derived.Test.YtnefcmikeeadhaaDoorTabu
namespace Go.Proofs.YtnefcmikeeadhaaDoor
open Go.RowKit

theorem OwnU.below2 {w w' : World} {base : Nat} {v : Value} {l : List Nat} (h : OwnU w base v l) (hb : Below w.heap.size w w') : OwnU w' base v l := h.below hb
def relT (t : Tb) (n : Nat) : Tb × Int := if n ∈ t.lv then (⟨t.sv, t.lg, wouN t.lv n, t.rl ++ [n]⟩, 0) else (t, 8)
def conT (t : Tb) (n : Nat) : Tb × Int := if n ∈ t.rl then (⟨t.sv, t.lg, t.lv, wouN t.rl n⟩, 0) else (t, 8)

set_option maxRecDepth 100000 in
set_option maxHeartbeats 4000000 in
theorem rrel_any {v : Value} {t : Tb} {n : Nat} {w : World} (h : Tabs w v t) (hf : Few t) : Calls Tryd.prog 25 #[v, .int .u32 (n : Int)] w (GivesT (relT t n).1 (relT t n).2 w) := by
  obtain ⟨A1, c1, A2, c2, rfl, h1, h2⟩ := h
  have H1 := Lib.hid h1
  have H2 := Lib.hid h2
  have J := Lib.hid (heldT w t.sv t.lg (.slice A1 t.lv.length c1) (.slice A2 t.rl.length c2))
  have C1 := fun W (hb : Below w.heap.size w W) => Lib.hid (rhas_any (n := n) (H1.out.below hb))
  have hs1 := hf.1
  have hs2 := hf.2
  have C2 := fun W (hb : Below w.heap.size w W) => Lib.hid (rwithout_any (n := n) (H1.out.below hb) (by omega))
  have C3 := fun W (hb : Below w.heap.size w W) => Lib.hid (rwith_any (n := n) (H2.out.below hb) (by omega))
  unfold relT GivesT Tabs
  by_cases hm : n ∈ t.lv
  · rw [if_pos hm]
    rw [decide_eq_true hm] at C1
    simp only
    generalize (t.rl ++ [n]).length = k4 at *
    generalize t.rl ++ [n] = L4 at *
    obtain ⟨k3, hk3⟩ : ∃ k, (wouN t.lv n).length = k := ⟨_, rfl⟩
    rw [hk3]
    replace hk3 := Lib.hid hk3
    generalize wouN t.lv n = L3 at *
    generalize t.lv.length = k1 at *
    generalize t.rl.length = k2 at *
    generalize t.sv = s at *
    generalize t.lg = g at *
    clear h1 h2 H1 H2 hf hs1 hs2 hm
    go_enter Tryd.func25, Tryd.ntmps25
    go_wp2_with fail
    refine (C1 _ J.out.below).out.mono ?_
    rintro e w1 ⟨rfl, rfl⟩
    go_wp2_with fail
    refine (C2 _ J.out.below).out.mono ?_
    rintro e w1 ⟨u, rfl, ho, hb⟩
    obtain ⟨A6, c6, rfl, _⟩ := ho.us.shape
    rw [hk3.out] at ho ⊢
    have hlt := (J.out.four (l1 := [])).2.2.2.2.2
    have hlt0 := (J.out.four (l1 := [_])).2.2.2.2.2
    replace J := Lib.hid (J.out.step hb)
    have O1 := Lib.hid (ho.cell hlt0 2 (.slice A6 k3 c6))
    obtain ⟨z0, z1, z2, z3, zf, zt⟩ := J.out.four (l1 := [_])
    clear ho hb
    go_wp2_with fail
    clear z0 z1 z2 z3 zf zt
    replace J := Lib.hid (J.out.cell (l1 := [_]) (i := 2) (by simp) (.slice A6 k3 c6))
    generalize w1.setCell ⟨w.heap.size, 2, none⟩ (.slice A6 k3 c6) = w2 at *
    refine (C3 _ J.out.below).out.mono ?_
    rintro e w3 ⟨A7, c7, rfl, ho, hb⟩
    have hlt2 := (J.out.four (l1 := [])).2.2.2.2.2
    have hlt3 := (J.out.four (l1 := [_])).2.2.2.2.2
    have O2 := Lib.hid (((ho.cell hlt3 3 (.slice A7 k4 c7))).set4 hlt2 (.bool s) (.int .i64 g) (.slice A6 k3 c6) (.slice A7 k4 c7))
    have O3 := Lib.hid (((O1.out.below2 hb).cell hlt0 3 (.slice A7 k4 c7)).set4 hlt (.bool s) (.int .i64 g) (.slice A6 k3 c6) (.slice A7 k4 c7))
    replace J := Lib.hid (J.out.step hb)
    have J3 := Lib.hid ((J.out.cell (l1 := [_]) (i := 3) (by simp) (.slice A7 k4 c7)).set4 (l1 := []) (.bool s) (.int .i64 g) (.slice A6 k3 c6) (.slice A7 k4 c7))
    obtain ⟨z0, z1, z2, z3, zf, zt⟩ := J.out.four (l1 := [_])
    obtain ⟨y0, y1, y2, y3, yf, yt⟩ := J.out.four (l1 := [])
    clear ho hb O1 hlt hlt0 hlt2 hlt3
    go_wp2_with fail
    exact bodyPost_ret (v := .tuple #[.agg #[.bool s, .int .i64 g, .slice A6 k3 c6, .slice A7 k4 c7], .int .i64 0]) (by simp [results, Tryd.results25, go_sem, y0, y1, y2, y3]) rfl ⟨_, rfl, ⟨A6, c6, A7, c7, rfl, O3.out.us, O2.out.us⟩, J3.out.below⟩
  · rw [if_neg hm]
    rw [decide_eq_false hm] at C1
    simp only
    generalize t.lv.length = k1 at *
    generalize t.rl.length = k2 at *
    generalize t.sv = s at *
    generalize t.lg = g at *
    clear h1 h2 C2 C3 hf hs1 hs2 hm
    go_enter Tryd.func25, Tryd.ntmps25
    go_wp2_with fail
    refine (C1 _ J.out.below).out.mono ?_
    rintro e w1 ⟨rfl, rfl⟩
    have J3 := Lib.hid (J.out.set4 (l1 := []) (.bool s) (.int .i64 g) (.slice A1 k1 c1) (.slice A2 k2 c2))
    obtain ⟨z0, z1, z2, z3, zf, zt⟩ := J.out.four (l1 := [_])
    obtain ⟨y0, y1, y2, y3, yf, yt⟩ := J.out.four (l1 := [])
    go_wp2_with fail
    have K := (((Held.nil w).alloc [.bool s, .int .i64 g, .slice A1 k1 c1, .slice A2 k2 c2] 29).alloc [.bool s, .int .i64 g, .slice A1 k1 c1, .slice A2 k2 c2] 29).below
    exact bodyPost_ret (v := .tuple #[.agg #[.bool s, .int .i64 g, .slice A1 k1 c1, .slice A2 k2 c2], .int .i64 8]) (by simp [results, Tryd.results25, go_sem]) rfl ⟨_, rfl, ⟨A1, c1, A2, c2, rfl, H1.out.below K, H2.out.below K⟩, K⟩

set_option maxRecDepth 100000 in
set_option maxHeartbeats 4000000 in
theorem rcon_any {v : Value} {t : Tb} {n : Nat} {w : World} (h : Tabs w v t) (hf : Few t) : Calls Tryd.prog 26 #[v, .int .u32 (n : Int)] w (GivesT (conT t n).1 (conT t n).2 w) := by
  obtain ⟨A1, c1, A2, c2, rfl, h1, h2⟩ := h
  have H1 := Lib.hid h1
  have H2 := Lib.hid h2
  have J := Lib.hid (heldT w t.sv t.lg (.slice A1 t.lv.length c1) (.slice A2 t.rl.length c2))
  have C1 := fun W (hb : Below w.heap.size w W) => Lib.hid (rhas_any (n := n) (H2.out.below hb))
  have hs2 := hf.2
  have C2 := fun W (hb : Below w.heap.size w W) => Lib.hid (rwithout_any (n := n) (H2.out.below hb) (by omega))
  unfold conT GivesT Tabs
  by_cases hm : n ∈ t.rl
  · rw [if_pos hm]
    rw [decide_eq_true hm] at C1
    simp only
    obtain ⟨k3, hk3⟩ : ∃ k, (wouN t.rl n).length = k := ⟨_, rfl⟩
    rw [hk3]
    replace hk3 := Lib.hid hk3
    generalize wouN t.rl n = L3 at *
    generalize t.lv.length = k1 at *
    generalize t.rl.length = k2 at *
    generalize t.sv = s at *
    generalize t.lg = g at *
    clear h1 h2 H2 hf hs2 hm
    go_enter Tryd.func26, Tryd.ntmps26
    go_wp2_with fail
    refine (C1 _ J.out.below).out.mono ?_
    rintro e w1 ⟨rfl, rfl⟩
    go_wp2_with fail
    refine (C2 _ J.out.below).out.mono ?_
    rintro e w1 ⟨u, rfl, ho, hb⟩
    obtain ⟨A6, c6, rfl, _⟩ := ho.us.shape
    rw [hk3.out] at ho ⊢
    have hlt := (J.out.four (l1 := [])).2.2.2.2.2
    have hlt0 := (J.out.four (l1 := [_])).2.2.2.2.2
    replace J := Lib.hid (J.out.step hb)
    have O1 := Lib.hid ((ho.cell hlt0 3 (.slice A6 k3 c6)).set4 hlt (.bool s) (.int .i64 g) (.slice A1 k1 c1) (.slice A6 k3 c6))
    have J3 := Lib.hid ((J.out.cell (l1 := [_]) (i := 3) (by simp) (.slice A6 k3 c6)).set4 (l1 := []) (.bool s) (.int .i64 g) (.slice A1 k1 c1) (.slice A6 k3 c6))
    obtain ⟨z0, z1, z2, z3, zf, zt⟩ := J.out.four (l1 := [_])
    obtain ⟨y0, y1, y2, y3, yf, yt⟩ := J.out.four (l1 := [])
    clear ho hb hlt hlt0
    go_wp2_with fail
    exact bodyPost_ret (v := .tuple #[.agg #[.bool s, .int .i64 g, .slice A1 k1 c1, .slice A6 k3 c6], .int .i64 0]) (by simp [results, Tryd.results26, go_sem, y0, y1, y2, y3]) rfl ⟨_, rfl, ⟨A1, c1, A6, c6, rfl, H1.out.below J3.out.below, O1.out.us⟩, J3.out.below⟩
  · rw [if_neg hm]
    rw [decide_eq_false hm] at C1
    simp only
    generalize t.lv.length = k1 at *
    generalize t.rl.length = k2 at *
    generalize t.sv = s at *
    generalize t.lg = g at *
    clear h1 h2 C2 hf hs2 hm
    go_enter Tryd.func26, Tryd.ntmps26
    go_wp2_with fail
    refine (C1 _ J.out.below).out.mono ?_
    rintro e w1 ⟨rfl, rfl⟩
    have J3 := Lib.hid (J.out.set4 (l1 := []) (.bool s) (.int .i64 g) (.slice A1 k1 c1) (.slice A2 k2 c2))
    obtain ⟨z0, z1, z2, z3, zf, zt⟩ := J.out.four (l1 := [_])
    obtain ⟨y0, y1, y2, y3, yf, yt⟩ := J.out.four (l1 := [])
    go_wp2_with fail
    have K := (((Held.nil w).alloc [.bool s, .int .i64 g, .slice A1 k1 c1, .slice A2 k2 c2] 29).alloc [.bool s, .int .i64 g, .slice A1 k1 c1, .slice A2 k2 c2] 29).below
    exact bodyPost_ret (v := .tuple #[.agg #[.bool s, .int .i64 g, .slice A1 k1 c1, .slice A2 k2 c2], .int .i64 8]) (by simp [results, Tryd.results26, go_sem]) rfl ⟨_, rfl, ⟨A1, c1, A2, c2, rfl, H1.out.below K, H2.out.below K⟩, K⟩

end Go.Proofs.YtnefcmikeeadhaaDoor
