/-
  step of the laws: a call of the reference's table.
-/
import Derived.Test.YtnefcmikeeadhaaDoorDos
namespace Go.Proofs.YtnefcmikeeadhaaDoor
open Go.RowKit

/-- what step hands back -/
def GivesS (t : Tb) (r : Nat) (er : Int) (w : World) (e : Ending) (w' : World) : Prop := ∃ u, e = .returned (.tuple #[u, .int .u32 (r : Int), .int .i64 er]) ∧ Tabs w' u t ∧ Below w.heap.size w w'

theorem Us.set {W : World} {v : Value} {l : List Nat} (h : Us W v l) {k : Nat} {e : TypeId} (hk : TyAt W k e) (he : e ≠ 23) (i : Nat) (x : Value) : Us (W.setCell ⟨k, i, none⟩ x) v l := by
  obtain ⟨A, cap, hv, h1, h2, h4⟩ := h
  refine ⟨A, cap, hv, h1, h2, fun hn => ?_⟩
  obtain ⟨b, off, hA, ht, hc⟩ := h4 hn
  have hb : (W.setCell ⟨k, i, none⟩ x).heap[b]? = W.heap[b]? := heap_set (a := ⟨k, i, none⟩) (fun q => by subst q; exact he (hk.one ht)) x
  exact ⟨b, off, hA, ht.same hb, fun j y hy => (World.cell?_of_block (a := ⟨b, off + j, none⟩) hb).trans (hc j y hy)⟩
theorem Tabs.set {W : World} {u : Value} {t : Tb} (h : Tabs W u t) {k : Nat} {e : TypeId} (hk : TyAt W k e) (he : e ≠ 23) (i : Nat) (x : Value) : Tabs (W.setCell ⟨k, i, none⟩ x) u t := by
  obtain ⟨A1, c1, A2, c2, rfl, h1, h2⟩ := h
  exact ⟨A1, c1, A2, c2, rfl, h1.set hk he i x, h2.set hk he i x⟩
theorem Tabs.set4 {W : World} {u : Value} {t : Tb} (h : Tabs W u t) {k : Nat} {e : TypeId} (hk : TyAt W k e) (he : e ≠ 23) (x0 x1 x2 x3 : Value) : Tabs (set4 W k x0 x1 x2 x3) u t ∧ TyAt (set4 W k x0 x1 x2 x3) k e :=
  ⟨(((h.set hk he 0 x0).set (hk.set _ _) he 1 x1).set ((hk.set _ _).set _ _) he 2 x2).set (((hk.set _ _).set _ _).set _ _) he 3 x3, (((hk.set _ _).set _ _).set _ _).set _ _⟩
theorem TyAt.set4 {W : World} {j : Nat} {e : TypeId} (hj : TyAt W j e) (k : Nat) (x0 x1 x2 x3 : Value) : TyAt (YtnefcmikeeadhaaDoor.set4 W k x0 x1 x2 x3) j e := (((hj.set _ _).set _ _).set _ _).set _ _
theorem TyAt.made (w : World) (c : Array Value) (e : TypeId) : TyAt (w.alloc (.cells c e)) w.heap.size e := ⟨_, _, (MapKept.heap_alloc w _).1⟩
theorem TyAt.alloc {w : World} {k : Nat} {e : TypeId} (h : TyAt w k e) (o : Obj) : TyAt (w.alloc o) k e := h.below ((Below.refl _ _).alloc (Nat.le_refl _) _)

set_option maxRecDepth 100000 in
set_option maxHeartbeats 4000000 in
theorem step_all {w : World} {v : Value} {t : Tb} {n : Nat} (h : Tabs w v t) (hf : Few t) : Calls Tryd.prog 12 #[v, .agg #[.int .i64 0, .int .u32 (n : Int)]] w (GivesS (allT t).1 (allT t).2.1 (allT t).2.2 w) := by
  have HU := Lib.hid h
  obtain ⟨s, g, A1, n1, c1, A2, n2, c2, rfl⟩ := h.shp
  have J := Lib.hid (show Held w (((w.alloc (.cells #[.bool s, .int .i64 g, .slice A1 n1 c1, .slice A2 n2 c2] 29)).alloc (.cells #[.int .i64 0, .int .u32 (n : Int)] 35)).alloc (.cells #[.bool false, .int .i64 0, .slice none 0 0, .slice none 0 0] 29)) [(w.heap.size + 1 + 1, [.bool false, .int .i64 0, .slice none 0 0, .slice none 0 0]), (w.heap.size + 1, [.int .i64 0, .int .u32 (n : Int)]), (w.heap.size, [.bool s, .int .i64 g, .slice A1 n1 c1, .slice A2 n2 c2])] from by
    have h := (((Held.nil w).alloc [.bool s, .int .i64 g, .slice A1 n1 c1, .slice A2 n2 c2] 29).alloc [.int .i64 0, .int .u32 (n : Int)] 35).alloc [.bool false, .int .i64 0, .slice none 0 0, .slice none 0 0] 29
    rw [World.size_alloc, World.size_alloc] at h
    exact h)
  have Y0 := Lib.hid (((TyAt.made w #[.bool s, .int .i64 g, .slice A1 n1 c1, .slice A2 n2 c2] 29).alloc (.cells #[.int .i64 0, .int .u32 (n : Int)] 35)).alloc (.cells #[.bool false, .int .i64 0, .slice none 0 0, .slice none 0 0] 29))
  have Y2 := Lib.hid (show TyAt (((w.alloc (.cells #[.bool s, .int .i64 g, .slice A1 n1 c1, .slice A2 n2 c2] 29)).alloc (.cells #[.int .i64 0, .int .u32 (n : Int)] 35)).alloc (.cells #[.bool false, .int .i64 0, .slice none 0 0, .slice none 0 0] 29)) (w.heap.size + 1 + 1) 29 from by
    have h := TyAt.made ((w.alloc (.cells #[.bool s, .int .i64 g, .slice A1 n1 c1, .slice A2 n2 c2] 29)).alloc (.cells #[.int .i64 0, .int .u32 (n : Int)] 35)) #[.bool false, .int .i64 0, .slice none 0 0, .slice none 0 0] 29
    rw [World.size_alloc, World.size_alloc] at h
    exact h)
  have C := fun W (hb : Below w.heap.size w W) => Lib.hid (rall_any (HU.out.below hb) hf)
  generalize (allT t).2.1 = r at *
  generalize (allT t).2.2 = er at *
  generalize (allT t).1 = t2 at *
  clear h HU Y0
  go_enter Tryd.func12, Tryd.ntmps12
  go_wp2_with fail
  refine (C _ J.out.below).out.mono ?_
  rintro e w2 ⟨u, rfl, hU, hb⟩
  obtain ⟨s', g', B1, m1, d1, B2, m2, d2, rfl⟩ := hU.shp
  have J2 := J.out.step hb
  have J3 := Lib.hid (J2.set4 (l1 := []) (.bool s') (.int .i64 g') (.slice B1 m1 d1) (.slice B2 m2 d2))
  obtain ⟨y0, y1, y2, y3, yf, yt⟩ := J2.four (l1 := [])
  have U3 := Lib.hid (hU.set4 (Y2.out.below hb) (by decide) (.bool s') (.int .i64 g') (.slice B1 m1 d1) (.slice B2 m2 d2)).1
  clear hb hU J2 Y2
  go_wp2_with fail
  exact bodyPost_ret (v := .tuple #[.agg #[.bool s', .int .i64 g', .slice B1 m1 d1, .slice B2 m2 d2], .int .u32 (r : Int), .int .i64 er]) (by simp [results, Tryd.results12, go_sem, y0, y1, y2, y3]) rfl ⟨_, rfl, U3.out, J3.out.below⟩

set_option maxRecDepth 100000 in
set_option maxHeartbeats 4000000 in
theorem step_tak {w : World} {v : Value} {t : Tb} {n : Nat} (h : Tabs w v t) (hf : Few t) (hg : 0 ≤ t.lg ∧ t.lg ≤ 4294967295) (hn : n < 4294967296) : Calls Tryd.prog 12 #[v, .agg #[.int .i64 1, .int .u32 (n : Int)]] w (GivesS (takT t n).1 n (takT t n).2 w) := by
  have HU := Lib.hid h
  obtain ⟨s, g, A1, n1, c1, A2, n2, c2, rfl⟩ := h.shp
  have J := Lib.hid (show Held w (((w.alloc (.cells #[.bool s, .int .i64 g, .slice A1 n1 c1, .slice A2 n2 c2] 29)).alloc (.cells #[.int .i64 1, .int .u32 (n : Int)] 35)).alloc (.cells #[.bool false, .int .i64 0, .slice none 0 0, .slice none 0 0] 29)) [(w.heap.size + 1 + 1, [.bool false, .int .i64 0, .slice none 0 0, .slice none 0 0]), (w.heap.size + 1, [.int .i64 1, .int .u32 (n : Int)]), (w.heap.size, [.bool s, .int .i64 g, .slice A1 n1 c1, .slice A2 n2 c2])] from by
    have h := (((Held.nil w).alloc [.bool s, .int .i64 g, .slice A1 n1 c1, .slice A2 n2 c2] 29).alloc [.int .i64 1, .int .u32 (n : Int)] 35).alloc [.bool false, .int .i64 0, .slice none 0 0, .slice none 0 0] 29
    rw [World.size_alloc, World.size_alloc] at h
    exact h)
  have Y0 := Lib.hid (((TyAt.made w #[.bool s, .int .i64 g, .slice A1 n1 c1, .slice A2 n2 c2] 29).alloc (.cells #[.int .i64 1, .int .u32 (n : Int)] 35)).alloc (.cells #[.bool false, .int .i64 0, .slice none 0 0, .slice none 0 0] 29))
  have Y2 := Lib.hid (show TyAt (((w.alloc (.cells #[.bool s, .int .i64 g, .slice A1 n1 c1, .slice A2 n2 c2] 29)).alloc (.cells #[.int .i64 1, .int .u32 (n : Int)] 35)).alloc (.cells #[.bool false, .int .i64 0, .slice none 0 0, .slice none 0 0] 29)) (w.heap.size + 1 + 1) 29 from by
    have h := TyAt.made ((w.alloc (.cells #[.bool s, .int .i64 g, .slice A1 n1 c1, .slice A2 n2 c2] 29)).alloc (.cells #[.int .i64 1, .int .u32 (n : Int)] 35)) #[.bool false, .int .i64 0, .slice none 0 0, .slice none 0 0] 29
    rw [World.size_alloc, World.size_alloc] at h
    exact h)
  have C := fun W (hb : Below w.heap.size w W) => Lib.hid (rtak_any (HU.out.below hb) hf hg hn)
  generalize (takT t n).2 = er at *
  generalize (takT t n).1 = t2 at *
  clear h HU
  go_enter Tryd.func12, Tryd.ntmps12
  go_wp2_with fail
  refine (C _ J.out.below).out.mono ?_
  rintro e w2 ⟨u, rfl, hU, hb⟩
  obtain ⟨s', g', B1, m1, d1, B2, m2, d2, rfl⟩ := hU.shp
  have J2 := J.out.step hb
  have J3 := J2.set4 (l1 := [_, _]) (.bool s') (.int .i64 g') (.slice B1 m1 d1) (.slice B2 m2 d2)
  have J4 := Lib.hid (J3.set4 (l1 := []) (.bool s') (.int .i64 g') (.slice B1 m1 d1) (.slice B2 m2 d2)).drew
  have U3 := (hU.set4 (Y0.out.below hb) (by decide) (.bool s') (.int .i64 g') (.slice B1 m1 d1) (.slice B2 m2 d2)).1
  have Y3 := (Y2.out.below hb).set4 w.heap.size (.bool s') (.int .i64 g') (.slice B1 m1 d1) (.slice B2 m2 d2)
  have U4 := Lib.hid ((U3.set4 Y3 (by decide) (.bool s') (.int .i64 g') (.slice B1 m1 d1) (.slice B2 m2 d2)).1.below (Below.refl _ _).drew)
  have hx := J4.out.four (l1 := [_, _])
  have sx := Lib.hid (And.intro (And.intro hx.1 (And.intro hx.2.1 (And.intro hx.2.2.1 hx.2.2.2.1))) (J4.out.two (l1 := [_])).2.1)
  clear hx
  obtain ⟨x0, x1, x2, x3, xf, xt⟩ := J2.four (l1 := [_, _])
  obtain ⟨y0, y1, y2, y3, yf, yt⟩ := J2.four (l1 := [])
  have hq := J3.four (l1 := [_, _])
  have sk := And.intro (And.intro hq.1 (And.intro hq.2.1 (And.intro hq.2.2.1 hq.2.2.2.1))) (J3.two (l1 := [_])).2.1
  have yd := J3.four (l1 := [])
  have HY := Lib.hid yd
  clear hb hU J2 J3 U3 Y3 Y0 Y2 hq yd
  go_wp2_with fail
  generalize hw3 : (((w2.setCell ⟨w.heap.size, 0, none⟩ (.bool s')).setCell ⟨w.heap.size, 1, none⟩ (.int .i64 g')).setCell ⟨w.heap.size, 2, none⟩ (.slice B1 m1 d1)).setCell ⟨w.heap.size, 3, none⟩ (.slice B2 m2 d2) = w3 at *
  have e3 : YtnefcmikeeadhaaDoor.set4 w2 w.heap.size (.bool s') (.int .i64 g') (.slice B1 m1 d1) (.slice B2 m2 d2) = w3 := hw3
  rw [e3] at sk HY J4 U4 sx
  clear x0 x1 x2 x3 xf xt y0 y1 y2 y3 yf yt hw3 e3
  obtain ⟨y0, y1, y2, y3, yf, yt⟩ := HY.out
  go_region_held3 (fun W => (W.cell? ⟨w.heap.size, 0, none⟩ = some (.bool s') ∧ W.cell? ⟨w.heap.size, 1, none⟩ = some (.int .i64 g') ∧ W.cell? ⟨w.heap.size, 2, none⟩ = some (.slice B1 m1 d1) ∧ W.cell? ⟨w.heap.size, 3, none⟩ = some (.slice B2 m2 d2)) ∧ W.cell? ⟨w.heap.size + 1, 1, none⟩ = some (.int .u32 (n : Int)))
    (first
      | exact sk
      | exact sx.out
      | go_keep)
    (first
      | fail)
  all_goals
    go_wp2_with fail
    exact bodyPost_ret (v := .tuple #[.agg #[.bool s', .int .i64 g', .slice B1 m1 d1, .slice B2 m2 d2], .int .u32 (n : Int), .int .i64 er]) (by simp [results, Tryd.results12, go_sem, y0, y1, y2, y3]) rfl ⟨_, rfl, U4.out, J4.out.below⟩

set_option maxRecDepth 100000 in
set_option maxHeartbeats 4000000 in
theorem step_rel {w : World} {v : Value} {t : Tb} {n : Nat} (h : Tabs w v t) (hf : Few t) : Calls Tryd.prog 12 #[v, .agg #[.int .i64 2, .int .u32 (n : Int)]] w (GivesS (relT t n).1 n (relT t n).2 w) := by
  have HU := Lib.hid h
  obtain ⟨s, g, A1, n1, c1, A2, n2, c2, rfl⟩ := h.shp
  have J := Lib.hid (show Held w (((w.alloc (.cells #[.bool s, .int .i64 g, .slice A1 n1 c1, .slice A2 n2 c2] 29)).alloc (.cells #[.int .i64 2, .int .u32 (n : Int)] 35)).alloc (.cells #[.bool false, .int .i64 0, .slice none 0 0, .slice none 0 0] 29)) [(w.heap.size + 1 + 1, [.bool false, .int .i64 0, .slice none 0 0, .slice none 0 0]), (w.heap.size + 1, [.int .i64 2, .int .u32 (n : Int)]), (w.heap.size, [.bool s, .int .i64 g, .slice A1 n1 c1, .slice A2 n2 c2])] from by
    have h := (((Held.nil w).alloc [.bool s, .int .i64 g, .slice A1 n1 c1, .slice A2 n2 c2] 29).alloc [.int .i64 2, .int .u32 (n : Int)] 35).alloc [.bool false, .int .i64 0, .slice none 0 0, .slice none 0 0] 29
    rw [World.size_alloc, World.size_alloc] at h
    exact h)
  have Y0 := Lib.hid (((TyAt.made w #[.bool s, .int .i64 g, .slice A1 n1 c1, .slice A2 n2 c2] 29).alloc (.cells #[.int .i64 2, .int .u32 (n : Int)] 35)).alloc (.cells #[.bool false, .int .i64 0, .slice none 0 0, .slice none 0 0] 29))
  have Y2 := Lib.hid (show TyAt (((w.alloc (.cells #[.bool s, .int .i64 g, .slice A1 n1 c1, .slice A2 n2 c2] 29)).alloc (.cells #[.int .i64 2, .int .u32 (n : Int)] 35)).alloc (.cells #[.bool false, .int .i64 0, .slice none 0 0, .slice none 0 0] 29)) (w.heap.size + 1 + 1) 29 from by
    have h := TyAt.made ((w.alloc (.cells #[.bool s, .int .i64 g, .slice A1 n1 c1, .slice A2 n2 c2] 29)).alloc (.cells #[.int .i64 2, .int .u32 (n : Int)] 35)) #[.bool false, .int .i64 0, .slice none 0 0, .slice none 0 0] 29
    rw [World.size_alloc, World.size_alloc] at h
    exact h)
  have C := fun W (hb : Below w.heap.size w W) => Lib.hid (rrel_any (n := n) (HU.out.below hb) hf)
  generalize (relT t n).2 = er at *
  generalize (relT t n).1 = t2 at *
  clear h HU
  go_enter Tryd.func12, Tryd.ntmps12
  go_wp2_with fail
  refine (C _ J.out.below).out.mono ?_
  rintro e w2 ⟨u, rfl, hU, hb⟩
  obtain ⟨s', g', B1, m1, d1, B2, m2, d2, rfl⟩ := hU.shp
  have J2 := J.out.step hb
  have J3 := J2.set4 (l1 := [_, _]) (.bool s') (.int .i64 g') (.slice B1 m1 d1) (.slice B2 m2 d2)
  have J4 := Lib.hid (J3.set4 (l1 := []) (.bool s') (.int .i64 g') (.slice B1 m1 d1) (.slice B2 m2 d2)).drew
  have U3 := (hU.set4 (Y0.out.below hb) (by decide) (.bool s') (.int .i64 g') (.slice B1 m1 d1) (.slice B2 m2 d2)).1
  have Y3 := (Y2.out.below hb).set4 w.heap.size (.bool s') (.int .i64 g') (.slice B1 m1 d1) (.slice B2 m2 d2)
  have U4 := Lib.hid ((U3.set4 Y3 (by decide) (.bool s') (.int .i64 g') (.slice B1 m1 d1) (.slice B2 m2 d2)).1.below (Below.refl _ _).drew)
  have hx := J4.out.four (l1 := [_, _])
  have sx := Lib.hid (And.intro (And.intro hx.1 (And.intro hx.2.1 (And.intro hx.2.2.1 hx.2.2.2.1))) (J4.out.two (l1 := [_])).2.1)
  clear hx
  obtain ⟨x0, x1, x2, x3, xf, xt⟩ := J2.four (l1 := [_, _])
  obtain ⟨y0, y1, y2, y3, yf, yt⟩ := J2.four (l1 := [])
  have hq := J3.four (l1 := [_, _])
  have sk := And.intro (And.intro hq.1 (And.intro hq.2.1 (And.intro hq.2.2.1 hq.2.2.2.1))) (J3.two (l1 := [_])).2.1
  have yd := J3.four (l1 := [])
  have HY := Lib.hid yd
  clear hb hU J2 J3 U3 Y3 Y0 Y2 hq yd
  go_wp2_with fail
  generalize hw3 : (((w2.setCell ⟨w.heap.size, 0, none⟩ (.bool s')).setCell ⟨w.heap.size, 1, none⟩ (.int .i64 g')).setCell ⟨w.heap.size, 2, none⟩ (.slice B1 m1 d1)).setCell ⟨w.heap.size, 3, none⟩ (.slice B2 m2 d2) = w3 at *
  have e3 : YtnefcmikeeadhaaDoor.set4 w2 w.heap.size (.bool s') (.int .i64 g') (.slice B1 m1 d1) (.slice B2 m2 d2) = w3 := hw3
  rw [e3] at sk HY J4 U4 sx
  clear x0 x1 x2 x3 xf xt y0 y1 y2 y3 yf yt hw3 e3
  obtain ⟨y0, y1, y2, y3, yf, yt⟩ := HY.out
  go_region_held3 (fun W => (W.cell? ⟨w.heap.size, 0, none⟩ = some (.bool s') ∧ W.cell? ⟨w.heap.size, 1, none⟩ = some (.int .i64 g') ∧ W.cell? ⟨w.heap.size, 2, none⟩ = some (.slice B1 m1 d1) ∧ W.cell? ⟨w.heap.size, 3, none⟩ = some (.slice B2 m2 d2)) ∧ W.cell? ⟨w.heap.size + 1, 1, none⟩ = some (.int .u32 (n : Int)))
    (first
      | exact sk
      | exact sx.out
      | go_keep)
    (first
      | fail)
  all_goals
    go_wp2_with fail
    exact bodyPost_ret (v := .tuple #[.agg #[.bool s', .int .i64 g', .slice B1 m1 d1, .slice B2 m2 d2], .int .u32 (n : Int), .int .i64 er]) (by simp [results, Tryd.results12, go_sem, y0, y1, y2, y3]) rfl ⟨_, rfl, U4.out, J4.out.below⟩

set_option maxRecDepth 100000 in
set_option maxHeartbeats 4000000 in
theorem step_con {w : World} {v : Value} {t : Tb} {n : Nat} {kd : Int} (h : Tabs w v t) (hf : Few t) (k0 : ¬ kd = 0) (k1 : ¬ kd = 1) (k2 : ¬ kd = 2) : Calls Tryd.prog 12 #[v, .agg #[.int .i64 kd, .int .u32 (n : Int)]] w (GivesS (conT t n).1 n (conT t n).2 w) := by
  have HU := Lib.hid h
  obtain ⟨s, g, A1, n1, c1, A2, n2, c2, rfl⟩ := h.shp
  have J := Lib.hid (show Held w (((w.alloc (.cells #[.bool s, .int .i64 g, .slice A1 n1 c1, .slice A2 n2 c2] 29)).alloc (.cells #[.int .i64 kd, .int .u32 (n : Int)] 35)).alloc (.cells #[.bool false, .int .i64 0, .slice none 0 0, .slice none 0 0] 29)) [(w.heap.size + 1 + 1, [.bool false, .int .i64 0, .slice none 0 0, .slice none 0 0]), (w.heap.size + 1, [.int .i64 kd, .int .u32 (n : Int)]), (w.heap.size, [.bool s, .int .i64 g, .slice A1 n1 c1, .slice A2 n2 c2])] from by
    have h := (((Held.nil w).alloc [.bool s, .int .i64 g, .slice A1 n1 c1, .slice A2 n2 c2] 29).alloc [.int .i64 kd, .int .u32 (n : Int)] 35).alloc [.bool false, .int .i64 0, .slice none 0 0, .slice none 0 0] 29
    rw [World.size_alloc, World.size_alloc] at h
    exact h)
  have Y0 := Lib.hid (((TyAt.made w #[.bool s, .int .i64 g, .slice A1 n1 c1, .slice A2 n2 c2] 29).alloc (.cells #[.int .i64 kd, .int .u32 (n : Int)] 35)).alloc (.cells #[.bool false, .int .i64 0, .slice none 0 0, .slice none 0 0] 29))
  have Y2 := Lib.hid (show TyAt (((w.alloc (.cells #[.bool s, .int .i64 g, .slice A1 n1 c1, .slice A2 n2 c2] 29)).alloc (.cells #[.int .i64 kd, .int .u32 (n : Int)] 35)).alloc (.cells #[.bool false, .int .i64 0, .slice none 0 0, .slice none 0 0] 29)) (w.heap.size + 1 + 1) 29 from by
    have h := TyAt.made ((w.alloc (.cells #[.bool s, .int .i64 g, .slice A1 n1 c1, .slice A2 n2 c2] 29)).alloc (.cells #[.int .i64 kd, .int .u32 (n : Int)] 35)) #[.bool false, .int .i64 0, .slice none 0 0, .slice none 0 0] 29
    rw [World.size_alloc, World.size_alloc] at h
    exact h)
  have C := fun W (hb : Below w.heap.size w W) => Lib.hid (rcon_any (n := n) (HU.out.below hb) hf)
  generalize (conT t n).2 = er at *
  generalize (conT t n).1 = t2 at *
  clear h HU
  go_enter Tryd.func12, Tryd.ntmps12
  go_wp2_with fail
  refine (C _ J.out.below).out.mono ?_
  rintro e w2 ⟨u, rfl, hU, hb⟩
  obtain ⟨s', g', B1, m1, d1, B2, m2, d2, rfl⟩ := hU.shp
  have J2 := J.out.step hb
  have J3 := J2.set4 (l1 := [_, _]) (.bool s') (.int .i64 g') (.slice B1 m1 d1) (.slice B2 m2 d2)
  have J4 := Lib.hid (J3.set4 (l1 := []) (.bool s') (.int .i64 g') (.slice B1 m1 d1) (.slice B2 m2 d2)).drew
  have U3 := (hU.set4 (Y0.out.below hb) (by decide) (.bool s') (.int .i64 g') (.slice B1 m1 d1) (.slice B2 m2 d2)).1
  have Y3 := (Y2.out.below hb).set4 w.heap.size (.bool s') (.int .i64 g') (.slice B1 m1 d1) (.slice B2 m2 d2)
  have U4 := Lib.hid ((U3.set4 Y3 (by decide) (.bool s') (.int .i64 g') (.slice B1 m1 d1) (.slice B2 m2 d2)).1.below (Below.refl _ _).drew)
  have hx := J4.out.four (l1 := [_, _])
  have sx := Lib.hid (And.intro (And.intro hx.1 (And.intro hx.2.1 (And.intro hx.2.2.1 hx.2.2.2.1))) (J4.out.two (l1 := [_])).2.1)
  clear hx
  obtain ⟨x0, x1, x2, x3, xf, xt⟩ := J2.four (l1 := [_, _])
  obtain ⟨y0, y1, y2, y3, yf, yt⟩ := J2.four (l1 := [])
  have hq := J3.four (l1 := [_, _])
  have sk := And.intro (And.intro hq.1 (And.intro hq.2.1 (And.intro hq.2.2.1 hq.2.2.2.1))) (J3.two (l1 := [_])).2.1
  have yd := J3.four (l1 := [])
  have HY := Lib.hid yd
  clear hb hU J2 J3 U3 Y3 Y0 Y2 hq yd
  go_wp2_with fail
  generalize hw3 : (((w2.setCell ⟨w.heap.size, 0, none⟩ (.bool s')).setCell ⟨w.heap.size, 1, none⟩ (.int .i64 g')).setCell ⟨w.heap.size, 2, none⟩ (.slice B1 m1 d1)).setCell ⟨w.heap.size, 3, none⟩ (.slice B2 m2 d2) = w3 at *
  have e3 : YtnefcmikeeadhaaDoor.set4 w2 w.heap.size (.bool s') (.int .i64 g') (.slice B1 m1 d1) (.slice B2 m2 d2) = w3 := hw3
  rw [e3] at sk HY J4 U4 sx
  clear x0 x1 x2 x3 xf xt y0 y1 y2 y3 yf yt hw3 e3
  obtain ⟨y0, y1, y2, y3, yf, yt⟩ := HY.out
  go_region_held3 (fun W => (W.cell? ⟨w.heap.size, 0, none⟩ = some (.bool s') ∧ W.cell? ⟨w.heap.size, 1, none⟩ = some (.int .i64 g') ∧ W.cell? ⟨w.heap.size, 2, none⟩ = some (.slice B1 m1 d1) ∧ W.cell? ⟨w.heap.size, 3, none⟩ = some (.slice B2 m2 d2)) ∧ W.cell? ⟨w.heap.size + 1, 1, none⟩ = some (.int .u32 (n : Int)))
    (first
      | exact sk
      | exact sx.out
      | go_keep)
    (first
      | fail)
  all_goals
    go_wp2_with fail
    exact bodyPost_ret (v := .tuple #[.agg #[.bool s', .int .i64 g', .slice B1 m1 d1, .slice B2 m2 d2], .int .u32 (n : Int), .int .i64 er]) (by simp [results, Tryd.results12, go_sem, y0, y1, y2, y3]) rfl ⟨_, rfl, U4.out, J4.out.below⟩

theorem step_any {w : World} {v : Value} {t : Tb} {c n : Nat} {kd : Int} (h : Tabs w v t) (hG : GoodT t c) (hc : c ≤ 1400) (hn : n < 4294967296) : Calls Tryd.prog 12 #[v, .agg #[.int .i64 kd, .int .u32 (n : Int)]] w (GivesS (doT t kd n).1 (doT t kd n).2.1 (doT t kd n).2.2 w) := by
  have hf := hG.fits (by omega)
  have h1 := hG.lo
  have h2 := hG.few
  have h3 := fst_pos t.sv
  have h4 := fst_lst t.sv
  unfold doT
  by_cases k0 : kd = 0
  · subst k0
    exact step_all h hf
  · rw [if_neg k0]
    by_cases k1 : kd = 1
    · subst k1
      exact step_tak h hf (by omega) hn
    · rw [if_neg k1]
      by_cases k2 : kd = 2
      · subst k2
        exact step_rel h hf
      · rw [if_neg k2]
        exact step_con h hf k0 k1 k2

end Go.Proofs.YtnefcmikeeadhaaDoor
