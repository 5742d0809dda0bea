/-
  do and step of the laws: a call of the program's table, and of the reference's.
-/
import Derived.Test.YtnefcmikeeadhaaDoorRel
import Derived.Test.YtnefcmikeeadhaaDoorNwt
namespace Go.Proofs.YtnefcmikeeadhaaDoor
open Go.RowKit

def doT (t : Tb) (kd : Int) (n : Nat) : Tb × Nat × Int :=
  if kd = 0 then allT t else if kd = 1 then ((takT t n).1, n, (takT t n).2) else if kd = 2 then ((relT t n).1, n, (relT t n).2) else ((conT t n).1, n, (conT t n).2)

/-- the box of a call -/
def BoxO (W : World) (k : Nat) (kd : Int) (n : Nat) : Prop := W.heap[k]? = some (.cells #[.int .i64 kd, .int .u32 (n : Int)] 35 (0, 0))
theorem BoxO.cell {W : World} {k n : Nat} {kd : Int} (h : BoxO W k kd n) : W.cell? ⟨k, 0, none⟩ = some (.int .i64 kd) ∧ W.cell? ⟨k, 1, none⟩ = some (.int .u32 (n : Int)) := by
  unfold BoxO at h
  exact ⟨by simp [World.cell?, h], by simp [World.cell?, h]⟩
theorem BoxO.new (w : World) (kd : Int) (n : Nat) : BoxO (w.alloc (.cells #[.int .i64 kd, .int .u32 (n : Int)] 35)) w.heap.size kd n := (MapKept.heap_alloc w _).1
theorem BoxO.turn {base : Nat} {W W' : World} {k n : Nat} {kd : Int} (h : BoxO W k kd n) (hT : Turn base W W') : BoxO W' k kd n := (hT.oth k 35 ⟨_, _, h⟩ (by decide) (by decide)).trans h
theorem BoxO.drew {W : World} {k n : Nat} {kd : Int} (h : BoxO W k kd n) : BoxO W.drew k kd n := h

theorem Turn.below {w W W' : World} (h : Turn w.heap.size W W') (hb : Below w.heap.size w W) : Below w.heap.size w W' :=
  ⟨h.os.trans hb.os, h.tape.trans hb.tape, h.output.trans hb.output, Nat.le_trans hb.size h.size, fun k hk => (h.low k hk).trans (hb.block k hk)⟩

theorem rtak_any {v : Value} {t : Tb} {n : Nat} {w : World} (h : Tabs w v t) (hf : Few t) (hg : 0 ≤ t.lg ∧ t.lg ≤ 4294967295) (hn : n < 4294967296) : Calls Tryd.prog 24 #[v, .int .u32 (n : Int)] w (GivesT (takT t n).1 (takT t n).2 w) := by
  obtain ⟨s, g, lv, rl⟩ := t
  cases s
  · exact rtak_false h hf hg hn
  · exact rtak_true h hf hg hn
theorem rall_any {v : Value} {t : Tb} {w : World} (h : Tabs w v t) (hf : Few t) : Calls Tryd.prog 23 #[v] w fun e w' => ∃ u, e = .returned (.tuple #[u, .int .u32 (((allT t).2.1 : Nat) : Int), .int .i64 (allT t).2.2]) ∧ Tabs w' u (allT t).1 ∧ Below w.heap.size w w' := by
  obtain ⟨s, g, lv, rl⟩ := t
  cases s
  · exact rall_false h hf
  · exact rall_true h hf

/-- the four cells of a table of the reference -/
def Shp (v : Value) : Prop := ∃ (s : Bool) (g : Int) (A1 : Option Addr) (n1 c1 : Nat) (A2 : Option Addr) (n2 c2 : Nat), v = .agg #[.bool s, .int .i64 g, .slice A1 n1 c1, .slice A2 n2 c2]
theorem Tabs.shp {W : World} {v : Value} {t : Tb} (h : Tabs W v t) : Shp v := by
  obtain ⟨A1, c1, A2, c2, rfl, _⟩ := h
  exact ⟨_, _, _, _, _, _, _, _, rfl⟩


set_option maxRecDepth 40000 in
set_option maxHeartbeats 2000000 in
theorem do_any {base : Nat} {w : World} {v : Value} {t : Tb} {c n : Nat} {kd : Int} (h : TabP base w v t c) (hc : c ≤ 1400) (hn : n < 4294967296) :
    Calls Tryd.prog 11 #[v, .agg #[.int .i64 kd, .int .u32 (n : Int)]] w fun e w' => e = .returned (.tuple #[.int .u32 ((doT t kd n).2.1 : Int), .int .i64 (doT t kd n).2.2]) ∧ TabP base w' v (doT t kd n).1 (c + 1) ∧ Turn base w w' := by
  have hB : Below w.heap.size w (w.alloc (.cells #[.int .i64 kd, .int .u32 (n : Int)] 35)) := (Below.refl _ _).alloc (Nat.le_refl _) _
  have HX := Lib.hid (BoxO.new w kd n)
  have HT := Lib.hid (Turn.of_below hB h.bs)
  have HD := Lib.hid (Turn.of_below hB.drew h.bs)
  have HP := Lib.hid (h.below hB)
  have HQ := Lib.hid (h.below hB.drew)
  obtain ⟨k, bl, br, V, L, g, hv, _⟩ := id h
  subst hv
  unfold doT
  by_cases k0 : kd = 0
  · subst k0
    simp only [if_true]
    have C := Lib.hid (alloc_any HP.out hc)
    generalize (allT t).2.1 = r at *
    generalize (allT t).2.2 = er at *
    generalize (allT t).1 = t2 at *
    clear h hB HQ HD
    go_enter Tryd.func11, Tryd.ntmps11
    go_wp2_with fail
    refine C.out.mono ?_
    rintro e w2 ⟨rfl, hP, hT⟩
    go_wp2_with fail
    exact bodyPost_ret (v := .tuple #[.int .u32 (r : Int), .int .i64 er]) (by simp [results, Tryd.results11, go_sem]) rfl ⟨rfl, hP, HT.out.trans hT⟩
  · rw [if_neg k0]
    by_cases k1 : kd = 1
    · subst k1
      simp only [if_true]
      have C := fun W (hP : TabP base W (.pointer (some ⟨k, 0, none⟩)) t c) => Lib.hid (take_any hP hc hn)
      generalize (takT t n).2 = er at *
      generalize (takT t n).1 = t2 at *
      clear h hB
      obtain ⟨x0, x1⟩ := HX.out.cell
      go_enter Tryd.func11, Tryd.ntmps11
      go_wp2_with fail
      have sk := HX.out.cell
      generalize w.alloc (.cells #[.int .i64 1, .int .u32 (n : Int)] 35) = w1 at *
      generalize w.heap.size = kb at *
      go_region_held3 (fun W => W.cell? ⟨kb, 0, none⟩ = some (.int .i64 1) ∧ W.cell? ⟨kb, 1, none⟩ = some (.int .u32 (n : Int)))
        (first
          | exact sk
          | go_keep)
        (first
          | (go_at_call 19; (with_reducible refine (C _ (by first | exact HP.out | exact HQ.out)).out.mono ?_); rintro e w2 ⟨rfl, hP, hT⟩; clear sk x0 x1; have sk := (HX.out.drew.turn hT).cell; have Z := Lib.hid (And.intro hP (HD.out.trans hT)); clear hP hT)
          | fail)
      all_goals
        go_wp2_with fail
        exact bodyPost_ret (v := .tuple #[.int .u32 (n : Int), .int .i64 er]) (by simp [results, Tryd.results11, go_sem]) rfl ⟨rfl, Z.out⟩
    · rw [if_neg k1]
      by_cases k2 : kd = 2
      · subst k2
        simp only [if_true]
        have C := fun W (hP : TabP base W (.pointer (some ⟨k, 0, none⟩)) t c) => Lib.hid (release_any hP hc hn)
        generalize (relT t n).2 = er at *
        generalize (relT t n).1 = t2 at *
        clear h hB
        obtain ⟨x0, x1⟩ := HX.out.cell
        go_enter Tryd.func11, Tryd.ntmps11
        go_wp2_with fail
        have sk := HX.out.cell
        generalize w.alloc (.cells #[.int .i64 2, .int .u32 (n : Int)] 35) = w1 at *
        generalize w.heap.size = kb at *
        go_region_held3 (fun W => W.cell? ⟨kb, 0, none⟩ = some (.int .i64 2) ∧ W.cell? ⟨kb, 1, none⟩ = some (.int .u32 (n : Int)))
          (first
            | exact sk
            | go_keep)
          (first
            | (go_at_call 21; (with_reducible refine (C _ (by first | exact HP.out | exact HQ.out)).out.mono ?_); rintro e w2 ⟨rfl, hP, hT⟩; clear sk x0 x1; have sk := (HX.out.drew.turn hT).cell; have Z := Lib.hid (And.intro hP (HD.out.trans hT)); clear hP hT)
            | fail)
        all_goals
          go_wp2_with fail
          exact bodyPost_ret (v := .tuple #[.int .u32 (n : Int), .int .i64 er]) (by simp [results, Tryd.results11, go_sem]) rfl ⟨rfl, Z.out⟩
      · rw [if_neg k2]
        simp only
        have C := fun W (hP : TabP base W (.pointer (some ⟨k, 0, none⟩)) t c) => Lib.hid (confirm_any hP hc hn)
        generalize (conT t n).2 = er at *
        generalize (conT t n).1 = t2 at *
        clear h hB
        obtain ⟨x0, x1⟩ := HX.out.cell
        go_enter Tryd.func11, Tryd.ntmps11
        go_wp2_with fail
        have sk := HX.out.cell
        generalize w.alloc (.cells #[.int .i64 kd, .int .u32 (n : Int)] 35) = w1 at *
        generalize w.heap.size = kb at *
        go_region_held3 (fun W => W.cell? ⟨kb, 0, none⟩ = some (.int .i64 kd) ∧ W.cell? ⟨kb, 1, none⟩ = some (.int .u32 (n : Int)))
          (first
            | exact sk
            | go_keep)
          (first
            | (go_at_call 22; (with_reducible refine (C _ (by first | exact HP.out | exact HQ.out)).out.mono ?_); rintro e w2 ⟨rfl, hP, hT⟩; clear sk x0 x1; have sk := (HX.out.drew.turn hT).cell; have Z := Lib.hid (And.intro hP (HD.out.trans hT)); clear hP hT)
            | fail)
        all_goals
          go_wp2_with fail
          exact bodyPost_ret (v := .tuple #[.int .u32 (n : Int), .int .i64 er]) (by simp [results, Tryd.results11, go_sem]) rfl ⟨rfl, Z.out⟩

end Go.Proofs.YtnefcmikeeadhaaDoor
