/-
  continues and Contains: two rows of rectangles held side by side, a list searched for a point.
-/
import Derived.Test.YtclnepijbnhdfaaSame2
import Derived.Test.YtclnepijbnhdfaaComb
namespace Go.Proofs.Ytclnepijbnhdfaa
open Go.RowKit

/-- the rectangle q lies under p with the same columns -/
def contR (p q : R) : Bool := decide (p.y1 = q.y0) && decide (p.x0 = q.x0) && decide (p.x1 = q.x1)

theorem contR_iff (p q : R) : contR p q = true ↔ p.y1 = q.y0 ∧ p.x0 = q.x0 ∧ p.x1 = q.x1 := by
  simp [contR, and_assoc]

def contL : List R → List R → Bool
  | [], [] => true
  | p :: l, q :: m => contR p q && contL l m
  | _, _ => false

theorem contL_iff : ∀ {l m : List R}, contL l m = true ↔ l.length = m.length ∧ ∀ (j : Nat) (p q : R), l[j]? = some p → m[j]? = some q → contR p q = true
  | [], [] => by simp [contL]
  | [], q :: m => by simp [contL]
  | p :: l, [] => by simp [contL]
  | p :: l, q :: m => by
    simp only [contL, Bool.and_eq_true, contL_iff (l := l) (m := m), List.length_cons, Nat.add_right_cancel_iff]
    constructor
    · rintro ⟨h1, h2, h3⟩
      refine ⟨h2, fun j => ?_⟩
      cases j with
      | zero => intro p' q' e1 e2; simp only [List.getElem?_cons_zero, Option.some.injEq] at e1 e2; subst e1 e2; exact h1
      | succ j => intro p' q' e1 e2; simp only [List.getElem?_cons_succ] at e1 e2; exact h3 j p' q' e1 e2
    · rintro ⟨h2, h3⟩
      exact ⟨h3 0 p q rfl rfl, h2, fun j p' q' e1 e2 => h3 (j + 1) p' q' e1 e2⟩

set_option maxHeartbeats 1000000 in
theorem cont1_any (p q : R) (w : World) : Calls Try.prog 67 #[.agg #[.int .i64 p.x0, .int .i64 p.y0, .int .i64 p.x1, .int .i64 p.y1], .agg #[.int .i64 q.x0, .int .i64 q.y0, .int .i64 q.x1, .int .i64 q.y1]] w fun e w' => e = .returned (.bool (contR p q)) ∧ Below w.heap.size w w' := by
  obtain ⟨v, hv⟩ : ∃ v, contR p q = v := ⟨_, rfl⟩
  rw [hv]
  unfold contR at hv
  by_cases h1 : p.y1 = q.y0 <;> by_cases h2 : p.x0 = q.x0 <;> by_cases h3 : p.x1 = q.x1 <;> (simp [h1, h2, h3] at hv; subst hv)
  all_goals
    go_enter Try.func67, Try.ntmps67
    go_wp2_with fail
    go_ret
    exact ⟨ret_bool (by simp [*]), ((Below.refl _ _).alloc (Nat.le_refl _) _).alloc (by simp) _⟩

theorem below_box {w wr : World} (h : Below w.heap.size w wr) (o : Obj) : Below w.heap.size w (wr.alloc o) := h.alloc h.size o

set_option maxRecDepth 100000 in
set_option maxHeartbeats 4000000 in
theorem eqf_any {w : World} {v u : Value} {l m : List R} (h : Rs w v l) (hu : Rs w u m) :
    Calls Try.prog 66 #[v, u, .func (.func 67) #[] #[]] w fun e w' => e = .returned (.bool (contL l m)) ∧ Below w.heap.size w w' := by
  obtain ⟨A, c, rfl, hc, hm, hcell⟩ := h
  obtain ⟨A', c', rfl, hc', hm', hcell'⟩ := hu
  simp only [maxLen] at hm hm'
  by_cases he : l.length = m.length
  · have HC := Lib.hid hcell
    have HC' := Lib.hid hcell'
    obtain ⟨len, hn⟩ : ∃ len, l.length = len := ⟨_, rfl⟩
    rw [← he, hn] at hc'
    rw [← he, hn]
    rw [hn] at hc
    have HN := Lib.hid hn
    have HN' := Lib.hid (he.symm.trans hn)
    obtain ⟨res, hres⟩ : ∃ res, contL l m = res := ⟨_, rfl⟩
    have HRES := Lib.hid hres
    rw [hres]
    clear hcell hcell' hn he hres
    go_enter Try.func66, Try.ntmps66
    go_wp2_with fail
    go_loopw [17] (fun k wr => ∃ (j : Nat), j ≤ len ∧ k = .int .i64 (j : Int) ∧ Hid (Below w.heap.size w wr ∧ ∀ (i : Nat) (p q : R), i < j → l[i]? = some p → m[i]? = some q → contR p q = true)) (fun k _ => len - (intOf k).toNat)
    case atStart => exact ⟨0, by omega, rfl, Below.refl _ _, fun i p q h => by omega⟩
    case round =>
      obtain ⟨j, hj, rfl, hrel⟩ := hrel
      have HB := Lib.hid hrel.out.1
      by_cases hlt : j < len
      · obtain ⟨x, hx⟩ : ∃ x, l[j]? = some x := ⟨_, List.getElem?_eq_getElem (by rw [HN.out]; exact hlt)⟩
        obtain ⟨y, hy⟩ : ∃ y, m[j]? = some y := ⟨_, List.getElem?_eq_getElem (by rw [HN'.out]; exact hlt)⟩
        obtain ⟨b, off, rfl, hb, hcs⟩ := HC.out (by rw [HN.out]; omega)
        obtain ⟨b', off', rfl, hb', hcs'⟩ := HC'.out (by rw [HN'.out]; omega)
        obtain ⟨t0, t1, t2, t3⟩ := hcs j x hx
        obtain ⟨s0, s1, s2, s3⟩ := hcs' j y hy
        rw [← HB.out.cell (p := ⟨b, off + j * 4, none⟩) hb] at t0
        rw [← HB.out.cell (p := ⟨b, off + j * 4 + 1, none⟩) hb] at t1
        rw [← HB.out.cell (p := ⟨b, off + j * 4 + 2, none⟩) hb] at t2
        rw [← HB.out.cell (p := ⟨b, off + j * 4 + 3, none⟩) hb] at t3
        rw [← HB.out.cell (p := ⟨b', off' + j * 4, none⟩) hb'] at s0
        rw [← HB.out.cell (p := ⟨b', off' + j * 4 + 1, none⟩) hb'] at s1
        rw [← HB.out.cell (p := ⟨b', off' + j * 4 + 2, none⟩) hb'] at s2
        rw [← HB.out.cell (p := ⟨b', off' + j * 4 + 3, none⟩) hb'] at s3
        have q0 : (j : Int) < len := by omega
        have q1 : (0 : Int) ≤ j := by omega
        have HX := Lib.hid hx
        have HY := Lib.hid hy
        have C1 := fun W => Lib.hid (cont1_any x y W)
        have hbr : b < wr.heap.size := Nat.lt_of_lt_of_le hb HB.out.size
        have hbr' : b' < wr.heap.size := Nat.lt_of_lt_of_le hb' HB.out.size
        clear hx hy hcs hcs'
        go_wp2_with fail
        refine (C1 _).out.mono ?_
        rintro e w5 ⟨rfl, hb5⟩
        have HB5 : Hid (Below w.heap.size w w5) := Lib.hid ((below_box (below_box HB.out _) _).trans (hb5.mono (by have := HB.out.size; simp; omega)))
        clear hb5 C1 t0 t1 t2 t3 s0 s1 s2 s3
        cases h1 : contR x y
        · have e : res = false := by
            rw [← HRES.out]
            cases h4 : contL l m
            · rfl
            · have h5 := (contL_iff.1 h4).2 j x y HX.out HY.out
              rw [h1] at h5
              cases h5
          subst e
          go_wp2_with fail
          go_ret
          exact ⟨rfl, HB5.out⟩
        · have HT : Hid (∀ (i : Nat) (p q : R), i < j + 1 → l[i]? = some p → m[i]? = some q → contR p q = true) := Lib.hid (fun i p q hi hp hq => by
            by_cases e : i = j
            · subst e
              rw [HX.out] at hp
              rw [HY.out] at hq
              cases hp
              cases hq
              exact h1
            · exact hrel.out.2 i p q (by omega) hp hq)
          clear hrel h1
          go_wp2_with fail
          go_roundw
          case rel => exact ⟨j + 1, by omega, by go_num, HB5.out, HT.out⟩
          case measure => simp [intOf]; omega
      · have q0 : (len : Int) ≤ (j : Int) := by omega
        have e : res = true := by
          rw [← HRES.out]
          refine contL_iff.2 ⟨by rw [HN.out, HN'.out], fun i p q hp hq => hrel.out.2 i p q ?_ hp hq⟩
          have := (List.getElem?_eq_some_iff.1 hp).1
          rw [HN.out] at this
          omega
        clear hrel
        subst e
        go_wp2_with fail
        go_ret
        exact ⟨rfl, HB.out⟩
  · have e : contL l m = false := by
      cases h4 : contL l m
      · rfl
      · exact absurd (contL_iff.1 h4).1 he
    rw [e]
    obtain ⟨n1, h1⟩ : ∃ n, l.length = n := ⟨_, rfl⟩
    obtain ⟨n2, h2⟩ : ∃ n, m.length = n := ⟨_, rfl⟩
    rw [h1] at hc he ⊢
    rw [h2] at hc' he ⊢
    have q : ¬ (n1 : Int) = n2 := by omega
    clear h1 h2 hcell hcell' he e
    go_enter Try.func66, Try.ntmps66
    go_wp2_with fail
    go_ret
    exact ⟨rfl, Below.refl _ _⟩

theorem continues_any {w : World} {v u : Value} {l m : List R} (h : Rs w v l) (hu : Rs w u m) :
    Calls Try.prog 50 #[v, u] w fun e w' => e = .returned (.bool (contL l m)) ∧ Below w.heap.size w w' := by
  have C := Lib.hid (eqf_any h hu)
  obtain ⟨A, c, rfl, hc, hm, hcell⟩ := h
  obtain ⟨A', c', rfl, hc', hm', hcell'⟩ := hu
  clear hcell hcell'
  generalize contL l m = r at *
  go_enter Try.func50, Try.ntmps50
  go_wp2_with fail
  refine C.out.mono ?_
  rintro e w1 ⟨rfl, hb⟩
  have HB := Lib.hid hb
  clear C hb
  go_wp2_with fail
  go_ret
  exact ⟨rfl, HB.out⟩

/-- the closure of Contains -/
theorem in1_any (r : R) (x y : Int) (Bx By : Nat) (w : World) (hx : w.cell? ⟨Bx, 0, none⟩ = some (.int .i64 x)) (hy : w.cell? ⟨By, 0, none⟩ = some (.int .i64 y)) :
    Calls Try.prog 39 #[.agg #[.int .i64 r.x0, .int .i64 r.y0, .int .i64 r.x1, .int .i64 r.y1], .pointer (some ⟨Bx, 0, none⟩), .pointer (some ⟨By, 0, none⟩)] w fun e w' => e = .returned (.bool (conB r x y)) ∧ Below w.heap.size w w' := by
  have C := fun W => Lib.hid (contains_any r x y W)
  have hbx := World.block_lt_of_cell? w _ hx
  have hby := World.block_lt_of_cell? w _ hy
  simp only at hbx hby
  generalize conB r x y = res at *
  go_enter Try.func39, Try.ntmps39
  go_wp2_with fail
  refine (C _).out.mono ?_
  rintro e w1 ⟨rfl, hb⟩
  have HB := Lib.hid (((Below.refl w.heap.size w).alloc (Nat.le_refl _) _).trans (hb.mono (by simp)))
  clear C hb
  go_wp2_with fail
  go_ret
  exact ⟨rfl, HB.out⟩

theorem inL_take {l : List R} {x y : Int} {j : Nat} (h : l.length ≤ j) (hn : inL (l.take j) x y = false) : inL l x y = false := by
  rw [List.take_of_length_le h] at hn
  exact hn

set_option maxRecDepth 100000 in
set_option maxHeartbeats 4000000 in
theorem idxf_any {w : World} {v : Value} {l : List R} (h : Rs w v l) (x y : Int) (Bx By : Nat) (hx : w.cell? ⟨Bx, 0, none⟩ = some (.int .i64 x)) (hy : w.cell? ⟨By, 0, none⟩ = some (.int .i64 y)) :
    Calls Try.prog 55 #[v, .func (.func 39) #[] #[.pointer (some ⟨Bx, 0, none⟩), .pointer (some ⟨By, 0, none⟩)]] w fun e w' => ∃ i : Int, e = .returned (.int .i64 i) ∧ decide (0 ≤ i) = inL l x y ∧ Below w.heap.size w w' := by
  obtain ⟨A, c, rfl, hc, hm, hcell⟩ := h
  simp only [maxLen] at hm
  have HC := Lib.hid hcell
  have hbx := World.block_lt_of_cell? w _ hx
  have hby := World.block_lt_of_cell? w _ hy
  simp only at hbx hby
  obtain ⟨len, hn⟩ : ∃ len, l.length = len := ⟨_, rfl⟩
  rw [hn] at hc ⊢
  have HN := Lib.hid hn
  have HXc := Lib.hid hx
  have HYc := Lib.hid hy
  clear hcell hn hx hy
  go_enter Try.func55, Try.ntmps55
  go_wp2_with fail
  go_loopw [8] (fun k wr => ∃ (j : Nat), j ≤ len ∧ k = .int .i64 (j : Int) ∧ Hid (Below w.heap.size w wr ∧ inL (l.take j) x y = false)) (fun k _ => len - (intOf k).toNat)
  case atStart => exact ⟨0, by omega, rfl, Below.refl _ _, by simp [inL]⟩
  case round =>
    obtain ⟨j, hj, rfl, hrel⟩ := hrel
    have HB := Lib.hid hrel.out.1
    by_cases hlt : j < len
    · obtain ⟨r, hr⟩ : ∃ r, l[j]? = some r := ⟨_, List.getElem?_eq_getElem (by rw [HN.out]; exact hlt)⟩
      obtain ⟨b, off, rfl, hb, hcs⟩ := HC.out (by rw [HN.out]; omega)
      obtain ⟨t0, t1, t2, t3⟩ := hcs j r hr
      rw [← HB.out.cell (p := ⟨b, off + j * 4, none⟩) hb] at t0
      rw [← HB.out.cell (p := ⟨b, off + j * 4 + 1, none⟩) hb] at t1
      rw [← HB.out.cell (p := ⟨b, off + j * 4 + 2, none⟩) hb] at t2
      rw [← HB.out.cell (p := ⟨b, off + j * 4 + 3, none⟩) hb] at t3
      have q0 : (j : Int) < len := by omega
      have q1 : (0 : Int) ≤ j := by omega
      have HR := Lib.hid hr
      have C1 := Lib.hid (in1_any r x y Bx By wr ((HB.out.cell (p := ⟨Bx, 0, none⟩) hbx).trans HXc.out) ((HB.out.cell (p := ⟨By, 0, none⟩) hby).trans HYc.out))
      clear hr hcs
      go_wp2_with fail
      refine C1.out.mono ?_
      rintro e w5 ⟨rfl, hb5⟩
      have HB5 : Hid (Below w.heap.size w w5) := Lib.hid (HB.out.trans (hb5.mono HB.out.size))
      clear hb5 C1 t0 t1 t2 t3
      cases h1 : conB r x y
      · have HT : Hid (inL (l.take (j + 1)) x y = false) := Lib.hid (by
          have h2 := hrel.out.2
          rw [List.take_add_one, HR.out]
          unfold inL at h2 ⊢
          simp [h2, h1])
        clear hrel h1
        go_wp2_with fail
        go_roundw
        case rel => exact ⟨j + 1, by omega, by go_num, HB5.out, HT.out⟩
        case measure => simp [intOf]; omega
      · have HT : Hid (inL l x y = true) := Lib.hid ((inL_iff l x y).2 ⟨r, List.mem_of_getElem? HR.out, h1⟩)
        clear hrel h1
        go_wp2_with fail
        go_ret
        exact ⟨_, rfl, by rw [HT.out]; exact decide_eq_true q1, HB5.out⟩
    · have q0 : (len : Int) ≤ (j : Int) := by omega
      have HT : Hid (inL l x y = false) := Lib.hid (inL_take (by rw [HN.out]; omega) hrel.out.2)
      clear hrel
      go_wp2_with fail
      go_ret
      exact ⟨_, rfl, by rw [HT.out]; rfl, HB.out⟩

theorem contf_any {w : World} {v : Value} {l : List R} (h : Rs w v l) (x y : Int) (Bx By : Nat) (hx : w.cell? ⟨Bx, 0, none⟩ = some (.int .i64 x)) (hy : w.cell? ⟨By, 0, none⟩ = some (.int .i64 y)) :
    Calls Try.prog 38 #[v, .func (.func 39) #[] #[.pointer (some ⟨Bx, 0, none⟩), .pointer (some ⟨By, 0, none⟩)]] w fun e w' => e = .returned (.bool (inL l x y)) ∧ Below w.heap.size w w' := by
  have C := Lib.hid (idxf_any h x y Bx By hx hy)
  obtain ⟨A, c, rfl, hc, hm, hcell⟩ := h
  clear hcell hx hy
  go_enter Try.func38, Try.ntmps38
  go_wp2_with fail
  refine C.out.mono ?_
  rintro e w1 ⟨i, rfl, hi, hb⟩
  have HB := Lib.hid hb
  have HI := Lib.hid hi
  clear C hb hi
  go_wp2_with fail
  go_ret
  exact ⟨ret_bool HI.out, HB.out⟩

/-- Contains: is the point in one of the rectangles? -/
theorem incl_any {w : World} {v : Value} {l : List R} (h : Rs w v l) (x y : Int) : Calls Try.prog 16 #[v, .int .i64 x, .int .i64 y] w fun e w' => e = .returned (.bool (inL l x y)) ∧ Below w.heap.size w w' := by
  have HB0 : Hid (Below w.heap.size w ((w.alloc (.cells #[.int .i64 x] 3)).alloc (.cells #[.int .i64 y] 3))) := Lib.hid (((Below.refl w.heap.size w).alloc (Nat.le_refl _) _).alloc (by simp) _)
  have C := Lib.hid (contf_any (h.below HB0.out) x y w.heap.size (w.heap.size + 1) (by simp [go_sem]) (by simp [go_sem]))
  obtain ⟨A, c, rfl, hc, hm, hcell⟩ := h
  clear hcell
  generalize inL l x y = res at *
  go_enter Try.func16, Try.ntmps16
  go_wp2_with fail
  refine C.out.mono ?_
  rintro e w1 ⟨rfl, hb⟩
  have HB := Lib.hid (HB0.out.trans (hb.mono HB0.out.size))
  clear C hb HB0
  go_wp2_with fail
  go_ret
  exact ⟨rfl, HB.out⟩

end Go.Proofs.Ytclnepijbnhdfaa
