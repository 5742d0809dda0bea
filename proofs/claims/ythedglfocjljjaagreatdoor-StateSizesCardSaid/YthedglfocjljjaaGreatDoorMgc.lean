/-
  Lists of rectangles in a world, rows of rectangles of one's own, append onto them (from the seat of region). Types: 49 a slice of rectangles, 44 a rectangle.
-/
import Derived.Test.YthedglfocjljjaaGreatDoorMgb
import Derived.Test.YthedglfocjljjaaGreatDoorMga
import Derived.Deep.AppendLies
import Derived.Maps.AppendAt
import Derived.Laws.AppendOwnNone
namespace Go.Proofs.YthedglfocjljjaaGreatDoor
open Go.RowKit

theorem own_below {W W' : World} {base : Nat} {e : TypeId} {size : Nat} {v : Value} {n : Nat} {xs : List Value} (h : W.ownsRow base e size v n xs) (hb : Below W.heap.size W W') : W'.ownsRow base e size v n xs :=
  h.kept (grown_below hb none) (by cases v.ownBlock <;> simp)

set_option maxRecDepth 100000 in
theorem rect_info : (Tryz.prog.info? 53).map (fun i => (i.zero, i.size, i.bytes)) = some (some (.agg #[.int .i64 0, .int .i64 0, .int .i64 0, .int .i64 0]), 4, 32) := by kernel_rfl

def rcells4 (r : R) : List Value := [.int .i64 r.x0, .int .i64 r.y0, .int .i64 r.x1, .int .i64 r.y1]

def rflat (l : List R) : List Value := l.flatMap rcells4

theorem rflat_length (l : List R) : (rflat l).length = l.length * 4 := by
  induction l with
  | nil => rfl
  | cons p l ih => simp only [rflat, List.flatMap_cons, List.length_append, List.length_cons] at ih ⊢; rw [ih]; simp [rcells4]; omega

theorem rflat_at : ∀ (l : List R) (j : Nat) (r : R), l[j]? = some r →
    (rflat l)[j * 4]? = some (.int .i64 r.x0) ∧ (rflat l)[j * 4 + 1]? = some (.int .i64 r.y0) ∧ (rflat l)[j * 4 + 2]? = some (.int .i64 r.x1) ∧ (rflat l)[j * 4 + 3]? = some (.int .i64 r.y1)
  | [], j, r, h => by simp at h
  | q :: l, 0, r, h => by
    simp only [List.getElem?_cons_zero, Option.some.injEq] at h
    subst h
    exact ⟨rfl, rfl, rfl, rfl⟩
  | q :: l, j + 1, r, h => by
    rw [List.getElem?_cons_succ] at h
    have ih := rflat_at l j r h
    have e : rflat (q :: l) = rcells4 q ++ rflat l := rfl
    have el : (rcells4 q).length = 4 := rfl
    rw [e, List.getElem?_append_right (by omega), List.getElem?_append_right (by omega), List.getElem?_append_right (by omega), List.getElem?_append_right (by omega), el, show (j + 1) * 4 - 4 = j * 4 by omega, show (j + 1) * 4 + 1 - 4 = j * 4 + 1 by omega, show (j + 1) * 4 + 2 - 4 = j * 4 + 2 by omega, show (j + 1) * 4 + 3 - 4 = j * 4 + 3 by omega]
    exact ih

def Rs (w : World) (v : Value) (l : List R) : Prop :=
  ∃ (A : Option Addr) (cap : Nat), v = .slice A l.length cap ∧ l.length ≤ cap ∧ cap ≤ maxLen ∧
    (0 < l.length → ∃ b off, A = some ⟨b, off, none⟩ ∧ b < w.heap.size ∧ ∀ (j : Nat) (r : R), l[j]? = some r →
      w.cell? ⟨b, off + j * 4, none⟩ = some (.int .i64 r.x0) ∧ w.cell? ⟨b, off + j * 4 + 1, none⟩ = some (.int .i64 r.y0) ∧ w.cell? ⟨b, off + j * 4 + 2, none⟩ = some (.int .i64 r.x1) ∧ w.cell? ⟨b, off + j * 4 + 3, none⟩ = some (.int .i64 r.y1))

theorem Rs.below {w w' : World} {v : Value} {l : List R} (h : Rs w v l) (hb : Below w.heap.size w w') : Rs w' v l := by
  obtain ⟨A, cap, hv, h1, h2, h4⟩ := h
  refine ⟨A, cap, hv, h1, h2, fun hn => ?_⟩
  obtain ⟨b, off, hA, hlt, hc⟩ := h4 hn
  refine ⟨b, off, hA, Nat.lt_of_lt_of_le hlt hb.size, fun j t ht => ?_⟩
  rw [hb.cell (p := ⟨b, off + j * 4, none⟩) hlt, hb.cell (p := ⟨b, off + j * 4 + 1, none⟩) hlt, hb.cell (p := ⟨b, off + j * 4 + 2, none⟩) hlt, hb.cell (p := ⟨b, off + j * 4 + 3, none⟩) hlt]
  exact hc j t ht

theorem rs_nil (w : World) : Rs w (.slice none 0 0) [] := ⟨none, 0, rfl, Nat.le_refl _, by simp [maxLen], fun h => by simp at h⟩

theorem Rs.shape {w : World} {v : Value} {l : List R} (h : Rs w v l) : ∃ A cap, v = .slice A l.length cap ∧ l.length ≤ cap ∧ cap ≤ maxLen := by
  obtain ⟨A, cap, hv, h1, h2, _⟩ := h
  exact ⟨A, cap, hv, h1, h2⟩

def OwnR (w : World) (base : Nat) (v : Value) (l : List R) : Prop := w.ownsRow base 53 4 v l.length (rflat l)

theorem ownR_nil (w : World) (base : Nat) : OwnR w base (.slice none 0 0) [] := World.ownsRow_nil w base 53 4

theorem OwnR.rs {w : World} {base : Nat} {v : Value} {l : List R} (h : OwnR w base v l) : Rs w v l := by
  have hall := h
  obtain ⟨_, hc⟩ := h
  rcases hc with ⟨rfl, h0⟩ | ⟨g, cap, cur, rfl, _, hh, hn, hm, _⟩
  · have : l = [] := List.eq_nil_of_length_eq_zero h0
    subst this
    exact rs_nil w
  · refine ⟨_, cap, rfl, hn, hm, fun _ => ⟨g, 0, rfl, ?_, fun j p hj => ?_⟩⟩
    · rcases Nat.lt_or_ge g w.heap.size with hl | hl
      · exact hl
      · rw [Array.getElem?_eq_none hl] at hh; cases hh
    · have hjl := (List.getElem?_eq_some_iff.1 hj).1
      obtain ⟨e0, e1, e2, e3⟩ := rflat_at l j p hj
      rw [Nat.zero_add, hall.cellAt (j * 4) (by omega), hall.cellAt (j * 4 + 1) (by omega), hall.cellAt (j * 4 + 2) (by omega), hall.cellAt (j * 4 + 3) (by omega)]
      exact ⟨e0, e1, e2, e3⟩

theorem OwnR.block {w : World} {base : Nat} {v : Value} {l : List R} (h : OwnR w base v l) : ∀ k, v.ownBlock = some k → base ≤ k ∧ k < w.heap.size := World.ownsRow.lt h

theorem OwnR.below {w w' : World} {base : Nat} {v : Value} {l : List R} (h : OwnR w base v l) (hb : Below w.heap.size w w') : OwnR w' base v l :=
  World.ownsRow.kept (row := none) h ⟨hb.os, hb.tape, hb.output, hb.size, fun k hk _ => hb.block k hk⟩ (by cases v.ownBlock <;> simp)

theorem oneCell_rflat (l : List R) : ∀ u ∈ rflat l, u.oneCell' = true := by
  intro u hu
  obtain ⟨p, hp, hc⟩ := List.mem_flatMap.1 hu
  simp only [rcells4, List.mem_cons, List.not_mem_nil, or_false] at hc
  rcases hc with rfl | rfl | rfl | rfl <;> rfl

theorem rflat_cells {w : World} {b off : Nat} {l : List R} (h : ∀ (j : Nat) (r : R), l[j]? = some r →
      w.cell? ⟨b, off + j * 4, none⟩ = some (.int .i64 r.x0) ∧ w.cell? ⟨b, off + j * 4 + 1, none⟩ = some (.int .i64 r.y0) ∧ w.cell? ⟨b, off + j * 4 + 2, none⟩ = some (.int .i64 r.x1) ∧ w.cell? ⟨b, off + j * 4 + 3, none⟩ = some (.int .i64 r.y1)) :
    ∀ j u, (rflat l)[j]? = some u → w.cell? ((⟨b, off, none⟩ : Addr).add j) = some u := by
  intro j u hu
  have hj : j < l.length * 4 := by
    have := (List.getElem?_eq_some_iff.1 hu).1
    rwa [rflat_length] at this
  obtain ⟨p, hp⟩ : ∃ p, l[j / 4]? = some p := ⟨_, List.getElem?_eq_getElem (by omega)⟩
  obtain ⟨e0, e1, e2, e3⟩ := rflat_at l _ p hp
  obtain ⟨c0, c1, c2, c3⟩ := h _ p hp
  rw [add_at]
  rcases (by omega : j = j / 4 * 4 ∨ j = j / 4 * 4 + 1 ∨ j = j / 4 * 4 + 2 ∨ j = j / 4 * 4 + 3) with hh | hh | hh | hh
  · rw [hh, e0] at hu; rw [hh, c0, hu]
  · rw [hh, e1] at hu; rw [hh, ← Nat.add_assoc, c1, hu]
  · rw [hh, e2] at hu; rw [hh, ← Nat.add_assoc, c2, hu]
  · rw [hh, e3] at hu; rw [hh, ← Nat.add_assoc, c3, hu]

theorem snoc_cases {α : Type} (l : List α) : l = [] ∨ ∃ m p, l = m ++ [p] := by
  rcases List.eq_nil_or_concat l with h | ⟨m, p, h⟩
  · exact .inl h
  · exact .inr ⟨m, p, by simpa using h⟩

theorem rs_one (w : World) (r : R) : Rs (w.alloc (.cells #[.int .i64 r.x0, .int .i64 r.y0, .int .i64 r.x1, .int .i64 r.y1] 53)) (.slice (some ⟨w.heap.size, 0, none⟩) 1 1) [r] := by
  refine ⟨_, 1, rfl, Nat.le_refl _, by simp [maxLen], fun _ => ⟨w.heap.size, 0, rfl, by simp, fun j q hj => ?_⟩⟩
  match j, hj with
  | 0, hj =>
    simp only [List.getElem?_cons_zero, Option.some.injEq] at hj
    subst hj
    refine ⟨?_, ?_, ?_, ?_⟩ <;> (rw [World.cell?_alloc_at _ _ _ _ rfl]; rfl)

theorem set_append_right' {α : Type} (s t : List α) (i n : Nat) (h : n = s.length) (x : α) : (s ++ t).set (n + i) x = s ++ t.set i x := by
  subst h
  have h := List.set_append_right (s := s) (t := t) (s.length + i) x (by omega)
  rw [h, Nat.add_sub_cancel_left]

theorem rflat_set : ∀ (l : List R) (j : Nat) (r : R) (y : Int), l[j]? = some r →
    (rflat l).set (j * 4) (.int .i64 y) = rflat (l.set j ⟨y, r.y0, r.x1, r.y1⟩) ∧ (rflat l).set (j * 4 + 2) (.int .i64 y) = rflat (l.set j ⟨r.x0, r.y0, y, r.y1⟩) ∧ (rflat l).set (j * 4 + 3) (.int .i64 y) = rflat (l.set j ⟨r.x0, r.y0, r.x1, y⟩)
  | [], j, r, y, h => by simp at h
  | q :: l, 0, r, y, h => by
    simp only [List.getElem?_cons_zero, Option.some.injEq] at h
    subst h
    exact ⟨rfl, rfl, rfl⟩
  | q :: l, j + 1, r, y, h => by
    rw [List.getElem?_cons_succ] at h
    obtain ⟨h1, h2, h3⟩ := rflat_set l j r y h
    have e : ∀ (q : R) (l : List R), rflat (q :: l) = rcells4 q ++ rflat l := fun _ _ => rfl
    simp only [List.set_cons_succ, e]
    rw [show (j + 1) * 4 = 4 + j * 4 by omega, show 4 + j * 4 + 2 = 4 + (j * 4 + 2) by omega, show 4 + j * 4 + 3 = 4 + (j * 4 + 3) by omega, set_append_right' _ _ _ 4 rfl, set_append_right' _ _ _ 4 rfl, set_append_right' _ _ _ 4 rfl, h1, h2, h3]
    exact ⟨rfl, rfl, rfl⟩

theorem owns_set {w : World} {base : Nat} {e : TypeId} {size g n cap : Nat} {xs : List Value} (h : w.ownsRow base e size (.slice (some ⟨g, 0, none⟩) n cap) n xs) (j : Nat) (u : Value) :
    (w.setCell ⟨g, j, none⟩ u).ownsRow base e size (.slice (some ⟨g, 0, none⟩) n cap) n (xs.set j u) := (h.stored j u).1

theorem grown_set (w : World) (g j : Nat) (u : Value) : w.grownBy (w.setCell ⟨g, j, none⟩ u) (some g) :=
  ⟨rfl, rfl, rfl, by simp, fun k _ hk => heap_setCell_other w ⟨g, j, none⟩ k u (fun e => hk (by simp [e]))⟩

theorem owns_far {w : World} {base : Nat} {e : TypeId} {size g n : Nat} {v : Value} {xs : List Value} (h : w.ownsRow base e size v n xs) (hg : v.ownBlock ≠ some g) (j : Nat) (u : Value) : (w.setCell ⟨g, j, none⟩ u).ownsRow base e size v n xs :=
  h.kept (grown_set w g j u) (.inr hg)

theorem owns_shape {w : World} {base : Nat} {e : TypeId} {size : Nat} {v : Value} {n : Nat} {xs : List Value} (h : w.ownsRow base e size v n xs) (hn : 0 < n) : ∃ g cap, v = .slice (some ⟨g, 0, none⟩) n cap ∧ base ≤ g ∧ g < w.heap.size ∧ n ≤ cap ∧ cap ≤ maxLen := by
  rcases h.2 with ⟨_, h0⟩ | ⟨g, cap, cur, rfl, hb, hg, hnc, hcm, _⟩
  · omega
  · exact ⟨g, cap, rfl, hb, (Array.getElem?_eq_some_iff.1 hg).1, hnc, hcm⟩

theorem owns_cells {w : World} {base : Nat} {e : TypeId} {size g n cap : Nat} {xs : List Value} (h : w.ownsRow base e size (.slice (some ⟨g, 0, none⟩) n cap) n xs) : (∀ j u, xs[j]? = some u → w.cell? ⟨g, j, none⟩ = some u) ∧ ∀ j, w.frozen? ⟨g, j, none⟩ = false := by
  refine ⟨fun j u hj => ?_, fun j => h.frozenAt j⟩
  have hlt : j < n * size := by
    have h1 := (List.getElem?_eq_some_iff.1 hj).1
    have h2 := h.1
    omega
  rw [h.cellAt j hlt]
  exact hj

theorem OwnR.set_x1 {w : World} {base g cap n : Nat} {l : List R} (h : w.ownsRow base 53 4 (.slice (some ⟨g, 0, none⟩) n cap) n (rflat l)) {j : Nat} {r : R} (hj : l[j]? = some r) (y : Int) :
    (w.setCell ⟨g, j * 4 + 2, none⟩ (.int .i64 y)).ownsRow base 53 4 (.slice (some ⟨g, 0, none⟩) n cap) n (rflat (l.set j ⟨r.x0, r.y0, y, r.y1⟩)) := by
  rw [← (rflat_set l j r y hj).2.1]
  exact owns_set h _ _

theorem OwnR.cells {w : World} {base g cap n : Nat} {l : List R} (h : w.ownsRow base 53 4 (.slice (some ⟨g, 0, none⟩) n cap) n (rflat l)) {j : Nat} {r : R} (hj : l[j]? = some r) :
    (w.cell? ⟨g, j * 4, none⟩ = some (.int .i64 r.x0) ∧ w.cell? ⟨g, j * 4 + 1, none⟩ = some (.int .i64 r.y0) ∧ w.cell? ⟨g, j * 4 + 2, none⟩ = some (.int .i64 r.x1) ∧ w.cell? ⟨g, j * 4 + 3, none⟩ = some (.int .i64 r.y1)) ∧ ∀ i, w.frozen? ⟨g, i, none⟩ = false := by
  obtain ⟨h1, h2⟩ := owns_cells h
  obtain ⟨e0, e1, e2, e3⟩ := rflat_at l j r hj
  exact ⟨⟨h1 _ _ e0, h1 _ _ e1, h1 _ _ e2, h1 _ _ e3⟩, h2⟩

theorem grown_trans {w w1 w2 : World} {row : Option Nat} (h : w.grownBy w1 row) (k : w1.grownBy w2 row) : w.grownBy w2 row :=
  ⟨k.os.trans h.os, k.tape.trans h.tape, k.output.trans h.output, Nat.le_trans h.size k.size, fun b hb hr => (k.block b (Nat.lt_of_lt_of_le hb h.size) hr).trans (h.block b hb hr)⟩

theorem grown_row {w w1 : World} {row : Option Nat} (h : w.grownBy w1 none) : w.grownBy w1 row := ⟨h.os, h.tape, h.output, h.size, fun b hb _ => h.block b hb (by simp)⟩

theorem grown_of_below {w w1 : World} {row : Option Nat} (h : Below w.heap.size w w1) : w.grownBy w1 row := grown_row (grown_below h none)

theorem set_last {α : Type} (m : List α) (p q : α) : (m ++ [p]).set m.length q = m ++ [q] := by
  rw [List.set_append_right _ _ (Nat.le_refl _), Nat.sub_self]
  rfl

set_option maxRecDepth 100000 in
set_option maxHeartbeats 1000000 in
theorem vsize_any (a b : Int) (w : World) : Calls Tryz.prog 99 #[.int .i64 a, .int .i64 b] w fun e w' => e = .returned (.bool (sizB a b)) ∧ w = w' := by
  obtain ⟨v, hv⟩ : ∃ v, sizB a b = v := ⟨_, rfl⟩
  rw [hv]
  unfold sizB at hv
  by_cases h0 : 1 ≤ a <;> by_cases h1 : a ≤ 256 <;> by_cases h2 : 1 ≤ b <;> by_cases h3 : b ≤ 256 <;> (simp [h0, h1, h2, h3] at hv; subst hv)
  all_goals
    go_enter Tryz.func99, Tryz.ntmps99
    go_wp2
    go_ret
    exact ⟨ret_bool (by simp [*]), rfl⟩

theorem drop_at {l : List Px} {k : Nat} {p : Px} (h : l[k]? = some p) : (l.drop k).all okPx = (okPx p && (l.drop (k + 1)).all okPx) := by
  obtain ⟨hk, e⟩ := List.getElem?_eq_some_iff.1 h
  rw [List.drop_eq_getElem_cons hk, e, List.all_cons]

theorem mul_int {a b : Int} (h0 : 1 ≤ a ∧ a ≤ 256) (h1 : 1 ≤ b ∧ b ≤ 256) : 1 ≤ a * b ∧ a * b ≤ 65536 := by
  constructor
  · have := Int.mul_le_mul h0.1 h1.1 (by omega) (by omega)
    omega
  · have := Int.mul_le_mul h0.2 h1.2 (by omega) (by omega)
    omega

theorem vBuf_cut {a b : Int} {l : List Px} (h0 : sizB a b = true) (h2 : (l.length : Int) = a * b) : vBuf a b l = l.all okPx := by
  unfold vBuf
  rw [h0, decide_eq_true h2]
  simp


set_option maxRecDepth 100000 in
set_option maxHeartbeats 4000000 in
theorem valid_any (a b : Int) {v : Value} {l : List Px} {w : World} (h : Pxs w v l) : Calls Tryz.prog 66 #[.agg #[.int .i64 a, .int .i64 b, v]] w fun e w' => e = .returned (.bool (vBuf a b l)) ∧ Below w.heap.size w w' := by
  obtain ⟨A, c, rfl, hc, hm, hcell⟩ := h
  simp only [maxLen] at hm
  have HC := Lib.hid hcell
  obtain ⟨n, hn⟩ : ∃ n, l.length = n := ⟨_, rfl⟩
  have HN := Lib.hid hn
  rw [hn] at hc ⊢
  clear hcell hn
  have J := Lib.hid ((Held.nil w).alloc [.int .i64 a, .int .i64 b, .slice A n c] 42)
  have C1 := fun W => Lib.hid (vsize_any a b W)
  have C2 := fun p W => Lib.hid (okpx_any p W)
  cases h0 : sizB a b
  · have hv : vBuf a b l = false := by unfold vBuf; rw [h0]; simp
    rw [hv]
    rw [h0] at C1
    clear hv h0
    go_enter Tryz.func66, Tryz.ntmps66
    go_wp2_with (go_at_call 99; (with_reducible refine (C1 _).out.mono ?_); rintro e wq ⟨rfl, rfl⟩)
    go_ret
    exact ⟨rfl, J.out.below⟩
  · obtain ⟨g0, g1⟩ := siz_iff.1 h0
    rw [h0] at C1
    have hp := mul_int g0 g1
    by_cases h2 : (n : Int) = a * b
    · have hv := vBuf_cut h0 (l := l) (by rw [HN.out]; exact h2)
      rw [hv]
      have hdz : (l.drop 0).all okPx = l.all okPx := by rw [List.drop_zero]
      have hw2 : wrap64 (a * b) = (n : Int) := by rw [IntWalk.wrap64_in _ (by omega), h2]
      have hn0 : 0 < n := by omega
      have hn6 : n ≤ 65536 := by omega
      obtain ⟨bb, off, rfl, hbb, hcs⟩ := HC.out (by rw [HN.out]; exact hn0)
      have HC2 := Lib.hid hcs
      obtain ⟨res, hres⟩ : ∃ res, l.all okPx = res := ⟨_, rfl⟩
      rw [hres] at hdz ⊢
      replace hdz := Lib.hid hdz
      clear hv hres HC hcs h2 hp h0 g0 g1
      go_enter Tryz.func66, Tryz.ntmps66
      go_wp2_with (go_at_call 99; (with_reducible refine (C1 _).out.mono ?_); rintro e wq ⟨rfl, rfl⟩)
      clear hw2
      go_loopw [25] (fun st wr => ∃ k : Nat, k ≤ n ∧ st = .int .i64 (k : Int) ∧ Hid ((l.drop k).all okPx = res ∧ Held w wr [(w.heap.size, [.int .i64 a, .int .i64 b, .slice (some ⟨bb, off, none⟩) n c])])) (fun st _ => leftN n st)
      case atStart => exact ⟨0, by omega, rfl, hdz.out, J.out⟩
      case round =>
        obtain ⟨k, hk, rfl, HR⟩ := hrel
        obtain ⟨o0, o1, o2, _, hz⟩ := HR.out.2.tri (l1 := [])
        by_cases hlt : k < n
        · obtain ⟨p, hpx⟩ : ∃ p, l[k]? = some p := ⟨_, List.getElem?_eq_getElem (by rw [HN.out]; exact hlt)⟩
          obtain ⟨c0, c1, c2, c3⟩ := (HC2.out k p hpx).keep HR.out.2.below hbb
          have hd := HR.out.1
          rw [drop_at hpx] at hd
          have q0 : (k : Int) < n := by omega
          have q1 : (0 : Int) ≤ k := by omega
          have K := Lib.hid HR.out.2
          clear hpx HR
          have C3 := fun W => Lib.hid ((C2 p W).out)
          cases hok : okPx p
          · rw [hok] at hd C3
            simp only [Bool.false_and] at hd
            subst hd
            clear hok
            go_wp2_with fail
            refine (C3 _).out.mono ?_
            rintro e w4 ⟨rfl, hb⟩
            have K2 := Lib.hid ((K.out.made _).step hb)
            clear hb
            go_wp2_with fail
            go_ret
            exact ⟨rfl, K2.out.below⟩
          · rw [hok] at hd C3
            simp only [Bool.true_and] at hd
            replace hd := Lib.hid hd
            clear hok
            go_wp2_with fail
            refine (C3 _).out.mono ?_
            rintro e w4 ⟨rfl, hb⟩
            have K2 := Lib.hid ((K.out.made _).step hb)
            clear hb
            go_wp2_with fail
            go_roundw
            case rel => exact ⟨k + 1, by omega, by go_num, hd.out, K2.out⟩
            case measure =>
              unfold leftN
              simp [RowKit.intOf]
              omega
        · obtain rfl : k = n := by omega
          have q0 : ¬ (k : Int) < k := by omega
          have hd := HR.out.1
          rw [List.drop_of_length_le (by rw [HN.out]; exact Nat.le_refl _)] at hd
          simp only [List.all_nil] at hd
          subst hd
          go_wp2_with fail
          go_ret
          exact ⟨rfl, HR.out.2.below⟩
    · have hv : vBuf a b l = false := by unfold vBuf; rw [HN.out, decide_eq_false h2]; simp
      rw [hv]
      have hw2 : wrap64 (a * b) = a * b := IntWalk.wrap64_in _ (by omega)
      obtain ⟨ab, hab⟩ : ∃ ab, a * b = ab := ⟨_, rfl⟩
      rw [hab] at h2
      replace hw2 := hw2.trans hab
      have h3 : ((n : Int) == ab) = false := by simpa using h2
      have h4 : ((n : Int) != ab) = true := by simpa using h2
      clear hv h0 hab hp
      go_enter Tryz.func66, Tryz.ntmps66
      go_wp2_with (go_at_call 99; (with_reducible refine (C1 _).out.mono ?_); rintro e wq ⟨rfl, rfl⟩)
      go_ret
      exact ⟨rfl, J.out.below⟩

end Go.Proofs.YthedglfocjljjaaGreatDoor
