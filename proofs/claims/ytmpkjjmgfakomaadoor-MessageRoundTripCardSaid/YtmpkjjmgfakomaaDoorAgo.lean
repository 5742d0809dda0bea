/-
  Rows of arguments of one's own, append onto them (from the text of rectangles).
-/
import Derived.Test.YtmpkjjmgfakomaaDoorMre
import Derived.Test.YtmpkjjmgfakomaaDoorIfz
namespace Go.Proofs.YtmpkjjmgfakomaaDoor
open Go.RowKit Mem Wire

set_option maxRecDepth 100000 in
theorem arg_info : (Tryd.prog.info? 43).map (fun i => (i.zero, i.size, i.bytes)) = some (some (.agg #[.int .i64 0, .int .i64 0, .string ⟨#[]⟩, .slice none 0 0]), 4, 56) := by kernel_rfl

def aflat (l : List AgV) : List Value := l.flatMap agC

theorem aflat_append (l m : List AgV) : aflat (l ++ m) = aflat l ++ aflat m := List.flatMap_append

theorem aflat_length (l : List AgV) : (aflat l).length = l.length * 4 := by
  induction l with
  | nil => rfl
  | cons p l ih => simp only [aflat, List.flatMap_cons, List.length_append, List.length_cons] at ih ⊢; rw [ih]; simp; omega

theorem aflat_at : ∀ (l : List AgV) (j : Nat) (r : AgV), l[j]? = some r →
    (aflat l)[j * 4]? = some (.int .i64 r.1.kd) ∧ (aflat l)[j * 4 + 1]? = some (.int .i64 r.1.nn) ∧ (aflat l)[j * 4 + 2]? = some (.string r.1.ss) ∧ (aflat l)[j * 4 + 3]? = some r.2
  | [], j, r, h => by simp at h
  | q :: l, 0, r, h => by
    simp only [List.getElem?_cons_zero, Option.some.injEq] at h
    subst h
    exact ⟨rfl, rfl, rfl, rfl⟩
  | q :: l, j + 1, r, h => by
    rw [List.getElem?_cons_succ] at h
    have ih := aflat_at l j r h
    have e : aflat (q :: l) = agC q ++ aflat l := rfl
    have el : (agC q).length = 4 := rfl
    rw [e, List.getElem?_append_right (by omega), List.getElem?_append_right (by omega), List.getElem?_append_right (by omega), List.getElem?_append_right (by omega), el, show (j + 1) * 4 - 4 = j * 4 by omega, show (j + 1) * 4 + 1 - 4 = j * 4 + 1 by omega, show (j + 1) * 4 + 2 - 4 = j * 4 + 2 by omega, show (j + 1) * 4 + 3 - 4 = j * 4 + 3 by omega]
    exact ih

/-- the slice value v holds the rectangles l -/
def Agk (w : World) (v : Value) (l : List AgV) : Prop :=
  ∃ (A : Option Addr) (cap : Nat), v = .slice A l.length cap ∧ l.length ≤ cap ∧ cap ≤ maxLen ∧
    (0 < l.length → ∃ b off, A = some ⟨b, off, none⟩ ∧ b < w.heap.size ∧ ∀ (j : Nat) (r : AgV), l[j]? = some r →
      w.cell? ⟨b, off + j * 4, none⟩ = some (.int .i64 r.1.kd) ∧ w.cell? ⟨b, off + j * 4 + 1, none⟩ = some (.int .i64 r.1.nn) ∧ w.cell? ⟨b, off + j * 4 + 2, none⟩ = some (.string r.1.ss) ∧ w.cell? ⟨b, off + j * 4 + 3, none⟩ = some r.2)

theorem Agk.below {w w' : World} {v : Value} {l : List AgV} (h : Agk w v l) (hb : Below w.heap.size w w') : Agk w' v l := by
  obtain ⟨A, cap, hv, h1, h2, h4⟩ := h
  refine ⟨A, cap, hv, h1, h2, fun hn => ?_⟩
  obtain ⟨b, off, hA, hlt, hc⟩ := h4 hn
  refine ⟨b, off, hA, Nat.lt_of_lt_of_le hlt hb.size, fun j t ht => ?_⟩
  rw [hb.cell (p := ⟨b, off + j * 4, none⟩) hlt, hb.cell (p := ⟨b, off + j * 4 + 1, none⟩) hlt, hb.cell (p := ⟨b, off + j * 4 + 2, none⟩) hlt, hb.cell (p := ⟨b, off + j * 4 + 3, none⟩) hlt]
  exact hc j t ht

theorem agk_nil (w : World) : Agk w (.slice none 0 0) [] := ⟨none, 0, rfl, Nat.le_refl _, by simp [maxLen], fun h => by simp at h⟩

theorem Agk.shape {w : World} {v : Value} {l : List AgV} (h : Agk w v l) : ∃ A cap, v = .slice A l.length cap ∧ l.length ≤ cap ∧ cap ≤ maxLen := by
  obtain ⟨A, cap, hv, h1, h2, _⟩ := h
  exact ⟨A, cap, hv, h1, h2⟩

/-- the value v owns a row of the rectangles l, in a block from base on -/
def OwnA (w : World) (base : Nat) (v : Value) (l : List AgV) : Prop := w.ownsRow base 43 4 v l.length (aflat l)

theorem ownA_nil (w : World) (base : Nat) : OwnA w base (.slice none 0 0) [] := World.ownsRow_nil w base 43 4

theorem OwnA.agk {w : World} {base : Nat} {v : Value} {l : List AgV} (h : OwnA w base v l) : Agk w v l := by
  have hall := h
  obtain ⟨_, hc⟩ := h
  rcases hc with ⟨rfl, h0⟩ | ⟨g, cap, cur, rfl, _, hh, hn, hm, _⟩
  · have : l = [] := List.eq_nil_of_length_eq_zero h0
    subst this
    exact agk_nil w
  · refine ⟨_, cap, rfl, hn, hm, fun _ => ⟨g, 0, rfl, ?_, fun j p hj => ?_⟩⟩
    · rcases Nat.lt_or_ge g w.heap.size with hl | hl
      · exact hl
      · rw [Array.getElem?_eq_none hl] at hh; cases hh
    · have hjl := (List.getElem?_eq_some_iff.1 hj).1
      obtain ⟨e0, e1, e2, e3⟩ := aflat_at l j p hj
      rw [Nat.zero_add, hall.cellAt (j * 4) (by omega), hall.cellAt (j * 4 + 1) (by omega), hall.cellAt (j * 4 + 2) (by omega), hall.cellAt (j * 4 + 3) (by omega)]
      exact ⟨e0, e1, e2, e3⟩

theorem OwnA.block {w : World} {base : Nat} {v : Value} {l : List AgV} (h : OwnA w base v l) : ∀ k, v.ownBlock = some k → base ≤ k ∧ k < w.heap.size := World.ownsRow.lt h

theorem OwnA.below {w w' : World} {base : Nat} {v : Value} {l : List AgV} (h : OwnA w base v l) (hb : Below w.heap.size w w') : OwnA w' base v l :=
  World.ownsRow.kept (row := none) h ⟨hb.os, hb.tape, hb.output, hb.size, fun k hk _ => hb.block k hk⟩ (by cases v.ownBlock <;> simp)

theorem oneCell_aflat (l : List AgV) (h : ∀ p ∈ l, p.2.oneCell' = true) : ∀ u ∈ aflat l, u.oneCell' = true := by
  intro u hu
  obtain ⟨p, hp, hc⟩ := List.mem_flatMap.1 hu
  simp only [agC, List.mem_cons, List.not_mem_nil, or_false] at hc
  rcases hc with rfl | rfl | rfl | rfl
  · rfl
  · rfl
  · rfl
  · exact h p hp

theorem aflat_cells {w : World} {b off : Nat} {l : List AgV} (h : ∀ (j : Nat) (r : AgV), l[j]? = some r →
      w.cell? ⟨b, off + j * 4, none⟩ = some (.int .i64 r.1.kd) ∧ w.cell? ⟨b, off + j * 4 + 1, none⟩ = some (.int .i64 r.1.nn) ∧ w.cell? ⟨b, off + j * 4 + 2, none⟩ = some (.string r.1.ss) ∧ w.cell? ⟨b, off + j * 4 + 3, none⟩ = some r.2) :
    ∀ j u, (aflat l)[j]? = some u → w.cell? ((⟨b, off, none⟩ : Addr).add j) = some u := by
  intro j u hu
  have hj : j < l.length * 4 := by
    have := (List.getElem?_eq_some_iff.1 hu).1
    rwa [aflat_length] at this
  obtain ⟨p, hp⟩ : ∃ p, l[j / 4]? = some p := ⟨_, List.getElem?_eq_getElem (by omega)⟩
  obtain ⟨e0, e1, e2, e3⟩ := aflat_at l _ p hp
  obtain ⟨c0, c1, c2, c3⟩ := h _ p hp
  rw [addI_at]
  rcases (by omega : j = j / 4 * 4 ∨ j = j / 4 * 4 + 1 ∨ j = j / 4 * 4 + 2 ∨ j = j / 4 * 4 + 3) with hh | hh | hh | hh
  · rw [hh, e0] at hu; rw [hh, c0, hu]
  · rw [hh, e1] at hu; rw [hh, ← Nat.add_assoc, c1, hu]
  · rw [hh, e2] at hu; rw [hh, ← Nat.add_assoc, c2, hu]
  · rw [hh, e3] at hu; rw [hh, ← Nat.add_assoc, c3, hu]

theorem snoc_cases {α : Type} (l : List α) : l = [] ∨ ∃ m p, l = m ++ [p] := by
  rcases List.eq_nil_or_concat l with h | ⟨m, p, h⟩
  · exact .inl h
  · exact .inr ⟨m, p, by simpa using h⟩

set_option maxRecDepth 100000 in
theorem appendA_run {w : World} {base : Nat} {v : Value} {l m : List AgV} (hown : OwnA w base v l) {A : Option Addr} {k c : Nat} (hsee : Agk w (.slice A k c) m) (h1c : ∀ p ∈ m, p.2.oneCell' = true) (hb : l.length + m.length ≤ 4000000) (hbase : base ≤ w.heap.size) (ty : TypeId) :
    ∃ v' w', (Builtin.append_ #[23, 23] ty #[v, .slice A k c]).run Tryd.prog w = .ok v' w' ∧ OwnA w' base v' (l ++ m) ∧ w.grownBy w' v.ownBlock ∧ (v'.ownBlock = v.ownBlock ∨ v'.ownBlock = some w.heap.size) ∧ (v' = .slice none 0 0 ↔ v = .slice none 0 0 ∧ m.length = 0) := by
  obtain ⟨i, hi, hz, hsz, hby⟩ := info_parts arg_info
  obtain ⟨A', c', hv, hc1, hc2, hcells⟩ := hsee
  injection hv with e1 e2 e3
  subst e1 e2 e3
  by_cases h0 : m.length = 0
  · have : m = [] := List.eq_nil_of_length_eq_zero h0
    subst this
    cases A with
    | none =>
      have hn := append_nil_run (ty := ty) Tryd.underlying23 hi hown c
      exact ⟨v, w, hn, by rw [List.append_nil]; exact hown, World.grownBy.refl w _, .inl rfl, by simp⟩
    | some a =>
      obtain ⟨v', w', hrun, h2, h3, h4, h5⟩ := run_append_own_at (P := Tryd.prog) w base 23 ty 43 i _ 4 56 Tryd.underlying23 hi hz hsz hby rfl (by decide) v l.length (aflat l) hown a 0 c [] rfl (by simp) (by simp) (by simp only [maxLen]; simp at hb; omega) (by simp at hb ⊢; omega) hbase
      exact ⟨v', w', hrun, by unfold OwnA; simpa using h2, h3, h5, by simpa using h4⟩
  · obtain ⟨b, off, rfl, _, hc⟩ := hcells (by omega)
    obtain ⟨v', w', hrun, h2, h3, h4, h5⟩ := run_append_own_at (P := Tryd.prog) w base 23 ty 43 i _ 4 56 Tryd.underlying23 hi hz hsz hby rfl (by decide) v l.length (aflat l) hown ⟨b, off, none⟩ m.length c (aflat m) (aflat_length m) (aflat_cells hc) (oneCell_aflat m h1c) (by simp only [maxLen]; omega) (by omega) hbase
    exact ⟨v', w', hrun, by unfold OwnA; rw [aflat_append, List.length_append]; exact h2, h3, h5, h4⟩

set_option maxRecDepth 100000 in
/-- append onto a row of one's own, for the walk -/
theorem wpList_appA {w : World} {ops : Array Oper} {rest : List Oper} {o : Oper} {a : Act} {Q : Exit → Act → World → Prop} (hgd : o.guard = none) (s x : Operand)
    (ho : o.op = .call { callee := .builtin .append, args := #[s, x], argTypes := #[23, 23] })
    {base : Nat} {v : Value} {l m : List AgV} (hs : a.eval s = v) (hown : OwnA w base v l) {A : Option Addr} {k c : Nat} (hx : a.eval x = .slice A k c) (hsee : Agk w (.slice A k c) m) (h1c : ∀ p ∈ m, p.2.oneCell' = true)
    (hb : l.length + m.length ≤ 4000000) (hbase : base ≤ w.heap.size)
    (h : ∀ v' w', OwnA w' base v' (l ++ m) → w.grownBy w' v.ownBlock → (v'.ownBlock = v.ownBlock ∨ v'.ownBlock = some w.heap.size) → (v' = .slice none 0 0 ↔ v = .slice none 0 0 ∧ m.length = 0) → wpList Tryd.prog ops Q rest (a.put o.dst v') w') : wpList Tryd.prog ops Q (o :: rest) a w := by
  refine wpList_plain hgd fun K hK => ?_
  obtain ⟨v', w', hrun, h2, h3, h4, h5⟩ := appendA_run hown hsee h1c hb hbase o.type
  unfold Oper.wp execOp
  simp only [ho, resolve, invoke, builtin, Sem.run_bind, Sem.run_pure, Result.andThen_ok, List.map_toArray, List.map_cons, List.map_nil, hs, hx, hrun]
  exact hK _ _ (h v' w' h2 h3 h4 h5)

set_option maxRecDepth 100000 in
/-- the same at a step of a region that draws its order -/
theorem step_appA {w : World} {ops : Array Oper} {o : Oper} {a : Act} {K : Act → World → Prop} {Q : Exit → Act → World → Prop} {D : Prop} (hgd : o.guard = none) (s x : Operand)
    (ho : o.op = .call { callee := .builtin .append, args := #[s, x], argTypes := #[23, 23] })
    {base : Nat} {v : Value} {l m : List AgV} (hs : a.eval s = v) (hown : OwnA w base v l) {A : Option Addr} {k c : Nat} (hx : a.eval x = .slice A k c) (hsee : Agk w (.slice A k c) m) (h1c : ∀ p ∈ m, p.2.oneCell' = true)
    (hb : l.length + m.length ≤ 4000000) (hbase : base ≤ w.heap.size)
    (h : ∀ v' w', OwnA w' base v' (l ++ m) → w.grownBy w' v.ownBlock → (v'.ownBlock = v.ownBlock ∨ v'.ownBlock = some w.heap.size) → (v' = .slice none 0 0 ↔ v = .slice none 0 0 ∧ m.length = 0) → K (a.put o.dst v') w') :
    if Region.wanted o (yielded ops a.tmps) = true then Oper.wp Tryd.prog o a w K Q else D := by
  have hw : Region.wanted o (yielded ops a.tmps) = true := by simp [Region.wanted, hgd]
  rw [if_pos hw]
  obtain ⟨v', w', hrun, h2, h3, h4, h5⟩ := appendA_run hown hsee h1c hb hbase o.type
  unfold Oper.wp execOp
  simp only [ho, resolve, invoke, builtin, Sem.run_bind, Sem.run_pure, Result.andThen_ok, List.map_toArray, List.map_cons, List.map_nil, hs, hx, hrun]
  exact h v' w' h2 h3 h4 h5

theorem agk_one (w : World) (r : AgV) : Agk (w.alloc (.cells #[.int .i64 r.1.kd, .int .i64 r.1.nn, .string r.1.ss, r.2] 43)) (.slice (some ⟨w.heap.size, 0, none⟩) 1 1) [r] := by
  refine ⟨_, 1, rfl, Nat.le_refl _, by simp [maxLen], fun _ => ⟨w.heap.size, 0, rfl, by simp, fun j q hj => ?_⟩⟩
  match j, hj with
  | 0, hj =>
    simp only [List.getElem?_cons_zero, Option.some.injEq] at hj
    subst hj
    refine ⟨?_, ?_, ?_, ?_⟩ <;> (rw [World.cell?_alloc_at _ _ _ _ rfl]; rfl)

end Go.Proofs.YtmpkjjmgfakomaaDoor
