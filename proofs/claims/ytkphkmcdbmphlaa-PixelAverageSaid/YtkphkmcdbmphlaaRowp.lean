/-
  Rows of pixels of a call's own, and append onto them, for the walk. Types: 35 a slice of pixels, 23 a pixel.
-/
import Derived.Test.YtkphkmcdbmphlaaOpen
import Derived.Deep.AppendLies
import Derived.Maps.AppendAt
import Derived.Laws.AppendOwnNone
namespace Go.Proofs.Ytkphkmcdbmphlaa
open Go.RowKit

theorem px_info : (Try.prog.info? 23).map (fun i => (i.zero, i.size, i.bytes)) = some (some (.agg #[.int .u8 0, .int .u8 0, .int .u8 0, .int .u8 0]), 4, 4) := by kernel_rfl

theorem info_parts {P : Program} {t : TypeId} {z : Option Value} {s b : Nat} (h : (P.info? t).map (fun i => (i.zero, i.size, i.bytes)) = some (z, s, b)) : ∃ i, P.info? t = some i ∧ i.zero = z ∧ i.size = s ∧ i.bytes = b := by
  cases he : P.info? t with
  | none => rw [he] at h; cases h
  | some i =>
    rw [he] at h
    simp only [Option.map_some, Option.some.injEq, Prod.mk.injEq] at h
    exact ⟨i, rfl, h.1, h.2.1, h.2.2⟩

def cells4 (p : Px) : List Value := [.int .u8 (p.r : Int), .int .u8 (p.g : Int), .int .u8 (p.b : Int), .int .u8 (p.a : Int)]
def flat (l : List Px) : List Value := l.flatMap cells4
theorem flat_append (l m : List Px) : flat (l ++ m) = flat l ++ flat m := List.flatMap_append
theorem flat_length (l : List Px) : (flat l).length = l.length * 4 := by
  induction l with
  | nil => rfl
  | cons p l ih => simp only [flat, List.flatMap_cons, List.length_append, List.length_cons] at ih ⊢; rw [ih]; simp [cells4]; omega

theorem flat_at : ∀ (l : List Px) (j : Nat) (p : Px), l[j]? = some p →
    (flat l)[j * 4]? = some (.int .u8 (p.r : Int)) ∧ (flat l)[j * 4 + 1]? = some (.int .u8 (p.g : Int)) ∧ (flat l)[j * 4 + 2]? = some (.int .u8 (p.b : Int)) ∧ (flat l)[j * 4 + 3]? = some (.int .u8 (p.a : Int))
  | [], j, r, h => by simp at h
  | q :: l, 0, r, h => by
    simp only [List.getElem?_cons_zero, Option.some.injEq] at h
    subst h
    exact ⟨rfl, rfl, rfl, rfl⟩
  | q :: l, j + 1, r, h => by
    rw [List.getElem?_cons_succ] at h
    have ih := flat_at l j r h
    have e : flat (q :: l) = cells4 q ++ flat l := rfl
    have el : (cells4 q).length = 4 := rfl
    rw [e, List.getElem?_append_right (by omega), List.getElem?_append_right (by omega), List.getElem?_append_right (by omega), List.getElem?_append_right (by omega), el, show (j + 1) * 4 - 4 = j * 4 by omega, show (j + 1) * 4 + 1 - 4 = j * 4 + 1 by omega, show (j + 1) * 4 + 2 - 4 = j * 4 + 2 by omega, show (j + 1) * 4 + 3 - 4 = j * 4 + 3 by omega]
    exact ih

theorem oneCell_flat (l : List Px) : ∀ u ∈ flat l, u.oneCell' = true := by
  intro u hu
  obtain ⟨p, hp, hc⟩ := List.mem_flatMap.1 hu
  simp only [cells4, List.mem_cons, List.not_mem_nil, or_false] at hc
  rcases hc with rfl | rfl | rfl | rfl <;> rfl

theorem flat_cells {w : World} {b off : Nat} {l : List Px} (h : ∀ (j : Nat) (p : Px), l[j]? = some p → At4 w b off j p) :
    ∀ j u, (flat l)[j]? = some u → w.cell? ((⟨b, off, none⟩ : Addr).add j) = some u := by
  intro j u hu
  have hj : j < l.length * 4 := by
    have := (List.getElem?_eq_some_iff.1 hu).1
    rwa [flat_length] at this
  obtain ⟨p, hp⟩ : ∃ p, l[j / 4]? = some p := ⟨_, List.getElem?_eq_getElem (by omega)⟩
  obtain ⟨e0, e1, e2, e3⟩ := flat_at l _ p hp
  obtain ⟨c0, c1, c2, c3⟩ := h _ p hp
  rw [add_at]
  rcases (by omega : j = j / 4 * 4 ∨ j = j / 4 * 4 + 1 ∨ j = j / 4 * 4 + 2 ∨ j = j / 4 * 4 + 3) with hh | hh | hh | hh
  · rw [hh, e0] at hu; rw [hh, c0, hu]
  · rw [hh, e1] at hu; rw [hh, ← Nat.add_assoc, c1, hu]
  · rw [hh, e2] at hu; rw [hh, ← Nat.add_assoc, c2, hu]
  · rw [hh, e3] at hu; rw [hh, ← Nat.add_assoc, c3, hu]

/-- the value v owns a row of the pixels l, in a block from base on -/
def OwnP (w : World) (base : Nat) (v : Value) (l : List Px) : Prop := w.ownsRow base 23 4 v l.length (flat l)

theorem ownP_nil (w : World) (base : Nat) : OwnP w base (.slice none 0 0) [] := World.ownsRow_nil w base 23 4

theorem OwnP.pxs {w : World} {base : Nat} {v : Value} {l : List Px} (h : OwnP w base v l) : Pxs w v l := by
  have hall := h
  obtain ⟨_, hc⟩ := h
  rcases hc with ⟨rfl, h0⟩ | ⟨g, cap, cur, rfl, _, hh, hn, hm, _⟩
  · have : l = [] := List.eq_nil_of_length_eq_zero h0
    subst this
    exact pxs_nil w
  · refine ⟨_, cap, rfl, hn, hm, fun _ => ⟨g, 0, rfl, ?_, fun j p hj => ?_⟩⟩
    · rcases Nat.lt_or_ge g w.heap.size with hl | hl
      · exact hl
      · rw [Array.getElem?_eq_none hl] at hh; cases hh
    · have hjl := (List.getElem?_eq_some_iff.1 hj).1
      obtain ⟨e0, e1, e2, e3⟩ := flat_at l j p hj
      unfold At4
      rw [Nat.zero_add, hall.cellAt (j * 4) (by omega), hall.cellAt (j * 4 + 1) (by omega), hall.cellAt (j * 4 + 2) (by omega), hall.cellAt (j * 4 + 3) (by omega)]
      exact ⟨e0, e1, e2, e3⟩

theorem pxs_one (w : World) (p : Px) : Pxs (w.alloc (.cells #[.int .u8 (p.r : Int), .int .u8 (p.g : Int), .int .u8 (p.b : Int), .int .u8 (p.a : Int)] 23)) (.slice (some ⟨w.heap.size, 0, none⟩) 1 1) [p] := by
  refine ⟨_, 1, rfl, Nat.le_refl _, by simp [maxLen], fun _ => ⟨w.heap.size, 0, rfl, by rw [World.size_alloc]; exact Nat.lt_succ_self _, fun j t ht => ?_⟩⟩
  match j with
  | 0 =>
    obtain rfl : p = t := by simpa using ht
    unfold At4
    simp [go_sem]
  | j + 1 => simp at ht

theorem append_nil_run {P : Program} {w : World} {base : Nat} {t ty e : TypeId} {i : TypeInfo} {size : Nat} (ht : P.underlying t = some (.slice e)) (hi : P.info? e = some i)
    {v : Value} {n : Nat} {xs : List Value} (hown : w.ownsRow base e size v n xs) (c : Nat) : (Builtin.append_ #[t, t] ty #[v, .slice none 0 c]).run P w = .ok v w := by
  rcases hown.2 with ⟨rfl, rfl⟩ | ⟨g, cap, cur, rfl, _, _, hnc, _⟩
  · simp [Builtin.append_, run_underlying ht, sizeOf, typeInfo, hi, Builtin.lenOf, Builtin.firstCells]
  · simp [Builtin.append_, run_underlying ht, sizeOf, typeInfo, hi, Builtin.lenOf, Builtin.firstCells, hnc, storeCells]

theorem appendP_run {w : World} {base : Nat} {v : Value} {l m : List Px} (hown : OwnP w base v l) {A : Option Addr} {k c : Nat} (hsee : Pxs w (.slice A k c) m) (hb : l.length + m.length ≤ 4000000) (hbase : base ≤ w.heap.size) (ty : TypeId) :
    ∃ v' w', (Builtin.append_ #[35, 35] ty #[v, .slice A k c]).run Try.prog w = .ok v' w' ∧ OwnP w' base v' (l ++ m) ∧ w.grownBy w' v.ownBlock ∧ (v'.ownBlock = v.ownBlock ∨ v'.ownBlock = some w.heap.size) := by
  obtain ⟨i, hi, hz, hsz, hby⟩ := info_parts px_info
  obtain ⟨A', c', hv, hc1, hc2, hcells⟩ := hsee
  injection hv with e1 e2 e3
  subst e1 e2 e3
  by_cases h0 : m.length = 0
  · have : m = [] := List.eq_nil_of_length_eq_zero h0
    subst this
    cases A with
    | none =>
      have hn := append_nil_run (ty := ty) Try.underlying35 hi hown c
      exact ⟨v, w, hn, by rw [List.append_nil]; exact hown, World.grownBy.refl w _, .inl rfl⟩
    | some a =>
      obtain ⟨v', w', hrun, h2, h3, h4, h5⟩ := run_append_own_at (P := Try.prog) w base 35 ty 23 i _ 4 4 Try.underlying35 hi hz hsz hby rfl (by decide) v l.length (flat l) hown a 0 c [] rfl (by simp) (by simp) (by simp only [maxLen]; simp at hb; omega) (by simp at hb ⊢; omega) hbase
      exact ⟨v', w', hrun, by unfold OwnP; simpa using h2, h3, h5⟩
  · obtain ⟨b, off, rfl, _, hc⟩ := hcells (by omega)
    obtain ⟨v', w', hrun, h2, h3, h4, h5⟩ := run_append_own_at (P := Try.prog) w base 35 ty 23 i _ 4 4 Try.underlying35 hi hz hsz hby rfl (by decide) v l.length (flat l) hown ⟨b, off, none⟩ m.length c (flat m) (flat_length m) (flat_cells hc) (oneCell_flat m) (by simp only [maxLen]; omega) (by omega) hbase
    exact ⟨v', w', hrun, by unfold OwnP; rw [flat_append, List.length_append]; exact h2, h3, h5⟩

/-- append onto a row of one's own, for the walk -/
theorem wpList_appP {w : World} {ops : Array Oper} {rest : List Oper} {o : Oper} {a : Act} {Q : Exit → Act → World → Prop} (hgd : o.guard = none) (s x : Operand)
    (ho : o.op = .call { callee := .builtin .append, args := #[s, x], argTypes := #[35, 35] })
    {base : Nat} {v : Value} {l m : List Px} (hs : a.eval s = v) (hown : OwnP w base v l) {A : Option Addr} {k c : Nat} (hx : a.eval x = .slice A k c) (hsee : Pxs w (.slice A k c) m)
    (hb : l.length + m.length ≤ 4000000) (hbase : base ≤ w.heap.size)
    (h : ∀ v' w', OwnP w' base v' (l ++ m) → w.grownBy w' v.ownBlock → (v'.ownBlock = v.ownBlock ∨ v'.ownBlock = some w.heap.size) → wpList Try.prog ops Q rest (a.put o.dst v') w') : wpList Try.prog ops Q (o :: rest) a w := by
  refine wpList_plain hgd fun K hK => ?_
  obtain ⟨v', w', hrun, h2, h3, h4⟩ := appendP_run hown hsee hb hbase o.type
  unfold Oper.wp execOp
  simp only [ho, resolve, invoke, builtin, Sem.run_bind, Sem.run_pure, Result.andThen_ok, List.map_toArray, List.map_cons, List.map_nil, hs, hx, hrun]
  exact hK _ _ (h v' w' h2 h3 h4)

/-- what lies below the row's blocks is kept -/
theorem below_grownP {B : Nat} {w0 w1 w2 : World} {v : Value} {l : List Px} (hb : Below B w0 w1) (hB : B ≤ w1.heap.size) (hr : OwnP w1 B v l) (hg : w1.grownBy w2 v.ownBlock) : Below B w0 w2 :=
  hb.grown hg hB (fun k hk => (World.ownsRow.lt hr k hk).1)

end Go.Proofs.Ytkphkmcdbmphlaa
