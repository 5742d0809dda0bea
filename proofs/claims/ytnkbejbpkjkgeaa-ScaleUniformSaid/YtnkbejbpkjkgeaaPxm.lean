/-
  Slices of pixels in a world, rows of pixels of a call's own: append onto them, make, writing pixel by pixel, copy. Types: 22 a slice of pixels, 30 a pixel, 24 a buffer.
-/
import Derived.Test.YtnkbejbpkjkgeaaHeld
import Derived.Test.YtnkbejbpkjkgeaaScal
import Derived.Deep.AppendLies
import Derived.Maps.AppendAt
import Derived.Laws.AppendOwnNone
import Derived.Laws.MakeOwn
import Derived.Laws.Entries
import Derived.Laws.CopyOwn
namespace Go.Proofs.Ytnkbejbpkjkgeaa
open Go.RowKit

theorem add_at (b off j : Nat) : (⟨b, off, none⟩ : Addr).add j = ⟨b, off + j, none⟩ := by unfold Addr.add; split <;> simp_all

/-- the four cells of pixel j of a row that begins at off -/
def At4 (w : World) (b off j : Nat) (p : Px) : Prop :=
  w.cell? ⟨b, off + j * 4, none⟩ = some (.int .u8 (p.r : Int)) ∧ w.cell? ⟨b, off + j * 4 + 1, none⟩ = some (.int .u8 (p.g : Int)) ∧ w.cell? ⟨b, off + j * 4 + 2, none⟩ = some (.int .u8 (p.b : Int)) ∧ w.cell? ⟨b, off + j * 4 + 3, none⟩ = some (.int .u8 (p.a : Int))

theorem At4.keep {w w1 : World} {B b off j : Nat} {p : Px} (h : At4 w b off j p) (hb : Below B w w1) (hk : b < B) : At4 w1 b off j p :=
  ⟨(hb.cell (p := ⟨b, off + j * 4, none⟩) hk).trans h.1, (hb.cell (p := ⟨b, off + j * 4 + 1, none⟩) hk).trans h.2.1, (hb.cell (p := ⟨b, off + j * 4 + 2, none⟩) hk).trans h.2.2.1, (hb.cell (p := ⟨b, off + j * 4 + 3, none⟩) hk).trans h.2.2.2⟩

/-- the slice value v holds the pixels l -/
def Pxs (w : World) (v : Value) (l : List Px) : Prop :=
  ∃ (A : Option Addr) (cap : Nat), v = .slice A l.length cap ∧ l.length ≤ cap ∧ cap ≤ maxLen ∧
    (0 < l.length → ∃ b off, A = some ⟨b, off, none⟩ ∧ b < w.heap.size ∧ ∀ (j : Nat) (p : Px), l[j]? = some p → At4 w b off j p)

theorem Pxs.below {w w' : World} {v : Value} {l : List Px} (h : Pxs w v l) (hb : Below w.heap.size w w') : Pxs w' v l := by
  obtain ⟨A, cap, hv, h1, h2, h4⟩ := h
  refine ⟨A, cap, hv, h1, h2, fun hn => ?_⟩
  obtain ⟨b, off, hA, hlt, hc⟩ := h4 hn
  exact ⟨b, off, hA, Nat.lt_of_lt_of_le hlt hb.size, fun j t ht => (hc j t ht).keep hb hlt⟩

theorem pxs_nil (w : World) : Pxs w (.slice none 0 0) [] := ⟨none, 0, rfl, Nat.le_refl _, by simp [maxLen], fun h => by simp at h⟩

theorem Pxs.shape {w : World} {v : Value} {l : List Px} (h : Pxs w v l) : ∃ A cap, v = .slice A l.length cap ∧ l.length ≤ cap ∧ cap ≤ maxLen := by
  obtain ⟨A, cap, hv, h1, h2, _⟩ := h
  exact ⟨A, cap, hv, h1, h2⟩

theorem px_info : (Try.prog.info? 43).map (fun i => (i.zero, i.size, i.bytes)) = some (some (.agg #[.int .u8 0, .int .u8 0, .int .u8 0, .int .u8 0]), 4, 4) := by kernel_rfl

theorem info_parts {P : Program} {t : TypeId} {z : Option Value} {s b : Nat} (h : (P.info? t).map (fun i => (i.zero, i.size, i.bytes)) = some (z, s, b)) : ∃ i, P.info? t = some i ∧ i.zero = z ∧ i.size = s ∧ i.bytes = b := by
  cases he : P.info? t with
  | none => rw [he] at h; cases h
  | some i =>
    rw [he] at h
    simp only [Option.map_some, Option.some.injEq, Prod.mk.injEq] at h
    exact ⟨i, rfl, h.1, h.2.1, h.2.2⟩

def cells4 (p : Px) : List Value := [.int .u8 (p.r : Int), .int .u8 (p.g : Int), .int .u8 (p.b : Int), .int .u8 (p.a : Int)]
def flat (l : List Px) : List Value := l.flatMap cells4
theorem flat_append (l m : List Px) : flat (l ++ m) = flat l ++ flat m := List.flatMap_append
theorem flat_length (l : List Px) : (flat l).length = l.length * 4 := by
  induction l with
  | nil => rfl
  | cons p l ih => simp only [flat, List.flatMap_cons, List.length_append, List.length_cons] at ih ⊢; rw [ih]; simp [cells4]; omega

theorem flat_at : ∀ (l : List Px) (j : Nat) (p : Px), l[j]? = some p →
    (flat l)[j * 4]? = some (.int .u8 (p.r : Int)) ∧ (flat l)[j * 4 + 1]? = some (.int .u8 (p.g : Int)) ∧ (flat l)[j * 4 + 2]? = some (.int .u8 (p.b : Int)) ∧ (flat l)[j * 4 + 3]? = some (.int .u8 (p.a : Int))
  | [], j, r, h => by simp at h
  | q :: l, 0, r, h => by
    simp only [List.getElem?_cons_zero, Option.some.injEq] at h
    subst h
    exact ⟨rfl, rfl, rfl, rfl⟩
  | q :: l, j + 1, r, h => by
    rw [List.getElem?_cons_succ] at h
    have ih := flat_at l j r h
    have e : flat (q :: l) = cells4 q ++ flat l := rfl
    have el : (cells4 q).length = 4 := rfl
    rw [e, List.getElem?_append_right (by omega), List.getElem?_append_right (by omega), List.getElem?_append_right (by omega), List.getElem?_append_right (by omega), el, show (j + 1) * 4 - 4 = j * 4 by omega, show (j + 1) * 4 + 1 - 4 = j * 4 + 1 by omega, show (j + 1) * 4 + 2 - 4 = j * 4 + 2 by omega, show (j + 1) * 4 + 3 - 4 = j * 4 + 3 by omega]
    exact ih

theorem oneCell_flat (l : List Px) : ∀ u ∈ flat l, u.oneCell' = true := by
  intro u hu
  obtain ⟨p, hp, hc⟩ := List.mem_flatMap.1 hu
  simp only [cells4, List.mem_cons, List.not_mem_nil, or_false] at hc
  rcases hc with rfl | rfl | rfl | rfl <;> rfl

theorem flat_cells {w : World} {b off : Nat} {l : List Px} (h : ∀ (j : Nat) (p : Px), l[j]? = some p → At4 w b off j p) :
    ∀ j u, (flat l)[j]? = some u → w.cell? ((⟨b, off, none⟩ : Addr).add j) = some u := by
  intro j u hu
  have hj : j < l.length * 4 := by
    have := (List.getElem?_eq_some_iff.1 hu).1
    rwa [flat_length] at this
  obtain ⟨p, hp⟩ : ∃ p, l[j / 4]? = some p := ⟨_, List.getElem?_eq_getElem (by omega)⟩
  obtain ⟨e0, e1, e2, e3⟩ := flat_at l _ p hp
  obtain ⟨c0, c1, c2, c3⟩ := h _ p hp
  rw [add_at]
  rcases (by omega : j = j / 4 * 4 ∨ j = j / 4 * 4 + 1 ∨ j = j / 4 * 4 + 2 ∨ j = j / 4 * 4 + 3) with hh | hh | hh | hh
  · rw [hh, e0] at hu; rw [hh, c0, hu]
  · rw [hh, e1] at hu; rw [hh, ← Nat.add_assoc, c1, hu]
  · rw [hh, e2] at hu; rw [hh, ← Nat.add_assoc, c2, hu]
  · rw [hh, e3] at hu; rw [hh, ← Nat.add_assoc, c3, hu]

/-- the value v owns a row of the pixels l, in a block from base on -/
def OwnP (w : World) (base : Nat) (v : Value) (l : List Px) : Prop := w.ownsRow base 43 4 v l.length (flat l)

theorem ownP_nil (w : World) (base : Nat) : OwnP w base (.slice none 0 0) [] := World.ownsRow_nil w base 43 4

theorem OwnP.pxs {w : World} {base : Nat} {v : Value} {l : List Px} (h : OwnP w base v l) : Pxs w v l := by
  have hall := h
  obtain ⟨_, hc⟩ := h
  rcases hc with ⟨rfl, h0⟩ | ⟨g, cap, cur, rfl, _, hh, hn, hm, _⟩
  · have : l = [] := List.eq_nil_of_length_eq_zero h0
    subst this
    exact pxs_nil w
  · refine ⟨_, cap, rfl, hn, hm, fun _ => ⟨g, 0, rfl, ?_, fun j p hj => ?_⟩⟩
    · rcases Nat.lt_or_ge g w.heap.size with hl | hl
      · exact hl
      · rw [Array.getElem?_eq_none hl] at hh; cases hh
    · have hjl := (List.getElem?_eq_some_iff.1 hj).1
      obtain ⟨e0, e1, e2, e3⟩ := flat_at l j p hj
      unfold At4
      rw [Nat.zero_add, hall.cellAt (j * 4) (by omega), hall.cellAt (j * 4 + 1) (by omega), hall.cellAt (j * 4 + 2) (by omega), hall.cellAt (j * 4 + 3) (by omega)]
      exact ⟨e0, e1, e2, e3⟩

theorem pxs_one (w : World) (p : Px) : Pxs (w.alloc (.cells #[.int .u8 (p.r : Int), .int .u8 (p.g : Int), .int .u8 (p.b : Int), .int .u8 (p.a : Int)] 43)) (.slice (some ⟨w.heap.size, 0, none⟩) 1 1) [p] := by
  refine ⟨_, 1, rfl, Nat.le_refl _, by simp [maxLen], fun _ => ⟨w.heap.size, 0, rfl, by rw [World.size_alloc]; exact Nat.lt_succ_self _, fun j t ht => ?_⟩⟩
  match j with
  | 0 =>
    obtain rfl : p = t := by simpa using ht
    unfold At4
    simp [go_sem]
  | j + 1 => simp at ht

theorem append_nil_run {P : Program} {w : World} {base : Nat} {t ty e : TypeId} {i : TypeInfo} {size : Nat} (ht : P.underlying t = some (.slice e)) (hi : P.info? e = some i)
    {v : Value} {n : Nat} {xs : List Value} (hown : w.ownsRow base e size v n xs) (c : Nat) : (Builtin.append_ #[t, t] ty #[v, .slice none 0 c]).run P w = .ok v w := by
  rcases hown.2 with ⟨rfl, rfl⟩ | ⟨g, cap, cur, rfl, _, _, hnc, _⟩
  · simp [Builtin.append_, run_underlying ht, sizeOf, typeInfo, hi, Builtin.lenOf, Builtin.firstCells]
  · simp [Builtin.append_, run_underlying ht, sizeOf, typeInfo, hi, Builtin.lenOf, Builtin.firstCells, hnc, storeCells]

theorem appendP_run {w : World} {base : Nat} {v : Value} {l m : List Px} (hown : OwnP w base v l) {A : Option Addr} {k c : Nat} (hsee : Pxs w (.slice A k c) m) (hb : l.length + m.length ≤ 4000000) (hbase : base ≤ w.heap.size) (ty : TypeId) :
    ∃ v' w', (Builtin.append_ #[22, 22] ty #[v, .slice A k c]).run Try.prog w = .ok v' w' ∧ OwnP w' base v' (l ++ m) ∧ w.grownBy w' v.ownBlock ∧ (v'.ownBlock = v.ownBlock ∨ v'.ownBlock = some w.heap.size) := by
  obtain ⟨i, hi, hz, hsz, hby⟩ := info_parts px_info
  obtain ⟨A', c', hv, hc1, hc2, hcells⟩ := hsee
  injection hv with e1 e2 e3
  subst e1 e2 e3
  by_cases h0 : m.length = 0
  · have : m = [] := List.eq_nil_of_length_eq_zero h0
    subst this
    cases A with
    | none =>
      have hn := append_nil_run (ty := ty) Try.underlying22 hi hown c
      exact ⟨v, w, hn, by rw [List.append_nil]; exact hown, World.grownBy.refl w _, .inl rfl⟩
    | some a =>
      obtain ⟨v', w', hrun, h2, h3, h4, h5⟩ := run_append_own_at (P := Try.prog) w base 22 ty 43 i _ 4 4 Try.underlying22 hi hz hsz hby rfl (by decide) v l.length (flat l) hown a 0 c [] rfl (by simp) (by simp) (by simp only [maxLen]; simp at hb; omega) (by simp at hb ⊢; omega) hbase
      exact ⟨v', w', hrun, by unfold OwnP; simpa using h2, h3, h5⟩
  · obtain ⟨b, off, rfl, _, hc⟩ := hcells (by omega)
    obtain ⟨v', w', hrun, h2, h3, h4, h5⟩ := run_append_own_at (P := Try.prog) w base 22 ty 43 i _ 4 4 Try.underlying22 hi hz hsz hby rfl (by decide) v l.length (flat l) hown ⟨b, off, none⟩ m.length c (flat m) (flat_length m) (flat_cells hc) (oneCell_flat m) (by simp only [maxLen]; omega) (by omega) hbase
    exact ⟨v', w', hrun, by unfold OwnP; rw [flat_append, List.length_append]; exact h2, h3, h5⟩

/-- append onto a row of one's own, for the walk -/
theorem wpList_appP {w : World} {ops : Array Oper} {rest : List Oper} {o : Oper} {a : Act} {Q : Exit → Act → World → Prop} (hgd : o.guard = none) (s x : Operand)
    (ho : o.op = .call { callee := .builtin .append, args := #[s, x], argTypes := #[22, 22] })
    {base : Nat} {v : Value} {l m : List Px} (hs : a.eval s = v) (hown : OwnP w base v l) {A : Option Addr} {k c : Nat} (hx : a.eval x = .slice A k c) (hsee : Pxs w (.slice A k c) m)
    (hb : l.length + m.length ≤ 4000000) (hbase : base ≤ w.heap.size)
    (h : ∀ v' w', OwnP w' base v' (l ++ m) → w.grownBy w' v.ownBlock → (v'.ownBlock = v.ownBlock ∨ v'.ownBlock = some w.heap.size) → wpList Try.prog ops Q rest (a.put o.dst v') w') : wpList Try.prog ops Q (o :: rest) a w := by
  refine wpList_plain hgd fun K hK => ?_
  obtain ⟨v', w', hrun, h2, h3, h4⟩ := appendP_run hown hsee hb hbase o.type
  unfold Oper.wp execOp
  simp only [ho, resolve, invoke, builtin, Sem.run_bind, Sem.run_pure, Result.andThen_ok, List.map_toArray, List.map_cons, List.map_nil, hs, hx, hrun]
  exact hK _ _ (h v' w' h2 h3 h4)

/-- what lies below the row's blocks is kept -/
theorem below_grownP {B : Nat} {w0 w1 w2 : World} {v : Value} {l : List Px} (hb : Below B w0 w1) (hB : B ≤ w1.heap.size) (hr : OwnP w1 B v l) (hg : w1.grownBy w2 v.ownBlock) : Below B w0 w2 :=
  hb.grown hg hB (fun k hk => (World.ownsRow.lt hr k hk).1)


theorem OwnP.alloc {w : World} {base : Nat} {v : Value} {l : List Px} (h : OwnP w base v l) (o : Obj) : OwnP (w.alloc o) base v l := World.ownsRow.alloc h o
theorem OwnP.below {w w' : World} {base : Nat} {v : Value} {l : List Px} (h : OwnP w base v l) (hb : Below w.heap.size w w') : OwnP w' base v l :=
  World.ownsRow.kept (row := none) h (grown_below hb none) (by cases v.ownBlock <;> simp)
theorem OwnP.block {w : World} {base : Nat} {v : Value} {l : List Px} (h : OwnP w base v l) : ∀ k, v.ownBlock = some k → base ≤ k ∧ k < w.heap.size := World.ownsRow.lt h

/-- block g holds the pixels l and may be written -/
def RowP (w : World) (g : Nat) (l : List Px) : Prop := (∀ (j : Nat) (p : Px), l[j]? = some p → At4 w g 0 j p) ∧ (∀ i, w.frozen? ⟨g, i, none⟩ = false) ∧ g < w.heap.size

theorem RowP.keep {w w1 : World} {B g : Nat} {l : List Px} (h : RowP w g l) (hb : Below B w w1) (hk : g < B) : RowP w1 g l :=
  ⟨fun j p hj => (h.1 j p hj).keep hb hk, fun i => (hb.frozen (p := ⟨g, i, none⟩) hk).trans (h.2.1 i), Nat.lt_of_lt_of_le h.2.2 hb.size⟩

theorem RowP.step {w w1 : World} {g : Nat} {l : List Px} (h : RowP w g l) (hb : Below w.heap.size w w1) : RowP w1 g l := h.keep hb h.2.2

/-- another block was written -/
theorem RowP.grown {w w1 : World} {g k : Nat} {l : List Px} (h : RowP w g l) (hg : w.grownBy w1 (some k)) (hne : g ≠ k) : RowP w1 g l := by
  have hb := hg.block g h.2.2 (fun e => hne (Option.some.inj e))
  have hc : ∀ i, w1.cell? ⟨g, i, none⟩ = w.cell? ⟨g, i, none⟩ := fun i => World.cell?_of_block (a := ⟨g, i, none⟩) hb
  refine ⟨fun j p hj => ?_, fun i => (World.frozen?_of_block (a := ⟨g, i, none⟩) hb).trans (h.2.1 i), Nat.lt_of_lt_of_le h.2.2 hg.size⟩
  obtain ⟨a0, a1, a2, a3⟩ := h.1 j p hj
  exact ⟨(hc _).trans a0, (hc _).trans a1, (hc _).trans a2, (hc _).trans a3⟩

theorem RowP.pxs {w : World} {g : Nat} {l : List Px} (h : RowP w g l) {c : Nat} (hc : l.length ≤ c) (hm : c ≤ maxLen) : Pxs w (.slice (some ⟨g, 0, none⟩) l.length c) l :=
  ⟨_, _, rfl, hc, hm, fun _ => ⟨g, 0, rfl, h.2.2, fun j p hj => h.1 j p hj⟩⟩

theorem OwnP.rowP {w : World} {base : Nat} {v : Value} {l : List Px} (h : OwnP w base v l) (hn : 0 < l.length) :
    ∃ g c, v = .slice (some ⟨g, 0, none⟩) l.length c ∧ l.length ≤ c ∧ c ≤ maxLen ∧ base ≤ g ∧ RowP w g l := by
  have hp := h.pxs
  have hall := h
  obtain ⟨_, hc⟩ := h
  rcases hc with ⟨rfl, h0⟩ | ⟨g, cap, cur, rfl, hb, hh, hnc, hm, _⟩
  · omega
  · refine ⟨g, cap, rfl, hnc, hm, hb, ?_, fun i => hall.frozenAt i, ?_⟩
    · obtain ⟨A, c, hv, _, _, hcell⟩ := hp
      injection hv with e1 e2 e3
      subst e1
      obtain ⟨b, off, e, _, hcs⟩ := hcell hn
      injection e with e
      injection e with e0 e1
      subst e0 e1
      exact hcs
    · rcases Nat.lt_or_ge g w.heap.size with hl | hl
      · exact hl
      · rw [Array.getElem?_eq_none hl] at hh; cases hh

/-- pixel j behind off written -/
def putP (w : World) (g off j : Nat) (p : Px) : World :=
  (((w.setCell ⟨g, off + j * 4, none⟩ (.int .u8 (p.r : Int))).setCell ⟨g, off + j * 4 + 1, none⟩ (.int .u8 (p.g : Int))).setCell ⟨g, off + j * 4 + 2, none⟩ (.int .u8 (p.b : Int))).setCell ⟨g, off + j * 4 + 3, none⟩ (.int .u8 (p.a : Int))

theorem putP_size (w : World) (g off j : Nat) (p : Px) : (putP w g off j p).heap.size = w.heap.size := by simp [putP]

theorem grown_setCell {w w1 : World} {g : Nat} (h : w.grownBy w1 (some g)) (i : Nat) (v : Value) : w.grownBy (w1.setCell ⟨g, i, none⟩ v) (some g) :=
  h.trans ⟨rfl, rfl, rfl, by simp, fun k _ hne => Below.heap_setCell _ _ _ _ (fun e => hne (by rw [e]))⟩

theorem grown_putP (w : World) (g off j : Nat) (p : Px) : w.grownBy (putP w g off j p) (some g) :=
  grown_setCell (grown_setCell (grown_setCell (grown_setCell (World.grownBy.refl w _) _ _) _ _) _ _) _ _

theorem RowP.put {w : World} {g : Nat} {l : List Px} (h : RowP w g l) {o j : Nat} (hj : o + j < l.length) (p : Px) : RowP (putP w g (o * 4) j p) g (l.set (o + j) p) := by
  refine ⟨fun k q hk => ?_, fun i => ?_, by rw [putP_size]; exact h.2.2⟩
  · obtain ⟨m, hm⟩ : ∃ m, l[o + j]? = some m := ⟨_, List.getElem?_eq_getElem hj⟩
    have e4 : o * 4 + j * 4 = (o + j) * 4 := by omega
    obtain ⟨a0, a1, a2, a3⟩ := h.1 (o + j) m hm
    rw [Nat.zero_add] at a0 a1 a2 a3
    unfold At4 putP
    rw [Nat.zero_add, e4]
    generalize o + j = J at *
    by_cases e : k = J
    · subst e
      rw [List.getElem?_set_self hj] at hk
      simp only [Option.some.injEq] at hk
      subst hk
      simp [go_sem, a0, a1, a2, a3]
    · rw [List.getElem?_set_ne (by omega)] at hk
      obtain ⟨b0, b1, b2, b3⟩ := h.1 k q hk
      rw [Nat.zero_add] at b0 b1 b2 b3
      have n0 : k * 4 ≠ J * 4 := by omega
      have n1 : k * 4 ≠ J * 4 + 1 := by omega
      have n2 : k * 4 ≠ J * 4 + 2 := by omega
      have n3 : k * 4 ≠ J * 4 + 3 := by omega
      have m0 : k * 4 + 1 ≠ J * 4 := by omega
      have m2 : k * 4 + 1 ≠ J * 4 + 2 := by omega
      have m3 : k * 4 + 1 ≠ J * 4 + 3 := by omega
      have u0 : k * 4 + 2 ≠ J * 4 := by omega
      have u1 : k * 4 + 2 ≠ J * 4 + 1 := by omega
      have u3 : k * 4 + 2 ≠ J * 4 + 3 := by omega
      have v0 : k * 4 + 3 ≠ J * 4 := by omega
      have v1 : k * 4 + 3 ≠ J * 4 + 1 := by omega
      have v2 : k * 4 + 3 ≠ J * 4 + 2 := by omega
      simp [go_sem, b0, b1, b2, b3]
  · unfold putP
    simp [go_sem, h.2.1]

/-! make -/

/-- the cells of n zero pixels -/
def zerosP (n : Nat) : Array Value := madeCells #[.int .u8 0, .int .u8 0, .int .u8 0, .int .u8 0] (n * 4)

theorem make_run (m n : Nat) (hm : m ≤ n) (hn : n ≤ 65536) (w : World) : (Instr.makeSlice 22 (.int .i64 (m : Int)) (.int .i64 (n : Int))).run Try.prog w = .ok (.slice (some ⟨w.heap.size, 0, none⟩) m n) (w.alloc (.cells (zerosP n) 43)) := by
  obtain ⟨i, hi, hz, hs, hb⟩ := info_parts px_info
  have hr := run_make (P := Try.prog) w 22 43 i _ Try.underlying22 hi hz .i64 .i64 m n (by omega) (by omega) (by rw [hb]; omega) (by omega)
  rw [hs, Int.toNat_natCast, Int.toNat_natCast] at hr
  exact hr

theorem make_px (n : Nat) (hn : n ≤ 65536) (w : World) : (Instr.makeSlice 22 (.int .i64 (n : Int)) (.int .i64 (n : Int))).run Try.prog w = .ok (.slice (some ⟨w.heap.size, 0, none⟩) n n) (w.alloc (.cells (zerosP n) 43)) := make_run n n (Nat.le_refl _) hn w
theorem make_px0 (n : Nat) (hn : n ≤ 65536) (w : World) : (Instr.makeSlice 22 (.int .i64 0) (.int .i64 (n : Int))).run Try.prog w = .ok (.slice (some ⟨w.heap.size, 0, none⟩) 0 n) (w.alloc (.cells (zerosP n) 43)) := make_run 0 n (Nat.zero_le _) hn w

theorem zerosP_at (n j : Nat) (hj : j < n * 4) : (zerosP n)[j]? = some (.int .u8 0) := by
  unfold zerosP madeCells
  have hm : j % 4 < 4 := Nat.mod_lt _ (by omega)
  rw [Array.getElem?_map]
  simp only [Array.getElem?_range, hj, if_true, Option.map_some, Option.some.injEq]
  have : j % 4 = 0 ∨ j % 4 = 1 ∨ j % 4 = 2 ∨ j % 4 = 3 := by omega
  rcases this with e | e | e | e <;> simp [e]

theorem RowP.new (w : World) (n : Nat) : RowP (w.alloc (.cells (zerosP n) 43)) w.heap.size (List.replicate n zeroPx) := by
  refine ⟨fun j p hj => ?_, fun i => by simp [go_sem], by rw [World.size_alloc]; exact Nat.lt_succ_self _⟩
  obtain ⟨hjn, hp⟩ := List.getElem?_eq_some_iff.1 hj
  rw [List.getElem_replicate] at hp
  subst hp
  rw [List.length_replicate] at hjn
  unfold At4
  rw [Nat.zero_add]
  simp only [zeroPx]
  refine ⟨?_, ?_, ?_, ?_⟩ <;> (simp [go_sem]; exact zerosP_at _ _ (by omega))

theorem ownP_made (w : World) (n : Nat) (hn : n ≤ 65536) {base : Nat} (hb : base ≤ w.heap.size) : OwnP (w.alloc (.cells (zerosP n) 43)) base (.slice (some ⟨w.heap.size, 0, none⟩) 0 n) [] :=
  World.ownsRow_made w (zerosP n) n hb (by simp only [maxLen]; omega) (by unfold zerosP; rw [size_madeCells])

/-! copy -/

theorem splice_at {α : Type} (L : List α) (o : Nat) (S : List α) (hfit : o + S.length ≤ L.length) (k : Nat) : (splice L o S)[k]? = if o ≤ k ∧ k < o + S.length then S[k - o]? else L[k]? := by
  unfold splice
  by_cases h0 : k < o
  · rw [List.getElem?_append_left (by rw [List.length_take]; omega), List.getElem?_take_of_lt h0, if_neg (by omega)]
  · rw [List.getElem?_append_right (by rw [List.length_take]; omega), List.length_take, Nat.min_eq_left (by omega)]
    by_cases h1 : k < o + S.length
    · rw [List.getElem?_append_left (by omega), if_pos (by omega)]
    · rw [List.getElem?_append_right (by omega), List.getElem?_drop, if_neg (by omega)]
      congr 1
      omega

theorem flat_get {l : List Px} {j : Nat} {p : Px} (h : l[j]? = some p) : (flat l)[j * 4]? = some (.int .u8 (p.r : Int)) ∧ (flat l)[j * 4 + 1]? = some (.int .u8 (p.g : Int)) ∧ (flat l)[j * 4 + 2]? = some (.int .u8 (p.b : Int)) ∧ (flat l)[j * 4 + 3]? = some (.int .u8 (p.a : Int)) := flat_at l j p h

theorem RowP.some {w : World} {g : Nat} {l : List Px} (h : RowP w g l) {k : Nat} (hk : k < l.length * 4) : (w.cell? ⟨g, k, none⟩).isSome = true := by
  obtain ⟨p, hp⟩ : ∃ p, l[k / 4]? = Option.some p := ⟨_, List.getElem?_eq_getElem (by omega)⟩
  obtain ⟨a0, a1, a2, a3⟩ := h.1 _ p hp
  rw [Nat.zero_add] at a0 a1 a2 a3
  rcases (by omega : k = k / 4 * 4 ∨ k = k / 4 * 4 + 1 ∨ k = k / 4 * 4 + 2 ∨ k = k / 4 * 4 + 3) with e | e | e | e
  · rw [e, a0]; rfl
  · rw [e, a1]; rfl
  · rw [e, a2]; rfl
  · rw [e, a3]; rfl

theorem grown_setCells (g : Nat) : ∀ (vs : List Value) (o : Nat) (w w1 : World), w.grownBy w1 (some g) → w.grownBy (w1.setCells g o vs) (some g)
  | [], _, _, _, h => h
  | v :: r, o, w, w1, h => by
    rw [World.setCells]
    exact grown_setCells g r (o + 1) w _ (grown_setCell h o v)

theorem size_setCells (g : Nat) : ∀ (vs : List Value) (o : Nat) (w : World), (w.setCells g o vs).heap.size = w.heap.size
  | [], _, _ => rfl
  | v :: r, o, w => by rw [World.setCells, size_setCells g r]; simp

theorem RowP.splice {w : World} {g : Nat} {L S : List Px} (h : RowP w g L) {o : Nat} (hfit : o + S.length ≤ L.length) : RowP (w.setCells g (o * 4) (flat S)) g (Go.splice L o S) := by
  have hS := flat_length S
  have hin := World.cell?_setCells_in g (flat S) (o * 4) w (fun j hj => h.some (by omega))
  refine ⟨fun k p hk => ?_, fun i => by rw [World.frozen?_setCells]; exact h.2.1 i, by rw [size_setCells]; exact h.2.2⟩
  rw [splice_at L o S hfit] at hk
  unfold At4
  rw [Nat.zero_add]
  by_cases hc : o ≤ k ∧ k < o + S.length
  · rw [if_pos hc] at hk
    obtain ⟨e0, e1, e2, e3⟩ := flat_get hk
    obtain ⟨d, rfl⟩ : ∃ d, k = o + d := ⟨k - o, by omega⟩
    rw [Nat.add_sub_cancel_left] at e0 e1 e2 e3
    have hl : d * 4 + 3 < (flat S).length := by omega
    have i0 := hin (d * 4) (by omega)
    have i1 := hin (d * 4 + 1) (by omega)
    have i2 := hin (d * 4 + 2) (by omega)
    have i3 := hin (d * 4 + 3) (by omega)
    rw [List.getElem?_eq_getElem (by omega)] at e0 e1 e2 e3
    rw [Option.some.inj e0] at i0
    rw [Option.some.inj e1] at i1
    rw [Option.some.inj e2] at i2
    rw [Option.some.inj e3] at i3
    rw [show (o + d) * 4 = o * 4 + d * 4 by omega]
    exact ⟨i0, i1, i2, i3⟩
  · rw [if_neg hc] at hk
    obtain ⟨a0, a1, a2, a3⟩ := h.1 k p hk
    rw [Nat.zero_add] at a0 a1 a2 a3
    have ho : ∀ i, i < 4 → (w.setCells g (o * 4) (flat S)).cell? ⟨g, k * 4 + i, none⟩ = w.cell? ⟨g, k * 4 + i, none⟩ := fun i hi => World.cell?_setCells_out g (flat S) (o * 4) w _ (fun _ _ => by
      show k * 4 + i < o * 4 ∨ o * 4 + (flat S).length ≤ k * 4 + i
      omega)
    exact ⟨(ho 0 (by omega)).trans a0, (ho 1 (by omega)).trans a1, (ho 2 (by omega)).trans a2, (ho 3 (by omega)).trans a3⟩

/-- copy into a row of one's own -/
theorem copy_run {w : World} {g o n c : Nat} {L S : List Px} (h : RowP w g L) {A : Option Addr} {sc : Nat} (hsee : Pxs w (.slice A S.length sc) S) (hn : n = S.length) (h0 : 0 < S.length) (hfit : o + S.length ≤ L.length) (ty : TypeId) :
    (Builtin.copy_ #[22, 22] ty #[.slice (some ⟨g, o * 4, none⟩) n c, .slice A S.length sc]).run Try.prog w = .ok (goInt S.length) (w.setCells g (o * 4) (flat S)) := by
  obtain ⟨A', c', hv, hc1, hc2, hcells⟩ := hsee
  injection hv with e1 e2 e3
  subst e1 e3
  obtain ⟨b, off, rfl, _, hc⟩ := hcells h0
  obtain ⟨i, hi, hz, hsz, hby⟩ := info_parts px_info
  have hS := flat_length S
  have hl := run_loadCells_list (P := Try.prog) w ⟨b, off, none⟩ (flat S) (flat_cells hc)
  have hst := run_storeCells_cells (P := Try.prog) g (o * 4) (flat S) 0 w (fun j hj => by rw [Nat.add_zero]; exact h.some (by omega)) (fun j _ => h.2.1 _) (oneCell_flat S)
  subst hn
  rw [hS] at hl
  simp [Builtin.copy_, run_underlying Try.underlying22, Builtin.lenOf, Builtin.firstCells, sizeOf, typeInfo, hi, hsz, hl, hst]

end Go.Proofs.Ytnkbejbpkjkgeaa
