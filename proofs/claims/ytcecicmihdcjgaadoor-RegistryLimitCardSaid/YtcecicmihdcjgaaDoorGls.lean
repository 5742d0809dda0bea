/-
  Rows of globals (a number, an interface, a version): slices that are seen, rows of one's own, append onto them.
-/
import Derived.Test.YtcecicmihdcjgaaDoorHeld
import Derived.Test.YtcecicmihdcjgaaDoorIls
namespace Go.Proofs.YtcecicmihdcjgaaDoor
open Go.RowKit

structure Gl where
  nm : Nat
  it : ByteArray
  vr : Int
abbrev glC (g : Gl) : List Value := [.int .u32 (g.nm : Int), .string g.it, .int .i64 g.vr]
abbrev glVal (g : Gl) : Value := .agg #[.int .u32 (g.nm : Int), .string g.it, .int .i64 g.vr]
def gflat (l : List Gl) : List Value := l.flatMap glC
theorem gflat_append (l m : List Gl) : gflat (l ++ m) = gflat l ++ gflat m := List.flatMap_append
theorem gflat_length (l : List Gl) : (gflat l).length = l.length * 3 := by
  induction l with
  | nil => rfl
  | cons p l ih => simp only [gflat, List.flatMap_cons, List.length_append, List.length_cons] at ih ⊢; rw [ih]; simp; omega
theorem gflat_at : ∀ (l : List Gl) (j : Nat) (r : Gl), l[j]? = some r → (gflat l)[j * 3]? = some (.int .u32 (r.nm : Int)) ∧ (gflat l)[j * 3 + 1]? = some (.string r.it) ∧ (gflat l)[j * 3 + 2]? = some (.int .i64 r.vr)
  | [], j, r, h => by simp at h
  | q :: l, 0, r, h => by
    simp only [List.getElem?_cons_zero, Option.some.injEq] at h
    subst h
    exact ⟨rfl, rfl, rfl⟩
  | q :: l, j + 1, r, h => by
    rw [List.getElem?_cons_succ] at h
    have ih := gflat_at l j r h
    have e : gflat (q :: l) = glC q ++ gflat l := rfl
    have el : (glC q).length = 3 := rfl
    rw [e, List.getElem?_append_right (by omega), List.getElem?_append_right (by omega), List.getElem?_append_right (by omega), el, show (j + 1) * 3 - 3 = j * 3 by omega, show (j + 1) * 3 + 1 - 3 = j * 3 + 1 by omega, show (j + 1) * 3 + 2 - 3 = j * 3 + 2 by omega]
    exact ih

/-- the cells of a global at an address -/
def GlAt (w : World) (b o : Nat) (r : Gl) : Prop := w.cell? ⟨b, o, none⟩ = some (.int .u32 (r.nm : Int)) ∧ w.cell? ⟨b, o + 1, none⟩ = some (.string r.it) ∧ w.cell? ⟨b, o + 2, none⟩ = some (.int .i64 r.vr)
theorem GlAt.below {w w' : World} {b o n : Nat} {r : Gl} (h : GlAt w b o r) (hlt : b < n) (hb : Below n w w') : GlAt w' b o r :=
  ⟨(hb.cell (p := ⟨b, o, none⟩) hlt).trans h.1, (hb.cell (p := ⟨b, o + 1, none⟩) hlt).trans h.2.1, (hb.cell (p := ⟨b, o + 2, none⟩) hlt).trans h.2.2⟩

/-- the slice value v holds the globals l -/
def Gs (w : World) (v : Value) (l : List Gl) : Prop :=
  ∃ (A : Option Addr) (cap : Nat), v = .slice A l.length cap ∧ l.length ≤ cap ∧ cap ≤ maxLen ∧
    (0 < l.length → ∃ b off, A = some ⟨b, off, none⟩ ∧ b < w.heap.size ∧ ∀ (j : Nat) (r : Gl), l[j]? = some r → GlAt w b (off + j * 3) r)
theorem Gs.below {w w' : World} {v : Value} {l : List Gl} (h : Gs w v l) (hb : Below w.heap.size w w') : Gs w' v l := by
  obtain ⟨A, cap, hv, h1, h2, h4⟩ := h
  refine ⟨A, cap, hv, h1, h2, fun hn => ?_⟩
  obtain ⟨b, off, hA, hlt, hc⟩ := h4 hn
  exact ⟨b, off, hA, Nat.lt_of_lt_of_le hlt hb.size, fun j t ht => (hc j t ht).below hlt hb⟩
theorem gs_nil (w : World) : Gs w (.slice none 0 0) [] := ⟨none, 0, rfl, Nat.le_refl _, by simp [maxLen], fun h => by simp at h⟩
theorem Gs.shape {w : World} {v : Value} {l : List Gl} (h : Gs w v l) : ∃ A cap, v = .slice A l.length cap ∧ l.length ≤ cap ∧ cap ≤ maxLen := by
  obtain ⟨A, cap, hv, h1, h2, _⟩ := h
  exact ⟨A, cap, hv, h1, h2⟩
/-- the global at an index, in a world that has kept what is older -/
theorem gs_at {w W : World} {A : Option Addr} {n cap : Nat} {l : List Gl} (h : Gs w (.slice A n cap) l) (hb : Below w.heap.size w W) {j : Nat} {r : Gl} (hj : l[j]? = some r) :
    ∃ b off, A = some ⟨b, off, none⟩ ∧ b < w.heap.size ∧ GlAt W b (off + j * 3) r := by
  obtain ⟨A', cap', hv, _, _, hc⟩ := h
  injection hv with e1 e2 e3
  subst e1
  have hl := (List.getElem?_eq_some_iff.1 hj).1
  obtain ⟨b, off, rfl, hlt, hc⟩ := hc (by omega)
  exact ⟨b, off, rfl, hlt, (hc j r hj).below hlt hb⟩

/-- the value v owns a row of the globals l, in a block from base on -/
def OwnG (w : World) (base : Nat) (v : Value) (l : List Gl) : Prop := w.ownsRow base 49 3 v l.length (gflat l)
theorem ownG_nil (w : World) (base : Nat) : OwnG w base (.slice none 0 0) [] := World.ownsRow_nil w base 49 3
theorem OwnG.gs {w : World} {base : Nat} {v : Value} {l : List Gl} (h : OwnG w base v l) : Gs w v l := by
  have hall := h
  obtain ⟨_, hc⟩ := h
  rcases hc with ⟨rfl, h0⟩ | ⟨g, cap, cur, rfl, _, hh, hn, hm, _⟩
  · have : l = [] := List.eq_nil_of_length_eq_zero h0
    subst this
    exact gs_nil w
  · refine ⟨_, cap, rfl, hn, hm, fun _ => ⟨g, 0, rfl, ?_, fun j p hj => ?_⟩⟩
    · rcases Nat.lt_or_ge g w.heap.size with hl | hl
      · exact hl
      · rw [Array.getElem?_eq_none hl] at hh; cases hh
    · have hjl := (List.getElem?_eq_some_iff.1 hj).1
      obtain ⟨e0, e1, e2⟩ := gflat_at l j p hj
      rw [Nat.zero_add]
      unfold GlAt
      rw [hall.cellAt (j * 3) (by omega), hall.cellAt (j * 3 + 1) (by omega), hall.cellAt (j * 3 + 2) (by omega)]
      exact ⟨e0, e1, e2⟩
theorem OwnG.block {w : World} {base : Nat} {v : Value} {l : List Gl} (h : OwnG w base v l) : ∀ k, v.ownBlock = some k → base ≤ k ∧ k < w.heap.size := World.ownsRow.lt h
theorem OwnG.below {w w' : World} {base : Nat} {v : Value} {l : List Gl} (h : OwnG w base v l) (hb : Below w.heap.size w w') : OwnG w' base v l :=
  World.ownsRow.kept (row := none) h ⟨hb.os, hb.tape, hb.output, hb.size, fun k hk _ => hb.block k hk⟩ (by cases v.ownBlock <;> simp)
theorem OwnG.mono {w : World} {base base' : Nat} {v : Value} {l : List Gl} (h : OwnG w base v l) (hb : base' ≤ base) : OwnG w base' v l := by
  refine ⟨h.1, ?_⟩
  rcases h.2 with h2 | ⟨g, cap, cur, hv, hg, r⟩
  · exact .inl h2
  · exact .inr ⟨g, cap, cur, hv, Nat.le_trans hb hg, r⟩
theorem oneCell_gflat (l : List Gl) : ∀ u ∈ gflat l, u.oneCell' = true := by
  intro u hu
  obtain ⟨p, _, hc⟩ := List.mem_flatMap.1 hu
  simp only [glC, List.mem_cons, List.not_mem_nil, or_false] at hc
  rcases hc with rfl | rfl | rfl <;> rfl
theorem gflat_cells {w : World} {b off : Nat} {l : List Gl} (h : ∀ (j : Nat) (r : Gl), l[j]? = some r → GlAt w b (off + j * 3) r) :
    ∀ j u, (gflat l)[j]? = some u → w.cell? ((⟨b, off, none⟩ : Addr).add j) = some u := by
  intro j u hu
  have hj : j < l.length * 3 := by
    have := (List.getElem?_eq_some_iff.1 hu).1
    rwa [gflat_length] at this
  obtain ⟨p, hp⟩ : ∃ p, l[j / 3]? = some p := ⟨_, List.getElem?_eq_getElem (by omega)⟩
  obtain ⟨e0, e1, e2⟩ := gflat_at l _ p hp
  obtain ⟨c0, c1, c2⟩ := h _ p hp
  rw [addI_at]
  rcases (by omega : j = j / 3 * 3 ∨ j = j / 3 * 3 + 1 ∨ j = j / 3 * 3 + 2) with hh | hh | hh
  · rw [hh, e0] at hu; rw [hh, c0, hu]
  · rw [hh, e1] at hu; rw [hh, ← Nat.add_assoc, c1, hu]
  · rw [hh, e2] at hu; rw [hh, ← Nat.add_assoc, c2, hu]

set_option maxRecDepth 100000 in
theorem gl_info : (Tryd.prog.info? 49).map (fun i => (i.zero, i.size, i.bytes)) = some (some (.agg #[.int .u32 0, .string ⟨#[]⟩, .int .i64 0]), 3, 32) := by kernel_rfl
theorem appG_nil_run {P : Program} {w : World} {base : Nat} {t ty e : TypeId} {i : TypeInfo} {size : Nat} (ht : P.underlying t = some (.slice e)) (hi : P.info? e = some i)
    {v : Value} {n : Nat} {xs : List Value} (hown : w.ownsRow base e size v n xs) (c : Nat) : (Builtin.append_ #[t, t] ty #[v, .slice none 0 c]).run P w = .ok v w := by
  rcases hown.2 with ⟨rfl, rfl⟩ | ⟨g, cap, cur, rfl, _, _, hnc, _⟩
  · simp [Builtin.append_, run_underlying ht, sizeOf, typeInfo, hi, Builtin.lenOf, Builtin.firstCells]
  · simp [Builtin.append_, run_underlying ht, sizeOf, typeInfo, hi, Builtin.lenOf, Builtin.firstCells, hnc, storeCells]
set_option maxRecDepth 100000 in
theorem appendG_run {w : World} {base : Nat} {v : Value} {l m : List Gl} (hown : OwnG w base v l) {A : Option Addr} {k c : Nat} (hsee : Gs w (.slice A k c) m) (hb : l.length + m.length ≤ 4000000) (hbase : base ≤ w.heap.size) (ty : TypeId) :
    ∃ v' w', (Builtin.append_ #[26, 26] ty #[v, .slice A k c]).run Tryd.prog w = .ok v' w' ∧ OwnG w' base v' (l ++ m) ∧ w.grownBy w' v.ownBlock ∧ (v'.ownBlock = v.ownBlock ∨ v'.ownBlock = some w.heap.size) := by
  obtain ⟨i, hi, hz, hsz, hby⟩ := infoI_parts gl_info
  obtain ⟨A', c', hv, hc1, hc2, hcells⟩ := hsee
  injection hv with e1 e2 e3
  subst e1 e2 e3
  by_cases h0 : m.length = 0
  · have : m = [] := List.eq_nil_of_length_eq_zero h0
    subst this
    cases A with
    | none =>
      have hn := appG_nil_run (ty := ty) Tryd.underlying26 hi hown c
      exact ⟨v, w, hn, by rw [List.append_nil]; exact hown, World.grownBy.refl w _, .inl rfl⟩
    | some a =>
      obtain ⟨v', w', hrun, h2, h3, h4, h5⟩ := run_append_own_at (P := Tryd.prog) w base 26 ty 49 i _ 3 32 Tryd.underlying26 hi hz hsz hby rfl (by decide) v l.length (gflat l) hown a 0 c [] rfl (by simp) (by simp) (by simp only [maxLen]; simp at hb; omega) (by simp at hb ⊢; omega) hbase
      exact ⟨v', w', hrun, by unfold OwnG; simpa using h2, h3, h5⟩
  · obtain ⟨b, off, rfl, _, hc⟩ := hcells (by omega)
    obtain ⟨v', w', hrun, h2, h3, h4, h5⟩ := run_append_own_at (P := Tryd.prog) w base 26 ty 49 i _ 3 32 Tryd.underlying26 hi hz hsz hby rfl (by decide) v l.length (gflat l) hown ⟨b, off, none⟩ m.length c (gflat m) (gflat_length m) (gflat_cells hc) (oneCell_gflat m) (by simp only [maxLen]; omega) (by omega) hbase
    exact ⟨v', w', hrun, by unfold OwnG; rw [gflat_append, List.length_append]; exact h2, h3, h5⟩

set_option maxRecDepth 100000 in
/-- append onto a row of one's own, for the walk -/
theorem wpList_appG {w : World} {ops : Array Oper} {rest : List Oper} {o : Oper} {a : Act} {Q : Exit → Act → World → Prop} (hgd : o.guard = none) (s x : Operand)
    (ho : o.op = .call { callee := .builtin .append, args := #[s, x], argTypes := #[26, 26] })
    {base : Nat} {v : Value} {l m : List Gl} (hs : a.eval s = v) (hown : OwnG w base v l) {A : Option Addr} {k c : Nat} (hx : a.eval x = .slice A k c) (hsee : Gs w (.slice A k c) m)
    (hb : l.length + m.length ≤ 4000000) (hbase : base ≤ w.heap.size)
    (h : ∀ v' w', OwnG w' base v' (l ++ m) → w.grownBy w' v.ownBlock → (v'.ownBlock = v.ownBlock ∨ v'.ownBlock = some w.heap.size) → wpList Tryd.prog ops Q rest (a.put o.dst v') w') : wpList Tryd.prog ops Q (o :: rest) a w := by
  refine wpList_plain hgd fun K hK => ?_
  obtain ⟨v', w', hrun, h2, h3, h4⟩ := appendG_run hown hsee hb hbase o.type
  unfold Oper.wp execOp
  simp only [ho, resolve, invoke, builtin, Sem.run_bind, Sem.run_pure, Result.andThen_ok, List.map_toArray, List.map_cons, List.map_nil, hs, hx, hrun]
  exact hK _ _ (h v' w' h2 h3 h4)
set_option maxRecDepth 100000 in
/-- the same at a step of a region that draws its order -/
theorem step_appG {w : World} {ops : Array Oper} {o : Oper} {a : Act} {K : Act → World → Prop} {Q : Exit → Act → World → Prop} {D : Prop} (hgd : o.guard = none) (s x : Operand)
    (ho : o.op = .call { callee := .builtin .append, args := #[s, x], argTypes := #[26, 26] })
    {base : Nat} {v : Value} {l m : List Gl} (hs : a.eval s = v) (hown : OwnG w base v l) {A : Option Addr} {k c : Nat} (hx : a.eval x = .slice A k c) (hsee : Gs w (.slice A k c) m)
    (hb : l.length + m.length ≤ 4000000) (hbase : base ≤ w.heap.size)
    (h : ∀ v' w', OwnG w' base v' (l ++ m) → w.grownBy w' v.ownBlock → (v'.ownBlock = v.ownBlock ∨ v'.ownBlock = some w.heap.size) → K (a.put o.dst v') w') :
    if Region.wanted o (yielded ops a.tmps) = true then Oper.wp Tryd.prog o a w K Q else D := by
  have hw : Region.wanted o (yielded ops a.tmps) = true := by simp [Region.wanted, hgd]
  rw [if_pos hw]
  obtain ⟨v', w', hrun, h2, h3, h4⟩ := appendG_run hown hsee hb hbase o.type
  unfold Oper.wp execOp
  simp only [ho, resolve, invoke, builtin, Sem.run_bind, Sem.run_pure, Result.andThen_ok, List.map_toArray, List.map_cons, List.map_nil, hs, hx, hrun]
  exact h v' w' h2 h3 h4
theorem gs_one (w : World) (r : Gl) : Gs (w.alloc (.cells #[.int .u32 (r.nm : Int), .string r.it, .int .i64 r.vr] 49)) (.slice (some ⟨w.heap.size, 0, none⟩) 1 1) [r] := by
  refine ⟨_, 1, rfl, Nat.le_refl _, by simp [maxLen], fun _ => ⟨w.heap.size, 0, rfl, by simp, fun j q hj => ?_⟩⟩
  match j, hj with
  | 0, hj =>
    simp only [List.getElem?_cons_zero, Option.some.injEq] at hj
    subst hj
    refine ⟨?_, ?_, ?_⟩ <;> (rw [World.cell?_alloc_at _ _ _ _ rfl]; rfl)
theorem below_grownG {w W W' : World} {v : Value} {L : List Gl} (h : Below w.heap.size w W) (hg : W.grownBy W' v.ownBlock) (ho : OwnG W w.heap.size v L) : Below w.heap.size w W' := h.grown hg h.size (fun k hk => (ho.block k hk).1)

end Go.Proofs.YtcecicmihdcjgaaDoor
