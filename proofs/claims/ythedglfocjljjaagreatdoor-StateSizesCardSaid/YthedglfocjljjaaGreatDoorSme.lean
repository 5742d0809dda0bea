/-
  Slices in memory as flat lists of cells, of any type of element; append onto rows that are held; states in memory.
-/
import Derived.Test.YthedglfocjljjaaGreatDoorSst
import Derived.Test.YthedglfocjljjaaGreatDoorMgb
import Derived.Test.YthedglfocjljjaaGreatDoorMgc
import Derived.Maps.AppendAt
namespace Go.Proofs.YthedglfocjljjaaGreatDoor
open Go.RowKit

def Sn (W : World) (size : Nat) (v : Value) (n : Nat) (xs : List Value) : Prop :=
  ∃ (A : Option Addr) (cap : Nat), v = .slice A n cap ∧ n ≤ cap ∧ cap ≤ maxLen ∧ xs.length = n * size ∧
    (0 < n → ∃ b off, A = some ⟨b, off, none⟩ ∧ b < W.heap.size ∧ ∀ (j : Nat) (u : Value), xs[j]? = some u → W.cell? ⟨b, off + j, none⟩ = some u)
section
variable {W W' : World} {size n : Nat} {v : Value} {xs : List Value}
theorem Sn.below (h : Sn W size v n xs) (hb : Below W.heap.size W W') : Sn W' size v n xs := by
  obtain ⟨A, cap, hv, h1, h2, hl, h4⟩ := h
  refine ⟨A, cap, hv, h1, h2, hl, fun hn => ?_⟩
  obtain ⟨b, off, hA, hlt, hc⟩ := h4 hn
  exact ⟨b, off, hA, Nat.lt_of_lt_of_le hlt hb.size, fun j u hu => (hb.cell (p := ⟨b, off + j, none⟩) hlt).trans (hc j u hu)⟩
theorem Sn.shape (h : Sn W size v n xs) : ∃ A cap, v = .slice A n cap ∧ n ≤ cap ∧ cap ≤ maxLen := by
  obtain ⟨A, cap, hv, h1, h2, _⟩ := h
  exact ⟨A, cap, hv, h1, h2⟩
theorem sn_nil (W : World) (size : Nat) : Sn W size (.slice none 0 0) 0 [] := ⟨none, 0, rfl, Nat.le_refl _, by simp [maxLen], by simp, fun h => by simp at h⟩
theorem Sn.at {A : Option Addr} {c : Nat} (h : Sn W size (.slice A n c) n xs) (hn : 0 < n) (hb : Below W.heap.size W W') : ∃ b off, A = some ⟨b, off, none⟩ ∧ b < W'.heap.size ∧ ∀ (j : Nat) (u : Value), xs[j]? = some u → W'.cell? ⟨b, off + j, none⟩ = some u := by
  obtain ⟨A', cap, hv, h1, h2, hl, h4⟩ := h
  injection hv with e1 e2 e3
  subst e1
  obtain ⟨b, off, hA, hlt, hc⟩ := h4 hn
  exact ⟨b, off, hA, Nat.lt_of_lt_of_le hlt hb.size, fun j u hu => (hb.cell (p := ⟨b, off + j, none⟩) hlt).trans (hc j u hu)⟩
theorem sn_owned {base : Nat} {e : TypeId} (h : W.ownsRow base e size v n xs) (hl : xs.length = n * size) : Sn W size v n xs := by
  have hall := h
  obtain ⟨_, hc⟩ := h
  rcases hc with ⟨rfl, h0⟩ | ⟨g, cap, cur, rfl, _, hh, hn, hm, _⟩
  · subst h0
    have : xs = [] := List.eq_nil_of_length_eq_zero (by simpa using hl)
    subst this
    exact sn_nil W size
  · refine ⟨_, cap, rfl, hn, hm, hl, fun _ => ⟨g, 0, rfl, (Array.getElem?_eq_some_iff.1 hh).1, fun j u hj => ?_⟩⟩
    have hjl := (List.getElem?_eq_some_iff.1 hj).1
    rw [Nat.zero_add, hall.cellAt j (by omega)]
    exact hj
end
theorem addO_at (b off j : Nat) : (⟨b, off, none⟩ : Addr).add j = ⟨b, off + j, none⟩ := by unfold Addr.add; split <;> simp_all
structure RowTy (t e : TypeId) (size bytes : Nat) : Prop where
  sl : Tryz.prog.underlying t = some (.slice e)
  info : ∃ i z, Tryz.prog.info? e = some i ∧ i.zero = some z ∧ i.size = size ∧ i.bytes = bytes ∧ z.cells.size = size
  pos : 0 < size
  few : bytes ≤ 1000
theorem appendO_nil_run {P : Program} {w : World} {base : Nat} {t ty e : TypeId} {i : TypeInfo} {size : Nat} (ht : P.underlying t = some (.slice e)) (hi : P.info? e = some i)
    {v : Value} {n : Nat} {xs : List Value} (hown : w.ownsRow base e size v n xs) (c : Nat) : (Builtin.append_ #[t, t] ty #[v, .slice none 0 c]).run P w = .ok v w := by
  rcases hown.2 with ⟨rfl, rfl⟩ | ⟨g, cap, cur, rfl, _, _, hnc, _⟩
  · simp [Builtin.append_, run_underlying ht, sizeOf, typeInfo, hi, Builtin.lenOf, Builtin.firstCells]
  · simp [Builtin.append_, run_underlying ht, sizeOf, typeInfo, hi, Builtin.lenOf, Builtin.firstCells, hnc, storeCells]
set_option maxRecDepth 100000 in
theorem appendO_run {w : World} {base : Nat} {t e : TypeId} {size bytes : Nat} (T : RowTy t e size bytes) {v : Value} {n : Nat} {xs : List Value} (hown : w.ownsRow base e size v n xs) {A : Option Addr} {k c : Nat} {ys : List Value} (hsee : Sn w size (.slice A k c) k ys)
    (h1 : ∀ u ∈ ys, u.oneCell' = true) (hb : n + k ≤ 4000000) (hbase : base ≤ w.heap.size) (ty : TypeId) :
    ∃ v' w', (Builtin.append_ #[t, t] ty #[v, .slice A k c]).run Tryz.prog w = .ok v' w' ∧ w'.ownsRow base e size v' (n + k) (xs ++ ys) ∧ w.grownBy w' v.ownBlock ∧ (v'.ownBlock = v.ownBlock ∨ v'.ownBlock = some w.heap.size) := by
  obtain ⟨i, z, hi, hz, hsz, hby, hzs⟩ := T.info
  have hbb : (n + k) * bytes ≤ 140737488355328 := Nat.le_trans (Nat.mul_le_mul hb T.few) (by decide)
  obtain ⟨A', c', hv, hc1, hc2, hyl, hcells⟩ := hsee
  injection hv with e1 e2 e3
  subst e1 e3
  by_cases h0 : k = 0
  · subst h0
    have : ys = [] := List.eq_nil_of_length_eq_zero (by simpa using hyl)
    subst this
    cases A with
    | none => exact ⟨v, w, appendO_nil_run T.sl hi hown c, by simpa using hown, World.grownBy.refl w _, .inl rfl⟩
    | some a =>
      obtain ⟨v', w', hrun, h2, h3, h4, h5⟩ := run_append_own_at (P := Tryz.prog) w base t ty e i z size bytes T.sl hi hz hsz hby hzs T.pos v n xs hown a 0 c [] (by simp) (by simp) (by simp) (by simp only [maxLen]; omega) hbb hbase
      exact ⟨v', w', hrun, h2, h3, h5⟩
  · obtain ⟨b, off, rfl, _, hc⟩ := hcells (by omega)
    obtain ⟨v', w', hrun, h2, h3, h4, h5⟩ := run_append_own_at (P := Tryz.prog) w base t ty e i z size bytes T.sl hi hz hsz hby hzs T.pos v n xs hown ⟨b, off, none⟩ k c ys hyl (fun j u hu => by rw [addO_at]; exact hc j u hu) h1 (by simp only [maxLen]; omega) hbb hbase
    exact ⟨v', w', hrun, h2, h3, h5⟩
set_option maxRecDepth 100000 in
theorem wpList_appO {w : World} {ops : Array Oper} {rest : List Oper} {o : Oper} {a : Act} {Q : Exit → Act → World → Prop} (hgd : o.guard = none) {t e : TypeId} {size bytes : Nat} (T : RowTy t e size bytes) (s x : Operand)
    (ho : o.op = .call { callee := .builtin .append, args := #[s, x], argTypes := #[t, t] })
    {base : Nat} {v : Value} {n : Nat} {xs : List Value} (hs : a.eval s = v) (hown : w.ownsRow base e size v n xs) {A : Option Addr} {k c : Nat} {ys : List Value} (hx : a.eval x = .slice A k c) (hsee : Sn w size (.slice A k c) k ys)
    (h1 : ∀ u ∈ ys, u.oneCell' = true) (hb : n + k ≤ 4000000) (hbase : base ≤ w.heap.size)
    (h : ∀ v' w', w'.ownsRow base e size v' (n + k) (xs ++ ys) → w.grownBy w' v.ownBlock → (v'.ownBlock = v.ownBlock ∨ v'.ownBlock = some w.heap.size) → wpList Tryz.prog ops Q rest (a.put o.dst v') w') : wpList Tryz.prog ops Q (o :: rest) a w := by
  refine wpList_plain hgd fun K hK => ?_
  obtain ⟨v', w', hrun, h2, h3, h4⟩ := appendO_run T hown hsee h1 hb hbase o.type
  unfold Oper.wp execOp
  simp only [ho, resolve, invoke, builtin, Sem.run_bind, Sem.run_pure, Result.andThen_ok, List.map_toArray, List.map_cons, List.map_nil, hs, hx, hrun]
  exact hK _ _ (h v' w' h2 h3 h4)
set_option maxRecDepth 100000 in
theorem step_appO {w : World} {ops : Array Oper} {o : Oper} {a : Act} {K : Act → World → Prop} {Q : Exit → Act → World → Prop} {D : Prop} (hgd : o.guard = none) {t e : TypeId} {size bytes : Nat} (T : RowTy t e size bytes) (s x : Operand)
    (ho : o.op = .call { callee := .builtin .append, args := #[s, x], argTypes := #[t, t] })
    {base : Nat} {v : Value} {n : Nat} {xs : List Value} (hs : a.eval s = v) (hown : w.ownsRow base e size v n xs) {A : Option Addr} {k c : Nat} {ys : List Value} (hx : a.eval x = .slice A k c) (hsee : Sn w size (.slice A k c) k ys)
    (h1 : ∀ u ∈ ys, u.oneCell' = true) (hb : n + k ≤ 4000000) (hbase : base ≤ w.heap.size)
    (h : ∀ v' w', w'.ownsRow base e size v' (n + k) (xs ++ ys) → w.grownBy w' v.ownBlock → (v'.ownBlock = v.ownBlock ∨ v'.ownBlock = some w.heap.size) → K (a.put o.dst v') w') :
    if Region.wanted o (yielded ops a.tmps) = true then Oper.wp Tryz.prog o a w K Q else D := by
  have hw : Region.wanted o (yielded ops a.tmps) = true := by simp [Region.wanted, hgd]
  rw [if_pos hw]
  obtain ⟨v', w', hrun, h2, h3, h4⟩ := appendO_run T hown hsee h1 hb hbase o.type
  unfold Oper.wp execOp
  simp only [ho, resolve, invoke, builtin, Sem.run_bind, Sem.run_pure, Result.andThen_ok, List.map_toArray, List.map_cons, List.map_nil, hs, hx, hrun]
  exact h v' w' h2 h3 h4

abbrev Bv := Bf × Value
abbrev bfC (p : Bv) : List Value := [.int .i64 p.1.a, .int .i64 p.1.b, p.2]
abbrev bfV (p : Bv) : Value := .agg #[.int .i64 p.1.a, .int .i64 p.1.b, p.2]
def bfL (L : List Bv) : List Value := L.flatMap bfC
theorem bfL_len (L : List Bv) : (bfL L).length = L.length * 3 := by
  induction L with
  | nil => rfl
  | cons p l ih => simp only [bfL, List.flatMap_cons, List.length_append, List.length_cons] at ih ⊢; rw [ih]; simp; omega
theorem bfL_append (l m : List Bv) : bfL (l ++ m) = bfL l ++ bfL m := List.flatMap_append
theorem bfL_at : ∀ (l : List Bv) (j : Nat) (p : Bv), l[j]? = some p → (bfL l)[j * 3]? = some (.int .i64 p.1.a) ∧ (bfL l)[j * 3 + 1]? = some (.int .i64 p.1.b) ∧ (bfL l)[j * 3 + 2]? = some p.2
  | [], j, r, h => by simp at h
  | q :: l, 0, r, h => by
    simp only [List.getElem?_cons_zero, Option.some.injEq] at h
    subst h
    exact ⟨rfl, rfl, rfl⟩
  | q :: l, j + 1, r, h => by
    rw [List.getElem?_cons_succ] at h
    have ih := bfL_at l j r h
    have e : bfL (q :: l) = bfC q ++ bfL l := rfl
    have el : (bfC q).length = 3 := rfl
    rw [e, List.getElem?_append_right (by omega), List.getElem?_append_right (by omega), List.getElem?_append_right (by omega), el, show (j + 1) * 3 - 3 = j * 3 by omega, show (j + 1) * 3 + 1 - 3 = j * 3 + 1 by omega, show (j + 1) * 3 + 2 - 3 = j * 3 + 2 by omega]
    exact ih
abbrev uL (l : List Nat) : List Value := l.map (fun x : Nat => Value.int .u32 (x : Int))

abbrev stC (s : St) (vb vd vo vi vc : Value) : List Value := [.int .i64 s.set, vb, .int .i64 s.sc, .int .i64 s.tr, vd, vo, .bool s.is, vi, .int .i64 s.dx, .int .i64 s.dy, vc]
abbrev stV (s : St) (vb vd vo vi vc : Value) : Value := .agg #[.int .i64 s.set, vb, .int .i64 s.sc, .int .i64 s.tr, vd, vo, .bool s.is, vi, .int .i64 s.dx, .int .i64 s.dy, vc]
structure StAt (W : World) (s : St) (L : List Bv) (vb vd vo vi vc : Value) : Prop where
  bf : Sn W 3 vb L.length (bfL L)
  px : ∀ p ∈ L, Pxs W p.2 p.1.l
  eq : L.map Prod.fst = s.bf
  dm : Sn W 4 vd s.dm.length (rflat s.dm)
  op : Sn W 4 vo s.op.length (rflat s.op)
  ip : Sn W 4 vi s.ip.length (rflat s.ip)
  cb : Sn W 1 vc s.cb.length (uL s.cb)
theorem StAt.below {W W' : World} {s : St} {L : List Bv} {vb vd vo vi vc : Value} (h : StAt W s L vb vd vo vi vc) (hb : Below W.heap.size W W') : StAt W' s L vb vd vo vi vc :=
  ⟨h.bf.below hb, fun p hp => (h.px p hp).below hb, h.eq, h.dm.below hb, h.op.below hb, h.ip.below hb, h.cb.below hb⟩
theorem StAt.len {W : World} {s : St} {L : List Bv} {vb vd vo vi vc : Value} (h : StAt W s L vb vd vo vi vc) : s.bf.length = L.length := by rw [← h.eq, List.length_map]
theorem sn_rs {W : World} {v : Value} {l : List R} (h : Sn W 4 v l.length (rflat l)) : Rs W v l := by
  obtain ⟨A, cap, hv, h1, h2, hl, h4⟩ := h
  refine ⟨A, cap, hv, h1, h2, fun hn => ?_⟩
  obtain ⟨b, off, hA, hlt, hc⟩ := h4 hn
  refine ⟨b, off, hA, hlt, fun j r hj => ?_⟩
  obtain ⟨e0, e1, e2, e3⟩ := rflat_at l j r hj
  have c0 := hc _ _ e0
  have c1 := hc _ _ e1
  have c2 := hc _ _ e2
  have c3 := hc _ _ e3
  simp only [← Nat.add_assoc] at c1 c2 c3
  exact ⟨c0, c1, c2, c3⟩
theorem rs_sn {W : World} {v : Value} {l : List R} (h : Rs W v l) : Sn W 4 v l.length (rflat l) := by
  obtain ⟨A, cap, hv, h1, h2, h4⟩ := h
  refine ⟨A, cap, hv, h1, h2, rflat_length l, fun hn => ?_⟩
  obtain ⟨b, off, hA, hlt, hc⟩ := h4 hn
  exact ⟨b, off, hA, hlt, fun j u hu => by rw [← addO_at]; exact rflat_cells hc j u hu⟩
theorem pxs_sn {W : World} {v : Value} {l : List Px} (h : Pxs W v l) : Sn W 4 v l.length (flat l) := by
  obtain ⟨A, cap, hv, h1, h2, h4⟩ := h
  refine ⟨A, cap, hv, h1, h2, flat_length l, fun hn => ?_⟩
  obtain ⟨b, off, hA, hlt, hc⟩ := h4 hn
  exact ⟨b, off, hA, hlt, fun j u hu => by rw [← addO_at]; exact flat_cells hc j u hu⟩
theorem sn_pxs {W : World} {v : Value} {l : List Px} (h : Sn W 4 v l.length (flat l)) : Pxs W v l := by
  obtain ⟨A, cap, hv, h1, h2, hl, h4⟩ := h
  refine ⟨A, cap, hv, h1, h2, fun hn => ?_⟩
  obtain ⟨b, off, hA, hlt, hc⟩ := h4 hn
  refine ⟨b, off, hA, hlt, fun j r hj => ?_⟩
  obtain ⟨e0, e1, e2, e3⟩ := flat_at l j r hj
  have c0 := hc _ _ e0
  have c1 := hc _ _ e1
  have c2 := hc _ _ e2
  have c3 := hc _ _ e3
  simp only [← Nat.add_assoc] at c1 c2 c3
  exact ⟨c0, c1, c2, c3⟩

end Go.Proofs.YthedglfocjljjaaGreatDoor
