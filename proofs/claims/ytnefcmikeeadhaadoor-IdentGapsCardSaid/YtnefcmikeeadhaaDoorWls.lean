/-
  Lists of numbers of 64 bits in a world, rows of them of one's own, append onto them (from the text of numbers of 32 bits).
-/
import Derived.Test.YtnefcmikeeadhaaDoorUls
namespace Go.Proofs.YtnefcmikeeadhaaDoor
open Go.RowKit

theorem w64_info : (Tryd.prog.info? 64).map (fun i => (i.zero, i.size, i.bytes)) = some (some (.int .u64 0), 1, 8) := by kernel_rfl

abbrev wls (l : List Nat) : List Value := l.map (fun x : Nat => Value.int .u64 (x : Int))

/-- the slice value v holds the numbers l -/
def Ws (w : World) (v : Value) (l : List Nat) : Prop :=
  ∃ (A : Option Addr) (cap : Nat), v = .slice A l.length cap ∧ l.length ≤ cap ∧ cap ≤ maxLen ∧
    (0 < l.length → ∃ b off, A = some ⟨b, off, none⟩ ∧ TyAt w b 64 ∧ ∀ (j : Nat) (x : Nat), l[j]? = some x → w.cell? ⟨b, off + j, none⟩ = some (.int .u64 (x : Int)))

theorem Ws.below {w w' : World} {v : Value} {l : List Nat} (h : Ws w v l) (hb : Below w.heap.size w w') : Ws w' v l := by
  obtain ⟨A, cap, hv, h1, h2, h4⟩ := h
  refine ⟨A, cap, hv, h1, h2, fun hn => ?_⟩
  obtain ⟨b, off, hA, hlt, hc⟩ := h4 hn
  refine ⟨b, off, hA, hlt.below hb, fun j t ht => ?_⟩
  rw [hb.cell (p := ⟨b, off + j, none⟩) hlt.lt]
  exact hc j t ht

theorem ws_nil (w : World) : Ws w (.slice none 0 0) [] := ⟨none, 0, rfl, Nat.le_refl _, by simp [maxLen], fun h => by simp at h⟩

/-- the value v owns a row of the numbers l, in a block from base on -/
def OwnW (w : World) (base : Nat) (v : Value) (l : List Nat) : Prop := w.ownsRow base 64 1 v l.length (wls l)

theorem ownW_nil (w : World) (base : Nat) : OwnW w base (.slice none 0 0) [] := World.ownsRow_nil w base 64 1

theorem OwnW.ws {w : World} {base : Nat} {v : Value} {l : List Nat} (h : OwnW w base v l) : Ws w v l := by
  have hall := h
  obtain ⟨_, hc⟩ := h
  rcases hc with ⟨rfl, h0⟩ | ⟨g, cap, cur, rfl, _, hh, hn, hm, _⟩
  · have : l = [] := List.eq_nil_of_length_eq_zero h0
    subst this
    exact ws_nil w
  · refine ⟨_, cap, rfl, hn, hm, fun _ => ⟨g, 0, rfl, ⟨_, _, hh⟩, fun j p hj => ?_⟩⟩
    have hjl := (List.getElem?_eq_some_iff.1 hj).1
    rw [Nat.zero_add, hall.cellAt j (by omega)]
    simp [wls, hj]

theorem OwnW.below {w w' : World} {base : Nat} {v : Value} {l : List Nat} (h : OwnW w base v l) (hb : Below w.heap.size w w') : OwnW w' base v l := World.ownsRow.kept (row := none) h ⟨hb.os, hb.tape, hb.output, hb.size, fun k hk _ => hb.block k hk⟩ (by cases v.ownBlock <;> simp)

theorem oneCell_wls (l : List Nat) : ∀ u ∈ wls l, u.oneCell' = true := by
  intro u hu
  obtain ⟨p, _, rfl⟩ := List.mem_map.1 hu
  rfl

theorem wls_cells {w : World} {b off : Nat} {l : List Nat} (h : ∀ (j : Nat) (x : Nat), l[j]? = some x → w.cell? ⟨b, off + j, none⟩ = some (.int .u64 (x : Int))) :
    ∀ j u, (wls l)[j]? = some u → w.cell? ((⟨b, off, none⟩ : Addr).add j) = some u := by
  intro j u hu
  rw [addU_at]
  simp only [wls, List.getElem?_map, Option.map_eq_some_iff] at hu
  obtain ⟨x, hx, rfl⟩ := hu
  exact h j x hx

theorem wls_append (l m : List Nat) : wls (l ++ m) = wls l ++ wls m := List.map_append
theorem wls_length (l : List Nat) : (wls l).length = l.length * 1 := by simp [wls]

theorem appendW_run {w : World} {base : Nat} {v : Value} {l m : List Nat} (hown : OwnW w base v l) {A : Option Addr} {k c : Nat} (hsee : Ws w (.slice A k c) m) (hb : l.length + m.length ≤ 4000000) (hbase : base ≤ w.heap.size) (ty : TypeId) :
    ∃ v' w', (Builtin.append_ #[50, 50] ty #[v, .slice A k c]).run Tryd.prog w = .ok v' w' ∧ OwnW w' base v' (l ++ m) ∧ w.grownBy w' v.ownBlock ∧ (v'.ownBlock = v.ownBlock ∨ v'.ownBlock = some w.heap.size) ∧ (v' = .slice none 0 0 ↔ v = .slice none 0 0 ∧ m.length = 0) := by
  obtain ⟨i, hi, hz, hsz, hby⟩ := infoU_parts w64_info
  obtain ⟨A', c', hv, hc1, hc2, hcells⟩ := hsee
  injection hv with e1 e2 e3
  subst e1 e2 e3
  by_cases h0 : m.length = 0
  · have : m = [] := List.eq_nil_of_length_eq_zero h0
    subst this
    cases A with
    | none =>
      have hn := appendU_nil_run (ty := ty) Tryd.underlying50 hi hown c
      exact ⟨v, w, hn, by rw [List.append_nil]; exact hown, World.grownBy.refl w _, .inl rfl, by simp⟩
    | some a =>
      obtain ⟨v', w', hrun, h2, h3, h4, h5⟩ := run_append_own_at (P := Tryd.prog) w base 50 ty 64 i _ 1 8 Tryd.underlying50 hi hz hsz hby rfl (by decide) v l.length (wls l) hown a 0 c [] rfl (by simp) (by simp) (by simp only [maxLen]; simp at hb; omega) (by simp at hb ⊢; omega) hbase
      exact ⟨v', w', hrun, by unfold OwnW; simpa using h2, h3, h5, by simpa using h4⟩
  · obtain ⟨b, off, rfl, _, hc⟩ := hcells (by omega)
    obtain ⟨v', w', hrun, h2, h3, h4, h5⟩ := run_append_own_at (P := Tryd.prog) w base 50 ty 64 i _ 1 8 Tryd.underlying50 hi hz hsz hby rfl (by decide) v l.length (wls l) hown ⟨b, off, none⟩ m.length c (wls m) (wls_length m) (wls_cells hc) (oneCell_wls m) (by simp only [maxLen]; omega) (by omega) hbase
    exact ⟨v', w', hrun, by unfold OwnW; rw [wls_append, List.length_append]; exact h2, h3, h5, h4⟩

/-- append onto a row of one's own, for the walk -/
theorem wpList_appW {w : World} {ops : Array Oper} {rest : List Oper} {o : Oper} {a : Act} {Q : Exit → Act → World → Prop} (hgd : o.guard = none) (s x : Operand)
    (ho : o.op = .call { callee := .builtin .append, args := #[s, x], argTypes := #[50, 50] })
    {base : Nat} {v : Value} {l m : List Nat} (hs : a.eval s = v) (hown : OwnW w base v l) {A : Option Addr} {k c : Nat} (hx : a.eval x = .slice A k c) (hsee : Ws w (.slice A k c) m)
    (hb : l.length + m.length ≤ 4000000) (hbase : base ≤ w.heap.size)
    (h : ∀ v' w', OwnW w' base v' (l ++ m) → w.grownBy w' v.ownBlock → (v'.ownBlock = v.ownBlock ∨ v'.ownBlock = some w.heap.size) → (v' = .slice none 0 0 ↔ v = .slice none 0 0 ∧ m.length = 0) → wpList Tryd.prog ops Q rest (a.put o.dst v') w') : wpList Tryd.prog ops Q (o :: rest) a w := by
  refine wpList_plain hgd fun K hK => ?_
  obtain ⟨v', w', hrun, h2, h3, h4, h5⟩ := appendW_run hown hsee hb hbase o.type
  unfold Oper.wp execOp
  simp only [ho, resolve, invoke, builtin, Sem.run_bind, Sem.run_pure, Result.andThen_ok, List.map_toArray, List.map_cons, List.map_nil, hs, hx, hrun]
  exact hK _ _ (h v' w' h2 h3 h4 h5)

/-- the same at a step of a region that draws its order -/
theorem step_appW {w : World} {ops : Array Oper} {o : Oper} {a : Act} {K : Act → World → Prop} {Q : Exit → Act → World → Prop} {D : Prop} (hgd : o.guard = none) (s x : Operand)
    (ho : o.op = .call { callee := .builtin .append, args := #[s, x], argTypes := #[50, 50] })
    {base : Nat} {v : Value} {l m : List Nat} (hs : a.eval s = v) (hown : OwnW w base v l) {A : Option Addr} {k c : Nat} (hx : a.eval x = .slice A k c) (hsee : Ws w (.slice A k c) m)
    (hb : l.length + m.length ≤ 4000000) (hbase : base ≤ w.heap.size)
    (h : ∀ v' w', OwnW w' base v' (l ++ m) → w.grownBy w' v.ownBlock → (v'.ownBlock = v.ownBlock ∨ v'.ownBlock = some w.heap.size) → (v' = .slice none 0 0 ↔ v = .slice none 0 0 ∧ m.length = 0) → K (a.put o.dst v') w') :
    if Region.wanted o (yielded ops a.tmps) = true then Oper.wp Tryd.prog o a w K Q else D := by
  have hw : Region.wanted o (yielded ops a.tmps) = true := by simp [Region.wanted, hgd]
  rw [if_pos hw]
  obtain ⟨v', w', hrun, h2, h3, h4, h5⟩ := appendW_run hown hsee hb hbase o.type
  unfold Oper.wp execOp
  simp only [ho, resolve, invoke, builtin, Sem.run_bind, Sem.run_pure, Result.andThen_ok, List.map_toArray, List.map_cons, List.map_nil, hs, hx, hrun]
  exact h v' w' h2 h3 h4 h5

theorem ws_one (w : World) (x : Nat) : Ws (w.alloc (.cells #[.int .u64 (x : Int)] 64)) (.slice (some ⟨w.heap.size, 0, none⟩) 1 1) [x] := by
  refine ⟨_, 1, rfl, Nat.le_refl _, by simp [maxLen], fun _ => ⟨w.heap.size, 0, rfl, ⟨#[.int .u64 (x : Int)], (0, 0), (MapKept.heap_alloc w _).1⟩, fun j q hj => ?_⟩⟩
  match j, hj with
  | 0, hj => simp only [List.getElem?_cons_zero, Option.some.injEq] at hj; subst hj; rw [World.cell?_alloc_at _ _ _ _ rfl]; rfl

end Go.Proofs.YtnefcmikeeadhaaDoor
