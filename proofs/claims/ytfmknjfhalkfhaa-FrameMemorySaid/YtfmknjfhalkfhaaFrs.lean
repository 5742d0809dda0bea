/-
  Lists of frames in a world: what a slice of frames holds, rows of frames of a call's own, and append onto them. Types: 31 a slice of frames, 25 a frame.
-/
import Derived.Test.YtfmknjfhalkfhaaNew
namespace Go.Proofs.Ytfmknjfhalkfhaa
open Go.RowKit Mem Wire

theorem frame_info : (Try.prog.info? 25).map (fun i => (i.zero, i.size, i.bytes)) = some (some (.agg #[.int .u32 0, .int .i64 0, .slice none 0 0]), 3, 40) := by kernel_rfl

/-- the cells of a frame, and of frames: with each the slice value of its body -/
def cells3 (p : Fr × Value) : List Value := [.int .u32 (p.1.o : Int), .int .i64 p.1.c, p.2]
def flat (l : List (Fr × Value)) : List Value := l.flatMap cells3
def fst (l : List (Fr × Value)) : List Fr := l.map (·.1)

theorem fst_append (l m : List (Fr × Value)) : fst (l ++ m) = fst l ++ fst m := List.map_append
theorem fst_length (l : List (Fr × Value)) : (fst l).length = l.length := List.length_map ..

theorem flat_append (l m : List (Fr × Value)) : flat (l ++ m) = flat l ++ flat m := List.flatMap_append

theorem flat_length (l : List (Fr × Value)) : (flat l).length = l.length * 3 := by
  induction l with
  | nil => rfl
  | cons p l ih => simp only [flat, List.flatMap_cons, List.length_append, List.length_cons] at ih ⊢; rw [ih]; simp [cells3]; omega

theorem flat_at : ∀ (l : List (Fr × Value)) (j : Nat) (p : Fr × Value), l[j]? = some p →
    (flat l)[j * 3]? = some (.int .u32 (p.1.o : Int)) ∧ (flat l)[j * 3 + 1]? = some (.int .i64 p.1.c) ∧ (flat l)[j * 3 + 2]? = some p.2
  | [], j, p, h => by simp at h
  | q :: l, 0, p, h => by
    simp only [List.getElem?_cons_zero, Option.some.injEq] at h
    subst h
    exact ⟨rfl, rfl, rfl⟩
  | q :: l, j + 1, p, h => by
    rw [List.getElem?_cons_succ] at h
    have ih := flat_at l j p h
    have e : flat (q :: l) = cells3 q ++ flat l := rfl
    have el : (cells3 q).length = 3 := rfl
    rw [e, List.getElem?_append_right (by omega), List.getElem?_append_right (by omega), List.getElem?_append_right (by omega), el, show (j + 1) * 3 - 3 = j * 3 by omega, show (j + 1) * 3 + 1 - 3 = j * 3 + 1 by omega, show (j + 1) * 3 + 2 - 3 = j * 3 + 2 by omega]
    exact ih

/-- the slice value v holds the frames l -/
def Frs (w : World) (v : Value) (l : List (Fr × Value)) : Prop :=
  ∃ (A : Option Addr) (cap : Nat), v = .slice A l.length cap ∧ l.length ≤ cap ∧ cap ≤ maxLen ∧ (∀ p ∈ l, Sees w p.2 p.1.b) ∧
    (0 < l.length → ∃ b off, A = some ⟨b, off, none⟩ ∧ b < w.heap.size ∧ ∀ (j : Nat) (p : Fr × Value), l[j]? = some p →
      w.cell? ⟨b, off + j * 3, none⟩ = some (.int .u32 (p.1.o : Int)) ∧ w.cell? ⟨b, off + j * 3 + 1, none⟩ = some (.int .i64 p.1.c) ∧ w.cell? ⟨b, off + j * 3 + 2, none⟩ = some p.2)

theorem Frs.below {w w' : World} {v : Value} {l : List (Fr × Value)} (h : Frs w v l) (hb : Below w.heap.size w w') : Frs w' v l := by
  obtain ⟨A, cap, hv, h1, h2, h3, h4⟩ := h
  refine ⟨A, cap, hv, h1, h2, fun t ht => (h3 t ht).below hb, fun hn => ?_⟩
  obtain ⟨b, off, hA, hlt, hc⟩ := h4 hn
  refine ⟨b, off, hA, Nat.lt_of_lt_of_le hlt hb.size, fun j t ht => ?_⟩
  rw [hb.cell (p := ⟨b, off + j * 3, none⟩) hlt, hb.cell (p := ⟨b, off + j * 3 + 1, none⟩) hlt, hb.cell (p := ⟨b, off + j * 3 + 2, none⟩) hlt]
  exact hc j t ht

theorem frs_nil (w : World) : Frs w (.slice none 0 0) [] := ⟨none, 0, rfl, Nat.le_refl _, by simp [maxLen], by simp, fun h => by simp at h⟩

theorem Frs.shape {w : World} {v : Value} {l : List (Fr × Value)} (h : Frs w v l) : ∃ A cap, v = .slice A l.length cap ∧ l.length ≤ cap ∧ cap ≤ maxLen := by
  obtain ⟨A, cap, hv, h1, h2, _⟩ := h
  exact ⟨A, cap, hv, h1, h2⟩

/-- a body: bytes of the call's own, or bytes of a block that was there before -/
def Body (w : World) (base : Nat) (v : Value) (bs : List UInt8) : Prop := Owns w base v bs ∨ ((bs ≠ [] → ∀ k, v.ownBlock = some k → k < base) ∧ Sees w v bs)

theorem Body.sees {w : World} {base : Nat} {v : Value} {bs : List UInt8} (h : Body w base v bs) : Sees w v bs := by
  rcases h with h | h
  · exact h.sees
  · exact h.2

theorem Owns.elem {w : World} {base : Nat} {v : Value} {bs : List UInt8} (h : Owns w base v bs) : ∀ k, v.ownBlock = some k → base ≤ k ∧ ∃ cur, w.heap[k]? = some (.cells cur 5 (0, 0)) := by
  intro k hk
  rcases h.2 with ⟨rfl, _⟩ | ⟨g, cap, cur, rfl, hb, hh, _⟩
  · cases hk
  · injection hk with hk
    subst hk
    exact ⟨hb, cur, hh⟩

/-- a block that is there, and whose cells are no bytes -/
def Else (w : World) (row : Option Nat) : Prop := ∀ g, row = some g → ∃ cur t, w.heap[g]? = some (.cells cur t (0, 0)) ∧ t ≠ 5

theorem Owns.grownElse {w w' : World} {base : Nat} {v : Value} {bs : List UInt8} {row : Option Nat} (h : Owns w base v bs) (hg : w.grownBy w' row) (hr : Else w row) : Owns w' base v bs := by
  refine h.kept hg ?_
  cases hk : v.ownBlock with
  | none => exact .inl rfl
  | some k =>
    refine .inr fun e => ?_
    obtain ⟨_, cur, hh⟩ := h.elem k hk
    obtain ⟨cur', t, hh', ht⟩ := hr k e.symm
    rw [hh] at hh'
    injection hh' with e1
    injection e1 with _ e2
    exact ht e2.symm

theorem sees_other {w w' : World} {v : Value} {bs : List UInt8} (h : Sees w v bs) (hs : w.heap.size ≤ w'.heap.size) (hb : bs ≠ [] → ∀ k, k < w.heap.size → v.ownBlock = some k → w'.heap[k]? = w.heap[k]?) : Sees w' v bs := by
  obtain ⟨A, cap, hv, h1, h2, h3⟩ := h
  refine ⟨A, cap, hv, h1, h2, fun hn => ?_⟩
  obtain ⟨b, off, hA, hlt, hc⟩ := h3 hn
  subst hA
  refine ⟨b, off, rfl, Nat.lt_of_lt_of_le hlt hs, fun j hj => ?_⟩
  rw [World.cell?_of_block (hb (List.length_pos_iff.1 hn) b hlt (by rw [hv]; rfl))]
  exact hc j hj

theorem sees_old {w : World} {v : Value} {bs : List UInt8} (h : Sees w v bs) : bs ≠ [] → ∀ k, v.ownBlock = some k → k < w.heap.size := by
  intro hn k hk
  obtain ⟨A, cap, hv, h1, h2, h3⟩ := h
  obtain ⟨b, off, hA, hlt, hc⟩ := h3 (List.length_pos_iff.2 hn)
  rw [hv, hA] at hk
  have e : some b = some k := hk
  injection e with e
  omega

theorem Body.grownElse {w w' : World} {base : Nat} {v : Value} {bs : List UInt8} {row : Option Nat} (h : Body w base v bs) (hg : w.grownBy w' row) (hr : Else w row) (hbase : ∀ g, row = some g → base ≤ g) : Body w' base v bs := by
  rcases h with h | ⟨h1, h2⟩
  · exact .inl (h.grownElse hg hr)
  · refine .inr ⟨h1, sees_other h2 hg.size fun hn k hk hv => hg.block k hk fun e => ?_⟩
    have := hbase k e.symm
    have := h1 hn k hv
    omega

theorem Body.below {w w' : World} {base : Nat} {v : Value} {bs : List UInt8} (h : Body w base v bs) (hb : Below w.heap.size w w') : Body w' base v bs := by
  rcases h with h | h
  · exact .inl (h.below hb)
  · exact .inr ⟨h.1, h.2.below hb⟩

/-- the value v owns a row of the frames l, in a block from base on -/
def OwnF (w : World) (base : Nat) (v : Value) (l : List (Fr × Value)) : Prop := w.ownsRow base 25 3 v l.length (flat l) ∧ ∀ p ∈ l, Body w base p.2 p.1.b

theorem ownF_nil (w : World) (base : Nat) : OwnF w base (.slice none 0 0) [] := ⟨World.ownsRow_nil w base 25 3, by simp⟩

section
variable {w w' : World} {base : Nat} {v : Value} {l : List (Fr × Value)}

theorem OwnF.elem (h : OwnF w base v l) : ∀ k, v.ownBlock = some k → base ≤ k ∧ ∃ cur, w.heap[k]? = some (.cells cur 25 (0, 0)) := by
  intro k hk
  rcases h.1.2 with ⟨rfl, _⟩ | ⟨g, cap, cur, rfl, hb, hh, _⟩
  · cases hk
  · injection hk with hk
    subst hk
    exact ⟨hb, cur, hh⟩

theorem OwnF.else_ (h : OwnF w base v l) : Else w v.ownBlock := fun g hg => by
  obtain ⟨_, cur, hh⟩ := h.elem g hg
  exact ⟨cur, 25, hh, by decide⟩

theorem OwnF.frs (h : OwnF w base v l) : Frs w v l := by
  have hall := h.1
  obtain ⟨⟨_, hc⟩, hb⟩ := h
  rcases hc with ⟨rfl, h0⟩ | ⟨g, cap, cur, rfl, _, hh, hn, hm, _⟩
  · have : l = [] := List.eq_nil_of_length_eq_zero h0
    subst this
    exact frs_nil w
  · refine ⟨_, cap, rfl, hn, hm, fun p hp => (hb p hp).sees, fun _ => ⟨g, 0, rfl, ?_, fun j p hj => ?_⟩⟩
    · rcases Nat.lt_or_ge g w.heap.size with hl | hl
      · exact hl
      · rw [Array.getElem?_eq_none hl] at hh; cases hh
    · have hjl := (List.getElem?_eq_some_iff.1 hj).1
      obtain ⟨e0, e1, e2⟩ := flat_at l j p hj
      rw [Nat.zero_add, hall.cellAt (j * 3) (by omega), hall.cellAt (j * 3 + 1) (by omega), hall.cellAt (j * 3 + 2) (by omega)]
      exact ⟨e0, e1, e2⟩

theorem OwnF.shape (h : OwnF w base v l) : (v = .slice none 0 0 ∧ l = []) ∨ ∃ g cap, v = .slice (some ⟨g, 0, none⟩) l.length cap ∧ base ≤ g ∧ g < w.heap.size := by
  obtain ⟨⟨_, hc⟩, _⟩ := h
  rcases hc with ⟨rfl, h0⟩ | ⟨g, cap, cur, rfl, hb, hh, _⟩
  · exact .inl ⟨rfl, List.eq_nil_of_length_eq_zero h0⟩
  · refine .inr ⟨g, cap, rfl, hb, ?_⟩
    rcases Nat.lt_or_ge g w.heap.size with hl | hl
    · exact hl
    · rw [Array.getElem?_eq_none hl] at hh; cases hh

theorem OwnF.block (h : OwnF w base v l) : ∀ k, v.ownBlock = some k → base ≤ k ∧ k < w.heap.size := World.ownsRow.lt h.1

theorem OwnF.below (h : OwnF w base v l) (hb : Below w.heap.size w w') : OwnF w' base v l :=
  ⟨World.ownsRow.kept (row := none) h.1 ⟨hb.os, hb.tape, hb.output, hb.size, fun k hk _ => hb.block k hk⟩ (by cases v.ownBlock <;> simp), fun p hp => (h.2 p hp).below hb⟩

theorem OwnF.alloc (h : OwnF w base v l) (o : Obj) : OwnF (w.alloc o) base v l := h.below ((Below.refl _ _).alloc (Nat.le_refl _) o)
end

theorem add_at (b off j : Nat) : (⟨b, off, none⟩ : Addr).add j = ⟨b, off + j, none⟩ := by unfold Addr.add; split <;> simp_all

theorem flat_cells {w : World} {b off : Nat} {l : List (Fr × Value)} (h : ∀ (j : Nat) (p : Fr × Value), l[j]? = some p →
      w.cell? ⟨b, off + j * 3, none⟩ = some (.int .u32 (p.1.o : Int)) ∧ w.cell? ⟨b, off + j * 3 + 1, none⟩ = some (.int .i64 p.1.c) ∧ w.cell? ⟨b, off + j * 3 + 2, none⟩ = some p.2) :
    ∀ j u, (flat l)[j]? = some u → w.cell? ((⟨b, off, none⟩ : Addr).add j) = some u := by
  intro j u hu
  have hj : j < l.length * 3 := by
    have := (List.getElem?_eq_some_iff.1 hu).1
    rwa [flat_length] at this
  obtain ⟨p, hp⟩ : ∃ p, l[j / 3]? = some p := ⟨_, List.getElem?_eq_getElem (by omega)⟩
  obtain ⟨e0, e1, e2⟩ := flat_at l _ p hp
  obtain ⟨c0, c1, c2⟩ := h _ p hp
  rw [add_at]
  rcases (by omega : j = j / 3 * 3 ∨ j = j / 3 * 3 + 1 ∨ j = j / 3 * 3 + 2) with hh | hh | hh
  · rw [hh, e0] at hu; rw [hh, c0, hu]
  · rw [hh, e1] at hu; rw [hh, ← Nat.add_assoc, c1, hu]
  · rw [hh, e2] at hu; rw [hh, ← Nat.add_assoc, c2, hu]

theorem sees_one_cell {w : World} {v : Value} {bs : List UInt8} (h : Sees w v bs) : v.oneCell' = true := by
  obtain ⟨A, cap, rfl, _⟩ := h.shape
  rfl

theorem oneCell_flat {w : World} {l : List (Fr × Value)} (h : ∀ p ∈ l, Sees w p.2 p.1.b) : ∀ u ∈ flat l, u.oneCell' = true := by
  intro u hu
  obtain ⟨p, hp, hc⟩ := List.mem_flatMap.1 hu
  simp only [cells3, List.mem_cons, List.not_mem_nil, or_false] at hc
  rcases hc with rfl | rfl | rfl
  · rfl
  · rfl
  · exact sees_one_cell (h p hp)

theorem appendF_run {w : World} {base : Nat} {v : Value} {l m : List (Fr × Value)} (hown : OwnF w base v l) {A : Option Addr} {k c : Nat} (hsee : Frs w (.slice A k c) m) (hbod : ∀ p ∈ m, Body w base p.2 p.1.b)
    (hb : l.length + m.length ≤ 1000000) (hbase : base ≤ w.heap.size) (ty : TypeId) :
    ∃ v' w', (Builtin.append_ #[31, 31] ty #[v, .slice A k c]).run Try.prog w = .ok v' w' ∧ OwnF w' base v' (l ++ m) ∧ w.grownBy w' v.ownBlock ∧ (v'.ownBlock = v.ownBlock ∨ v'.ownBlock = some w.heap.size) := by
  obtain ⟨i, hi, hz, hsz, hby⟩ := info_parts frame_info
  have hk : k = m.length := by
    obtain ⟨A', c', hv, _⟩ := hsee.shape
    injection hv
  subst hk
  obtain ⟨A', c', hv, _, _, hss, hcells⟩ := hsee
  injection hv with e1 e2 e3
  subst e1 e3
  by_cases h0 : m.length = 0
  · have : m = [] := List.eq_nil_of_length_eq_zero h0
    subst this
    cases A with
    | none => exact ⟨v, w, append_nil_run Try.underlying31 hi hown.1 c, by simpa using hown, World.grownBy.refl w _, .inl rfl⟩
    | some a =>
      obtain ⟨v', w', hrun, h2, h3, _, h5⟩ := run_append_own_at (P := Try.prog) w base 31 ty 25 i _ 3 40 Try.underlying31 hi hz hsz hby rfl (by decide) v l.length (flat l) hown.1 a 0 c [] rfl (by simp) (by simp) (by simp only [maxLen]; simp at hb; omega) (by simp at hb ⊢; omega) hbase
      refine ⟨v', w', hrun, ⟨by simpa using h2, fun p hp => ?_⟩, h3, h5⟩
      exact (hown.2 p (by simpa using hp)).grownElse h3 hown.else_ (fun g hg => (hown.block g hg).1)
  · obtain ⟨b, off, rfl, _, hc⟩ := hcells (by omega)
    obtain ⟨v', w', hrun, h2, h3, _, h5⟩ := run_append_own_at (P := Try.prog) w base 31 ty 25 i _ 3 40 Try.underlying31 hi hz hsz hby rfl (by decide) v l.length (flat l) hown.1 ⟨b, off, none⟩ m.length c (flat m) (flat_length m) (flat_cells hc) (oneCell_flat hss) (by simp only [maxLen]; omega) (by omega) hbase
    refine ⟨v', w', hrun, ⟨by rw [flat_append, List.length_append]; exact h2, fun p hp => ?_⟩, h3, h5⟩
    rcases List.mem_append.1 hp with hp | hp
    · exact (hown.2 p hp).grownElse h3 hown.else_ (fun g hg => (hown.block g hg).1)
    · exact (hbod p hp).grownElse h3 hown.else_ (fun g hg => (hown.block g hg).1)

/-- append of frames onto frames of the call's own, for the walk -/
theorem wpList_appF {w : World} {ops : Array Oper} {rest : List Oper} {o : Oper} {a : Act} {Q : Exit → Act → World → Prop} (hgd : o.guard = none) (s x : Operand)
    (ho : o.op = .call { callee := .builtin .append, args := #[s, x], argTypes := #[31, 31] })
    {base : Nat} {v : Value} {l m : List (Fr × Value)} (hs : a.eval s = v) (hown : OwnF w base v l) {A : Option Addr} {k c : Nat} (hx : a.eval x = .slice A k c) (hsee : Frs w (.slice A k c) m)
    (hbod : ∀ p ∈ m, Body w base p.2 p.1.b) (hb : l.length + m.length ≤ 1000000) (hbase : base ≤ w.heap.size)
    (h : ∀ v' w', OwnF w' base v' (l ++ m) → w.grownBy w' v.ownBlock → (v'.ownBlock = v.ownBlock ∨ v'.ownBlock = some w.heap.size) → wpList Try.prog ops Q rest (a.put o.dst v') w') : wpList Try.prog ops Q (o :: rest) a w := by
  refine wpList_plain hgd fun K hK => ?_
  obtain ⟨v', w', hrun, h2, h3, h4⟩ := appendF_run hown hsee hbod hb hbase o.type
  unfold Oper.wp execOp
  simp only [ho, resolve, invoke, builtin, Sem.run_bind, Sem.run_pure, Result.andThen_ok, List.map_toArray, List.map_cons, List.map_nil, hs, hx, hrun]
  exact hK _ _ (h v' w' h2 h3 h4)

/-- a literal row of one frame, just made -/
theorem frs_one {w : World} {p : Fr × Value} (h : Sees w p.2 p.1.b) : Frs (w.alloc (.cells #[.int .u32 (p.1.o : Int), .int .i64 p.1.c, p.2] 25)) (.slice (some ⟨w.heap.size, 0, none⟩) 1 1) [p] := by
  refine ⟨_, 1, rfl, Nat.le_refl _, by simp [maxLen], fun q hq => by rw [List.mem_singleton.1 hq]; exact h.alloc _, fun _ => ⟨w.heap.size, 0, rfl, by simp, fun j q hj => ?_⟩⟩
  match j, hj with
  | 0, hj =>
    simp only [List.getElem?_cons_zero, Option.some.injEq] at hj
    subst hj
    refine ⟨?_, ?_, ?_⟩
    · rw [World.cell?_alloc_at _ _ _ _ rfl]; rfl
    · rw [World.cell?_alloc_at _ _ _ _ rfl]; rfl
    · rw [World.cell?_alloc_at _ _ _ _ rfl]; rfl

end Go.Proofs.Ytfmknjfhalkfhaa
