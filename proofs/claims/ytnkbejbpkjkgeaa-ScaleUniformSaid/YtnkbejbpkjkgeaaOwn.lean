/-
  Bytes that a call owns: a row of its own, append onto it, a made row. Types: 39 a slice of bytes, 5 a byte.
-/
import Derived.Test.YtnkbejbpkjkgeaaPxm
import Derived.Test.YtnkbejbpkjkgeaaMem
import Derived.WalkSpells
namespace Go.Proofs.Ytnkbejbpkjkgeaa
open Go.RowKit Mem

theorem byte_info : (Try.prog.info? 5).map (fun i => (i.zero, i.size, i.bytes)) = some (some (.int .u8 0), 1, 1) := by kernel_rfl

/-- the value v owns a row of the bytes bs, in a block from base on -/
def Owns (w : World) (base : Nat) (v : Value) (bs : List UInt8) : Prop := w.ownsRow base 5 1 v bs.length (bs.map byte)

section
variable {w w' : World} {base : Nat} {v : Value} {bs : List UInt8}

theorem Owns.sees (h : Owns w base v bs) : Sees w v bs := by
  have hall := h
  obtain ⟨_, hc⟩ := h
  rcases hc with ⟨rfl, h0⟩ | ⟨g, cap, cur, rfl, _, hh, hn, hm, _⟩
  · have : bs = [] := List.eq_nil_of_length_eq_zero h0
    subst this
    exact sees_nil w
  · refine ⟨_, cap, rfl, hn, hm, fun _ => ⟨g, 0, rfl, ?_, fun j hj => ?_⟩⟩
    · rcases Nat.lt_or_ge g w.heap.size with hl | hl
      · exact hl
      · rw [Array.getElem?_eq_none hl] at hh; cases hh
    · rw [Nat.zero_add, hall.cellAt j (by omega)]
      simp only [List.getElem?_map, List.getD]
      rw [List.getElem?_eq_getElem hj]
      rfl

theorem Owns.shape (h : Owns w base v bs) : (v = .slice none 0 0 ∧ bs = []) ∨ ∃ g cap, v = .slice (some ⟨g, 0, none⟩) bs.length cap ∧ base ≤ g ∧ g < w.heap.size := by
  obtain ⟨_, hc⟩ := h
  rcases hc with ⟨rfl, h0⟩ | ⟨g, cap, cur, rfl, hb, hh, _⟩
  · exact .inl ⟨rfl, List.eq_nil_of_length_eq_zero h0⟩
  · refine .inr ⟨g, cap, rfl, hb, ?_⟩
    rcases Nat.lt_or_ge g w.heap.size with hl | hl
    · exact hl
    · rw [Array.getElem?_eq_none hl] at hh; cases hh

theorem Owns.block (h : Owns w base v bs) : ∀ k, v.ownBlock = some k → base ≤ k ∧ k < w.heap.size := World.ownsRow.lt h

theorem Owns.kept {row : Option Nat} (h : Owns w base v bs) (hg : w.grownBy w' row) (hne : v.ownBlock = none ∨ v.ownBlock ≠ row) : Owns w' base v bs := World.ownsRow.kept h hg hne

theorem Owns.alloc (h : Owns w base v bs) (o : Obj) : Owns (w.alloc o) base v bs := World.ownsRow.alloc h o

/-- kept where nothing of the blocks that are there turns -/
theorem Owns.below (h : Owns w base v bs) (hb : Below w.heap.size w w') : Owns w' base v bs :=
  World.ownsRow.kept (row := none) h ⟨hb.os, hb.tape, hb.output, hb.size, fun k hk _ => hb.block k hk⟩ (by cases v.ownBlock <;> simp)

end

theorem oneCell_bytes (bs : List UInt8) : ∀ u ∈ bs.map byte, u.oneCell' = true := by
  intro u hu
  obtain ⟨x, _, rfl⟩ := List.mem_map.1 hu
  rfl

theorem append_run {w : World} {base : Nat} {v : Value} {xs bs : List UInt8} (hown : Owns w base v xs) {A : Option Addr} {m c : Nat} (hsee : Sees w (.slice A m c) bs)
    (hb : xs.length + bs.length ≤ 140737488355328) (hbase : base ≤ w.heap.size) (ty : TypeId) :
    ∃ v' w', (Builtin.append_ #[62, 62] ty #[v, .slice A m c]).run Try.prog w = .ok v' w' ∧ Owns w' base v' (xs ++ bs) ∧ w.grownBy w' v.ownBlock ∧ (v'.ownBlock = v.ownBlock ∨ v'.ownBlock = some w.heap.size) := by
  obtain ⟨i, hi, hz, hsz, hby⟩ := info_parts byte_info
  have hm : m = bs.length := by
    obtain ⟨A', c', hv, _⟩ := hsee.shape
    injection hv
  subst hm
  cases A with
  | none =>
    have h0 : bs = [] := by
      rcases hsee.ways with ⟨_, _, _, h, _⟩ | ⟨b, off, n, c', hv, _⟩
      · exact h
      · injection hv with e; cases e
    subst h0
    exact ⟨v, w, append_nil_run Try.underlying62 hi hown c, by simpa [Owns] using hown, World.grownBy.refl w _, .inl rfl⟩
  | some a =>
    have hcells : ∀ j u, (bs.map byte)[j]? = some u → w.cell? (a.add j) = some u := by
      intro j u hu
      rcases hsee.ways with ⟨_, _, _, h, _⟩ | ⟨b, off, n, c', hv, hl, _, _, _, _, hcell⟩
      · subst h; simp at hu
      · injection hv with e1 e2 e3
        injection e1 with e1
        subst e1
        have hj : j < bs.length := by
          have := (List.getElem?_eq_some_iff.1 hu).1
          simpa using this
        have hadd : (⟨b, off, none⟩ : Addr).add j = ⟨b, off + j, none⟩ := by unfold Addr.add; split <;> simp_all
        rw [hadd, hcell j (by omega), ← hu]
        simp only [List.getElem?_map, List.getD]
        rw [List.getElem?_eq_getElem hj]
        rfl
    obtain ⟨v', w', hrun, h2, h3, _, h5⟩ := run_append_own_at (P := Try.prog) w base 62 ty 5 i (.int .u8 0) 1 1 Try.underlying62 hi hz hsz hby rfl (by decide) v xs.length (xs.map byte) hown a bs.length c (bs.map byte) (by simp) hcells (oneCell_bytes bs) (by simp only [maxLen]; omega) (by omega) hbase
    exact ⟨v', w', hrun, by simpa [Owns] using h2, h3, h5⟩

/-- append onto bytes of the call's own, for the walk -/
theorem wpList_app {w : World} {ops : Array Oper} {rest : List Oper} {o : Oper} {a : Act} {Q : Exit → Act → World → Prop} (hgd : o.guard = none) (s x : Operand)
    (ho : o.op = .call { callee := .builtin .append, args := #[s, x], argTypes := #[62, 62] })
    {base : Nat} {v : Value} {xs bs : List UInt8} (hs : a.eval s = v) (hown : Owns w base v xs) {A : Option Addr} {m c : Nat} (hx : a.eval x = .slice A m c) (hsee : Sees w (.slice A m c) bs)
    (hb : xs.length + bs.length ≤ 140737488355328) (hbase : base ≤ w.heap.size)
    (h : ∀ v' w', Owns w' base v' (xs ++ bs) → w.grownBy w' v.ownBlock → (v'.ownBlock = v.ownBlock ∨ v'.ownBlock = some w.heap.size) → wpList Try.prog ops Q rest (a.put o.dst v') w') : wpList Try.prog ops Q (o :: rest) a w := by
  refine wpList_plain hgd fun K hK => ?_
  obtain ⟨v', w', hrun, h2, h3, h4⟩ := append_run hown hsee hb hbase o.type
  unfold Oper.wp execOp
  simp only [ho, resolve, invoke, builtin, Sem.run_bind, Sem.run_pure, Result.andThen_ok, List.map_toArray, List.map_cons, List.map_nil, hs, hx, hrun]
  exact hK _ _ (h v' w' h2 h3 h4)

end Go.Proofs.Ytnkbejbpkjkgeaa
