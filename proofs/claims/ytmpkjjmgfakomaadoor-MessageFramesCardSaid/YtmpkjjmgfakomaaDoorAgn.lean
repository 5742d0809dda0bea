/-
  Rows of arguments of one's own that hold no byte: append of one argument keeps that.
-/
import Derived.Test.YtmpkjjmgfakomaaDoorAgo
namespace Go.Proofs.YtmpkjjmgfakomaaDoor
open Go.RowKit Mem Wire

def nbC (u : Value) : Prop := ∀ x : UInt8, u ≠ byte x
/-- no cell of the row's block is a byte -/
def NoB (w : World) (v : Value) : Prop := ∀ g, v.ownBlock = some g → ∃ cs e f, w.heap[g]? = some (.cells cs e f) ∧ ∀ u ∈ cs.toList, nbC u
theorem noB_nil (w : World) (n c : Nat) : NoB w (.slice none n c) := fun g h => by cases h
theorem NoB.cell {w : World} {v : Value} {g : Nat} (h : NoB w v) (hg : v.ownBlock = some g) : ∀ o x, w.cell? ⟨g, o, none⟩ ≠ some (byte x) := by
  intro o x e
  obtain ⟨cs, t, f, hh, hu⟩ := h g hg
  have e2 : cs[o]? = some (byte x) := by simpa [World.cell?, hh] using e
  exact hu _ (Array.mem_toList_iff.2 (Array.mem_of_getElem? e2)) x rfl
theorem NoB.block {w w' : World} {v : Value} (h : NoB w v) (hb : ∀ g, v.ownBlock = some g → w'.heap[g]? = w.heap[g]?) : NoB w' v := fun g hg => by
  obtain ⟨cs, t, f, hh, hu⟩ := h g hg
  exact ⟨cs, t, f, (hb g hg).trans hh, hu⟩
theorem NoB.below {w w' : World} {v : Value} (h : NoB w v) (hb : Below w.heap.size w w') : NoB w' v := fun g hg => by
  obtain ⟨cs, t, f, hh, hu⟩ := h g hg
  exact ⟨cs, t, f, (hb.block g (Array.getElem?_eq_some_iff.1 hh).1).trans hh, hu⟩

theorem agC_nb (p : AgV) (hp : nbC p.2) : ∀ u ∈ agC p, nbC u := by
  intro u hu
  simp only [agC, List.mem_cons, List.not_mem_nil, or_false] at hu
  rcases hu with rfl | rfl | rfl | rfl
  · exact int_nb _
  · exact int_nb _
  · exact str_nb _
  · exact hp

theorem zero_nb (n : Nat) : ∀ u ∈ (Builtin.zeroCells #[.int .i64 0, .int .i64 0, .string ⟨#[]⟩, .slice none 0 0] n).toList, nbC u := by
  intro u hu
  unfold Builtin.zeroCells at hu
  rw [Array.mem_toList_iff, Array.mem_map] at hu
  obtain ⟨i, _, rfl⟩ := hu
  have h4 : i % 4 < 4 := Nat.mod_lt _ (by omega)
  have e : i % 4 = 0 ∨ i % 4 = 1 ∨ i % 4 = 2 ∨ i % 4 = 3 := by omega
  rcases e with e | e | e | e
  all_goals
    simp only [List.size_toArray, List.length_cons, List.length_nil, Nat.zero_add, Nat.reduceAdd, e]
  · exact int_nb _
  · exact int_nb _
  · exact str_nb _
  · exact sli_nb _ _ _

set_option maxRecDepth 100000 in
theorem append_noB {w : World} {base : Nat} {v : Value} {l : List AgV} {p : AgV} (hown : OwnA w base v l) (hn : NoB w v) {a : Addr} {c : Nat} (hcs : ∀ j u, (agC p)[j]? = some u → w.cell? (a.add j) = some u) (hp : nbC p.2) (h1c : p.2.oneCell' = true) (hl : l.length + 1 ≤ 4000000) (ty : TypeId)
    {v' : Value} {w' : World} (hrun : (Builtin.append_ #[23, 23] ty #[v, .slice (some a) 1 c]).run Tryd.prog w = .ok v' w') : NoB w' v' := by
  obtain ⟨i, hi, hz, hsz, hby⟩ := infoI_parts arg_info
  have hnews := agC_nb p hp
  have hln : (agC p).length = 1 * i.size := by rw [hsz]; rfl
  have h1 : ∀ u ∈ agC p, u.oneCell' = true := by
    intro u hu
    simp only [agC, List.mem_cons, List.not_mem_nil, or_false] at hu
    rcases hu with rfl | rfl | rfl | rfl
    · rfl
    · rfl
    · rfl
    · exact h1c
  have hall := hown
  rcases hown.2 with ⟨rfl, h0⟩ | ⟨g, cap, cur, rfl, hbg, hg, hnc, hcm, hcs2, htake⟩
  · have hr := run_append_nil (P := Tryd.prog) w 23 ty 43 i _ Tryd.underlying23 hi hz a 1 c (agC p) hln hcs (by omega) (by omega) (by rw [hby]; omega)
    rw [hr] at hrun
    injection hrun with e1 e2
    subst e1 e2
    intro g hg
    simp only [Value.ownBlock, Option.some.injEq] at hg
    subst hg
    refine ⟨_, _, _, heap_alloc_new w.drew _, fun u hu => ?_⟩
    rw [Array.toList_append, List.mem_append] at hu
    rcases hu with hu | hu
    · exact hnews u (by simpa using hu)
    · exact zero_nb _ u hu
  · obtain ⟨cs0, t0, f0, hh0, hcur⟩ := hn g rfl
    rw [hg] at hh0
    injection hh0 with hh0
    injection hh0 with e0 _ _
    subst e0
    by_cases hroom : l.length + 1 ≤ cap
    · have hr := run_append_room (P := Tryd.prog) w 23 ty 43 i Tryd.underlying23 hi g l.length cap cur hg a 1 c (agC p) hln hcs h1 hroom (by rw [hln, hsz, hcs2]; omega)
      rw [hr] at hrun
      injection hrun with e1 e2
      subst e1 e2
      intro g' hg'
      simp only [Value.ownBlock, Option.some.injEq] at hg'
      subst hg'
      refine ⟨_, _, _, setRow_heap w g cur _ 43 _ hg, fun u hu => ?_⟩
      simp only [List.mem_append] at hu
      rcases hu with (hu | hu) | hu
      · exact hcur u (List.mem_of_mem_take hu)
      · exact hnews u hu
      · exact hcur u (List.mem_of_mem_drop hu)
    · have holds : ∀ j u, (aflat l)[j]? = some u → w.cell? ((⟨g, 0, none⟩ : Addr).add j) = some u := hall.cells (g := g) rfl
      have hr := run_append_grow (P := Tryd.prog) w 23 ty 43 i _ Tryd.underlying23 hi hz ⟨g, 0, none⟩ l.length cap (aflat l) (by rw [hsz]; exact hall.1) holds a 1 c (agC p) hln hcs (by omega) (by omega) (growslice_fits (by omega) (by rw [hby]; omega))
      rw [hr] at hrun
      injection hrun with e1 e2
      subst e1 e2
      intro g' hg'
      simp only [Value.ownBlock, Option.some.injEq] at hg'
      subst hg'
      refine ⟨_, _, _, heap_alloc_new w.drew _, fun u hu => ?_⟩
      rw [Array.toList_append, Array.toList_append, List.mem_append, List.mem_append] at hu
      rcases hu with (hu | hu) | hu
      · have hu2 : u ∈ aflat l := by simpa using hu
        rw [← htake] at hu2
        exact hcur u (List.mem_of_mem_take hu2)
      · exact hnews u (by simpa using hu)
      · exact zero_nb _ u hu

set_option maxRecDepth 100000 in
/-- append of one argument onto a row of one's own that holds no byte, for the walk -/
theorem wpList_appN {w : World} {ops : Array Oper} {rest : List Oper} {o : Oper} {a : Act} {Q : Exit → Act → World → Prop} (hgd : o.guard = none) (s x : Operand)
    (ho : o.op = .call { callee := .builtin .append, args := #[s, x], argTypes := #[23, 23] })
    {base : Nat} {v : Value} {l : List AgV} {p : AgV} (hs : a.eval s = v) (hown : OwnA w base v l) (hn : NoB w v) {b c : Nat} (hx : a.eval x = .slice (some ⟨b, 0, none⟩) 1 c) (hsee : Agk w (.slice (some ⟨b, 0, none⟩) 1 c) [p])
    (hp : nbC p.2) (h1c : p.2.oneCell' = true) (hb : l.length + 1 ≤ 4000000) (hbase : base ≤ w.heap.size)
    (h : ∀ v' w', OwnA w' base v' (l ++ [p]) → NoB w' v' → w.grownBy w' v.ownBlock → (v'.ownBlock = v.ownBlock ∨ v'.ownBlock = some w.heap.size) → wpList Tryd.prog ops Q rest (a.put o.dst v') w') : wpList Tryd.prog ops Q (o :: rest) a w := by
  refine wpList_plain hgd fun K hK => ?_
  obtain ⟨v', w', hrun, h2, h3, h4, _⟩ := appendA_run hown hsee (fun q hq => by rw [List.mem_singleton.1 hq]; exact h1c) (by simpa using hb) hbase o.type
  obtain ⟨_, _, hv, _, _, hcs⟩ := hsee
  obtain ⟨b', off', e, _, hc⟩ := hcs (by simp)
  injection hv with e1 _ _
  rw [← e1] at e
  simp only [Option.some.injEq, Addr.mk.injEq] at e
  obtain ⟨rfl, rfl, -⟩ := e
  have hcell : ∀ j u, (agC p)[j]? = some u → w.cell? ((⟨b, 0, none⟩ : Addr).add j) = some u := by
    intro j u hu
    have := aflat_cells hc j u (by simpa [aflat] using hu)
    exact this
  have hno := append_noB hown hn hcell hp h1c hb o.type hrun
  unfold Oper.wp execOp
  simp only [ho, resolve, invoke, builtin, Sem.run_bind, Sem.run_pure, Result.andThen_ok, List.map_toArray, List.map_cons, List.map_nil, hs, hx, hrun]
  exact hK _ _ (h v' w' h2 hno h3 h4)

/-! what a walk holds that gathers arguments: boxes, bytes that are seen, a row of its own that holds no byte -/

structure DS (w W : World) (bx : List (Nat × List Value)) (ss : List (Value × List UInt8)) (v : Value) (l : List AgV) : Prop where
  held : Held w W bx
  see : ∀ q ∈ ss, Sees W q.1 q.2
  own : OwnA W w.heap.size v l
  nob : NoB W v
  ne : ∀ q ∈ bx, ∀ g, v.ownBlock = some g → q.1 ≠ g

section
variable {w W W' : World} {bx : List (Nat × List Value)} {ss : List (Value × List UInt8)} {v : Value} {l : List AgV}

theorem DS.step (h : DS w W bx ss v l) (hb : Below W.heap.size W W') : DS w W' bx ss v l :=
  ⟨h.held.step hb, fun q hq => (h.see q hq).below hb, h.own.below hb, h.nob.below hb, h.ne⟩
theorem DS.drew (h : DS w W bx ss v l) : DS w W.drew bx ss v l := h.step (Below.refl _ _).drew
theorem DS.alloc (h : DS w W bx ss v l) (vs : List Value) (t : TypeId) : DS w (W.alloc (.cells vs.toArray t)) ((W.heap.size, vs) :: bx) ss v l := by
  have hs := h.step (W' := W.alloc (.cells vs.toArray t)) ((Below.refl _ _).alloc (Nat.le_refl _) _)
  refine ⟨h.held.alloc vs t, hs.see, hs.own, hs.nob, fun q hq g hg => ?_⟩
  rcases List.mem_cons.1 hq with rfl | hq
  · have := (h.own.block g hg).2
    dsimp only
    omega
  · exact h.ne q hq g hg
theorem DS.sub (h : DS w W bx ss v l) {by' : List (Nat × List Value)} (hs : by'.Sublist bx) : DS w W by' ss v l :=
  ⟨h.held.sub hs, h.see, h.own, h.nob, fun q hq => h.ne q (hs.subset hq)⟩
theorem DS.perm (h : DS w W bx ss v l) {by' : List (Nat × List Value)} (hp : by'.Perm bx) : DS w W by' ss v l :=
  ⟨⟨fun q hq => h.held.cells q (hp.mem_iff.1 hq), fun q hq => h.held.free q (hp.mem_iff.1 hq), fun q hq => h.held.there q (hp.mem_iff.1 hq), fun q hq => h.held.own q (hp.mem_iff.1 hq), (hp.map Prod.fst).nodup_iff.2 h.held.nd, h.held.below⟩,
    h.see, h.own, h.nob, fun q hq => h.ne q (hp.mem_iff.1 hq)⟩
theorem DS.seen (h : DS w W bx ss v l) {s2 : List (Value × List UInt8)} (hs : ∀ q ∈ s2, Sees W q.1 q.2) : DS w W bx s2 v l := ⟨h.held, hs, h.own, h.nob, h.ne⟩
theorem DS.cell {l1 l2 : List (Nat × List Value)} {k : Nat} {vs : List Value} (h : DS w W (l1 ++ (k, vs) :: l2) ss v l) {i : Nat} {y : Value} (hi : vs[i]? = some y) (hy : nbC y) (u : Value) :
    DS w (W.setCell ⟨k, i, none⟩ u) (l1 ++ (k, vs.set i u) :: l2) ss v l := by
  have hk : ∀ g, v.ownBlock = some g → k ≠ g := h.ne (k, vs) (by simp)
  refine ⟨h.held.cell (List.getElem?_eq_some_iff.1 hi).1 u, fun q hq => sees_set (h.see q hq) u (h.held.at.1 i y hi) hy, ?_, h.nob.block fun g hg => ?_, fun q hq g hg => ?_⟩
  · exact World.ownsRow.kept h.own (grown_set W k i u) (by
      cases hv : v.ownBlock with
      | none => exact .inl rfl
      | some g => exact .inr (fun e => hk g hv (Option.some.inj e).symm))
  · exact Below.heap_setCell W ⟨k, i, none⟩ u g (fun e => hk g hg e.symm)
  · rcases List.mem_append.1 hq with hq | hq
    · exact h.ne q (by simp [hq]) g hg
    · rcases List.mem_cons.1 hq with rfl | hq
      · exact hk g hg
      · exact h.ne q (by simp [hq]) g hg
theorem sees_grownV {u : Value} {bs : List UInt8} (h : Sees W u bs) (hg : W.grownBy W' v.ownBlock) (hn : NoB W v) : Sees W' u bs := by
  cases hv : v.ownBlock with
  | none =>
    rw [hv] at hg
    exact h.below ⟨hg.os, hg.tape, hg.output, hg.size, fun k hk => hg.block k hk (by simp)⟩
  | some g =>
    rw [hv] at hg
    exact h.grown hg (hn.cell hv)
theorem held_grownV (h : Held w W bx) (hg : W.grownBy W' v.ownBlock) (ho : OwnA W w.heap.size v l) (hne : ∀ q ∈ bx, ∀ g, v.ownBlock = some g → q.1 ≠ g) : Held w W' bx := by
  cases hv : v.ownBlock with
  | none =>
    rw [hv] at hg
    exact h.step ⟨hg.os, hg.tape, hg.output, hg.size, fun k hk => hg.block k hk (by simp)⟩
  | some g =>
    rw [hv] at hg
    exact h.grown hg (ho.block g hv).1 (fun q hq => hne q hq g hv)
/-- an argument was appended -/
theorem DS.app (h : DS w W bx ss v l) {v' : Value} {p : AgV} (ho : OwnA W' w.heap.size v' (l ++ [p])) (hn : NoB W' v') (hg : W.grownBy W' v.ownBlock) (hw : v'.ownBlock = v.ownBlock ∨ v'.ownBlock = some W.heap.size) : DS w W' bx ss v' (l ++ [p]) := by
  refine ⟨held_grownV h.held hg h.own h.ne, fun q hq => sees_grownV (h.see q hq) hg h.nob, ho, hn, fun q hq g hg2 => ?_⟩
  rcases hw with e | e
  · rw [e] at hg2
    exact h.ne q hq g hg2
  · rw [e] at hg2
    have := h.held.there q hq
    simp only [Option.some.injEq] at hg2
    omega
end

end Go.Proofs.YtmpkjjmgfakomaaDoor
