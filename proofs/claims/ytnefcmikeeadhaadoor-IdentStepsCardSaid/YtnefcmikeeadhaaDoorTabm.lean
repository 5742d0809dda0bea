/-
  The program's table in memory.
-/
import Derived.Test.YtnefcmikeeadhaaDoorRem
import Derived.Test.YtnefcmikeeadhaaDoorSml
import Derived.Test.YtnefcmikeeadhaaDoorMpu
import Derived.Test.YtnefcmikeeadhaaDoorAllu
import Derived.Test.YtnefcmikeeadhaaDoorTaku
namespace Go.Proofs.YtnefcmikeeadhaaDoor
open Go.RowKit

/-- what a method of a table may turn -/
structure Turn (base : Nat) (w w' : World) : Prop where
  os : w'.os = w.os
  tape : w'.tape = w.tape
  output : w'.output = w.output
  size : w.heap.size ≤ w'.heap.size
  low : ∀ j, j < base → w'.heap[j]? = w.heap[j]?
  oth : ∀ j e, TyAt w j e → e ≠ 55 → e ≠ 64 → w'.heap[j]? = w.heap[j]?

theorem Turn.refl (base : Nat) (w : World) : Turn base w w := ⟨rfl, rfl, rfl, Nat.le_refl _, fun _ _ => rfl, fun _ _ _ _ _ => rfl⟩
theorem TyAt.same {w w' : World} {j : Nat} {e : TypeId} (h : TyAt w j e) (hb : w'.heap[j]? = w.heap[j]?) : TyAt w' j e := by
  obtain ⟨c, f, h⟩ := h
  exact ⟨c, f, hb.trans h⟩
theorem Turn.trans {base : Nat} {a b c : World} (h : Turn base a b) (g : Turn base b c) : Turn base a c :=
  ⟨g.os.trans h.os, g.tape.trans h.tape, g.output.trans h.output, Nat.le_trans h.size g.size, fun j hj => (g.low j hj).trans (h.low j hj),
    fun j e h1 h2 h3 => (g.oth j e (h1.same (h.oth j e h1 h2 h3)) h2 h3).trans (h.oth j e h1 h2 h3)⟩
theorem Turn.of_below {base : Nat} {w w' : World} (h : Below w.heap.size w w') (hb : base ≤ w.heap.size) : Turn base w w' :=
  ⟨h.os, h.tape, h.output, h.size, fun j hj => h.block j (by omega), fun j _ h1 _ _ => h.block j h1.lt⟩
theorem Turn.of_set {base k : Nat} {w w' : World} (h : STurn base k w w') (hk : TyAt w k 55) : Turn base w w' :=
  ⟨h.os, h.tape, h.output, h.size, h.low, fun j e h1 h2 h3 => h.oth j h1.lt (fun q => by subst q; exact h2 (h1.one hk)) (fun q => h3 (h1.one q))⟩
theorem Turn.of_map {base b : Nat} {w w' : World} {l : List Nat} (h : w.grownBy w' (some b)) (hm : MapU w b l) (hb : base ≤ b) (hs : base ≤ w.heap.size) : Turn base w w' :=
  ⟨h.os, h.tape, h.output, h.size, fun j hj => h.block j (by omega) (fun q => by injection q; omega), fun j e h1 _ _ => h.block j h1.lt (fun q => by
    injection q with q
    subst q
    obtain ⟨es, cl, ho⟩ := hm.obj
    obtain ⟨c, f, hc⟩ := h1
    rw [ho] at hc
    cases hc)⟩

theorem Turn.tab {base : Nat} {w w' : World} (h : Turn base w w') (hT : Tab w) (hb : 0 < base) : Tab w' := hT.block h.size (h.low 0 hb)
theorem Turn.us {base : Nat} {w w' : World} (h : Turn base w w') {v : Value} {l : List Nat} (hU : Us w v l) : Us w' v l := by
  obtain ⟨A, cap, hv, h1, h2, h4⟩ := hU
  refine ⟨A, cap, hv, h1, h2, fun hn => ?_⟩
  obtain ⟨b, off, hA, ht, hc⟩ := h4 hn
  have hb := h.oth b 23 ht (by decide) (by decide)
  exact ⟨b, off, hA, ht.same hb, fun j x hx => (World.cell?_of_block (a := ⟨b, off + j, none⟩) hb).trans (hc j x hx)⟩
theorem Turn.tabs {base : Nat} {w w' : World} (h : Turn base w w') {v : Value} {t : Tb} (hU : Tabs w v t) : Tabs w' v t := by
  obtain ⟨A1, c1, A2, c2, rfl, h1, h2⟩ := hU
  exact ⟨A1, c1, A2, c2, rfl, h.us h1, h.us h2⟩

/-- the table at block k, with its maps and its set -/
structure TabM (base : Nat) (w : World) (k bl br : Nat) (V : Nat → Value) (L : Nat → List Nat) (f l g : Nat) (lv rl : List Nat) : Prop where
  set : SetP w base k V L
  c0 : w.cell? ⟨k, 0, none⟩ = some (.int .u32 (f : Int))
  c1 : w.cell? ⟨k, 1, none⟩ = some (.int .u32 (l : Int))
  c2 : w.cell? ⟨k, 2, none⟩ = some (.int .u32 (g : Int))
  c3 : w.cell? ⟨k, 3, none⟩ = some (.map (some bl))
  c4 : w.cell? ⟨k, 4, none⟩ = some (.map (some br))
  c11 : w.cell? ⟨k, 11, none⟩ = some (.pointer (some ⟨k, 0, none⟩))
  ml : MapU w bl lv
  mr : MapU w br rl
  ne : bl ≠ br
  bl0 : base ≤ bl
  br0 : base ≤ br
  bs : base ≤ w.heap.size
  b0 : 0 < base
  tab : Tab w

theorem not_map {w : World} {b : Nat} {l : List Nat} {e : TypeId} (h : MapU w b l) (ht : TyAt w b e) : False := by
  obtain ⟨es, cl, ho⟩ := h.obj
  obtain ⟨c, f, hc⟩ := ht
  rw [ho] at hc
  cases hc

section
variable {base : Nat} {w w' : World} {k bl br : Nat} {V : Nat → Value} {L : Nat → List Nat} {f l g : Nat} {lv rl : List Nat}

theorem TabM.below (h : TabM base w k bl br V L f l g lv rl) (hb : Below w.heap.size w w') : TabM base w' k bl br V L f l g lv rl := by
  have hk := h.set.ty.lt
  have hc := fun i => hb.cell (p := ⟨k, i, none⟩) hk
  exact ⟨h.set.below hb, (hc 0).trans h.c0, (hc 1).trans h.c1, (hc 2).trans h.c2, (hc 3).trans h.c3, (hc 4).trans h.c4, (hc 11).trans h.c11, h.ml.below hb, h.mr.below hb, h.ne, h.bl0, h.br0, Nat.le_trans h.bs hb.size, h.b0, h.tab.below hb⟩

theorem TabM.kl (h : TabM base w k bl br V L f l g lv rl) : k ≠ bl := fun e => not_map h.ml (e ▸ h.set.ty)
theorem TabM.kr (h : TabM base w k bl br V L f l g lv rl) : k ≠ br := fun e => not_map h.mr (e ▸ h.set.ty)

theorem TabM.live (h : TabM base w k bl br V L f l g lv rl) {lv' : List Nat} (hg : w.grownBy w' (some bl)) (hm : MapU w' bl lv') : TabM base w' k bl br V L f l g lv' rl ∧ Turn base w w' := by
  have hk := h.set.ty.lt
  have hb := hg.block k hk (fun q => h.kl (Option.some.inj q))
  have hc := fun i => World.cell?_of_block (a := ⟨k, i, none⟩) hb
  have hT := Turn.of_map hg h.ml h.bl0 h.bs
  exact ⟨⟨h.set.grown hg h.kl (fun q => not_map h.ml q), (hc 0).trans h.c0, (hc 1).trans h.c1, (hc 2).trans h.c2, (hc 3).trans h.c3, (hc 4).trans h.c4, (hc 11).trans h.c11, hm, h.mr.grown hg (fun q => h.ne (Option.some.inj q).symm), h.ne, h.bl0, h.br0, Nat.le_trans h.bs hg.size, h.b0, hT.tab h.tab h.b0⟩, hT⟩

theorem TabM.rels (h : TabM base w k bl br V L f l g lv rl) {rl' : List Nat} (hg : w.grownBy w' (some br)) (hm : MapU w' br rl') : TabM base w' k bl br V L f l g lv rl' ∧ Turn base w w' := by
  have hk := h.set.ty.lt
  have hb := hg.block k hk (fun q => h.kr (Option.some.inj q))
  have hc := fun i => World.cell?_of_block (a := ⟨k, i, none⟩) hb
  have hT := Turn.of_map hg h.mr h.br0 h.bs
  exact ⟨⟨h.set.grown hg h.kr (fun q => not_map h.mr q), (hc 0).trans h.c0, (hc 1).trans h.c1, (hc 2).trans h.c2, (hc 3).trans h.c3, (hc 4).trans h.c4, (hc 11).trans h.c11, h.ml.grown hg (fun q => h.ne (Option.some.inj q)), hm, h.ne, h.bl0, h.br0, Nat.le_trans h.bs hg.size, h.b0, hT.tab h.tab h.b0⟩, hT⟩

theorem TabM.larg (h : TabM base w k bl br V L f l g lv rl) (g' : Nat) : TabM base (w.setCell ⟨k, 2, none⟩ (.int .u32 (g' : Int))) k bl br V L f l g' lv rl ∧ Turn base w (w.setCell ⟨k, 2, none⟩ (.int .u32 (g' : Int))) := by
  have hc : ∀ i, i ≠ 2 → (w.setCell ⟨k, 2, none⟩ (.int .u32 (g' : Int))).cell? ⟨k, i, none⟩ = w.cell? ⟨k, i, none⟩ := fun i hi => World.cell?_setCell_other _ _ _ _ (fun q => hi (by have := congrArg Addr.off q; simpa using this.symm))
  have hT : Turn base w (w.setCell ⟨k, 2, none⟩ (.int .u32 (g' : Int))) := ⟨rfl, rfl, rfl, by rw [World.size_setCell]; exact Nat.le_refl _, fun j hj => heap_set (a := ⟨k, 2, none⟩) (by have := h.set.own; dsimp only; omega) _,
    fun j e h1 h2 _ => heap_set (a := ⟨k, 2, none⟩) (fun q => by subst q; exact h2 (h1.one h.set.ty)) _⟩
  exact ⟨⟨h.set.mine (.inl (by omega)) _, (hc 0 (by decide)).trans h.c0, (hc 1 (by decide)).trans h.c1, World.cell?_setCell_same _ _ _ h.c2, (hc 3 (by decide)).trans h.c3, (hc 4 (by decide)).trans h.c4, (hc 11 (by decide)).trans h.c11,
    h.ml.block (heap_set (a := ⟨k, 2, none⟩) (Ne.symm h.kl) _), h.mr.block (heap_set (a := ⟨k, 2, none⟩) (Ne.symm h.kr) _), h.ne, h.bl0, h.br0, by rw [World.size_setCell]; exact h.bs, h.b0, hT.tab h.tab h.b0⟩, hT⟩

theorem TabM.setm (h : TabM base w k bl br V L f l g lv rl) {V' : Nat → Value} {L' : Nat → List Nat} (hs : SetP w' base k V' L') (ht : STurn base k w w') : TabM base w' k bl br V' L' f l g lv rl ∧ Turn base w w' := by
  have hT := Turn.of_set ht h.set.ty
  have hc := ht.mine
  exact ⟨⟨hs, (hc 0 (by omega)).trans h.c0, (hc 1 (by omega)).trans h.c1, (hc 2 (by omega)).trans h.c2, (hc 3 (by omega)).trans h.c3, (hc 4 (by omega)).trans h.c4, (hc 11 (by omega)).trans h.c11,
    h.ml.block (ht.oth bl h.ml.lt (Ne.symm h.kl) (fun q => not_map h.ml q)), h.mr.block (ht.oth br h.mr.lt (Ne.symm h.kr) (fun q => not_map h.mr q)), h.ne, h.bl0, h.br0, Nat.le_trans h.bs ht.size, h.b0, hT.tab h.tab h.b0⟩, hT⟩

end

end Go.Proofs.YtnefcmikeeadhaaDoor
