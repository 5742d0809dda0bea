/-
  The program's table beside two rows of a law's own.
-/
import Derived.Test.YtnefcmikeeadhaaDoorLpu
namespace Go.Proofs.YtnefcmikeeadhaaDoor
open Go.RowKit

theorem OwnU.lies {w : World} {base : Nat} {v : Value} {l : List Nat} (h : OwnU w base v l) {g : Nat} (hg : v.ownBlock = some g) : TyAt w g 23 ∧ base ≤ g := by
  obtain ⟨_, hc⟩ := h
  rcases hc with ⟨rfl, _⟩ | ⟨g', cap, cur, rfl, hb, hh, _⟩
  · cases hg
  · injection hg with hg
    subst hg
    exact ⟨⟨_, _, hh⟩, hb⟩

theorem OwnU.same {w w' : World} {base : Nat} {v : Value} {l : List Nat} (h : OwnU w base v l) (hb : ∀ g, v.ownBlock = some g → w'.heap[g]? = w.heap[g]?) : OwnU w' base v l := by
  obtain ⟨h0, hc⟩ := h
  refine ⟨h0, ?_⟩
  rcases hc with ⟨rfl, h1⟩ | ⟨g', cap, cur, rfl, h2, hh, h3⟩
  · exact .inl ⟨rfl, h1⟩
  · exact .inr ⟨g', cap, cur, rfl, h2, (hb g' rfl).trans hh, h3⟩

theorem SetP.other {w w' : World} {base k : Nat} {V : Nat → Value} {L : Nat → List Nat} (h : SetP w base k V L) {row : Option Nat} (hg : w.grownBy w' row) (hr : ∀ g, row = some g → TyAt w g 23) : SetP w' base k V L := by
  have hkb : some k ≠ row := fun e => by
    have := (hr k e.symm).one h.ty
    cases this
  refine ⟨fun i hi => (World.cell?_of_block (a := ⟨k, 5 + i, none⟩) (hg.block k h.ty.lt hkb)).trans (h.cell i hi), fun i => (World.frozen?_of_block (a := ⟨k, i, none⟩) (hg.block k h.ty.lt hkb)).trans (h.free i), h.ty.grown hg hkb, h.own,
    fun i hi => (h.row i hi).same fun g hg' => ?_, h.apart⟩
  have ht := ((h.row i hi).block hg').1
  refine hg.block g ht.lt (fun e => ?_)
  have := (hr g e.symm).one ht
  cases this

theorem TabM.other {base : Nat} {w w' : World} {k bl br : Nat} {V : Nat → Value} {L : Nat → List Nat} {f l g : Nat} {lv rl : List Nat} (h : TabM base w k bl br V L f l g lv rl) {row : Option Nat} (hg : w.grownBy w' row) (hr : ∀ g, row = some g → TyAt w g 23 ∧ base ≤ g) :
    TabM base w' k bl br V L f l g lv rl := by
  have hk := h.set.ty.lt
  have hkb : some k ≠ row := fun e => by
    have := (hr k e.symm).1.one h.set.ty
    cases this
  have hb := hg.block k hk hkb
  have hc := fun i => World.cell?_of_block (a := ⟨k, i, none⟩) hb
  have hl : some bl ≠ row := fun e => not_map h.ml (hr bl e.symm).1
  have hrr : some br ≠ row := fun e => not_map h.mr (hr br e.symm).1
  have h0 : some 0 ≠ row := fun e => by
    have := (hr 0 e.symm).2
    have := h.b0
    omega
  exact ⟨h.set.other hg (fun g e => (hr g e).1), (hc 0).trans h.c0, (hc 1).trans h.c1, (hc 2).trans h.c2, (hc 3).trans h.c3, (hc 4).trans h.c4, (hc 11).trans h.c11, h.ml.grown hg hl, h.mr.grown hg hrr, h.ne, h.bl0, h.br0, Nat.le_trans h.bs hg.size, h.b0, h.tab.block hg.size (hg.block 0 h.tab.1 h0)⟩

theorem TabP.other {base : Nat} {w w' : World} {v : Value} {t : Tb} {c : Nat} (h : TabP base w v t c) {row : Option Nat} (hg : w.grownBy w' row) (hr : ∀ g, row = some g → TyAt w g 23 ∧ base ≤ g) : TabP base w' v t c := by
  obtain ⟨k, bl, br, V, L, g, rfl, h1, h2, h3, h4⟩ := h
  exact ⟨k, bl, br, V, L, g, rfl, h1.other hg hr, h2, h3, h4⟩

theorem TabP.ptr {base : Nat} {w : World} {v : Value} {t : Tb} {c : Nat} (h : TabP base w v t c) : ∃ k, v = .pointer (some ⟨k, 0, none⟩) := by
  obtain ⟨k, bl, br, V, L, g, rfl, _⟩ := h
  exact ⟨k, rfl⟩

/-- the table t behind c calls, and two rows -/
structure Rws (w : World) (v : Value) (t : Tb) (c : Nat) (v1 : Value) (l1 : List Nat) (v2 : Value) (l2 : List Nat) (W : World) : Prop where
  tab : TabP w.heap.size W v t c
  own1 : OwnU W w.heap.size v1 l1
  own2 : OwnU W w.heap.size v2 l2
  sep : ∀ g, v1.ownBlock = some g → v2.ownBlock ≠ some g
  below : Below w.heap.size w W

section
variable {w W W' : World} {v v1 v2 : Value} {t : Tb} {c : Nat} {l1 l2 : List Nat}

theorem Rws.swap (h : Rws w v t c v1 l1 v2 l2 W) : Rws w v t c v2 l2 v1 l1 W := ⟨h.tab, h.own2, h.own1, fun g h2 h1 => h.sep g h1 h2, h.below⟩

theorem Rws.turn (h : Rws w v t c v1 l1 v2 l2 W) {t' : Tb} {c' : Nat} (hP : TabP w.heap.size W' v t' c') (hT : Turn w.heap.size W W') : Rws w v t' c' v1 l1 v2 l2 W' :=
  ⟨hP, h.own1.same fun g hg => hT.oth g 23 (h.own1.lies hg).1 (by decide) (by decide), h.own2.same fun g hg => hT.oth g 23 (h.own2.lies hg).1 (by decide) (by decide), h.sep, hT.below h.below⟩

theorem Rws.step (h : Rws w v t c v1 l1 v2 l2 W) (hb : Below W.heap.size W W') : Rws w v t c v1 l1 v2 l2 W' :=
  ⟨h.tab.below hb, h.own1.below hb, h.own2.below hb, h.sep, Below.next h.below hb⟩

theorem Rws.app1 (h : Rws w v t c v1 l1 v2 l2 W) (o : Obj) {v' : Value} {l' : List Nat} (ho : OwnU W' w.heap.size v' l') (hg : (W.alloc o).grownBy W' v1.ownBlock) (hl : v'.ownBlock = v1.ownBlock ∨ v'.ownBlock = some (W.alloc o).heap.size) :
    Rws w v t c v' l' v2 l2 W' := by
  have hb : Below W.heap.size W (W.alloc o) := (Below.refl _ _).alloc (Nat.le_refl _) _
  have h1 := h.step hb
  have hr : ∀ g, v1.ownBlock = some g → TyAt (W.alloc o) g 23 ∧ w.heap.size ≤ g := fun g e => h1.own1.lies e
  refine ⟨h1.tab.other hg hr, ho, h1.own2.same fun g e => hg.block g (h1.own2.lies e).1.lt (fun q => h.sep g q.symm e), fun g e e2 => ?_, ?_⟩
  · rcases hl with q | q
    · exact h.sep g (q.symm.trans e) e2
    · have := (h1.own2.lies e2).1.lt
      have e3 := q.symm.trans e
      injection e3 with e3
      omega
  · exact h1.below.grown hg h1.below.size (fun k hk => (hr k hk).2)

theorem Rws.app2 (h : Rws w v t c v1 l1 v2 l2 W) (o : Obj) {v' : Value} {l' : List Nat} (ho : OwnU W' w.heap.size v' l') (hg : (W.alloc o).grownBy W' v2.ownBlock) (hl : v'.ownBlock = v2.ownBlock ∨ v'.ownBlock = some (W.alloc o).heap.size) :
    Rws w v t c v1 l1 v' l' W' := (h.swap.app1 o ho hg hl).swap

theorem Rws.new1 (h : Rws w v t c v1 l1 v2 l2 W) {u : Value} {l' : List Nat} (ho : OwnU W' W.heap.size u l') (hb : Below W.heap.size W W') : Rws w v t c u l' v2 l2 W' := by
  have h1 := h.step hb
  refine ⟨h1.tab, ho.mono h.below.size, h1.own2, fun g e e2 => ?_, h1.below⟩
  have q1 := (ho.lies e).2
  have q2 := (h.own2.lies e2).1.lt
  omega

theorem Rws.new2 (h : Rws w v t c v1 l1 v2 l2 W) {u : Value} {l' : List Nat} (ho : OwnU W' W.heap.size u l') (hb : Below W.heap.size W W') : Rws w v t c v1 l1 u l' W' := (h.swap.new1 ho hb).swap

end

theorem tak_rel {t : Tb} {c m : Nat} (hG : GoodT t c) (hc : c ≤ 1400) (hm : m ∈ t.rl) : takT t m = (t, 7) ∧ m ∉ t.lv ∧ m < 4294967296 := by
  have h1 := hG.rlr m hm
  have h2 := hG.few
  have h3 := fst_lst t.sv
  unfold takT
  rw [if_neg (side_ok h1.1 (by omega)), if_pos (.inr hm)]
  exact ⟨rfl, fun q => hG.dis m q hm, by omega⟩

/-- what a call that came through has done, part by part -/
theorem do_parts {t : Tb} {c n : Nat} {kd : Int} (hG : GoodT t c) (h0 : (doT t kd n).2.2 = 0) :
    ((kd = 0 ∨ kd = 1) ∧ (doT t kd n).1 = usedT t (doT t kd n).2.1 ∧ (doT t kd n).2.1 ∉ t.lv ∧ (doT t kd n).2.1 ∉ t.rl ∧ t.lv.length < 256 ∧ fstN t.sv ≤ (doT t kd n).2.1 ∧ ((doT t kd n).2.1 : Int) ≤ t.lg + 1) ∨
      (kd = 2 ∧ n ∈ t.lv ∧ (doT t kd n).1 = ⟨t.sv, t.lg, wouN t.lv n, t.rl ++ [n]⟩ ∧ (doT t kd n).2.1 = n) ∨ (¬ kd = 0 ∧ ¬ kd = 1 ∧ ¬ kd = 2 ∧ n ∈ t.rl ∧ (doT t kd n).1 = ⟨t.sv, t.lg, t.lv, wouN t.rl n⟩ ∧ (doT t kd n).2.1 = n) := by
  rcases do_ok hG h0 with h | ⟨h1, h2, h3⟩ | ⟨h1, h2, h3, h4, h5⟩
  · exact .inl h
  · exact .inr (.inl ⟨h1, h2, by rw [h3], by rw [h3]⟩)
  · exact .inr (.inr ⟨h1, h2, h3, h4, by rw [h5], by rw [h5]⟩)

end Go.Proofs.YtnefcmikeeadhaaDoor
