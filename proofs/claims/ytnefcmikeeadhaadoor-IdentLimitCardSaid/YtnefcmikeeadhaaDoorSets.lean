/-
  The six rows of words of a table in memory: what they hold, what a store or an append turns.
-/
import Derived.Test.YtnefcmikeeadhaaDoorWls
import Derived.Test.YtnefcmikeeadhaaDoorTz
namespace Go.Proofs.YtnefcmikeeadhaaDoor
open Go.RowKit

theorem OwnW.block {w : World} {base : Nat} {v : Value} {l : List Nat} (h : OwnW w base v l) {g : Nat} (hg : v.ownBlock = some g) : TyAt w g 64 ∧ base ≤ g := by
  obtain ⟨_, hc⟩ := h
  rcases hc with ⟨rfl, _⟩ | ⟨g', cap, cur, rfl, hb, hh, _⟩
  · cases hg
  · injection hg with hg
    subst hg
    exact ⟨⟨_, _, hh⟩, hb⟩

theorem OwnW.same {w w' : World} {base : Nat} {v : Value} {l : List Nat} (h : OwnW w base v l) (hb : ∀ g, v.ownBlock = some g → w'.heap[g]? = w.heap[g]?) : OwnW w' base v l := by
  obtain ⟨h0, hc⟩ := h
  refine ⟨h0, ?_⟩
  rcases hc with ⟨rfl, h1⟩ | ⟨g', cap, cur, rfl, h2, hh, h3⟩
  · exact .inl ⟨rfl, h1⟩
  · exact .inr ⟨g', cap, cur, rfl, h2, (hb g' rfl).trans hh, h3⟩

/-- how a row lies that is not empty -/
theorem OwnW.lies {w : World} {base : Nat} {v : Value} {l : List Nat} (h : OwnW w base v l) (h0 : 0 < l.length) : ∃ g cap, v = .slice (some ⟨g, 0, none⟩) l.length cap ∧ l.length ≤ cap ∧ cap ≤ maxLen ∧ base ≤ g ∧ TyAt w g 64 ∧
    (∀ j, w.frozen? ⟨g, j, none⟩ = false) ∧ ∀ j x : Nat, l[j]? = some x → w.cell? ⟨g, j, none⟩ = some (.int .u64 (x : Int)) := by
  have hall := h
  obtain ⟨_, hc⟩ := h
  rcases hc with ⟨_, h1⟩ | ⟨g, cap, cur, rfl, hb, hh, hn, hm, _⟩
  · omega
  · refine ⟨g, cap, rfl, hn, hm, hb, ⟨_, _, hh⟩, fun j => by simp [World.frozen?, hh], fun j x hj => ?_⟩
    have hjl := (List.getElem?_eq_some_iff.1 hj).1
    rw [hall.cellAt j (by omega)]
    simp [wls, hj]

theorem OwnW.shape {w : World} {base : Nat} {v : Value} {l : List Nat} (h : OwnW w base v l) : ∃ A cap, v = .slice A l.length cap ∧ l.length ≤ cap ∧ cap ≤ maxLen := by
  rcases h.2 with ⟨rfl, h1⟩ | ⟨g, cap, cur, rfl, hb, hh, hn, hm, _⟩
  · exact ⟨none, 0, by rw [h1], by omega, by simp [maxLen]⟩
  · exact ⟨_, cap, rfl, hn, hm⟩

theorem OwnW.put {w : World} {base g n cap : Nat} {l : List Nat} (h : OwnW w base (.slice (some ⟨g, 0, none⟩) n cap) l) (j x : Nat) : OwnW (w.setCell ⟨g, j, none⟩ (.int .u64 (x : Int))) base (.slice (some ⟨g, 0, none⟩) n cap) (l.set j x) := by
  obtain ⟨_, h2⟩ := h
  refine ⟨by simp, ?_⟩
  rcases h2 with ⟨h3, _⟩ | ⟨g', cap', cur, hv, hb, hh, hn, hm, hc, ht⟩
  · injection h3 with e; cases e
  · injection hv with e1 e2 e3
    injection e1 with e1
    injection e1 with e1
    subst e1 e3
    rw [List.length_set]
    refine .inr ⟨g, cap, cur.setIfInBounds j (.int .u64 (x : Int)), by rw [e2], hb, ?_, hn, hm, by simpa using hc, ?_⟩
    · simp [World.setCell, Array.getElem?_modify, hh]
    · rw [Array.toList_setIfInBounds, List.take_set, ht, wls, ← List.map_set]

def upd {α : Type} (f : Nat → α) (i : Nat) (x : α) : Nat → α := fun j => if j = i then x else f j
theorem upd_at {α : Type} (f : Nat → α) (i : Nat) (x : α) : upd f i x i = x := if_pos rfl
theorem upd_other {α : Type} (f : Nat → α) {i j : Nat} (x : α) (h : j ≠ i) : upd f i x j = f j := if_neg h

/-- the set at cell 5 of block k: six rows -/
structure SetP (w : World) (base k : Nat) (V : Nat → Value) (L : Nat → List Nat) : Prop where
  cell : ∀ i, i < 6 → w.cell? ⟨k, 5 + i, none⟩ = some (V i)
  free : ∀ i, w.frozen? ⟨k, i, none⟩ = false
  ty : TyAt w k 55
  own : base ≤ k
  row : ∀ i, i < 6 → OwnW w base (V i) (L i)
  apart : ∀ i j, i < 6 → j < 6 → i ≠ j → ∀ g, (V i).ownBlock = some g → (V j).ownBlock ≠ some g

/-- what a method of the set may turn: its own cells and rows -/
structure STurn (base k : Nat) (w w' : World) : Prop where
  os : w'.os = w.os
  tape : w'.tape = w.tape
  output : w'.output = w.output
  size : w.heap.size ≤ w'.heap.size
  low : ∀ j, j < base → w'.heap[j]? = w.heap[j]?
  oth : ∀ j, j < w.heap.size → j ≠ k → ¬ TyAt w j 64 → w'.heap[j]? = w.heap[j]?
  mine : ∀ i, i < 5 ∨ 10 < i → w'.cell? ⟨k, i, none⟩ = w.cell? ⟨k, i, none⟩

theorem STurn.refl (base k : Nat) (w : World) : STurn base k w w := ⟨rfl, rfl, rfl, Nat.le_refl _, fun _ _ => rfl, fun _ _ _ _ => rfl, fun _ _ => rfl⟩
theorem STurn.trans {base k : Nat} {a b c : World} (h : STurn base k a b) (g : STurn base k b c) : STurn base k a c :=
  ⟨g.os.trans h.os, g.tape.trans h.tape, g.output.trans h.output, Nat.le_trans h.size g.size, fun j hj => (g.low j hj).trans (h.low j hj),
    fun j h1 h2 h3 => by
      have e := h.oth j h1 h2 h3
      refine (g.oth j (Nat.lt_of_lt_of_le h1 h.size) h2 ?_).trans e
      rintro ⟨c', f, hc⟩
      exact h3 ⟨c', f, by rw [← e]; exact hc⟩, fun i hi => (g.mine i hi).trans (h.mine i hi)⟩

theorem heap_set {w : World} {a : Addr} {j : Nat} (h : j ≠ a.block) (u : Value) : (w.setCell a u).heap[j]? = w.heap[j]? := Below.heap_setCell _ _ _ _ h
theorem TyAt.set {w : World} {k : Nat} {e : TypeId} (h : TyAt w k e) (a : Addr) (u : Value) : TyAt (w.setCell a u) k e := by
  obtain ⟨c, f, h⟩ := h
  unfold TyAt World.setCell
  split
  all_goals first
    | (simp only [Array.getElem?_modify, h]; by_cases q : a.block = k <;> simp [q])
    | exact ⟨c, f, h⟩
theorem TyAt.one {w : World} {k : Nat} {e e' : TypeId} (h : TyAt w k e) (h' : TyAt w k e') : e = e' := by
  obtain ⟨c, f, h⟩ := h
  obtain ⟨c', f', h'⟩ := h'
  rw [h] at h'
  injection h' with h'
  injection h'
theorem TyAt.grown {w w' : World} {k : Nat} {e : TypeId} (h : TyAt w k e) {row : Option Nat} (hg : w.grownBy w' row) (hne : some k ≠ row) : TyAt w' k e := by
  have hl := h.lt
  obtain ⟨c, f, h⟩ := h
  exact ⟨c, f, (hg.block k hl hne).trans h⟩

section
variable {w w' : World} {base k : Nat} {V : Nat → Value} {L : Nat → List Nat}

theorem SetP.sep (h : SetP w base k V L) {i : Nat} (hi : i < 6) : (V i).ownBlock ≠ some k := fun e => by
  have := ((h.row i hi).block e).1.one h.ty
  cases this

theorem SetP.below (h : SetP w base k V L) (hb : Below w.heap.size w w') : SetP w' base k V L :=
  ⟨fun i hi => (hb.cell (p := ⟨k, 5 + i, none⟩) h.ty.lt).trans (h.cell i hi), fun i => (hb.frozen (p := ⟨k, i, none⟩) h.ty.lt).trans (h.free i), h.ty.below hb, h.own,
    fun i hi => (h.row i hi).same fun g hg => hb.block g ((h.row i hi).block hg).1.lt, h.apart⟩

/-- another block, neither the table's nor a row, was written -/
theorem SetP.grown (h : SetP w base k V L) {b : Nat} (hg : w.grownBy w' (some b)) (hk : k ≠ b) (hb : ¬ TyAt w b 64) : SetP w' base k V L := by
  have hkb : some k ≠ some b := fun e => hk (Option.some.inj e)
  refine ⟨fun i hi => (World.cell?_of_block (a := ⟨k, 5 + i, none⟩) (hg.block k h.ty.lt hkb)).trans (h.cell i hi), fun i => (World.frozen?_of_block (a := ⟨k, i, none⟩) (hg.block k h.ty.lt hkb)).trans (h.free i), h.ty.grown hg hkb, h.own,
    fun i hi => (h.row i hi).same fun g hg' => ?_, h.apart⟩
  have ht := ((h.row i hi).block hg').1
  refine hg.block g ht.lt (fun e => ?_)
  injection e with e
  subst e
  exact hb ht

/-- a cell of the table outside the set was written -/
theorem SetP.mine (h : SetP w base k V L) {i : Nat} (hi : i < 5 ∨ 10 < i) (u : Value) : SetP (w.setCell ⟨k, i, none⟩ u) base k V L := by
  refine ⟨fun j hj => ?_, fun j => ?_, h.ty.set _ _, h.own, fun j hj => (h.row j hj).same fun g hg => heap_set (a := ⟨k, i, none⟩) (fun e => ?_) u, h.apart⟩
  · rw [World.cell?_setCell_other _ _ _ _ (fun q => by have := congrArg Addr.off q; simp at this; omega)]
    exact h.cell j hj
  · rw [World.frozen?_setCell]
    exact h.free j
  · subst e
    exact h.sep hj hg

/-- a level's row appended to, and the new slice stored -/
theorem SetP.app (h : SetP w base k V L) {i : Nat} (hi : i < 6) (o : Obj) (hbase : base ≤ w.heap.size) {v' : Value} {l' : List Nat} (ho : OwnW w' base v' l') (hg : (w.alloc o).grownBy w' (V i).ownBlock)
    (hl : v'.ownBlock = (V i).ownBlock ∨ v'.ownBlock = some (w.alloc o).heap.size) :
    SetP (w'.setCell ⟨k, 5 + i, none⟩ v') base k (upd V i v') (upd L i l') ∧ STurn base k w (w'.setCell ⟨k, 5 + i, none⟩ v') := by
  have hkl := h.ty.lt
  have hz : (w.alloc o).heap.size = w.heap.size + 1 := World.size_alloc _ _
  have hold : ∀ j, j < w.heap.size → (V i).ownBlock ≠ some j → w'.heap[j]? = w.heap[j]? := fun j hj hne => (hg.block j (by omega) (Ne.symm hne)).trans (Below.heap_alloc w o j hj)
  have hk' := hold k hkl (h.sep hi)
  have hty : TyAt w' k 55 := by
    obtain ⟨c, f, hc⟩ := h.ty
    exact ⟨c, f, hk'.trans hc⟩
  have hvk : ∀ g, v'.ownBlock = some g → g ≠ k := fun g hg' e => by
    subst e
    have := (ho.block hg').1.one hty
    cases this
  refine ⟨⟨fun j hj => ?_, fun j => ?_, hty.set _ _, h.own, fun j hj => ?_, fun a b ha hb hab g hga => ?_⟩, ⟨hg.os, hg.tape, hg.output, ?_, fun j hj => ?_, fun j h1 h2 h3 => ?_, fun j hj => ?_⟩⟩
  · by_cases e : j = i
    · subst e
      rw [upd_at]
      exact World.cell?_setCell_same' _ _ _ (by rw [World.cell?_of_block (a := ⟨k, 5 + j, none⟩) hk', h.cell j hj]; rfl)
    · rw [upd_other _ _ e, World.cell?_setCell_other _ _ _ _ (fun q => by have := congrArg Addr.off q; simp at this; omega), World.cell?_of_block (a := ⟨k, 5 + j, none⟩) hk']
      exact h.cell j hj
  · rw [World.frozen?_setCell, World.frozen?_of_block (a := ⟨k, j, none⟩) hk']
    exact h.free j
  · by_cases e : j = i
    · subst e
      rw [upd_at, upd_at]
      exact ho.same fun g hg' => heap_set (a := ⟨k, 5 + j, none⟩) (hvk g hg') _
    · rw [upd_other _ _ e, upd_other _ _ e]
      refine (h.row j hj).same fun g hg' => (heap_set (a := ⟨k, 5 + i, none⟩) (fun q => ?_) _).trans (hold g ((h.row j hj).block hg').1.lt (h.apart j i hj hi e g hg'))
      subst q
      exact h.sep hj hg'
  · by_cases ea : a = i
    · subst ea
      rw [upd_at] at hga
      rw [upd_other _ _ (Ne.symm hab)]
      rcases hl with hl | hl
      · exact h.apart a b ha hb hab g (hl.symm.trans hga)
      · intro hgb
        have := ((h.row b hb).block hgb).1.lt
        have e2 := hl.symm.trans hga
        injection e2 with e2
        omega
    · rw [upd_other _ _ ea] at hga
      by_cases eb : b = i
      · subst eb
        rw [upd_at]
        rcases hl with hl | hl
        · rw [hl]
          exact h.apart a b ha hb hab g hga
        · rw [hl]
          intro e2
          have := ((h.row a ha).block hga).1.lt
          injection e2 with e2
          omega
      · rw [upd_other _ _ eb]
        exact h.apart a b ha hb hab g hga
  · have := hg.size
    rw [World.size_setCell]
    omega
  · have hne : j ≠ k := by have := h.own; omega
    rw [heap_set (a := ⟨k, 5 + i, none⟩) hne]
    refine hold j (by omega) (fun e => ?_)
    have := ((h.row i hi).block e).2
    omega
  · rw [heap_set (a := ⟨k, 5 + i, none⟩) h2]
    exact hold j h1 (fun e => h3 ((h.row i hi).block e).1)
  · rw [World.cell?_setCell_other _ _ _ _ (fun q => by have := congrArg Addr.off q; simp at this; omega)]
    exact World.cell?_of_block (a := ⟨k, j, none⟩) hk'

/-- a word of a level's row written -/
theorem SetP.word (h : SetP w base k V L) {i : Nat} (hi : i < 6) {g n cap : Nat} (hv : V i = .slice (some ⟨g, 0, none⟩) n cap) (j x : Nat) :
    SetP (w.setCell ⟨g, j, none⟩ (.int .u64 (x : Int))) base k V (upd L i ((L i).set j x)) ∧ STurn base k w (w.setCell ⟨g, j, none⟩ (.int .u64 (x : Int))) := by
  have hgo : (V i).ownBlock = some g := by rw [hv]; rfl
  obtain ⟨hgt, hgb⟩ := (h.row i hi).block hgo
  have hgk : k ≠ g := fun e => by
    subst e
    exact h.sep hi hgo
  have hk' : (w.setCell ⟨g, j, none⟩ (.int .u64 (x : Int))).heap[k]? = w.heap[k]? := heap_set (a := ⟨g, j, none⟩) hgk _
  refine ⟨⟨fun a ha => (World.cell?_of_block (a := ⟨k, 5 + a, none⟩) hk').trans (h.cell a ha), fun a => (World.frozen?_of_block (a := ⟨k, a, none⟩) hk').trans (h.free a), h.ty.set _ _, h.own, fun a ha => ?_, h.apart⟩,
    ⟨rfl, rfl, rfl, by rw [World.size_setCell]; exact Nat.le_refl _, fun a ha => heap_set (a := ⟨g, j, none⟩) (by dsimp only; omega) _, fun a _ _ h3 => heap_set (a := ⟨g, j, none⟩) (fun e => h3 (by rw [e]; exact hgt)) _, fun a _ => World.cell?_of_block (a := ⟨k, a, none⟩) hk'⟩⟩
  by_cases e : a = i
  · subst e
    rw [upd_at]
    have := h.row a ha
    rw [hv] at this ⊢
    exact this.put j x
  · rw [upd_other _ _ e]
    exact (h.row a ha).same fun q hq => heap_set (a := ⟨g, j, none⟩) (fun e2 => by
      subst e2
      exact h.apart a i ha hi e _ hq hgo) _

theorem STurn.tab (h : STurn base k w w') (hT : Tab w) (hb : 0 < base) : Tab w' := hT.block h.size (h.low 0 hb)

end

end Go.Proofs.YtnefcmikeeadhaaDoor
