/-
  At of package buffer and of the reference; small of the laws.
-/
import Derived.Test.YthedglfocjljjaaGreatDoorMgc
import Derived.Test.YthedglfocjljjaaGreatDoorMgb
import Derived.Deep.RegionLaw
import Derived.WalkKit
import Derived.Deep.AppendLies
import Derived.Maps.AppendAt
import Derived.Lib.Hide
import Derived.Test.YthedglfocjljjaaGreatDoorMgd
import Derived.BigRegion
namespace Go.Proofs.YthedglfocjljjaaGreatDoor
open Go.RowKit

abbrev W2 (w : World) (a b : Int) (v : Value) : World := (w.alloc (.cells #[.int .i64 a, .int .i64 b, v] 42)).alloc (.cells #[.int .u8 0, .int .u8 0, .int .u8 0, .int .u8 0] 58)

abbrev WB (w : World) (a b : Int) (v : Value) (c d : Int) (u : Value) : World := (w.alloc (.cells #[.int .i64 a, .int .i64 b, v] 42)).alloc (.cells #[.int .i64 c, .int .i64 d, u] 42)

structure HeldR (w W : World) (p : Px) : Prop where
  at0 : AtP W w.heap.size p
  at2 : AtP W (w.heap.size + 1) zeroPx
  below : Below w.heap.size w W
  there : w.heap.size + 1 < W.heap.size

theorem HeldR.step {w W w' : World} {p : Px} (h : HeldR w W p) (hb : Below W.heap.size W w') : HeldR w w' p := by
  have ht := h.there
  exact ⟨h.at0.keep hb (by omega), h.at2.keep hb ht, Below.next h.below hb, Nat.lt_of_lt_of_le ht hb.size⟩
theorem HeldR.set {w W : World} {p : Px} (h : HeldR w W p) (q : Px) : HeldR w (setP W w.heap.size q) q :=
  ⟨h.at0.set q, h.at2.far q (by omega), below_setP h.below (Nat.le_refl _) q, by rw [setP_size]; exact h.there⟩
theorem HeldR.new (w : World) (p : Px) : HeldR w ((w.alloc (.cells #[.int .u8 (p.r : Int), .int .u8 (p.g : Int), .int .u8 (p.b : Int), .int .u8 (p.a : Int)] 58)).alloc (.cells #[.int .u8 (zeroPx.r : Int), .int .u8 (zeroPx.g : Int), .int .u8 (zeroPx.b : Int), .int .u8 (zeroPx.a : Int)] 58)) p := by
  refine ⟨(Four.new w _ _ _ _ _).alloc (by simp) _, ?_, ((Below.refl _ _).alloc (Nat.le_refl _) _).alloc (by simp) _, by simp⟩
  have := Four.new (w.alloc (.cells #[.int .u8 (p.r : Int), .int .u8 (p.g : Int), .int .u8 (p.b : Int), .int .u8 (p.a : Int)] 58)) (.int .u8 (zeroPx.r : Int)) (.int .u8 (zeroPx.g : Int)) (.int .u8 (zeroPx.b : Int)) (.int .u8 (zeroPx.a : Int)) 58
  rwa [World.size_alloc] at this

structure HeldOv (w W : World) (s d : Px) : Prop where
  at0 : AtP W w.heap.size s
  at1 : AtP W (w.heap.size + 1) d
  at2 : AtP W (w.heap.size + 1 + 1) zeroPx
  below : Below w.heap.size w W
  there : w.heap.size + 1 + 1 < W.heap.size

theorem HeldOv.step {w W w' : World} {s d : Px} (h : HeldOv w W s d) (hb : Below W.heap.size W w') : HeldOv w w' s d := by
  have ht := h.there
  exact ⟨h.at0.keep hb (by omega), h.at1.keep hb (by omega), h.at2.keep hb ht, Below.next h.below hb, Nat.lt_of_lt_of_le ht hb.size⟩
theorem HeldOv.new (w : World) (s d : Px) : HeldOv w (((w.alloc (.cells #[.int .u8 (s.r : Int), .int .u8 (s.g : Int), .int .u8 (s.b : Int), .int .u8 (s.a : Int)] 58)).alloc (.cells #[.int .u8 (d.r : Int), .int .u8 (d.g : Int), .int .u8 (d.b : Int), .int .u8 (d.a : Int)] 58)).alloc (.cells #[.int .u8 (zeroPx.r : Int), .int .u8 (zeroPx.g : Int), .int .u8 (zeroPx.b : Int), .int .u8 (zeroPx.a : Int)] 58)) s d := by
  refine ⟨((Four.new w _ _ _ _ _).alloc (by simp) _).alloc (by simp; omega) _, ?_, ?_, (((Below.refl _ _).alloc (Nat.le_refl _) _).alloc (by simp) _).alloc (by simp; omega) _, by simp⟩
  · have := Four.new (w.alloc (.cells #[.int .u8 (s.r : Int), .int .u8 (s.g : Int), .int .u8 (s.b : Int), .int .u8 (s.a : Int)] 58)) (.int .u8 (d.r : Int)) (.int .u8 (d.g : Int)) (.int .u8 (d.b : Int)) (.int .u8 (d.a : Int)) 58
    rw [World.size_alloc] at this
    exact this.alloc (by simp) _
  · have := Four.new ((w.alloc (.cells #[.int .u8 (s.r : Int), .int .u8 (s.g : Int), .int .u8 (s.b : Int), .int .u8 (s.a : Int)] 58)).alloc (.cells #[.int .u8 (d.r : Int), .int .u8 (d.g : Int), .int .u8 (d.b : Int), .int .u8 (d.a : Int)] 58)) (.int .u8 (zeroPx.r : Int)) (.int .u8 (zeroPx.g : Int)) (.int .u8 (zeroPx.b : Int)) (.int .u8 (zeroPx.a : Int)) 58
    rwa [World.size_alloc, World.size_alloc] at this

theorem At4.grown {w w1 : World} {g b off j : Nat} {p : Px} (h : At4 w b off j p) (hg : w.grownBy w1 (some g)) (hb : b < w.heap.size) (hne : b ≠ g) : At4 w1 b off j p := by
  have hb := hg.block b hb (fun e => hne (Option.some.inj e))
  have hc : ∀ i, w1.cell? ⟨b, i, none⟩ = w.cell? ⟨b, i, none⟩ := fun i => World.cell?_of_block (a := ⟨b, i, none⟩) hb
  obtain ⟨a0, a1, a2, a3⟩ := h
  exact ⟨(hc _).trans a0, (hc _).trans a1, (hc _).trans a2, (hc _).trans a3⟩

theorem RowP.drew {w : World} {g : Nat} {l : List Px} (h : RowP w g l) : RowP w.drew g l := h

def RowOf (w w' : World) (v : Value) (l : List Px) : Prop := ∃ g c, v = .slice (some ⟨g, 0, none⟩) l.length c ∧ l.length ≤ c ∧ c ≤ maxLen ∧ w.heap.size ≤ g ∧ RowP w' g l

theorem RowOf.pxs {w w' : World} {v : Value} {l : List Px} (h : RowOf w w' v l) : Pxs w' v l := by
  obtain ⟨g, c, rfl, h1, h2, _, h3⟩ := h
  exact h3.pxs h1 h2

set_option maxRecDepth 100000 in
theorem step_appP {ops : Array Oper} {o : Oper} {a : Act} {w : World} {K : Act → World → Prop} {Q : Exit → Act → World → Prop} {E : Prop} (hgd : o.guard = none) (s x : Operand)
    (ho : o.op = .call { callee := .builtin .append, args := #[s, x], argTypes := #[40, 40] })
    {base : Nat} {v : Value} {l m : List Px} (hs : a.eval s = v) (hown : OwnP w base v l) {A : Option Addr} {k c : Nat} (hx : a.eval x = .slice A k c) (hsee : Pxs w (.slice A k c) m)
    (hb : l.length + m.length ≤ 4000000) (hbase : base ≤ w.heap.size)
    (h : ∀ v' w', OwnP w' base v' (l ++ m) → w.grownBy w' v.ownBlock → (v'.ownBlock = v.ownBlock ∨ v'.ownBlock = some w.heap.size) → K (a.put o.dst v') w') :
    if Region.wanted o (yielded ops a.tmps) = true then Oper.wp Tryz.prog o a w K Q else E := by
  have hw : Region.wanted o (yielded ops a.tmps) = true := by simp [Region.wanted, hgd]
  rw [if_pos hw]
  obtain ⟨v', w', hrun, h2, h3, h4⟩ := appendP_run hown hsee hb hbase o.type
  unfold Oper.wp execOp
  simp only [ho, resolve, invoke, builtin, Sem.run_bind, Sem.run_pure, Result.andThen_ok, List.map_toArray, List.map_cons, List.map_nil, hs, hx, hrun]
  exact h v' w' h2 h3 h4

theorem Pxs.len {w : World} {A : Option Addr} {n c : Nat} {l : List Px} (h : Pxs w (.slice A n c) l) : n = l.length := by
  obtain ⟨A', c', hv, _⟩ := h
  injection hv

theorem OwnP.set3 {w : World} {base : Nat} {v : Value} {l : List Px} (h : OwnP w base v l) {k : Nat} (hk : k < base) (y0 y1 y2 : Value) : OwnP (set3 w k y0 y1 y2) base v l :=
  ownsRow_setCell_below (ownsRow_setCell_below (ownsRow_setCell_below h (a := ⟨k, 0, none⟩) hk y0) (a := ⟨k, 1, none⟩) hk y1) (a := ⟨k, 2, none⟩) hk y2

theorem Held.three {w W : World} {l1 l2 : List (Nat × List Value)} {k : Nat} {x0 x1 x2 : Value} (h : Held w W (l1 ++ (k, [x0, x1, x2]) :: l2)) : W.cell? ⟨k, 0, none⟩ = some x0 ∧ W.cell? ⟨k, 1, none⟩ = some x1 ∧ W.cell? ⟨k, 2, none⟩ = some x2 := by
  obtain ⟨a0, a1, a2, _, _⟩ := h.tri
  exact ⟨a0, a1, a2⟩

def Res (w w' : World) (v : Value) (l : List Px) : Prop := (l = [] ∧ v = .slice none 0 0) ∨ RowOf w w' v l
theorem Res.pxs {w w' : World} {v : Value} {l : List Px} (h : Res w w' v l) : Pxs w' v l := by
  rcases h with ⟨rfl, rfl⟩ | h
  · exact pxs_nil w'
  · exact h.pxs

def Outs (a b : Int) (l : List Px) (er : Int) (w : World) (e : Ending) (w' : World) : Prop := ∃ v, e = .returned (.tuple #[.agg #[.int .i64 a, .int .i64 b, v], .int .i64 er]) ∧ Res w w' v l ∧ Below w.heap.size w w'

theorem grown_set3 (w : World) (k : Nat) (y0 y1 y2 : Value) : w.grownBy (set3 w k y0 y1 y2) (some k) :=
  grown_setCell (grown_setCell (grown_setCell (World.grownBy.refl w _) _ _) _ _) _ _
theorem RowP.far {w : World} {g k : Nat} {l : List Px} (h : RowP w g l) (hne : g ≠ k) (y0 y1 y2 : Value) : RowP (set3 w k y0 y1 y2) g l := h.grown (grown_set3 w k y0 y1 y2) hne

abbrev WC (w : World) (a b : Int) (v : Value) (c d : Int) (u : Value) : World := ((w.alloc (.cells #[.int .i64 a, .int .i64 b, v] 42)).alloc (.cells #[.int .i64 c, .int .i64 d, u] 42)).alloc (.cells #[.int .i64 0, .int .i64 0, .slice none 0 0] 42)

theorem Res.keep {w w0 w1 w2 : World} {v : Value} {l : List Px} (h : Res w0 w1 v l) (hb : Below w.heap.size w w0) (hk : ∀ g, w0.heap.size ≤ g → RowP w1 g l → RowP w2 g l) : Res w w2 v l := by
  rcases h with h | ⟨g, c, rfl, h1, h2, h3, h4⟩
  · exact .inl h
  · exact .inr ⟨g, c, rfl, h1, h2, Nat.le_trans hb.size h3, hk g h3 h4⟩


theorem Held.grownO {w W W' : World} {l : List (Nat × List Value)} (h : Held w W l) {v : Value} {base : Nat} {L : List Px} (hg : W.grownBy W' v.ownBlock) (ho : OwnP W base v L) (hw : w.heap.size ≤ base) (hl : ∀ p ∈ l, p.1 < base) : Held w W' l := by
  have hk := ho.block
  cases hv : v.ownBlock with
  | none =>
    rw [hv] at hg
    exact h.step ⟨hg.os, hg.tape, hg.output, hg.size, fun k hk => hg.block k hk (by simp)⟩
  | some g =>
    rw [hv] at hg hk
    have := (hk g rfl).1
    exact h.grown hg (by omega) (fun p hp => by have := hl p hp; omega)

theorem OwnP.cell {w : World} {base : Nat} {v : Value} {l : List Px} (h : OwnP w base v l) {k : Nat} (hk : k < base) (i : Nat) (u : Value) : OwnP (w.setCell ⟨k, i, none⟩ u) base v l := ownsRow_setCell_below h (a := ⟨k, i, none⟩) hk u

theorem take_next {l : List Px} {k : Nat} (h : k < l.length) : l.take (k + 1) = l.take k ++ [l.getD k zeroPx] := by
  rw [List.take_add_one, get_of h]
  rfl

theorem OwnP.res {w w' : World} {base : Nat} {v : Value} {l : List Px} (h : OwnP w' base v l) (hb : w.heap.size ≤ base) (hn : 0 < l.length) : Res w w' v l := by
  obtain ⟨g, c, hv, h1, h2, h3, h4⟩ := h.rowP hn
  exact .inr ⟨g, c, hv, h1, h2, by omega, h4⟩

end Go.Proofs.YthedglfocjljjaaGreatDoor
namespace Go.Proofs.YthedglfocjljjaaGreatDoor.Mem
open Go.RowKit

def byte (x : UInt8) : Value := .int .u8 (x.toNat : Int)

def Sees (w : World) (v : Value) (bs : List UInt8) : Prop :=
  ∃ (A : Option Addr) (cap : Nat), v = .slice A bs.length cap ∧ bs.length ≤ cap ∧ cap ≤ maxLen ∧
    (0 < bs.length → ∃ b off, A = some ⟨b, off, none⟩ ∧ b < w.heap.size ∧ ∀ j, j < bs.length → w.cell? ⟨b, off + j, none⟩ = some (byte (bs.getD j 0)))

theorem Sees.keep {w w' : World} {v : Value} {bs : List UInt8} (h : Sees w v bs) (hs : w.heap.size ≤ w'.heap.size)
    (hk : ∀ b o, b < w.heap.size → (∃ x, w.cell? ⟨b, o, none⟩ = some (byte x)) → w'.cell? ⟨b, o, none⟩ = w.cell? ⟨b, o, none⟩) : Sees w' v bs := by
  obtain ⟨A, cap, hv, h1, h2, h3⟩ := h
  refine ⟨A, cap, hv, h1, h2, fun hn => ?_⟩
  obtain ⟨b, off, hA, hb, hc⟩ := h3 hn
  exact ⟨b, off, hA, Nat.lt_of_lt_of_le hb hs, fun j hj => (hk b (off + j) hb ⟨_, hc j hj⟩).trans (hc j hj)⟩

theorem Sees.below {w w' : World} {v : Value} {bs : List UInt8} (h : Sees w v bs) (hb : Below w.heap.size w w') : Sees w' v bs :=
  h.keep hb.size fun _ _ hlt _ => hb.cell hlt

theorem Sees.alloc {w : World} {v : Value} {bs : List UInt8} (h : Sees w v bs) (o : Obj) : Sees (w.alloc o) v bs :=
  h.below ((Below.refl _ _).alloc (Nat.le_refl _) o)

theorem Sees.drew {w : World} {v : Value} {bs : List UInt8} (h : Sees w v bs) : Sees w.drew v bs := h

theorem Sees.grown {w w' : World} {v : Value} {bs : List UInt8} {g : Nat} (h : Sees w v bs) (hg : w.grownBy w' (some g)) (hno : ∀ o x, w.cell? ⟨g, o, none⟩ ≠ some (byte x)) : Sees w' v bs :=
  h.keep hg.size fun b o hlt ⟨x, hx⟩ => World.cell?_of_block (hg.block b hlt (fun e => by injection e with e; subst e; exact hno o x hx))

theorem Sees.take {w : World} {A : Option Addr} {n cap k : Nat} {bs : List UInt8} (h : Sees w (.slice A n cap) bs) (hk : k ≤ n) : Sees w (.slice A k cap) (bs.take k) := by
  obtain ⟨A', cap', hv, h1, h2, h3⟩ := h
  injection hv with e1 e2 e3
  subst e1 e2 e3
  have hl : (bs.take k).length = k := by simp; omega
  refine ⟨A, cap, by rw [hl], by omega, h2, fun hn => ?_⟩
  obtain ⟨b, off, hA, hb, hc⟩ := h3 (by omega)
  refine ⟨b, off, hA, hb, fun j hj => ?_⟩
  rw [hc j (by omega)]
  simp only [List.getD, List.getElem?_take]
  rw [if_pos (by omega)]

theorem Sees.drop {w : World} {A : Option Addr} {n cap k : Nat} {bs : List UInt8} (h : Sees w (.slice A n cap) bs) (hk : k ≤ n) :
    Sees w (.slice (if cap = k then A else A.map (·.add k)) (n - k) (cap - k)) (bs.drop k) := by
  obtain ⟨A', cap', hv, h1, h2, h3⟩ := h
  injection hv with e1 e2 e3
  subst e1 e2 e3
  have hl : (bs.drop k).length = bs.length - k := by simp
  refine ⟨_, _, by rw [hl], by omega, by omega, fun hn => ?_⟩
  obtain ⟨b, off, hA, hb, hc⟩ := h3 (by omega)
  rw [if_neg (by omega)]
  subst hA
  refine ⟨b, off + k, ?_, hb, fun j hj => ?_⟩
  · simp only [Option.map_some, Addr.add]
    split <;> simp_all
  · rw [show off + k + j = off + (k + j) by omega, hc (k + j) (by omega)]
    simp [List.getD, List.getElem?_drop]

theorem Sees.shape {w : World} {v : Value} {bs : List UInt8} (h : Sees w v bs) : ∃ A cap, v = .slice A bs.length cap ∧ bs.length ≤ cap ∧ cap ≤ maxLen := by
  obtain ⟨A, cap, hv, h1, h2, _⟩ := h
  exact ⟨A, cap, hv, h1, h2⟩

end Go.Proofs.YthedglfocjljjaaGreatDoor.Mem
namespace Go.Proofs.YthedglfocjljjaaGreatDoor
open Go.RowKit Mem

structure HeldX (w W : World) (l : List (Nat × List Value)) (q : World → Prop) : Prop where
  held : Held w W l
  fact : q W
  kept : ∀ W1 W2, Below W1.heap.size W1 W2 → q W1 → q W2

section
variable {w W W' : World} {l : List (Nat × List Value)} {q : World → Prop}
theorem HeldX.step (h : HeldX w W l q) (hb : Below W.heap.size W W') : HeldX w W' l q := ⟨h.held.step hb, h.kept _ _ hb h.fact, h.kept⟩
theorem HeldX.drew (h : HeldX w W l q) : HeldX w W.drew l q := h.step (Below.refl _ _).drew
theorem HeldX.made (h : HeldX w W l q) (o : Obj) : HeldX w (W.alloc o) l q := h.step ((Below.refl _ _).alloc (Nat.le_refl _) o)
theorem HeldX.alloc (h : HeldX w W l q) (vs : List Value) (t : TypeId) : HeldX w (W.alloc (.cells vs.toArray t)) ((W.heap.size, vs) :: l) q :=
  ⟨h.held.alloc vs t, h.kept _ _ ((Below.refl _ _).alloc (Nat.le_refl _) _) h.fact, h.kept⟩
theorem HeldX.add {r : World → Prop} (h : HeldX w W l q) (hr : r W) (hk : ∀ W1 W2, Below W1.heap.size W1 W2 → r W1 → r W2) : HeldX w W l (fun V => r V ∧ q V) :=
  ⟨h.held, ⟨hr, h.fact⟩, fun W1 W2 hb ⟨h1, h2⟩ => ⟨hk W1 W2 hb h1, h.kept W1 W2 hb h2⟩⟩
theorem HeldX.below (h : HeldX w W l q) : Below w.heap.size w W := h.held.below
end

def RowV (w W : World) (l : List (Nat × List Value)) (v : Value) (m : List Px) : Prop :=
  (m = [] ∧ v = .slice none 0 0) ∨ ∃ g c, v = .slice (some ⟨g, 0, none⟩) m.length c ∧ m.length ≤ c ∧ c ≤ maxLen ∧ RowP W g m ∧ w.heap.size ≤ g ∧ ∀ p ∈ l, p.1 ≠ g

theorem RowV.pxs {w W : World} {l : List (Nat × List Value)} {v : Value} {m : List Px} (h : RowV w W l v m) : Pxs W v m := by
  rcases h with ⟨rfl, rfl⟩ | ⟨g, c, rfl, h1, h2, h3, _⟩
  · exact pxs_nil W
  · exact h3.pxs h1 h2

structure HeldZ (w W : World) (l : List (Nat × List Value)) (rs : List (Value × List Px)) : Prop where
  held : Held w W l
  rows : ∀ r ∈ rs, RowV w W l r.1 r.2

section
variable {w W W' : World} {l : List (Nat × List Value)} {rs : List (Value × List Px)}

theorem HeldZ.below (h : HeldZ w W l rs) : Below w.heap.size w W := h.held.below
theorem HeldZ.step (h : HeldZ w W l rs) (hb : Below W.heap.size W W') : HeldZ w W' l rs :=
  ⟨h.held.step hb, fun r hr => by
    rcases h.rows r hr with e | ⟨g, c, e, h1, h2, h3, h5, h4⟩
    · exact .inl e
    · exact .inr ⟨g, c, e, h1, h2, h3.step hb, h5, h4⟩⟩
theorem HeldZ.drew (h : HeldZ w W l rs) : HeldZ w W.drew l rs := h.step (Below.refl _ _).drew
theorem HeldZ.made (h : HeldZ w W l rs) (o : Obj) : HeldZ w (W.alloc o) l rs := h.step ((Below.refl _ _).alloc (Nat.le_refl _) o)
theorem HeldZ.alloc (h : HeldZ w W l rs) (vs : List Value) (t : TypeId) : HeldZ w (W.alloc (.cells vs.toArray t)) ((W.heap.size, vs) :: l) rs :=
  ⟨h.held.alloc vs t, fun r hr => by
    rcases h.rows r hr with e | ⟨g, c, e, h1, h2, h3, h5, h4⟩
    · exact .inl e
    · refine .inr ⟨g, c, e, h1, h2, h3.step ((Below.refl _ _).alloc (Nat.le_refl _) _), h5, fun p hp => ?_⟩
      rcases List.mem_cons.1 hp with rfl | hp
      · exact fun e => by have := h3.2.2; simp only at e; omega
      · exact h4 p hp⟩
theorem HeldZ.call (h : HeldZ w W l rs) (hb : Below W.heap.size W W') {v : Value} {m : List Px} (hr : Res W W' v m) : HeldZ w W' l ((v, m) :: rs) :=
  ⟨h.held.step hb, fun r hm => by
    rcases List.mem_cons.1 hm with rfl | hm
    · rcases hr with e | ⟨g, c, e, h1, h2, h3, h4⟩
      · exact .inl e
      · exact .inr ⟨g, c, e, h1, h2, h4, Nat.le_trans h.held.below.size h3, fun p hp => by have := h.held.there p hp; omega⟩
    · exact (h.step hb).rows r hm⟩
theorem HeldZ.perm {l' : List (Nat × List Value)} (h : HeldZ w W l rs) (hp : l.Perm l') : HeldZ w W l' rs :=
  ⟨⟨fun p hm => h.held.cells p (hp.mem_iff.2 hm), fun p hm => h.held.free p (hp.mem_iff.2 hm), fun p hm => h.held.there p (hp.mem_iff.2 hm), fun p hm => h.held.own p (hp.mem_iff.2 hm), (hp.map _).nodup_iff.1 h.held.nd, h.held.below⟩,
    fun r hr => by
      rcases h.rows r hr with e | ⟨g, c, e, h1, h2, h3, h5, h4⟩
      · exact .inl e
      · exact .inr ⟨g, c, e, h1, h2, h3, h5, fun p hm => h4 p (hp.mem_iff.2 hm)⟩⟩
theorem HeldZ.set3 {l1 l2 : List (Nat × List Value)} {k : Nat} {x0 x1 x2 : Value} (h : HeldZ w W (l1 ++ (k, [x0, x1, x2]) :: l2) rs) (y0 y1 y2 : Value) : HeldZ w (set3 W k y0 y1 y2) (l1 ++ (k, [y0, y1, y2]) :: l2) rs :=
  ⟨h.held.set3 y0 y1 y2, fun r hr => by
    rcases h.rows r hr with e | ⟨g, c, e, h1, h2, h3, h5, h4⟩
    · exact .inl e
    · refine .inr ⟨g, c, e, h1, h2, h3.far (fun e => h4 (k, [x0, x1, x2]) (by simp) e.symm) y0 y1 y2, h5, fun p hm => ?_⟩
      rcases List.mem_append.1 hm with hm | hm
      · exact h4 p (List.mem_append_left _ hm)
      · rcases List.mem_cons.1 hm with rfl | hm
        · exact h4 (k, [x0, x1, x2]) (by simp)
        · exact h4 p (List.mem_append_right _ (List.mem_cons_of_mem _ hm))⟩

theorem HeldZ.r0 {v : Value} {m : List Px} (h : HeldZ w W l ((v, m) :: rs)) : RowV w W l v m := h.rows (v, m) (List.mem_cons_self ..)
theorem HeldZ.put {g c : Nat} {m : List Px} {n : Nat} (h : HeldZ w W l [(.slice (some ⟨g, 0, none⟩) n c, m)]) {o : Nat} (ho : o < m.length) (p : Px) : HeldZ w (putP W g (o * 4) 0 p) l [(.slice (some ⟨g, 0, none⟩) n c, m.set o p)] := by
  rcases h.r0 with ⟨rfl, e⟩ | ⟨g', c', e, h1, h2, h3, h5, h4⟩
  · simp at ho
  · injection e with e1 e2 e3
    injection e1 with e1
    injection e1 with e4
    subst e2 e3 e4
    refine ⟨h.held.grown (grown_putP W g (o * 4) 0 p) h5 h4, fun r hr => ?_⟩
    obtain rfl := List.mem_singleton.1 hr
    exact .inr ⟨g, c, by rw [List.length_set], by rw [List.length_set]; exact h1, h2, h3.put (o := o) (j := 0) ho p, h5, h4⟩

end

def HeldQ (w W : World) (x y : Option (Nat × List Value)) (l : List (Nat × List Value)) (rs : List (Value × List Px)) : Prop := HeldZ w W (x.toList ++ y.toList ++ l) rs

section
variable {w W W' : World} {l : List (Nat × List Value)} {rs : List (Value × List Px)} {x y : Option (Nat × List Value)} {M N : Nat} {x0 x1 x2 y0 y1 y2 : Value}
theorem HeldQ.step (h : HeldQ w W x y l rs) (hb : Below W.heap.size W W') : HeldQ w W' x y l rs := HeldZ.step h hb
theorem HeldQ.call (h : HeldQ w W x y l rs) (hb : Below W.heap.size W W') {v : Value} {m : List Px} (hr : Res W W' v m) : HeldQ w W' x y l ((v, m) :: rs) := HeldZ.call h hb hr
end

end Go.Proofs.YthedglfocjljjaaGreatDoor
namespace Go.Proofs.YthedglfocjljjaaGreatDoor
open Go.RowKit

theorem heldS (w : World) (a b : Int) (v : Value) : Held w ((w.alloc (.cells #[.int .i64 a, .int .i64 b, v] 42)).alloc (.cells #[.int .i64 0, .int .i64 0, .slice none 0 0] 42)) [(w.heap.size + 1, [.int .i64 0, .int .i64 0, .slice none 0 0]), (w.heap.size, [.int .i64 a, .int .i64 b, v])] := by
  have h := ((Held.nil w).alloc [.int .i64 a, .int .i64 b, v] 42).alloc [.int .i64 0, .int .i64 0, .slice none 0 0] 42
  rw [World.size_alloc] at h
  exact h

theorem near_int {x n m : Nat} : ((2 * (x : Int) + 1) * (n : Int)) / (2 * (m : Int)) = ((nrsI x n m : Nat) : Int) := by
  unfold nrsI
  rw [Int.natCast_ediv, Int.natCast_mul, Int.natCast_mul]
  rfl

theorem near_next {a b p q x y : Nat} (l : List Px) (hx : x < p) (hy : y < q) : (nearL a b l p q).take (y * p + x + 1) = (nearL a b l p q).take (y * p + x) ++ [l.getD (nrsI y b q * a + nrsI x a p) zeroPx] := by
  have hk := idx_lt hx hy
  rw [take_next (by rw [near_len]; exact hk)]
  unfold nearL
  rw [tab_getD _ _ hk, idx_mod hx, idx_div hx]

set_option maxRecDepth 100000 in
set_option maxHeartbeats 8000000 in
theorem rnear_good {a b p q : Nat} {v : Value} {l : List Px} {w : World} (h : Pxs w v l) (hv : Vld a b l) (hp : 1 ≤ p ∧ p ≤ 256) (hq : 1 ≤ q ∧ q ≤ 256) : Calls Tryz.prog 55 #[.agg #[.int .i64 (a : Int), .int .i64 (b : Int), v], .int .i64 (p : Int), .int .i64 (q : Int)] w (Outs p q (nearL a b l p q) 0 w) := by
  have H := Lib.hid h
  have C1 := fun W (hb : Below w.heap.size w W) => Lib.hid (rcheck_any (a : Int) (b : Int) (p : Int) (q : Int) (H.out.below hb))
  have e0 : chkE a b l p q = 0 := by
    unfold chkE
    rw [if_pos hv.vBuf, if_pos (siz_iff.2 ⟨by omega, by omega⟩)]
  rw [e0] at C1
  obtain ⟨A, c, rfl, hc1, hc2, hcell⟩ := h
  have J := Lib.hid (heldS w a b (.slice A l.length c))
  obtain ⟨h0, h6⟩ := hv.small
  obtain ⟨bb, off, rfl, hbb, hcs⟩ := hcell h0
  have HCS := Lib.hid hcs
  have hms : p * q ≤ 65536 := mul_small hp.2 hq.2
  have hms1 := pos_mul hp.1 hq.1
  have HNX := fun x y hx hy => Lib.hid (near_next (a := a) (b := b) (p := p) (q := q) (x := x) (y := y) l hx hy)
  have HL := Lib.hid (near_len a b l p q)
  have HV := Lib.hid hv
  obtain ⟨hp1, hp2⟩ := hp
  obtain ⟨hq1, hq2⟩ := hq
  have ha1 := hv.a1
  have ha2 := hv.a2
  have hb1 := hv.b1
  have hb2 := hv.b2
  unfold Outs
  generalize nearL a b l p q = O at *
  obtain ⟨n, hn⟩ : ∃ n, l.length = n := ⟨_, rfl⟩
  have HN := Lib.hid hn
  have hnab := Lib.hid (hn.symm.trans hv.len)
  rw [hn] at J C1 hc1 h6 ⊢
  clear hcell hv e0 hcs hn hc2 H h0
  go_enter Tryz.func55, Tryz.ntmps55
  go_wp2_with fail
  refine (C1 _ J.out.below).out.mono ?_
  rintro e w1 ⟨rfl, hb⟩
  replace J := Lib.hid (J.out.step hb)
  clear hb C1
  go_wp2_with fail
  have hkm := (J.out.tri (l1 := [])).2.2.2.2
  have hwb := J.out.below.size
  have G : Hid (OwnP (w1.alloc (.cells #[.int .i64 (p : Int), .int .i64 (q : Int), .slice none 0 0] 42)) (w1.heap.size + 1) (.slice none 0 0) (O.take (0 * p)) ∧ Held w (w1.alloc (.cells #[.int .i64 (p : Int), .int .i64 (q : Int), .slice none 0 0] 42)) ((w1.heap.size, [.int .i64 (p : Int), .int .i64 (q : Int), .slice none 0 0]) :: [(w.heap.size + 1, [.int .i64 0, .int .i64 0, .slice none 0 0]), (w.heap.size, [.int .i64 (a : Int), .int .i64 (b : Int), .slice (some ⟨bb, off, none⟩) n c])])) := Lib.hid ⟨by rw [Nat.zero_mul, List.take_zero]; exact ownP_nil _ _, J.out.alloc [.int .i64 (p : Int), .int .i64 (q : Int), .slice none 0 0] 42⟩
  generalize w1.alloc (.cells #[.int .i64 (p : Int), .int .i64 (q : Int), .slice none 0 0] 42) = w3 at *
  generalize w1.heap.size = mm at *
  have HLT : ∀ vs : List Value, Hid (∀ z ∈ ((mm, vs) :: [(w.heap.size + 1, [.int .i64 0, .int .i64 0, .slice none 0 0]), (w.heap.size, [.int .i64 (a : Int), .int .i64 (b : Int), .slice (some ⟨bb, off, none⟩) n c])] : List (Nat × List Value)), z.1 < mm + 1) := fun vs => Lib.hid (fun z hz => by
    simp only [List.mem_cons, List.not_mem_nil, or_false] at hz
    rcases hz with rfl | rfl | rfl
    · simp
    · simp only; omega
    · simp only; omega)
  clear J
  go_loopw [10] (fun s10 wr => ∃ (y : Nat) (A1 : Option Addr) (k1 c1 : Nat), y ≤ q ∧ s10 = .int .i64 (y : Int) ∧ Hid (OwnP wr (mm + 1) (.slice A1 k1 c1) (O.take (y * p)) ∧ Held w wr ((mm, [.int .i64 (p : Int), .int .i64 (q : Int), .slice A1 k1 c1]) :: [(w.heap.size + 1, [.int .i64 0, .int .i64 0, .slice none 0 0]), (w.heap.size, [.int .i64 (a : Int), .int .i64 (b : Int), .slice (some ⟨bb, off, none⟩) n c])]))) (fun s10 _ => leftN q s10)
  case atStart => exact ⟨0, none, 0, 0, Nat.zero_le _, rfl, G⟩
  case round =>
    obtain ⟨y, A1, k1, c1, hy, rfl, HR⟩ := hrel
    by_cases hlt : y < q
    · have q1 : (y : Int) < q := by omega
      obtain ⟨wu, rfl⟩ : ∃ z, z = wr := ⟨_, rfl⟩
      go_wp2_with fail
      go_loopw [11] (fun s11 wr => ∃ (x : Nat) (A1 : Option Addr) (k1 c1 : Nat), x ≤ p ∧ s11 = .int .i64 (x : Int) ∧ Hid (OwnP wr (mm + 1) (.slice A1 k1 c1) (O.take (y * p + x)) ∧ Held w wr ((mm, [.int .i64 (p : Int), .int .i64 (q : Int), .slice A1 k1 c1]) :: [(w.heap.size + 1, [.int .i64 0, .int .i64 0, .slice none 0 0]), (w.heap.size, [.int .i64 (a : Int), .int .i64 (b : Int), .slice (some ⟨bb, off, none⟩) n c])]))) (fun s11 _ => leftN p s11)
      case atStart => exact ⟨0, A1, k1, c1, Nat.zero_le _, rfl, HR⟩
      case round =>
        clear HR
        obtain ⟨x, A1, k1, c1, hx, rfl, HS⟩ := hrel
        by_cases hxl : x < p
        · have q2 : (x : Int) < p := by omega
          have hnx := HNX x y hxl hlt
          have hry := near_lt hlt hb1
          have hrx := near_lt hxl ha1
          have hK := idx_lt hrx hry
          have i1 := near_int (x := y) (n := b) (m := q)
          have i2 := near_int (x := x) (n := a) (m := p)
          obtain ⟨K, hKK⟩ : ∃ K, nrsI y b q * a + nrsI x a p = K := ⟨_, rfl⟩
          rw [hKK] at hnx hK
          rw [← hnab.out] at hK
          obtain ⟨Mi, hMi⟩ : ∃ Mi : Int, ((nrsI y b q * a : Nat) : Int) = Mi := ⟨_, rfl⟩
          have hMb : nrsI y b q * a ≤ 65536 := Nat.le_trans (Nat.le_of_lt (Nat.lt_of_le_of_lt (by omega) hK)) h6
          generalize nrsI y b q = ry at *
          generalize nrsI x a p = rx at *
          have p1 : (2 * (y : Int) + 1) * (b : Int) ≤ 200000 := Int.le_trans (Int.mul_le_mul (a := 2 * (y : Int) + 1) (b := (b : Int)) (c := 600) (d := 256) (by omega) (by omega) (by omega) (by omega)) (by omega)
          have p2 : (2 * (x : Int) + 1) * (a : Int) ≤ 200000 := Int.le_trans (Int.mul_le_mul (a := 2 * (x : Int) + 1) (b := (a : Int)) (c := 600) (d := 256) (by omega) (by omega) (by omega) (by omega)) (by omega)
          have p3 : 0 ≤ (2 * (y : Int) + 1) * (b : Int) := Int.mul_nonneg (by omega) (by omega)
          have p4 : 0 ≤ (2 * (x : Int) + 1) * (a : Int) := Int.mul_nonneg (by omega) (by omega)
          obtain ⟨Y3, hY3⟩ : ∃ Y3 : Int, 2 * (y : Int) + 1 = Y3 := ⟨_, rfl⟩
          obtain ⟨X3, hX3⟩ : ∃ X3 : Int, 2 * (x : Int) + 1 = X3 := ⟨_, rfl⟩
          obtain ⟨Y2, hY2⟩ : ∃ Y2 : Int, 2 * (y : Int) = Y2 := ⟨_, rfl⟩
          obtain ⟨X2, hX2⟩ : ∃ X2 : Int, 2 * (x : Int) = X2 := ⟨_, rfl⟩
          obtain ⟨Q2, hQ2⟩ : ∃ Q2 : Int, 2 * (q : Int) = Q2 := ⟨_, rfl⟩
          obtain ⟨P2, hP2⟩ : ∃ P2 : Int, 2 * (p : Int) = P2 := ⟨_, rfl⟩
          rw [hY3] at i1 p1 p3
          rw [hX3] at i2 p2 p4
          rw [hQ2] at i1
          rw [hP2] at i2
          obtain ⟨T1, hT1⟩ : ∃ T1 : Int, Y3 * (b : Int) = T1 := ⟨_, rfl⟩
          obtain ⟨T2, hT2⟩ : ∃ T2 : Int, X3 * (a : Int) = T2 := ⟨_, rfl⟩
          rw [hT1] at i1 p1 p3
          rw [hT2] at i2 p2 p4
          have F := Lib.hid (show IntKind.i64.wrap (2 * (y : Int)) = Y2 ∧ IntKind.i64.wrap (2 * (x : Int)) = X2 ∧ IntKind.i64.wrap (2 * (q : Int)) = Q2 ∧ IntKind.i64.wrap (2 * (p : Int)) = P2 ∧ IntKind.i64.wrap (Y2 + 1) = Y3 ∧ IntKind.i64.wrap (X2 + 1) = X3 ∧ IntKind.i64.wrap (Y3 * (b : Int)) = T1 ∧ IntKind.i64.wrap (X3 * (a : Int)) = T2 ∧ IntKind.i64.wrap (T1.tdiv Q2) = (ry : Int) ∧ IntKind.i64.wrap (T2.tdiv P2) = (rx : Int) ∧ IntKind.i64.wrap ((ry : Int) * (a : Int)) = Mi ∧ IntKind.i64.wrap (Mi + (rx : Int)) = (K : Int) from by
            refine ⟨?_, ?_, ?_, ?_, ?_, ?_, ?_, ?_, ?_, ?_, ?_, ?_⟩
            · rw [IntWalk.i64_in _ (by omega)]; exact hY2
            · rw [IntWalk.i64_in _ (by omega)]; exact hX2
            · rw [IntWalk.i64_in _ (by omega)]; exact hQ2
            · rw [IntWalk.i64_in _ (by omega)]; exact hP2
            · rw [IntWalk.i64_in _ (by omega)]; omega
            · rw [IntWalk.i64_in _ (by omega)]; omega
            · rw [hT1]; exact IntWalk.i64_in _ (by omega)
            · rw [hT2]; exact IntWalk.i64_in _ (by omega)
            · rw [Int.tdiv_eq_ediv_of_nonneg p3, i1]; exact IntWalk.i64_in _ (by omega)
            · rw [Int.tdiv_eq_ediv_of_nonneg p4, i2]; exact IntWalk.i64_in _ (by omega)
            · rw [← Int.natCast_mul, hMi]; exact IntWalk.i64_in _ (by omega)
            · rw [IntWalk.i64_in _ (by omega)]; omega)
          have g1 : Q2 ≠ 0 := by omega
          have g2 : P2 ≠ 0 := by omega
          obtain ⟨px, hpx⟩ : ∃ px, l[K]? = some px := ⟨_, List.getElem?_eq_getElem (by rw [HN.out]; exact hK)⟩
          have hgd : l.getD K zeroPx = px := getD_of hpx
          rw [hgd] at hnx
          obtain ⟨d0, d1, d2, _, dt⟩ := HS.out.2.tri (l1 := [_, _])
          obtain ⟨m0, m1, m2, _, mt⟩ := HS.out.2.tri (l1 := [])
          have cB := Lib.hid (HCS.out K px hpx)
          have hlen := Lib.hid (show (O.take (y * p + x)).length + [px].length ≤ 4000000 by
            have := hms
            rw [List.length_take, HL.out, List.length_singleton]
            omega)
          generalize hLk : O.take (y * p + x) = Lk at *
          have hnx2 : Hid (O.take (y * p + (x + 1)) = Lk ++ [px]) := Lib.hid (by rw [← hnx.out, Nat.add_assoc])
          have k0 : (0 : Int) ≤ K := by omega
          have kn : (K : Int) < n := by omega
          clear hnx hLk hgd hpx hKK hMi hMb hP2 hry hrx hK i1 i2 HNX hY3 hX3 hY2 hX2 hQ2 hT1 hT2 p1 p2 p3 p4
          obtain ⟨f1, f2, f3, f4, f5, f6, f7, f8, f9, f10, f11, f12⟩ := F.out
          go_wp2_with fail
          have J := Lib.hid HS.out.2.drew
          have Ow : Hid (OwnP wr.drew (mm + 1) (.slice A1 k1 c1) Lk) := Lib.hid HS.out.1
          have cA := fun W (hb : Below w.heap.size w W) => Lib.hid (cB.out.keep hb hbb)
          have sk := And.intro (J.out.three (l1 := [_, _])) (cA _ J.out.below).out
          clear HS d0 d1 d2 dt m0 m1 m2 mt
          refine wp_region_held_drew (S := (fun W => (W.cell? ⟨w.heap.size, 0, none⟩ = some (.int .i64 (a : Int)) ∧ W.cell? ⟨w.heap.size, 1, none⟩ = some (.int .i64 (b : Int)) ∧ W.cell? ⟨w.heap.size, 2, none⟩ = some (.slice (some ⟨bb, off, none⟩) n c)) ∧ (W.cell? ⟨bb, off + K * 4, none⟩ = some (.int .u8 (px.r : Int)) ∧ W.cell? ⟨bb, off + K * 4 + 1, none⟩ = some (.int .u8 (px.g : Int)) ∧ W.cell? ⟨bb, off + K * 4 + 2, none⟩ = some (.int .u8 (px.b : Int)) ∧ W.cell? ⟨bb, off + K * 4 + 3, none⟩ = some (.int .u8 (px.a : Int))))) (by kernel_rfl) sk (fun hHeld => ?_)
          generalize wr.drew = u0 at *
          refine wpAnyH_take (i := 0) (oi := ({ dst := some 33, op := Go.Op.fieldAddr 42 (Go.Operand.tmp 9) 2, type := 0, pos := "ref.go:45", after := #[], guard := none } : Oper)) (v := ?_) rfl (by kernel_rfl) (by kernel_rfl) (by kernel_rfl) (fun _ _ _ h => h) (Or.inl ⟨by kernel_rfl, ?_⟩) hHeld ?_
          rotate_left 1
          · (intro W hSw; (try dsimp only at hSw); go_simp; try with_reducible rfl)
          try simp only [Act.put, List.setIfInBounds_toArray, List.set_cons_zero, List.set_cons_succ]
          refine wpAnyH_take (i := 2) (oi := ({ dst := some 35, op := Go.Op.fieldAddr 42 (Go.Operand.tmp 3) 2, type := 0, pos := "ref.go:45", after := #[], guard := none } : Oper)) (v := ?_) rfl (by kernel_rfl) (by kernel_rfl) (by kernel_rfl) (fun _ _ _ h => h) (Or.inl ⟨by kernel_rfl, ?_⟩) hHeld ?_
          rotate_left 1
          · (intro W hSw; (try dsimp only at hSw); go_simp; try with_reducible rfl)
          try simp only [Act.put, List.setIfInBounds_toArray, List.set_cons_zero, List.set_cons_succ]
          refine wpAnyH_take (i := 3) (oi := ({ dst := some 36, op := Go.Op.load 40 (Go.Operand.tmp 35), type := 40, pos := "ref.go:45", after := #[{ on := 2, ground := Go.Ground.data }], guard := none } : Oper)) (v := ?_) rfl (by kernel_rfl) (by kernel_rfl) (by kernel_rfl) (fun _ _ _ h => h) (Or.inl ⟨by kernel_rfl, ?_⟩) hHeld ?_
          rotate_left 1
          · (intro W hSw; (try dsimp only at hSw); go_simp; try with_reducible rfl)
          try simp only [Act.put, List.setIfInBounds_toArray, List.set_cons_zero, List.set_cons_succ]
          refine wpAnyH_take (i := 4) (oi := ({ dst := some 37, op := Go.Op.move (Go.Operand.tmp 10), type := 3, pos := "ref.go:45", after := #[], guard := none } : Oper)) (v := ?_) rfl (by kernel_rfl) (by kernel_rfl) (by kernel_rfl) (fun _ _ _ h => h) (Or.inl ⟨by kernel_rfl, ?_⟩) hHeld ?_
          rotate_left 1
          · (intro W hSw; (try dsimp only at hSw); go_simp; try with_reducible rfl)
          try simp only [Act.put, List.setIfInBounds_toArray, List.set_cons_zero, List.set_cons_succ]
          refine wpAnyH_take (i := 5) (oi := ({ dst := some 38, op := Go.Op.binOp Go.BinOp.mul 3 (Go.Operand.const (Go.Value.int Go.IntKind.i64 2)) (Go.Operand.tmp 37) 3, type := 3, pos := "ref.go:45", after := #[{ on := 4, ground := Go.Ground.data }], guard := none } : Oper)) (v := ?_) rfl (by kernel_rfl) (by kernel_rfl) (by kernel_rfl) (fun _ _ _ h => h) (Or.inl ⟨by kernel_rfl, ?_⟩) hHeld ?_
          rotate_left 1
          · (intro W hSw; (try dsimp only at hSw); go_simp; try with_reducible rfl)
          try simp only [Act.put, List.setIfInBounds_toArray, List.set_cons_zero, List.set_cons_succ]
          refine wpAnyH_take (i := 6) (oi := ({ dst := some 39, op := Go.Op.binOp Go.BinOp.add 3 (Go.Operand.tmp 38) (Go.Operand.const (Go.Value.int Go.IntKind.i64 1)) 3, type := 3, pos := "ref.go:45", after := #[{ on := 5, ground := Go.Ground.data }], guard := none } : Oper)) (v := ?_) rfl (by kernel_rfl) (by kernel_rfl) (by kernel_rfl) (fun _ _ _ h => h) (Or.inl ⟨by kernel_rfl, ?_⟩) hHeld ?_
          rotate_left 1
          · (intro W hSw; (try dsimp only at hSw); go_simp; try with_reducible rfl)
          try simp only [Act.put, List.setIfInBounds_toArray, List.set_cons_zero, List.set_cons_succ]
          refine wpAnyH_take (i := 7) (oi := ({ dst := some 40, op := Go.Op.fieldAddr 42 (Go.Operand.tmp 3) 1, type := 0, pos := "ref.go:45", after := #[], guard := none } : Oper)) (v := ?_) rfl (by kernel_rfl) (by kernel_rfl) (by kernel_rfl) (fun _ _ _ h => h) (Or.inl ⟨by kernel_rfl, ?_⟩) hHeld ?_
          rotate_left 1
          · (intro W hSw; (try dsimp only at hSw); go_simp; try with_reducible rfl)
          try simp only [Act.put, List.setIfInBounds_toArray, List.set_cons_zero, List.set_cons_succ]
          refine wpAnyH_take (i := 8) (oi := ({ dst := some 41, op := Go.Op.load 3 (Go.Operand.tmp 40), type := 3, pos := "ref.go:45", after := #[{ on := 7, ground := Go.Ground.data }], guard := none } : Oper)) (v := ?_) rfl (by kernel_rfl) (by kernel_rfl) (by kernel_rfl) (fun _ _ _ h => h) (Or.inl ⟨by kernel_rfl, ?_⟩) hHeld ?_
          rotate_left 1
          · (intro W hSw; (try dsimp only at hSw); go_simp; try with_reducible rfl)
          try simp only [Act.put, List.setIfInBounds_toArray, List.set_cons_zero, List.set_cons_succ]
          refine wpAnyH_take (i := 9) (oi := ({ dst := some 42, op := Go.Op.binOp Go.BinOp.mul 3 (Go.Operand.tmp 39) (Go.Operand.tmp 41) 3, type := 3, pos := "ref.go:45", after := #[{ on := 6, ground := Go.Ground.data }, { on := 8, ground := Go.Ground.data }], guard := none } : Oper)) (v := ?_) rfl (by kernel_rfl) (by kernel_rfl) (by kernel_rfl) (fun _ _ _ h => h) (Or.inl ⟨by kernel_rfl, ?_⟩) hHeld ?_
          rotate_left 1
          · (intro W hSw; (try dsimp only at hSw); go_simp; try with_reducible rfl)
          try simp only [Act.put, List.setIfInBounds_toArray, List.set_cons_zero, List.set_cons_succ]
          refine wpAnyH_take (i := 10) (oi := ({ dst := some 43, op := Go.Op.move (Go.Operand.tmp 2), type := 3, pos := "ref.go:45", after := #[], guard := none } : Oper)) (v := ?_) rfl (by kernel_rfl) (by kernel_rfl) (by kernel_rfl) (fun _ _ _ h => h) (Or.inl ⟨by kernel_rfl, ?_⟩) hHeld ?_
          rotate_left 1
          · (intro W hSw; (try dsimp only at hSw); go_simp; try with_reducible rfl)
          try simp only [Act.put, List.setIfInBounds_toArray, List.set_cons_zero, List.set_cons_succ]
          refine wpAnyH_take (i := 11) (oi := ({ dst := some 44, op := Go.Op.binOp Go.BinOp.mul 3 (Go.Operand.const (Go.Value.int Go.IntKind.i64 2)) (Go.Operand.tmp 43) 3, type := 3, pos := "ref.go:45", after := #[{ on := 10, ground := Go.Ground.data }], guard := none } : Oper)) (v := ?_) rfl (by kernel_rfl) (by kernel_rfl) (by kernel_rfl) (fun _ _ _ h => h) (Or.inl ⟨by kernel_rfl, ?_⟩) hHeld ?_
          rotate_left 1
          · (intro W hSw; (try dsimp only at hSw); go_simp; try with_reducible rfl)
          try simp only [Act.put, List.setIfInBounds_toArray, List.set_cons_zero, List.set_cons_succ]
          refine wpAnyH_take (i := 12) (oi := ({ dst := some 45, op := Go.Op.binOp Go.BinOp.quo 3 (Go.Operand.tmp 42) (Go.Operand.tmp 44) 3, type := 3, pos := "ref.go:45", after := #[{ on := 9, ground := Go.Ground.data }, { on := 11, ground := Go.Ground.data }], guard := none } : Oper)) (v := ?_) rfl (by kernel_rfl) (by kernel_rfl) (by kernel_rfl) (fun _ _ _ h => h) (Or.inl ⟨by kernel_rfl, ?_⟩) hHeld ?_
          rotate_left 1
          · (intro W hSw; (try dsimp only at hSw); go_simp; try with_reducible rfl)
          try simp only [Act.put, List.setIfInBounds_toArray, List.set_cons_zero, List.set_cons_succ]
          refine wpAnyH_take (i := 13) (oi := ({ dst := some 46, op := Go.Op.fieldAddr 42 (Go.Operand.tmp 3) 0, type := 0, pos := "ref.go:45", after := #[], guard := none } : Oper)) (v := ?_) rfl (by kernel_rfl) (by kernel_rfl) (by kernel_rfl) (fun _ _ _ h => h) (Or.inl ⟨by kernel_rfl, ?_⟩) hHeld ?_
          rotate_left 1
          · (intro W hSw; (try dsimp only at hSw); go_simp; try with_reducible rfl)
          try simp only [Act.put, List.setIfInBounds_toArray, List.set_cons_zero, List.set_cons_succ]
          refine wpAnyH_take (i := 14) (oi := ({ dst := some 47, op := Go.Op.load 3 (Go.Operand.tmp 46), type := 3, pos := "ref.go:45", after := #[{ on := 13, ground := Go.Ground.data }], guard := none } : Oper)) (v := ?_) rfl (by kernel_rfl) (by kernel_rfl) (by kernel_rfl) (fun _ _ _ h => h) (Or.inl ⟨by kernel_rfl, ?_⟩) hHeld ?_
          rotate_left 1
          · (intro W hSw; (try dsimp only at hSw); go_simp; try with_reducible rfl)
          try simp only [Act.put, List.setIfInBounds_toArray, List.set_cons_zero, List.set_cons_succ]
          refine wpAnyH_take (i := 15) (oi := ({ dst := some 48, op := Go.Op.binOp Go.BinOp.mul 3 (Go.Operand.tmp 45) (Go.Operand.tmp 47) 3, type := 3, pos := "ref.go:45", after := #[{ on := 12, ground := Go.Ground.data }, { on := 14, ground := Go.Ground.data }], guard := none } : Oper)) (v := ?_) rfl (by kernel_rfl) (by kernel_rfl) (by kernel_rfl) (fun _ _ _ h => h) (Or.inl ⟨by kernel_rfl, ?_⟩) hHeld ?_
          rotate_left 1
          · (intro W hSw; (try dsimp only at hSw); go_simp; try with_reducible rfl)
          try simp only [Act.put, List.setIfInBounds_toArray, List.set_cons_zero, List.set_cons_succ]
          refine wpAnyH_take (i := 16) (oi := ({ dst := some 49, op := Go.Op.move (Go.Operand.tmp 11), type := 3, pos := "ref.go:45", after := #[], guard := none } : Oper)) (v := ?_) rfl (by kernel_rfl) (by kernel_rfl) (by kernel_rfl) (fun _ _ _ h => h) (Or.inl ⟨by kernel_rfl, ?_⟩) hHeld ?_
          rotate_left 1
          · (intro W hSw; (try dsimp only at hSw); go_simp; try with_reducible rfl)
          try simp only [Act.put, List.setIfInBounds_toArray, List.set_cons_zero, List.set_cons_succ]
          refine wpAnyH_take (i := 17) (oi := ({ dst := some 50, op := Go.Op.binOp Go.BinOp.mul 3 (Go.Operand.const (Go.Value.int Go.IntKind.i64 2)) (Go.Operand.tmp 49) 3, type := 3, pos := "ref.go:45", after := #[{ on := 16, ground := Go.Ground.data }], guard := none } : Oper)) (v := ?_) rfl (by kernel_rfl) (by kernel_rfl) (by kernel_rfl) (fun _ _ _ h => h) (Or.inl ⟨by kernel_rfl, ?_⟩) hHeld ?_
          rotate_left 1
          · (intro W hSw; (try dsimp only at hSw); go_simp; try with_reducible rfl)
          try simp only [Act.put, List.setIfInBounds_toArray, List.set_cons_zero, List.set_cons_succ]
          refine wpAnyH_take (i := 18) (oi := ({ dst := some 51, op := Go.Op.binOp Go.BinOp.add 3 (Go.Operand.tmp 50) (Go.Operand.const (Go.Value.int Go.IntKind.i64 1)) 3, type := 3, pos := "ref.go:45", after := #[{ on := 17, ground := Go.Ground.data }], guard := none } : Oper)) (v := ?_) rfl (by kernel_rfl) (by kernel_rfl) (by kernel_rfl) (fun _ _ _ h => h) (Or.inl ⟨by kernel_rfl, ?_⟩) hHeld ?_
          rotate_left 1
          · (intro W hSw; (try dsimp only at hSw); go_simp; try with_reducible rfl)
          try simp only [Act.put, List.setIfInBounds_toArray, List.set_cons_zero, List.set_cons_succ]
          refine wpAnyH_take (i := 19) (oi := ({ dst := some 52, op := Go.Op.fieldAddr 42 (Go.Operand.tmp 3) 0, type := 0, pos := "ref.go:45", after := #[], guard := none } : Oper)) (v := ?_) rfl (by kernel_rfl) (by kernel_rfl) (by kernel_rfl) (fun _ _ _ h => h) (Or.inl ⟨by kernel_rfl, ?_⟩) hHeld ?_
          rotate_left 1
          · (intro W hSw; (try dsimp only at hSw); go_simp; try with_reducible rfl)
          try simp only [Act.put, List.setIfInBounds_toArray, List.set_cons_zero, List.set_cons_succ]
          refine wpAnyH_take (i := 20) (oi := ({ dst := some 53, op := Go.Op.load 3 (Go.Operand.tmp 52), type := 3, pos := "ref.go:45", after := #[{ on := 19, ground := Go.Ground.data }], guard := none } : Oper)) (v := ?_) rfl (by kernel_rfl) (by kernel_rfl) (by kernel_rfl) (fun _ _ _ h => h) (Or.inl ⟨by kernel_rfl, ?_⟩) hHeld ?_
          rotate_left 1
          · (intro W hSw; (try dsimp only at hSw); go_simp; try with_reducible rfl)
          try simp only [Act.put, List.setIfInBounds_toArray, List.set_cons_zero, List.set_cons_succ]
          refine wpAnyH_take (i := 21) (oi := ({ dst := some 54, op := Go.Op.binOp Go.BinOp.mul 3 (Go.Operand.tmp 51) (Go.Operand.tmp 53) 3, type := 3, pos := "ref.go:45", after := #[{ on := 18, ground := Go.Ground.data }, { on := 20, ground := Go.Ground.data }], guard := none } : Oper)) (v := ?_) rfl (by kernel_rfl) (by kernel_rfl) (by kernel_rfl) (fun _ _ _ h => h) (Or.inl ⟨by kernel_rfl, ?_⟩) hHeld ?_
          rotate_left 1
          · (intro W hSw; (try dsimp only at hSw); go_simp; try with_reducible rfl)
          try simp only [Act.put, List.setIfInBounds_toArray, List.set_cons_zero, List.set_cons_succ]
          refine wpAnyH_take (i := 22) (oi := ({ dst := some 55, op := Go.Op.move (Go.Operand.tmp 1), type := 3, pos := "ref.go:45", after := #[], guard := none } : Oper)) (v := ?_) rfl (by kernel_rfl) (by kernel_rfl) (by kernel_rfl) (fun _ _ _ h => h) (Or.inl ⟨by kernel_rfl, ?_⟩) hHeld ?_
          rotate_left 1
          · (intro W hSw; (try dsimp only at hSw); go_simp; try with_reducible rfl)
          try simp only [Act.put, List.setIfInBounds_toArray, List.set_cons_zero, List.set_cons_succ]
          refine wpAnyH_take (i := 23) (oi := ({ dst := some 56, op := Go.Op.binOp Go.BinOp.mul 3 (Go.Operand.const (Go.Value.int Go.IntKind.i64 2)) (Go.Operand.tmp 55) 3, type := 3, pos := "ref.go:45", after := #[{ on := 22, ground := Go.Ground.data }], guard := none } : Oper)) (v := ?_) rfl (by kernel_rfl) (by kernel_rfl) (by kernel_rfl) (fun _ _ _ h => h) (Or.inl ⟨by kernel_rfl, ?_⟩) hHeld ?_
          rotate_left 1
          · (intro W hSw; (try dsimp only at hSw); go_simp; try with_reducible rfl)
          try simp only [Act.put, List.setIfInBounds_toArray, List.set_cons_zero, List.set_cons_succ]
          refine wpAnyH_take (i := 24) (oi := ({ dst := some 57, op := Go.Op.binOp Go.BinOp.quo 3 (Go.Operand.tmp 54) (Go.Operand.tmp 56) 3, type := 3, pos := "ref.go:45", after := #[{ on := 21, ground := Go.Ground.data }, { on := 23, ground := Go.Ground.data }], guard := none } : Oper)) (v := ?_) rfl (by kernel_rfl) (by kernel_rfl) (by kernel_rfl) (fun _ _ _ h => h) (Or.inl ⟨by kernel_rfl, ?_⟩) hHeld ?_
          rotate_left 1
          · (intro W hSw; (try dsimp only at hSw); go_simp; try with_reducible rfl)
          try simp only [Act.put, List.setIfInBounds_toArray, List.set_cons_zero, List.set_cons_succ]
          refine wpAnyH_take (i := 25) (oi := ({ dst := some 58, op := Go.Op.binOp Go.BinOp.add 3 (Go.Operand.tmp 48) (Go.Operand.tmp 57) 3, type := 3, pos := "ref.go:45", after := #[{ on := 15, ground := Go.Ground.data }, { on := 24, ground := Go.Ground.data }], guard := none } : Oper)) (v := ?_) rfl (by kernel_rfl) (by kernel_rfl) (by kernel_rfl) (fun _ _ _ h => h) (Or.inl ⟨by kernel_rfl, ?_⟩) hHeld ?_
          rotate_left 1
          · (intro W hSw; (try dsimp only at hSw); go_simp; try with_reducible rfl)
          try simp only [Act.put, List.setIfInBounds_toArray, List.set_cons_zero, List.set_cons_succ]
          refine wpAnyH_take (i := 26) (oi := ({ dst := some 59, op := Go.Op.indexAddr 40 (Go.Operand.tmp 36) (Go.Operand.tmp 58), type := 0, pos := "ref.go:45", after := #[{ on := 3, ground := Go.Ground.data }, { on := 25, ground := Go.Ground.data }], guard := none } : Oper)) (v := ?_) rfl (by kernel_rfl) (by kernel_rfl) (by kernel_rfl) (fun _ _ _ h => h) (Or.inl ⟨by kernel_rfl, ?_⟩) hHeld ?_
          rotate_left 1
          · (intro W hSw; (try dsimp only at hSw); go_simp; try with_reducible rfl)
          try simp only [Act.put, List.setIfInBounds_toArray, List.set_cons_zero, List.set_cons_succ]
          refine wpAnyH_take (i := 27) (oi := ({ dst := some 60, op := Go.Op.load 58 (Go.Operand.tmp 59), type := 58, pos := "ref.go:45", after := #[{ on := 26, ground := Go.Ground.data }], guard := none } : Oper)) (v := ?_) rfl (by kernel_rfl) (by kernel_rfl) (by kernel_rfl) (fun _ _ _ h => h) (Or.inl ⟨by kernel_rfl, ?_⟩) hHeld ?_
          rotate_left 1
          · (intro W hSw; (try dsimp only at hSw); go_simp; try with_reducible rfl)
          try simp only [Act.put, List.setIfInBounds_toArray, List.set_cons_zero, List.set_cons_succ]
          refine wpAnyH_ready (rs := [1, 28]) (by kernel_rfl) (by simp) (AllReadyH.cons (o := ({ dst := some 34, op := Go.Op.load 40 (Go.Operand.tmp 33), type := 40, pos := "ref.go:45", after := #[{ on := 0, ground := Go.Ground.data }], guard := none } : Oper)) rfl (fun K hK => ?_) (AllReadyH.cons (o := ({ dst := some 61, op := Go.Op.buildSlice 40 1 #[(0, Go.Operand.tmp 60)], type := 40, pos := "ref.go:45", after := #[{ on := 27, ground := Go.Ground.data }], guard := none } : Oper)) rfl (fun K hK => ?_) AllReadyH.nil))
          · obtain ⟨m0, m1, m2, _, mt⟩ := J.out.tri (l1 := [])
            go_simp
            clear m0 m1 m2 mt
            refine hK.out _ _ sk (fun hHeld2 => ?_)
            clear hK K hHeld
            have hHeld := hHeld2
            clear hHeld2
            try simp only [Act.put, List.setIfInBounds_toArray, List.set_cons_zero, List.set_cons_succ]
            refine wpAnyH_ready (rs := [28]) (by kernel_rfl) (by simp) (AllReadyH.cons (o := ({ dst := some 61, op := Go.Op.buildSlice 40 1 #[(0, Go.Operand.tmp 60)], type := 40, pos := "ref.go:45", after := #[{ on := 27, ground := Go.Ground.data }], guard := none } : Oper)) rfl (fun K hK => ?_) AllReadyH.nil)
            go_simp
            replace J := Lib.hid (J.out.made (.cells #[.int .u8 (px.r : Int), .int .u8 (px.g : Int), .int .u8 (px.b : Int), .int .u8 (px.a : Int)] 58))
            replace Ow := Lib.hid (Ow.out.alloc (.cells #[.int .u8 (px.r : Int), .int .u8 (px.g : Int), .int .u8 (px.b : Int), .int .u8 (px.a : Int)] 58))
            have P1 := Lib.hid (pxs_one u0 px)
            generalize u0.alloc (.cells #[.int .u8 (px.r : Int), .int .u8 (px.g : Int), .int .u8 (px.b : Int), .int .u8 (px.a : Int)] 58) = u1 at *
            generalize u0.heap.size = kb at *
            (try clear sk)
            have sk := And.intro (J.out.three (l1 := [_, _])) (cA _ J.out.below).out
            refine hK.out _ _ sk (fun hHeld2 => ?_)
            clear hK K hHeld
            have hHeld := hHeld2
            clear hHeld2
            try simp only [Act.put, List.setIfInBounds_toArray, List.set_cons_zero, List.set_cons_succ]
            refine wpAnyH_ready (rs := [29]) (by kernel_rfl) (by simp) (AllReadyH.cons (o := ({ dst := some 62, op := Go.Op.call { callee := Go.Callee.builtin Go.Builtin.append, args := #[Go.Operand.tmp 34, Go.Operand.tmp 61], argTypes := #[40, 40] }, type := 40, pos := "ref.go:45", after := #[{ on := 1, ground := Go.Ground.data }, { on := 28, ground := Go.Ground.data }], guard := none } : Oper)) rfl (fun K hK => ?_) AllReadyH.nil)
            refine step_appP (by rfl) _ _ (by rfl) (base := mm + 1) (l := Lk) (m := [px]) (by rfl) (by exact Ow.out) (by rfl) (by exact P1.out) (by exact hlen.out) (by exact (J.out.tri (l1 := [])).2.2.2.2) ?_
            intro v6 u2 ho6 hg6 _
            replace J := Lib.hid (J.out.grownO hg6 Ow.out (by omega) (HLT _).out)
            obtain ⟨A6, c6, rfl, _, _⟩ := ho6.pxs.shape
            rw [List.length_append, List.length_singleton] at ho6
            rw [← hnx2.out] at ho6
            have O6 := Lib.hid ho6
            clear ho6 hg6
            (try clear sk)
            have sk := And.intro (J.out.three (l1 := [_, _])) (cA _ J.out.below).out
            refine hK.out _ _ sk (fun hHeld2 => ?_)
            clear hK K hHeld
            have hHeld := hHeld2
            clear hHeld2
            try simp only [Act.put, List.setIfInBounds_toArray, List.set_cons_zero, List.set_cons_succ]
            refine wpAnyH_take (i := 30) (oi := ({ dst := some 63, op := Go.Op.fieldAddr 42 (Go.Operand.tmp 9) 2, type := 0, pos := "ref.go:45", after := #[{ on := 0, ground := Go.Ground.phase }, { on := 1, ground := Go.Ground.phase }, { on := 2, ground := Go.Ground.phase }, { on := 3, ground := Go.Ground.phase }, { on := 4, ground := Go.Ground.phase }, { on := 5, ground := Go.Ground.phase }, { on := 6, ground := Go.Ground.phase }, { on := 7, ground := Go.Ground.phase }, { on := 8, ground := Go.Ground.phase }, { on := 9, ground := Go.Ground.phase }, { on := 10, ground := Go.Ground.phase }, { on := 11, ground := Go.Ground.phase }, { on := 12, ground := Go.Ground.phase }, { on := 13, ground := Go.Ground.phase }, { on := 14, ground := Go.Ground.phase }, { on := 15, ground := Go.Ground.phase }, { on := 16, ground := Go.Ground.phase }, { on := 17, ground := Go.Ground.phase }, { on := 18, ground := Go.Ground.phase }, { on := 19, ground := Go.Ground.phase }, { on := 20, ground := Go.Ground.phase }, { on := 21, ground := Go.Ground.phase }, { on := 22, ground := Go.Ground.phase }, { on := 23, ground := Go.Ground.phase }, { on := 24, ground := Go.Ground.phase }, { on := 25, ground := Go.Ground.phase }, { on := 26, ground := Go.Ground.phase }, { on := 27, ground := Go.Ground.phase }, { on := 28, ground := Go.Ground.phase }, { on := 29, ground := Go.Ground.phase }], guard := none } : Oper)) (v := ?_) rfl (by kernel_rfl) (by kernel_rfl) (by kernel_rfl) (fun _ _ _ h => h) (Or.inl ⟨by kernel_rfl, ?_⟩) hHeld ?_
            rotate_left 1
            · (intro W hSw; (try dsimp only at hSw); go_simp; try with_reducible rfl)
            try simp only [Act.put, List.setIfInBounds_toArray, List.set_cons_zero, List.set_cons_succ]
            refine wpAnyH_ready (rs := [31]) (by kernel_rfl) (by simp) (AllReadyH.cons (o := ({ dst := none, op := Go.Op.store 40 (Go.Operand.tmp 63) (Go.Operand.tmp 62), type := 0, pos := "ref.go:45", after := #[{ on := 30, ground := Go.Ground.data }, { on := 29, ground := Go.Ground.data }, { on := 29, ground := Go.Ground.chain }, { on := 0, ground := Go.Ground.phase }, { on := 1, ground := Go.Ground.phase }, { on := 2, ground := Go.Ground.phase }, { on := 3, ground := Go.Ground.phase }, { on := 4, ground := Go.Ground.phase }, { on := 5, ground := Go.Ground.phase }, { on := 6, ground := Go.Ground.phase }, { on := 7, ground := Go.Ground.phase }, { on := 8, ground := Go.Ground.phase }, { on := 9, ground := Go.Ground.phase }, { on := 10, ground := Go.Ground.phase }, { on := 11, ground := Go.Ground.phase }, { on := 12, ground := Go.Ground.phase }, { on := 13, ground := Go.Ground.phase }, { on := 14, ground := Go.Ground.phase }, { on := 15, ground := Go.Ground.phase }, { on := 16, ground := Go.Ground.phase }, { on := 17, ground := Go.Ground.phase }, { on := 18, ground := Go.Ground.phase }, { on := 19, ground := Go.Ground.phase }, { on := 20, ground := Go.Ground.phase }, { on := 21, ground := Go.Ground.phase }, { on := 22, ground := Go.Ground.phase }, { on := 23, ground := Go.Ground.phase }, { on := 24, ground := Go.Ground.phase }, { on := 25, ground := Go.Ground.phase }, { on := 26, ground := Go.Ground.phase }, { on := 27, ground := Go.Ground.phase }, { on := 28, ground := Go.Ground.phase }, { on := 29, ground := Go.Ground.phase }], guard := none } : Oper)) rfl (fun K hK => ?_) AllReadyH.nil)
            obtain ⟨z0, z1, z2, zf, zt⟩ := J.out.tri (l1 := [])
            go_simp
            have Z := Lib.hid (And.intro (O6.out.cell (k := mm) (Nat.lt_succ_self mm) 2 (.slice A6 (Lk.length + 1) c6)) (J.out.cell (l1 := []) (i := 2) (by simp) (.slice A6 (Lk.length + 1) c6)))
            replace J := Lib.hid Z.out.2
            clear z0 z1 z2 zf zt
            (try clear sk)
            have sk := And.intro (J.out.three (l1 := [_, _])) (cA _ J.out.below).out
            refine hK.out _ _ sk (fun hHeld2 => ?_)
            clear hK K hHeld
            have hHeld := hHeld2
            clear hHeld2
            try simp only [Act.put, List.setIfInBounds_toArray, List.set_cons_zero, List.set_cons_succ]
            refine wpAnyH_done (by kernel_rfl) ?_ _
            go_wp2_with fail
            go_roundw
            case rel => exact ⟨x + 1, A6, Lk.length + 1, c6, by omega, by go_num, Z⟩
            case measure =>
              unfold leftN
              simp [RowKit.intOf]
              omega
          · go_simp
            replace J := Lib.hid (J.out.made (.cells #[.int .u8 (px.r : Int), .int .u8 (px.g : Int), .int .u8 (px.b : Int), .int .u8 (px.a : Int)] 58))
            replace Ow := Lib.hid (Ow.out.alloc (.cells #[.int .u8 (px.r : Int), .int .u8 (px.g : Int), .int .u8 (px.b : Int), .int .u8 (px.a : Int)] 58))
            have P1 := Lib.hid (pxs_one u0 px)
            generalize u0.alloc (.cells #[.int .u8 (px.r : Int), .int .u8 (px.g : Int), .int .u8 (px.b : Int), .int .u8 (px.a : Int)] 58) = u1 at *
            generalize u0.heap.size = kb at *
            (try clear sk)
            have sk := And.intro (J.out.three (l1 := [_, _])) (cA _ J.out.below).out
            refine hK.out _ _ sk (fun hHeld2 => ?_)
            clear hK K hHeld
            have hHeld := hHeld2
            clear hHeld2
            try simp only [Act.put, List.setIfInBounds_toArray, List.set_cons_zero, List.set_cons_succ]
            refine wpAnyH_ready (rs := [1]) (by kernel_rfl) (by simp) (AllReadyH.cons (o := ({ dst := some 34, op := Go.Op.load 40 (Go.Operand.tmp 33), type := 40, pos := "ref.go:45", after := #[{ on := 0, ground := Go.Ground.data }], guard := none } : Oper)) rfl (fun K hK => ?_) AllReadyH.nil)
            obtain ⟨m0, m1, m2, _, mt⟩ := J.out.tri (l1 := [])
            go_simp
            clear m0 m1 m2 mt
            refine hK.out _ _ sk (fun hHeld2 => ?_)
            clear hK K hHeld
            have hHeld := hHeld2
            clear hHeld2
            try simp only [Act.put, List.setIfInBounds_toArray, List.set_cons_zero, List.set_cons_succ]
            refine wpAnyH_ready (rs := [29]) (by kernel_rfl) (by simp) (AllReadyH.cons (o := ({ dst := some 62, op := Go.Op.call { callee := Go.Callee.builtin Go.Builtin.append, args := #[Go.Operand.tmp 34, Go.Operand.tmp 61], argTypes := #[40, 40] }, type := 40, pos := "ref.go:45", after := #[{ on := 1, ground := Go.Ground.data }, { on := 28, ground := Go.Ground.data }], guard := none } : Oper)) rfl (fun K hK => ?_) AllReadyH.nil)
            refine step_appP (by rfl) _ _ (by rfl) (base := mm + 1) (l := Lk) (m := [px]) (by rfl) (by exact Ow.out) (by rfl) (by exact P1.out) (by exact hlen.out) (by exact (J.out.tri (l1 := [])).2.2.2.2) ?_
            intro v6 u2 ho6 hg6 _
            replace J := Lib.hid (J.out.grownO hg6 Ow.out (by omega) (HLT _).out)
            obtain ⟨A6, c6, rfl, _, _⟩ := ho6.pxs.shape
            rw [List.length_append, List.length_singleton] at ho6
            rw [← hnx2.out] at ho6
            have O6 := Lib.hid ho6
            clear ho6 hg6
            (try clear sk)
            have sk := And.intro (J.out.three (l1 := [_, _])) (cA _ J.out.below).out
            refine hK.out _ _ sk (fun hHeld2 => ?_)
            clear hK K hHeld
            have hHeld := hHeld2
            clear hHeld2
            try simp only [Act.put, List.setIfInBounds_toArray, List.set_cons_zero, List.set_cons_succ]
            refine wpAnyH_take (i := 30) (oi := ({ dst := some 63, op := Go.Op.fieldAddr 42 (Go.Operand.tmp 9) 2, type := 0, pos := "ref.go:45", after := #[{ on := 0, ground := Go.Ground.phase }, { on := 1, ground := Go.Ground.phase }, { on := 2, ground := Go.Ground.phase }, { on := 3, ground := Go.Ground.phase }, { on := 4, ground := Go.Ground.phase }, { on := 5, ground := Go.Ground.phase }, { on := 6, ground := Go.Ground.phase }, { on := 7, ground := Go.Ground.phase }, { on := 8, ground := Go.Ground.phase }, { on := 9, ground := Go.Ground.phase }, { on := 10, ground := Go.Ground.phase }, { on := 11, ground := Go.Ground.phase }, { on := 12, ground := Go.Ground.phase }, { on := 13, ground := Go.Ground.phase }, { on := 14, ground := Go.Ground.phase }, { on := 15, ground := Go.Ground.phase }, { on := 16, ground := Go.Ground.phase }, { on := 17, ground := Go.Ground.phase }, { on := 18, ground := Go.Ground.phase }, { on := 19, ground := Go.Ground.phase }, { on := 20, ground := Go.Ground.phase }, { on := 21, ground := Go.Ground.phase }, { on := 22, ground := Go.Ground.phase }, { on := 23, ground := Go.Ground.phase }, { on := 24, ground := Go.Ground.phase }, { on := 25, ground := Go.Ground.phase }, { on := 26, ground := Go.Ground.phase }, { on := 27, ground := Go.Ground.phase }, { on := 28, ground := Go.Ground.phase }, { on := 29, ground := Go.Ground.phase }], guard := none } : Oper)) (v := ?_) rfl (by kernel_rfl) (by kernel_rfl) (by kernel_rfl) (fun _ _ _ h => h) (Or.inl ⟨by kernel_rfl, ?_⟩) hHeld ?_
            rotate_left 1
            · (intro W hSw; (try dsimp only at hSw); go_simp; try with_reducible rfl)
            try simp only [Act.put, List.setIfInBounds_toArray, List.set_cons_zero, List.set_cons_succ]
            refine wpAnyH_ready (rs := [31]) (by kernel_rfl) (by simp) (AllReadyH.cons (o := ({ dst := none, op := Go.Op.store 40 (Go.Operand.tmp 63) (Go.Operand.tmp 62), type := 0, pos := "ref.go:45", after := #[{ on := 30, ground := Go.Ground.data }, { on := 29, ground := Go.Ground.data }, { on := 29, ground := Go.Ground.chain }, { on := 0, ground := Go.Ground.phase }, { on := 1, ground := Go.Ground.phase }, { on := 2, ground := Go.Ground.phase }, { on := 3, ground := Go.Ground.phase }, { on := 4, ground := Go.Ground.phase }, { on := 5, ground := Go.Ground.phase }, { on := 6, ground := Go.Ground.phase }, { on := 7, ground := Go.Ground.phase }, { on := 8, ground := Go.Ground.phase }, { on := 9, ground := Go.Ground.phase }, { on := 10, ground := Go.Ground.phase }, { on := 11, ground := Go.Ground.phase }, { on := 12, ground := Go.Ground.phase }, { on := 13, ground := Go.Ground.phase }, { on := 14, ground := Go.Ground.phase }, { on := 15, ground := Go.Ground.phase }, { on := 16, ground := Go.Ground.phase }, { on := 17, ground := Go.Ground.phase }, { on := 18, ground := Go.Ground.phase }, { on := 19, ground := Go.Ground.phase }, { on := 20, ground := Go.Ground.phase }, { on := 21, ground := Go.Ground.phase }, { on := 22, ground := Go.Ground.phase }, { on := 23, ground := Go.Ground.phase }, { on := 24, ground := Go.Ground.phase }, { on := 25, ground := Go.Ground.phase }, { on := 26, ground := Go.Ground.phase }, { on := 27, ground := Go.Ground.phase }, { on := 28, ground := Go.Ground.phase }, { on := 29, ground := Go.Ground.phase }], guard := none } : Oper)) rfl (fun K hK => ?_) AllReadyH.nil)
            obtain ⟨z0, z1, z2, zf, zt⟩ := J.out.tri (l1 := [])
            go_simp
            have Z := Lib.hid (And.intro (O6.out.cell (k := mm) (Nat.lt_succ_self mm) 2 (.slice A6 (Lk.length + 1) c6)) (J.out.cell (l1 := []) (i := 2) (by simp) (.slice A6 (Lk.length + 1) c6)))
            replace J := Lib.hid Z.out.2
            clear z0 z1 z2 zf zt
            (try clear sk)
            have sk := And.intro (J.out.three (l1 := [_, _])) (cA _ J.out.below).out
            refine hK.out _ _ sk (fun hHeld2 => ?_)
            clear hK K hHeld
            have hHeld := hHeld2
            clear hHeld2
            try simp only [Act.put, List.setIfInBounds_toArray, List.set_cons_zero, List.set_cons_succ]
            refine wpAnyH_done (by kernel_rfl) ?_ _
            go_wp2_with fail
            go_roundw
            case rel => exact ⟨x + 1, A6, Lk.length + 1, c6, by omega, by go_num, Z⟩
            case measure =>
              unfold leftN
              simp [RowKit.intOf]
              omega
        · obtain rfl : p = x := by omega
          have q2 : ¬ (p : Int) < p := by omega
          rw [show y * p + p = (y + 1) * p by rw [Nat.add_mul, Nat.one_mul]] at HS
          go_wp2_with fail
          go_roundw
          case rel => exact ⟨y + 1, A1, k1, c1, by omega, by go_num, HS⟩
          case measure =>
            unfold leftN
            simp [RowKit.intOf]
            omega
    · obtain rfl : q = y := by omega
      have q1 : ¬ (q : Int) < q := by omega
      have hO : O.take (q * p) = O := List.take_of_length_le (by rw [HL.out, Nat.mul_comm]; exact Nat.le_refl _)
      rw [hO] at HR
      have Q := Lib.hid ((HR.out.1.set3 (k := w.heap.size + 1) (by omega) (.int .i64 (p : Int)) (.int .i64 (q : Int)) (.slice A1 k1 c1)).res (w := w) (by omega) (by rw [HL.out]; omega))
      have K := Lib.hid (below_set3 (y0 := .int .i64 (p : Int)) (y1 := .int .i64 (q : Int)) (y2 := .slice A1 k1 c1) HR.out.2.below (by omega : w.heap.size ≤ w.heap.size + 1))
      obtain ⟨m0, m1, m2, _, mt⟩ := HR.out.2.tri (l1 := [])
      obtain ⟨z0, z1, z2, zf, zt⟩ := HR.out.2.tri (l1 := [_])
      clear HR hO
      go_wp2_with fail
      exact bodyPost_ret (v := .tuple #[.agg #[.int .i64 (p : Int), .int .i64 (q : Int), .slice A1 k1 c1], .int .i64 0]) (by simp [results, Tryz.results55, go_sem, z0, z1, z2]) rfl ⟨_, rfl, Q.out, K.out⟩

end Go.Proofs.YthedglfocjljjaaGreatDoor
