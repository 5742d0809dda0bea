/-
  Answers with a buffer seen, boxes of a law, equal buffers (from the seat of buffer).
-/
import Derived.Test.YtnkbejbpkjkgeaaHz
import Derived.Test.YtnkbejbpkjkgeaaEq
namespace Go.Proofs.Ytnkbejbpkjkgeaa
open Go.RowKit Mem

/-- a buffer and an error, the pixels seen -/
def OutB (a b : Int) (l : List Px) (er : Int) (w : World) (e : Ending) (w' : World) : Prop := ∃ A n c, e = .returned (.tuple #[.agg #[.int .i64 a, .int .i64 b, .slice A n c], .int .i64 er]) ∧ Pxs w' (.slice A n c) l ∧ Below w.heap.size w w'
theorem outB {a b er : Int} {l : List Px} {w w' : World} {e : Ending} (h : Outs a b l er w e w') : OutB a b l er w e w' := by
  obtain ⟨v, rfl, hr, hb⟩ := h
  have hp := hr.pxs
  obtain ⟨A, c, rfl, _⟩ := hp.shape
  exact ⟨A, _, c, rfl, hp, hb⟩

theorem all_byt {l : List Px} (h : ∀ p ∈ l, Byt p) (k : Nat) : Byt (l.getD k zeroPx) := by
  rw [List.getD_eq_getElem?_getD]
  cases he : l[k]? with
  | none => exact ⟨by decide, by decide, by decide, by decide⟩
  | some p => exact h p (List.mem_of_getElem? he)
theorem all_ok {l : List Px} (h : ∀ p ∈ l, okPx p = true) (k : Nat) : okPx (l.getD k zeroPx) = true := by
  rw [List.getD_eq_getElem?_getD]
  cases he : l[k]? with
  | none => rfl
  | some p => exact h p (List.mem_of_getElem? he)
theorem mem_tab {α : Type} {n : Nat} {f : Nat → α} {x : α} (h : x ∈ tabL n f) : ∃ k, k < n ∧ x = f k := by
  unfold tabL at h
  obtain ⟨k, hk, rfl⟩ := List.mem_map.1 h
  exact ⟨k, List.mem_range.1 hk, rfl⟩

theorem heldL2 (w : World) (a b : Int) (v : Value) (c d : Int) (u : Value) {l m : List Px} (h1 : Pxs w v l) (h2 : Pxs w u m) :
    HeldX w ((w.alloc (.cells #[.int .i64 a, .int .i64 b, v] 24)).alloc (.cells #[.int .i64 c, .int .i64 d, u] 24)) [(w.heap.size + 1, [.int .i64 c, .int .i64 d, u]), (w.heap.size, [.int .i64 a, .int .i64 b, v])] (fun V => Pxs V u m ∧ Pxs V v l ∧ True) := by
  have h := ((((Held.nil w).toX.addP h1).addP h2).alloc [.int .i64 a, .int .i64 b, v] 24).alloc [.int .i64 c, .int .i64 d, u] 24
  rw [World.size_alloc] at h
  exact h

theorem eql_px_self (p : Px) (W : World) : (binOp .eql 43 (.agg #[.int .u8 (p.r : Int), .int .u8 (p.g : Int), .int .u8 (p.b : Int), .int .u8 (p.a : Int)]) (.agg #[.int .u8 (p.r : Int), .int .u8 (p.g : Int), .int .u8 (p.b : Int), .int .u8 (p.a : Int)])).run Try.prog W = .ok (.bool true) W := by
  rw [eql_px, (same_iff p p).2 rfl]

theorem Held.b332 {w W : World} {k1 k2 k3 : Nat} {x0 x1 x2 y0 y1 y2 z0 z1 : Value} {l : List (Nat × List Value)} (h : Held w W ((k3, [z0, z1]) :: (k2, [y0, y1, y2]) :: (k1, [x0, x1, x2]) :: l)) :
    W.cell? ⟨k1, 0, none⟩ = some x0 ∧ W.cell? ⟨k1, 1, none⟩ = some x1 ∧ W.cell? ⟨k1, 2, none⟩ = some x2 ∧ W.cell? ⟨k2, 0, none⟩ = some y0 ∧ W.cell? ⟨k2, 1, none⟩ = some y1 ∧ W.cell? ⟨k2, 2, none⟩ = some y2 ∧ W.cell? ⟨k3, 0, none⟩ = some z0 ∧ W.cell? ⟨k3, 1, none⟩ = some z1 := by
  obtain ⟨a0, a1, _⟩ := Held.two (l1 := []) h
  obtain ⟨b0, b1, b2, _⟩ := Held.tri (l1 := [_]) h
  obtain ⟨c0, c1, c2, _⟩ := Held.tri (l1 := [_, _]) h
  exact ⟨c0, c1, c2, b0, b1, b2, a0, a1⟩



theorem equal_self {oa ob : Int} {v u : Value} {O : List Px} {w : World} (h : Pxs w v O) (h2 : Pxs w u O) : Calls Try.prog 36 #[.agg #[.int .i64 oa, .int .i64 ob, v], .agg #[.int .i64 oa, .int .i64 ob, u]] w fun e w' => e = .returned (.bool true) ∧ Below w.heap.size w w' := by
  have := requal_any oa ob oa ob h h2
  rw [eqB_self] at this
  exact this



end Go.Proofs.Ytnkbejbpkjkgeaa
