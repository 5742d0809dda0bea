/-
  The plain functions of package pixel and of its reference: Clamp, Valid, Opaque, the product of bytes (from the seat of pixel). Types: 30 a pixel.
-/
import Derived.Test.YtnkbejbpkjkgeaaBase
namespace Go.Proofs.Ytnkbejbpkjkgeaa
open Go.RowKit

/-- the answer is this pixel, and nothing that was there has turned -/
def GivesP (q : Px) (w : World) (e : Ending) (w' : World) : Prop := e = .returned (.agg #[.int .u8 (q.r : Int), .int .u8 (q.g : Int), .int .u8 (q.b : Int), .int .u8 (q.a : Int)]) ∧ Below w.heap.size w w'

theorem cast_min (a b : Nat) : min (a : Int) (b : Int) = ((min a b : Nat) : Int) := by omega

set_option maxHeartbeats 1000000 in
theorem clamp_any (p : Px) (w : World) : Calls Try.prog 58 #[.agg #[.int .u8 (p.r : Int), .int .u8 (p.g : Int), .int .u8 (p.b : Int), .int .u8 (p.a : Int)]] w (GivesP (clampP p) w) := by
  have h0 : min (p.r : Int) (p.a : Int) = ((clampP p).r : Int) := cast_min _ _
  have h1 : min (p.g : Int) (p.a : Int) = ((clampP p).g : Int) := cast_min _ _
  have h2 : min (p.b : Int) (p.a : Int) = ((clampP p).b : Int) := cast_min _ _
  have h3 : (clampP p).a = p.a := rfl
  unfold GivesP
  rw [h3]
  clear h3
  generalize clampP p = q at *
  go_enter Try.func58, Try.ntmps58
  go_wp2
  exact bodyPost_ret (v := .agg #[.int .u8 (q.r : Int), .int .u8 (q.g : Int), .int .u8 (q.b : Int), .int .u8 (p.a : Int)]) (by simp [results, Try.results58, go_sem]) rfl ⟨rfl, ((Below.refl _ _).alloc (Nat.le_refl _) _).alloc (by simp) _⟩

/-- two pixels are equal -/
def sameP (p q : Px) : Bool := decide (p.r = q.r) && decide (p.g = q.g) && decide (p.b = q.b) && decide (p.a = q.a)

theorem same_iff (p q : Px) : sameP p q = true ↔ p = q := by
  constructor
  · intro h
    simp [sameP] at h
    exact px_ext h.1.1.1 h.1.1.2 h.1.2 h.2
  · rintro rfl
    simp [sameP]

set_option maxHeartbeats 2000000 in
theorem eql_px (r s : Px) (w : World) : (binOp .eql 43 (.agg #[.int .u8 (r.r : Int), .int .u8 (r.g : Int), .int .u8 (r.b : Int), .int .u8 (r.a : Int)]) (.agg #[.int .u8 (s.r : Int), .int .u8 (s.g : Int), .int .u8 (s.b : Int), .int .u8 (s.a : Int)])).run Try.prog w = .ok (.bool (sameP r s)) w := by
  have h : ∀ d : Nat, (Op.equalIn (d + 3) 43 (.agg #[.int .u8 (r.r : Int), .int .u8 (r.g : Int), .int .u8 (r.b : Int), .int .u8 (r.a : Int)]) (.agg #[.int .u8 (s.r : Int), .int .u8 (s.g : Int), .int .u8 (s.b : Int), .int .u8 (s.a : Int)])).run Try.prog w = .ok (sameP r s) w := fun d => by
    simp [Op.equalIn, run_underlying Try.underlying43, run_underlying Try.underlying5, go_sem]
    unfold sameP
    by_cases h0 : r.r = s.r <;> by_cases h1 : r.g = s.g <;> by_cases h2 : r.b = s.b <;> by_cases h3 : r.a = s.a <;> simp [h0, h1, h2, h3] <;> omega
  simp only [binOp]
  simp [Op.equal, Op.maxDepth, h 9997]

theorem same_clamp (p : Px) : sameP p (clampP p) = okPx p := by
  rw [Bool.eq_iff_iff, same_iff, ← clamp_eq_iff]
  exact eq_comm

/-- the box of a pixel, held while calls make memory -/
structure HeldC (w W : World) (k : Nat) (p : Px) : Prop where
  c0 : W.cell? ⟨k, 0, none⟩ = some (.int .u8 (p.r : Int))
  c1 : W.cell? ⟨k, 1, none⟩ = some (.int .u8 (p.g : Int))
  c2 : W.cell? ⟨k, 2, none⟩ = some (.int .u8 (p.b : Int))
  c3 : W.cell? ⟨k, 3, none⟩ = some (.int .u8 (p.a : Int))
  below : Below w.heap.size w W
  there : k < W.heap.size

theorem HeldC.step {w W w' : World} {k : Nat} {p : Px} (h : HeldC w W k p) (hb : Below W.heap.size W w') : HeldC w w' k p :=
  ⟨(hb.cell (p := ⟨k, 0, none⟩) h.there).trans h.c0, (hb.cell (p := ⟨k, 1, none⟩) h.there).trans h.c1, (hb.cell (p := ⟨k, 2, none⟩) h.there).trans h.c2, (hb.cell (p := ⟨k, 3, none⟩) h.there).trans h.c3,
    Below.next h.below hb, Nat.lt_of_lt_of_le h.there hb.size⟩
theorem HeldC.drew {w W : World} {k : Nat} {p : Px} (h : HeldC w W k p) : HeldC w W.drew k p := h.step (Below.refl _ _).drew
theorem HeldC.new (w : World) (p : Px) : HeldC w (w.alloc (.cells #[.int .u8 (p.r : Int), .int .u8 (p.g : Int), .int .u8 (p.b : Int), .int .u8 (p.a : Int)] 43)) w.heap.size p :=
  ⟨by simp [go_sem], by simp [go_sem], by simp [go_sem], by simp [go_sem], (Below.refl _ _).alloc (Nat.le_refl _) _, by rw [World.size_alloc]; exact Nat.lt_succ_self _⟩
theorem HeldC.cells {w W : World} {k : Nat} {p : Px} (h : HeldC w W k p) : W.cell? ⟨k, 0, none⟩ = some (.int .u8 (p.r : Int)) ∧ W.cell? ⟨k, 1, none⟩ = some (.int .u8 (p.g : Int)) ∧ W.cell? ⟨k, 2, none⟩ = some (.int .u8 (p.b : Int)) ∧ W.cell? ⟨k, 3, none⟩ = some (.int .u8 (p.a : Int)) := ⟨h.c0, h.c1, h.c2, h.c3⟩

set_option maxHeartbeats 2000000 in
theorem okpx_any (p : Px) (w : World) : Calls Try.prog 56 #[.agg #[.int .u8 (p.r : Int), .int .u8 (p.g : Int), .int .u8 (p.b : Int), .int .u8 (p.a : Int)]] w fun e w' => e = .returned (.bool (okPx p)) ∧ Below w.heap.size w w' := by
  have J := Lib.hid (HeldC.new w p).drew
  have C1 := fun W => Lib.hid (clamp_any p W)
  have hs := same_clamp p
  generalize okPx p = v at *
  generalize clampP p = q at *
  have HE : ∀ W, (binOp .eql 43 (.agg #[.int .u8 (p.r : Int), .int .u8 (p.g : Int), .int .u8 (p.b : Int), .int .u8 (p.a : Int)]) (.agg #[.int .u8 (q.r : Int), .int .u8 (q.g : Int), .int .u8 (q.b : Int), .int .u8 (q.a : Int)])).run Try.prog W = .ok (.bool v) W := fun W => by rw [eql_px, hs]
  clear hs
  go_enter Try.func56, Try.ntmps56
  go_wp2_with fail
  go_region_held3 (fun W => W.cell? ⟨w.heap.size, 0, none⟩ = some (.int .u8 (p.r : Int)) ∧ W.cell? ⟨w.heap.size, 1, none⟩ = some (.int .u8 (p.g : Int)) ∧ W.cell? ⟨w.heap.size, 2, none⟩ = some (.int .u8 (p.b : Int)) ∧ W.cell? ⟨w.heap.size, 3, none⟩ = some (.int .u8 (p.a : Int)))
    (first
      | go_keep
      | exact sk)
    (first
      | (go_at_call 58; (with_reducible refine (C1 _).out.mono ?_); rintro e w1 ⟨rfl, hb⟩; replace J := Lib.hid (J.out.step hb); (try clear sk); have sk := J.out.cells; clear hb)
      | fail)
  all_goals
    go_wp2_with fail
    go_ret
    exact ⟨rfl, J.out.below⟩

end Go.Proofs.Ytnkbejbpkjkgeaa
