/-
  The plain functions of package pixel and of its reference: Clamp, Valid, Opaque, the products of bytes and the means. Types: 23 a pixel.
-/
import Derived.Test.YtkphkmcdbmphlaaRows
import Derived.Test.YtkphkmcdbmphlaaArit
import Derived.WalkKit
import Derived.WalkSpells
import Derived.Lib.MinMax
import Derived.Lib.Hide
import Derived.Deep.QuietTactic
import Derived.BigQuiet
import Derived.Deep.RegionHeld3
namespace Go.Proofs.Ytkphkmcdbmphlaa
open Go.RowKit

/-- the answer is this pixel, and nothing that was there has turned -/
def GivesP (q : Px) (w : World) (e : Ending) (w' : World) : Prop := e = .returned (.agg #[.int .u8 (q.r : Int), .int .u8 (q.g : Int), .int .u8 (q.b : Int), .int .u8 (q.a : Int)]) ∧ Below w.heap.size w w'

theorem below_set4 {B k : Nat} {w w1 : World} (h : Below B w w1) (hb : B ≤ k) {x0 x1 x2 x3 : Value} :
    Below B w ((((w1.setCell ⟨k, 0, none⟩ x0).setCell ⟨k, 1, none⟩ x1).setCell ⟨k, 2, none⟩ x2).setCell ⟨k, 3, none⟩ x3) :=
  (((h.setCell (p := ⟨k, 0, none⟩) hb x0).setCell (p := ⟨k, 1, none⟩) hb x1).setCell (p := ⟨k, 2, none⟩) hb x2).setCell (p := ⟨k, 3, none⟩) hb x3

theorem ret_bool {a b : Bool} (h : a = b) : Ending.returned (.bool a) = .returned (.bool b) := by rw [h]

theorem ret_int {k : IntKind} {a b : Int} (h : a = b) : Ending.returned (.int k a) = .returned (.int k b) := by rw [h]

theorem Below.next {w w1 w2 : World} (h : Below w.heap.size w w1) (hb : Below w1.heap.size w1 w2) : Below w.heap.size w w2 := h.trans (hb.mono h.size)
theorem cast_min (a b : Nat) : min (a : Int) (b : Int) = ((min a b : Nat) : Int) := by omega

set_option maxHeartbeats 1000000 in
theorem clamp_any (p : Px) (w : World) : Calls Try.prog 11 #[.agg #[.int .u8 (p.r : Int), .int .u8 (p.g : Int), .int .u8 (p.b : Int), .int .u8 (p.a : Int)]] w (GivesP (clampP p) w) := by
  have h0 : min (p.r : Int) (p.a : Int) = ((clampP p).r : Int) := cast_min _ _
  have h1 : min (p.g : Int) (p.a : Int) = ((clampP p).g : Int) := cast_min _ _
  have h2 : min (p.b : Int) (p.a : Int) = ((clampP p).b : Int) := cast_min _ _
  have h3 : (clampP p).a = p.a := rfl
  unfold GivesP
  rw [h3]
  clear h3
  generalize clampP p = q at *
  go_enter Try.func11, Try.ntmps11
  go_wp2
  exact bodyPost_ret (v := .agg #[.int .u8 (q.r : Int), .int .u8 (q.g : Int), .int .u8 (q.b : Int), .int .u8 (p.a : Int)]) (by simp [results, Try.results11, go_sem]) rfl ⟨rfl, ((Below.refl _ _).alloc (Nat.le_refl _) _).alloc (by simp) _⟩

set_option maxHeartbeats 1000000 in
theorem rclamp_any (p : Px) (w : World) : Calls Try.prog 12 #[.agg #[.int .u8 (p.r : Int), .int .u8 (p.g : Int), .int .u8 (p.b : Int), .int .u8 (p.a : Int)]] w (GivesP (clampP p) w) := by
  have h0 : min (p.r : Int) (p.a : Int) = ((clampP p).r : Int) := cast_min _ _
  have h1 : min (p.g : Int) (p.a : Int) = ((clampP p).g : Int) := cast_min _ _
  have h2 : min (p.b : Int) (p.a : Int) = ((clampP p).b : Int) := cast_min _ _
  have h3 : (clampP p).a = p.a := rfl
  unfold GivesP
  rw [h3]
  clear h3
  generalize clampP p = q at *
  go_enter Try.func12, Try.ntmps12
  go_wp2
  exact bodyPost_ret (v := .agg #[.int .u8 (q.r : Int), .int .u8 (q.g : Int), .int .u8 (q.b : Int), .int .u8 (p.a : Int)]) (by simp [results, Try.results12, go_sem]) rfl ⟨rfl, ((Below.refl _ _).alloc (Nat.le_refl _) _).alloc (by simp) _⟩

/-- two pixels are equal -/
def sameP (p q : Px) : Bool := decide (p.r = q.r) && decide (p.g = q.g) && decide (p.b = q.b) && decide (p.a = q.a)

theorem same_iff (p q : Px) : sameP p q = true ↔ p = q := by
  constructor
  · intro h
    simp [sameP] at h
    exact px_ext h.1.1.1 h.1.1.2 h.1.2 h.2
  · rintro rfl
    simp [sameP]

set_option maxHeartbeats 2000000 in
theorem eql_px (r s : Px) (w : World) : (binOp .eql 23 (.agg #[.int .u8 (r.r : Int), .int .u8 (r.g : Int), .int .u8 (r.b : Int), .int .u8 (r.a : Int)]) (.agg #[.int .u8 (s.r : Int), .int .u8 (s.g : Int), .int .u8 (s.b : Int), .int .u8 (s.a : Int)])).run Try.prog w = .ok (.bool (sameP r s)) w := by
  have h : ∀ d : Nat, (Op.equalIn (d + 3) 23 (.agg #[.int .u8 (r.r : Int), .int .u8 (r.g : Int), .int .u8 (r.b : Int), .int .u8 (r.a : Int)]) (.agg #[.int .u8 (s.r : Int), .int .u8 (s.g : Int), .int .u8 (s.b : Int), .int .u8 (s.a : Int)])).run Try.prog w = .ok (sameP r s) w := fun d => by
    simp [Op.equalIn, run_underlying Try.underlying23, run_underlying Try.underlying5, go_sem]
    unfold sameP
    by_cases h0 : r.r = s.r <;> by_cases h1 : r.g = s.g <;> by_cases h2 : r.b = s.b <;> by_cases h3 : r.a = s.a <;> simp [h0, h1, h2, h3] <;> omega
  simp only [binOp]
  simp [Op.equal, Op.maxDepth, h 9997]

theorem same_clamp (p : Px) : sameP p (clampP p) = okPx p := by
  rw [Bool.eq_iff_iff, same_iff, ← clamp_eq_iff]
  exact eq_comm

/-- the box of a pixel, held while calls make memory -/
structure HeldC (w W : World) (k : Nat) (p : Px) : Prop where
  c0 : W.cell? ⟨k, 0, none⟩ = some (.int .u8 (p.r : Int))
  c1 : W.cell? ⟨k, 1, none⟩ = some (.int .u8 (p.g : Int))
  c2 : W.cell? ⟨k, 2, none⟩ = some (.int .u8 (p.b : Int))
  c3 : W.cell? ⟨k, 3, none⟩ = some (.int .u8 (p.a : Int))
  below : Below w.heap.size w W
  there : k < W.heap.size

theorem HeldC.step {w W w' : World} {k : Nat} {p : Px} (h : HeldC w W k p) (hb : Below W.heap.size W w') : HeldC w w' k p :=
  ⟨(hb.cell (p := ⟨k, 0, none⟩) h.there).trans h.c0, (hb.cell (p := ⟨k, 1, none⟩) h.there).trans h.c1, (hb.cell (p := ⟨k, 2, none⟩) h.there).trans h.c2, (hb.cell (p := ⟨k, 3, none⟩) h.there).trans h.c3,
    Below.next h.below hb, Nat.lt_of_lt_of_le h.there hb.size⟩
theorem HeldC.drew {w W : World} {k : Nat} {p : Px} (h : HeldC w W k p) : HeldC w W.drew k p := h.step (Below.refl _ _).drew
theorem HeldC.new (w : World) (p : Px) : HeldC w (w.alloc (.cells #[.int .u8 (p.r : Int), .int .u8 (p.g : Int), .int .u8 (p.b : Int), .int .u8 (p.a : Int)] 23)) w.heap.size p :=
  ⟨by simp [go_sem], by simp [go_sem], by simp [go_sem], by simp [go_sem], (Below.refl _ _).alloc (Nat.le_refl _) _, by rw [World.size_alloc]; exact Nat.lt_succ_self _⟩
theorem HeldC.cells {w W : World} {k : Nat} {p : Px} (h : HeldC w W k p) : W.cell? ⟨k, 0, none⟩ = some (.int .u8 (p.r : Int)) ∧ W.cell? ⟨k, 1, none⟩ = some (.int .u8 (p.g : Int)) ∧ W.cell? ⟨k, 2, none⟩ = some (.int .u8 (p.b : Int)) ∧ W.cell? ⟨k, 3, none⟩ = some (.int .u8 (p.a : Int)) := ⟨h.c0, h.c1, h.c2, h.c3⟩

set_option maxHeartbeats 2000000 in
theorem valid_any (p : Px) (w : World) : Calls Try.prog 9 #[.agg #[.int .u8 (p.r : Int), .int .u8 (p.g : Int), .int .u8 (p.b : Int), .int .u8 (p.a : Int)]] w fun e w' => e = .returned (.bool (okPx p)) ∧ Below w.heap.size w w' := by
  have J := Lib.hid (HeldC.new w p).drew
  have C1 := fun W => Lib.hid (clamp_any p W)
  have hs := same_clamp p
  generalize okPx p = v at *
  generalize clampP p = q at *
  have HE : ∀ W, (binOp .eql 23 (.agg #[.int .u8 (p.r : Int), .int .u8 (p.g : Int), .int .u8 (p.b : Int), .int .u8 (p.a : Int)]) (.agg #[.int .u8 (q.r : Int), .int .u8 (q.g : Int), .int .u8 (q.b : Int), .int .u8 (q.a : Int)])).run Try.prog W = .ok (.bool v) W := fun W => by rw [eql_px, hs]
  clear hs
  go_enter Try.func9, Try.ntmps9
  go_wp2_with fail
  go_region_held3 (fun W => W.cell? ⟨w.heap.size, 0, none⟩ = some (.int .u8 (p.r : Int)) ∧ W.cell? ⟨w.heap.size, 1, none⟩ = some (.int .u8 (p.g : Int)) ∧ W.cell? ⟨w.heap.size, 2, none⟩ = some (.int .u8 (p.b : Int)) ∧ W.cell? ⟨w.heap.size, 3, none⟩ = some (.int .u8 (p.a : Int)))
    (first
      | go_keep
      | exact sk)
    (first
      | (go_at_call 11; (with_reducible refine (C1 _).out.mono ?_); rintro e w1 ⟨rfl, hb⟩; replace J := Lib.hid (J.out.step hb); (try clear sk); have sk := J.out.cells; clear hb)
      | fail)
  all_goals
    go_wp2_with fail
    go_ret
    exact ⟨rfl, J.out.below⟩

set_option maxHeartbeats 2000000 in
theorem rvalid_any (p : Px) (w : World) : Calls Try.prog 10 #[.agg #[.int .u8 (p.r : Int), .int .u8 (p.g : Int), .int .u8 (p.b : Int), .int .u8 (p.a : Int)]] w fun e w' => e = .returned (.bool (okPx p)) ∧ Below w.heap.size w w' := by
  unfold okPx
  by_cases h0 : p.r ≤ p.a <;> by_cases h1 : p.g ≤ p.a <;> by_cases h2 : p.b ≤ p.a
  all_goals
    simp only [h0, h1, h2, Bool.and_true, Bool.and_false, decide_true, decide_false]
    go_enter Try.func10, Try.ntmps10
    go_wp2
    go_ret
    exact ⟨ret_bool (by simp [*]), (Below.refl _ _).alloc (Nat.le_refl _) _⟩

theorem opaque_any (p : Px) (w : World) : Calls Try.prog 13 #[.agg #[.int .u8 (p.r : Int), .int .u8 (p.g : Int), .int .u8 (p.b : Int), .int .u8 (p.a : Int)]] w fun e w' => e = .returned (.bool (decide (p.a = 255))) ∧ Below w.heap.size w w' := by
  by_cases h0 : p.a = 255
  all_goals
    simp only [h0, decide_true, decide_false]
    go_enter Try.func13, Try.ntmps13
    go_wp2
    go_ret
    exact ⟨ret_bool (by simp [*] <;> omega), (Below.refl _ _).alloc (Nat.le_refl _) _⟩

theorem ropaque_any (p : Px) (w : World) : Calls Try.prog 14 #[.agg #[.int .u8 (p.r : Int), .int .u8 (p.g : Int), .int .u8 (p.b : Int), .int .u8 (p.a : Int)]] w fun e w' => e = .returned (.bool (decide (p.a = 255))) ∧ Below w.heap.size w w' := by
  by_cases h0 : p.a = 255
  all_goals
    simp only [h0, decide_true, decide_false]
    go_enter Try.func14, Try.ntmps14
    go_wp2
    go_ret
    exact ⟨ret_bool (by simp [*] <;> omega), (Below.refl _ _).alloc (Nat.le_refl _) _⟩

set_option maxHeartbeats 2000000 in
theorem product_any {a b : Nat} (ha : a < 256) (hb : b < 256) (w : World) : Calls Try.prog 29 #[.int .u8 (a : Int), .int .u8 (b : Int)] w fun e w' => e = .returned (.int .u8 ((mulB a b : Nat) : Int)) ∧ w = w' := by
  have hm : mulB a b < 256 := by have := mulB_le b (a := a) (by omega); omega
  have hp : a * b ≤ 255 * 255 := Nat.mul_le_mul (by omega) (by omega)
  obtain ⟨M, hM⟩ : ∃ M, a * b = M := ⟨_, rfl⟩
  have e1 : (a : Int) * (b : Int) = (M : Int) := by rw [← hM, Int.natCast_mul]
  have e2 : mulB a b = (M + 127) / 255 := by unfold mulB; rw [hM]
  rw [e2] at hm ⊢
  rw [hM] at hp
  have f1 : wrap64 ((a : Int) * (b : Int)) = (M : Int) := by rw [e1]; exact IntWalk.wrap64_in _ (by omega)
  clear e1 e2 hM
  go_enter Try.func29, Try.ntmps29
  go_wp2
  go_ret
  exact ⟨ret_int (by omega), rfl⟩

theorem times_any {a k q : Nat} (ha : a < 256) (hk : k < 256) (w : World) (hc : w.cell? ⟨q, 0, none⟩ = some (.int .u8 (k : Int))) : Calls Try.prog 30 #[.int .u8 (a : Int), .pointer (some ⟨q, 0, none⟩)] w fun e w' => e = .returned (.int .u8 ((mulB a k : Nat) : Int)) ∧ w = w' := by
  have hm : mulB a k < 256 := by have := mulB_le k (a := a) (by omega); omega
  have hp : a * k ≤ 255 * 255 := Nat.mul_le_mul (by omega) (by omega)
  obtain ⟨M, hM⟩ : ∃ M, a * k = M := ⟨_, rfl⟩
  have e1 : (a : Int) * (k : Int) = (M : Int) := by rw [← hM, Int.natCast_mul]
  have e2 : mulB a k = (M + 127) / 255 := by unfold mulB; rw [hM]
  rw [e2] at hm ⊢
  rw [hM] at hp
  clear e2 hM
  go_enter Try.func30, Try.ntmps30
  go_wp2
  go_ret
  exact ⟨ret_int (by omega), rfl⟩

set_option maxHeartbeats 2000000 in
theorem mean_any {s n : Nat} (hn : 0 < n) (hn2 : n ≤ 1000000) (hs : s ≤ 255 * n) (w : World) : Calls Try.prog 32 #[.int .i64 (s : Int), .int .i64 (n : Int)] w fun e w' => e = .returned (.int .u8 ((meanB s n : Nat) : Int)) ∧ w = w' := by
  have hm := meanB_le hn hs
  have hq : (2 * (s : Int) + n) / (2 * n) = ((meanB s n : Nat) : Int) := by unfold meanB; rw [Int.natCast_ediv, Int.natCast_add, Int.natCast_mul, Int.natCast_mul]; rfl
  have h0 : (2 * (n : Int)) ≠ 0 := by omega
  generalize meanB s n = m at *
  go_enter Try.func32, Try.ntmps32
  go_wp2
  go_ret
  exact ⟨rfl, rfl⟩

theorem meanc_any {s n q : Nat} (hn : 0 < n) (hn2 : n ≤ 1000000) (hs : s ≤ 255 * n) (w : World) (hc : w.cell? ⟨q, 0, none⟩ = some (.int .u64 (n : Int))) : Calls Try.prog 31 #[.int .u64 (s : Int), .pointer (some ⟨q, 0, none⟩)] w fun e w' => e = .returned (.int .u8 ((meanB s n : Nat) : Int)) ∧ w = w' := by
  have hm := meanB_le hn hs
  have hq : (2 * (s : Int) + n) / (2 * n) = ((meanB s n : Nat) : Int) := by unfold meanB; rw [Int.natCast_ediv, Int.natCast_add, Int.natCast_mul, Int.natCast_mul]; rfl
  have h0 : (2 * (n : Int)) ≠ 0 := by omega
  generalize meanB s n = m at *
  go_enter Try.func31, Try.ntmps31
  go_wp2
  go_ret
  exact ⟨rfl, rfl⟩

/-- two bytes differ by at most 2 -/
def nearB (a b : Nat) : Bool := decide ((a : Int) - b ≤ 2) && decide ((b : Int) - a ≤ 2)

theorem near_any {a b : Nat} (ha : a < 256) (hb : b < 256) (w : World) : Calls Try.prog 28 #[.int .u8 (a : Int), .int .u8 (b : Int)] w fun e w' => e = .returned (.bool (nearB a b)) ∧ w = w' := by
  unfold nearB
  by_cases h0 : (a : Int) - b ≤ 2 <;> by_cases h1 : (b : Int) - a ≤ 2
  all_goals
    simp only [h0, h1, Bool.and_true, Bool.and_false, decide_true, decide_false]
    go_enter Try.func28, Try.ntmps28
    go_wp2
    go_ret
    exact ⟨ret_bool (by simp [*]), rfl⟩

end Go.Proofs.Ytkphkmcdbmphlaa
