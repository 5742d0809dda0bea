/-
  exampleHolds: the examples of the chapter.
-/
import Derived.Test.YtahhcklkcibgoaaDecg
import Derived.Test.YtahhcklkcibgoaaDifp
import Derived.Test.YtahhcklkcibgoaaCrop
namespace Go.Proofs.Ytahhcklkcibgoaa
open Go.RowKit Mem

def whP : Px := ⟨255, 255, 255, 255⟩
def blP : Px := ⟨0, 0, 0, 255⟩

theorem x_decl : decL 2 1 1 4 [1, 2, 3, 0] = [⟨3, 2, 1, 255⟩] := by rfl
theorem x_runs : runsP 3 (diffB [whP, whP, whP] [whP, blP, whP]) 3 = [⟨1, 0, 2, 1⟩] := by rfl
theorem x_crop : cropB 2 2 ⟨1, 0, 3, 1⟩ = false := by rfl

/-- a block of bytes, seen -/
theorem sees_made (W : World) (bs : List UInt8) (h0 : 0 < bs.length) (hm : bs.length ≤ 1000) : Sees (W.alloc (.cells (bs.map byte).toArray 5)) (.slice (some ⟨W.heap.size, 0, none⟩) bs.length bs.length) bs := by
  refine ⟨_, bs.length, rfl, Nat.le_refl _, by simp only [maxLen]; omega, fun _ => ⟨W.heap.size, 0, rfl, by rw [World.size_alloc]; exact Nat.lt_succ_self _, fun j hj => ?_⟩⟩
  rw [Nat.zero_add]
  simp [go_sem, List.getD, hj]

/-- a block of pixels, seen -/
theorem pxs_made (W : World) (l : List Px) (hm : l.length ≤ 1000) : Pxs (W.alloc (.cells (flat l).toArray 30)) (.slice (some ⟨W.heap.size, 0, none⟩) l.length l.length) l := by
  refine ⟨_, l.length, rfl, Nat.le_refl _, by simp only [maxLen]; omega, fun _ => ⟨W.heap.size, 0, rfl, by rw [World.size_alloc]; exact Nat.lt_succ_self _, fun j p hj => ?_⟩⟩
  obtain ⟨e0, e1, e2, e3⟩ := flat_at l j p hj
  unfold At4
  rw [Nat.zero_add]
  refine ⟨?_, ?_, ?_, ?_⟩ <;> simp [go_sem, *]

theorem x_dec1 {W : World} {v : Value} (h : Sees W v [1, 2, 3, 0]) : Calls Try.prog 23 #[.int .i64 2, .int .i64 1, .int .i64 1, .int .i64 4, v] W fun e w' => ∃ g c, e = .returned (.tuple #[.agg #[.int .i64 1, .int .i64 1, .slice (some ⟨g, 0, none⟩) 1 c], .int .i64 0]) ∧ Pxs w' (.slice (some ⟨g, 0, none⟩) 1 c) [⟨3, 2, 1, 255⟩] ∧ Below W.heap.size W w' := by
  refine (dec_good (f := 2) (a := 1) (b := 1) (st := 4) h (.inr rfl) (by omega) (by omega) (by omega) (by omega) (by simp) (by simp)).mono ?_
  rintro e w' ⟨v, rfl, hr, hb⟩
  rw [x_decl] at hr
  rcases hr with ⟨h0, _⟩ | ⟨g, c, rfl, h1, h2, h3, h4⟩
  · cases h0
  · exact ⟨g, c, rfl, h4.pxs h1 h2, hb⟩

/-- an empty buffer and an error -/
def NoBuf (er : Int) (w : World) (e : Ending) (w' : World) : Prop := ∃ A c, e = .returned (.tuple #[.agg #[.int .i64 0, .int .i64 0, .slice A 0 c], .int .i64 er]) ∧ Below w.heap.size w w'
theorem nobuf {er : Int} {w w' : World} {e : Ending} (h : Outs 0 0 [] er w e w') : NoBuf er w e w' := by
  obtain ⟨v, rfl, hr, hb⟩ := h
  obtain ⟨A, c, rfl, _⟩ := hr.pxs.shape
  exact ⟨A, c, rfl, hb⟩

theorem x_dec2 (A : Option Addr) (n c : Nat) (W : World) : Calls Try.prog 23 #[.int .i64 2, .int .i64 1, .int .i64 1, .int .i64 6, .slice A n c] W (NoBuf 15 W) :=
  (dec_stride (f := 2) (a := 1) (b := 1) (st := 6) W (.inr rfl) (by omega) (by omega) (by omega)).mono fun _ _ => nobuf
theorem x_dec3 (A : Option Addr) (c : Nat) (W : World) : Calls Try.prog 23 #[.int .i64 2, .int .i64 1, .int .i64 1, .int .i64 4, .slice A 3 c] W (NoBuf 4 W) :=
  (dec_short (f := 2) (a := 1) (b := 1) (st := 4) W (.inr rfl) (by omega) (by omega) (by omega) (by omega) (by omega) (by decide)).mono fun _ _ => nobuf

theorem x_diff {W : World} {v u : Value} (h1 : Pxs W v [whP, whP, whP]) (h2 : Pxs W u [whP, blP, whP]) : Calls Try.prog 34 #[.agg #[.int .i64 3, .int .i64 1, v], .agg #[.int .i64 3, .int .i64 1, u]] W fun e w' => ∃ A c, e = .returned (.tuple #[.slice A 1 c, .int .i64 0]) ∧ Rs w' (.slice A 1 c) [⟨1, 0, 2, 1⟩] ∧ Below W.heap.size W w' := by
  refine (diff_good (a := 3) (b := 1) h1 h2 ⟨by omega, by omega, by omega, by omega, rfl, by decide⟩ ⟨by omega, by omega, by omega, by omega, rfl, by decide⟩).mono ?_
  intro e w' h
  have e3 : ([whP, whP, whP] : List Px).length = 3 := rfl
  rw [e3, x_runs] at h
  rcases h with ⟨_, v, rfl, h3, h4⟩ | ⟨h0, _⟩
  · obtain ⟨A, c, rfl, _⟩ := h3.rs
    exact ⟨A, c, rfl, h3.rs, h4⟩
  · simp at h0

theorem x_crp {W : World} {v : Value} (h : Pxs W v [whP, whP, whP, whP]) : Calls Try.prog 27 #[.agg #[.int .i64 2, .int .i64 2, v], .agg #[.int .i64 1, .int .i64 0, .int .i64 3, .int .i64 1]] W (NoBuf 6 W) :=
  (crop_range (a := 2) (b := 2) ⟨1, 0, 3, 1⟩ h ⟨by omega, by omega, by omega, by omega, rfl, by decide⟩ x_crop).mono fun _ _ => nobuf

theorem x_eqp (W : World) : (binOp .eql 30 (.agg #[.int .u8 3, .int .u8 2, .int .u8 1, .int .u8 255]) (.agg #[.int .u8 3, .int .u8 2, .int .u8 1, .int .u8 255])).run Try.prog W = .ok (.bool true) W := eql_px ⟨3, 2, 1, 255⟩ ⟨3, 2, 1, 255⟩ W

set_option maxHeartbeats 2000000 in
theorem x_eqr (W : World) : (binOp .eql 44 (.agg #[.int .i64 1, .int .i64 0, .int .i64 2, .int .i64 1]) (.agg #[.int .i64 1, .int .i64 0, .int .i64 2, .int .i64 1])).run Try.prog W = .ok (.bool true) W := by
  have h : ∀ d : Nat, (Op.equalIn (d + 3) 44 (.agg #[.int .i64 1, .int .i64 0, .int .i64 2, .int .i64 1]) (.agg #[.int .i64 1, .int .i64 0, .int .i64 2, .int .i64 1])).run Try.prog W = .ok true W := fun d => by
    simp [Op.equalIn, run_underlying Try.underlying44, run_underlying Try.underlying3, go_sem]
  simp only [binOp]
  simp [Op.equal, Op.maxDepth, h 9997]

end Go.Proofs.Ytahhcklkcibgoaa
