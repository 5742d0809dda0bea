/-
  Package quota: buckets in memory; NewBucket, created, fill.
-/
import Derived.Test.YtkehdaahlfkiiaaPqk
import Derived.LaidEqlPtr
import Derived.Lib.SliceRun
namespace Go.Proofs.Ytkehdaahlfkiiaa
open Go.RowKit

/-- the cells of a bucket's struct -/
abbrev bukC (p : Nat) (b : Bk) : List Value := [.int .i64 b.rt, .int .i64 (b.bu * 1000), .int .i64 b.fi, .bool b.st, .int .i64 b.la, .pointer (some ⟨p, 0, none⟩)]
/-- the value rv is the bucket b in the blocks S (nil where b is not made) -/
def B0 (w0 W : World) (rv : Value) (b : Bk) (S : Nat → Prop) : Prop :=
  (b.md = false ∧ rv = .pointer none ∧ ∀ k, ¬ S k) ∨
  (b.md = true ∧ ∃ p : Nat, rv = .pointer (some ⟨p, 0, none⟩) ∧ w0.heap.size ≤ p ∧ (∀ k, S k ↔ k = p) ∧ (boxO p (bukC p b)).P W)
theorem B0.keep {w0 W W' : World} {rv : Value} {b : Bk} {S : Nat → Prop} (h : B0 w0 W rv b S) (hz : W.heap.size ≤ W'.heap.size) (hk : ∀ k, S k → W'.heap[k]? = W.heap[k]?) : B0 w0 W' rv b S := by
  rcases h with h | ⟨hm, p, hv, h1, hS, hb⟩
  · exact .inl h
  · exact .inr ⟨hm, p, hv, h1, hS, boxO_keeps _ _ W W' hz (fun k e => hk k ((hS k).2 e)) hb⟩
theorem B0.lt {w0 W : World} {rv : Value} {b : Bk} {S : Nat → Prop} (h : B0 w0 W rv b S) : ∀ k, S k → w0.heap.size ≤ k ∧ k < W.heap.size := by
  rcases h with ⟨_, _, hS⟩ | ⟨hm, p, hv, h1, hS, hb⟩
  · exact fun k hk => absurd hk (hS k)
  · intro k hk
    obtain rfl := (hS k).1 hk
    exact ⟨h1, hb.2.2⟩

/-- one box within a call, which alone may have turned -/
structure BX (W0 W : World) (p : Nat) (vs : List Value) : Prop where
  box : (boxO p vs).P W
  turn : Turns (fun k => k = p) W0 W
theorem BX.start {W : World} {p : Nat} {vs : List Value} (h : (boxO p vs).P W) : BX W W p vs := ⟨h, rfl, rfl, rfl, Nat.le_refl _, fun _ _ _ => rfl⟩
section
variable {W0 W W' : World} {p : Nat} {vs : List Value}
theorem BX.step (h : BX W0 W p vs) (hb : Below W.heap.size W W') : BX W0 W' p vs :=
  ⟨boxO_keeps p vs W W' hb.size (fun k e => hb.block k (by rw [show k = p from e]; exact h.box.2.2)) h.box, hb.os.trans h.turn.os, hb.tape.trans h.turn.tape, hb.output.trans h.turn.output, Nat.le_trans h.turn.size hb.size,
    fun k hk hS => (hb.block k (Nat.lt_of_lt_of_le hk h.turn.size)).trans (h.turn.block k hk hS)⟩
theorem BX.drew (h : BX W0 W p vs) : BX W0 W.drew p vs := h.step (Below.refl _ _).drew
theorem BX.cell (h : BX W0 W p vs) {i : Nat} (hi : i < vs.length) (u : Value) : BX W0 (W.setCell ⟨p, i, none⟩ u) p (vs.set i u) := by
  obtain ⟨⟨hc, hf, hlt⟩, ht⟩ := h
  refine ⟨⟨fun j v hv => ?_, fun j => ?_, by simpa using hlt⟩, ht.os, ht.tape, ht.output, by simpa using ht.size, fun k hk hS => ?_⟩
  · by_cases e : i = j
    · subst e
      rw [List.getElem?_set_self hi] at hv
      injection hv with hv
      subst hv
      exact World.cell?_setCell_same _ _ _ (hc i _ (List.getElem?_eq_getElem hi))
    · rw [List.getElem?_set_ne e] at hv
      rw [World.cell?_setCell_other _ _ _ _ (fun q => e (by have := congrArg Addr.off q; simpa using this))]
      exact hc j v hv
  · rw [World.frozen?_setCell]
    exact hf j
  · exact (Below.heap_setCell W ⟨p, i, none⟩ u k hS).trans (ht.block k hk hS)
theorem BX.c6 {x0 x1 x2 x3 x4 x5 : Value} (h : BX W0 W p [x0, x1, x2, x3, x4, x5]) :
    W.cell? ⟨p, 0, none⟩ = some x0 ∧ W.cell? ⟨p, 1, none⟩ = some x1 ∧ W.cell? ⟨p, 2, none⟩ = some x2 ∧ W.cell? ⟨p, 3, none⟩ = some x3 ∧ W.cell? ⟨p, 4, none⟩ = some x4 ∧ W.cell? ⟨p, 5, none⟩ = some x5 ∧ (∀ i, W.frozen? ⟨p, i, none⟩ = false) ∧ p < W.heap.size :=
  ⟨h.box.1 0 _ rfl, h.box.1 1 _ rfl, h.box.1 2 _ rfl, h.box.1 3 _ rfl, h.box.1 4 _ rfl, h.box.1 5 _ rfl, h.box.2.1, h.box.2.2⟩
theorem BX.trans {W2 : World} {us : List Value} (h : BX W0 W p vs) (h2 : BX W W2 p us) : BX W0 W2 p us :=
  ⟨h2.box, h2.turn.os.trans h.turn.os, h2.turn.tape.trans h.turn.tape, h2.turn.output.trans h.turn.output, Nat.le_trans h.turn.size h2.turn.size,
    fun k hk hS => (h2.turn.block k (Nat.lt_of_lt_of_le hk h.turn.size) hS).trans (h.turn.block k hk hS)⟩
end
/-- a call ends -/
theorem BX.leave {w0 W W' : World} {p : Nat} {b : Bk} (h : BX W W' p (bukC p b)) (hm : b.md = true) (hp : w0.heap.size ≤ p) {S : Nat → Prop} (hS : ∀ k, S k ↔ k = p) :
    ∃ S', B0 w0 W' (.pointer (some ⟨p, 0, none⟩)) b S' ∧ (∀ k, S' k → S k ∨ W.heap.size ≤ k) ∧ Turns S W W' :=
  ⟨S, .inr ⟨hm, p, rfl, hp, hS, h.box⟩, fun _ hk => .inl hk, h.turn.os, h.turn.tape, h.turn.output, h.turn.size, fun k hk hn => h.turn.block k hk (fun e => hn ((hS k).2 e))⟩

set_option maxRecDepth 100000 in
theorem buk_info : (Try.prog.info? 70).isSome = true := by kernel_rfl
theorem eql_ptrB (a : Addr) (w : World) : (binOp .eql 42 (.pointer (some a)) (.pointer (some a))).run Try.prog w = .ok (.bool true) w := by
  obtain ⟨i, hi⟩ := Option.isSome_iff_exists.1 buk_info
  exact run_eql_ptr_same w a Try.underlying42 hi
set_option maxRecDepth 100000 in
theorem p_bcreated_own {w : World} {p : Nat} (h : w.cell? ⟨p, 5, none⟩ = some (.pointer (some ⟨p, 0, none⟩))) : Calls Try.prog 34 #[.pointer (some ⟨p, 0, none⟩)] w fun e w' => e = .returned (.bool true) ∧ w = w' := by
  have E := fun W => eql_ptrB ⟨p, 0, none⟩ W
  go_enter Try.func34, Try.ntmps34
  go_wp2_with fail
  go_ret
  exact ⟨rfl, rfl⟩
set_option maxRecDepth 100000 in
theorem p_bcreated_nil (w : World) : Calls Try.prog 34 #[.pointer none] w fun e w' => e = .returned (.bool false) ∧ w = w' := by
  go_enter Try.func34, Try.ntmps34
  go_wp2_with fail
  go_ret
  exact ⟨rfl, rfl⟩

set_option maxRecDepth 100000 in
set_option maxHeartbeats 2000000 in
theorem p_newb_any {w0 W : World} (hb : Below w0.heap.size w0 W) (r b : Int) : Calls Try.prog 21 #[.int .i64 r, .int .i64 b] W fun e w' => ∃ rv S, e = .returned rv ∧ B0 w0 w' rv (newB r b) S ∧ (∀ k, S k → W.heap.size ≤ k) ∧ Below W.heap.size W w' := by
  unfold newB
  by_cases h : r < 0 ∨ 1048576 < r ∨ b < 1 ∨ 1048576 < b
  · rw [if_pos h]
    have fin : ∀ w', W = w' → ∃ S, B0 w0 w' (.pointer none) zeroB S ∧ (∀ k, S k → W.heap.size ≤ k) ∧ Below W.heap.size W w' := fun w' e => by
      subst e
      exact ⟨fun _ => False, .inl ⟨rfl, rfl, fun _ h => h⟩, fun _ h => absurd h id, Below.refl _ _⟩
    by_cases h1 : r < 0
    · clear h
      go_enter Try.func21, Try.ntmps21
      go_wp2_with fail
      go_ret
      obtain ⟨S, hf⟩ := fin _ rfl
      exact ⟨_, S, rfl, hf⟩
    by_cases h2 : 1048576 < r
    · clear h
      go_enter Try.func21, Try.ntmps21
      go_wp2_with fail
      go_ret
      obtain ⟨S, hf⟩ := fin _ rfl
      exact ⟨_, rfl, S, hf⟩
    by_cases h3 : b < 1
    · clear h
      go_enter Try.func21, Try.ntmps21
      go_wp2_with fail
      go_ret
      obtain ⟨S, hf⟩ := fin _ rfl
      exact ⟨_, rfl, S, hf⟩
    have h4 : 1048576 < b := by omega
    clear h
    go_enter Try.func21, Try.ntmps21
    go_wp2_with fail
    go_ret
    obtain ⟨S, hf⟩ := fin _ rfl
    exact ⟨_, rfl, S, hf⟩
  · rw [if_neg h]
    have h1 : ¬ r < 0 := by omega
    have h2 : ¬ 1048576 < r := by omega
    have h3 : ¬ b < 1 := by omega
    have h4 : ¬ 1048576 < b := by omega
    have J := Lib.hid ((HO.nil W).alloc (bukC W.heap.size ⟨true, false, r, b, b * 1000, 0⟩) 70)
    have hz := hb.size
    have uw : IntKind.i64.wrap (b * 1000) = b * 1000 := by rw [IntKind.wrap_i64]; omega
    clear h hb
    go_enter Try.func21, Try.ntmps21
    go_wp2_with fail
    go_ret
    refine ⟨_, rfl, fun k => k = W.heap.size, .inr ⟨rfl, W.heap.size, rfl, hz, fun _ => Iff.rfl, (show HO W _ ([] ++ boxO _ _ :: []) from J.out).at⟩, fun k e => Nat.le_of_eq e.symm, J.out.below⟩

end Go.Proofs.Ytkehdaahlfkiiaa
