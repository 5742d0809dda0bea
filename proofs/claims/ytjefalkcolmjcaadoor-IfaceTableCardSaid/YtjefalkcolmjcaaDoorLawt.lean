/-
  sound of the laws; what the law IfaceTable wants of the table.
-/
import Derived.Test.YtjefalkcolmjcaaDoorLawi
namespace Go.Proofs.YtjefalkcolmjcaaDoor
open Go.RowKit

set_option maxHeartbeats 4000000 in
theorem sound_any {a1 a2 b1 b2 : ByteArray} {a3 b3 v : Int} {same : Bool} (h1 : a1 ≠ s_0) (h2 : same = true ∨ a1 ≠ b1) (h3 : sigT a2 = true) (h4 : 1 ≤ a3) (h5 : a3 ≤ v) {w : World} (T : Tab w) :
    Calls Tryd.prog 27 #[.agg #[.string a1, .string a2, .int .i64 a3], .agg #[.string b1, .string b2, .int .i64 b3], .bool same, .int .i64 v] w (Says true w) := by
  have A := fun W (T : Tab W) => Lib.hid (p_valid_any T a2)
  rw [h3] at A
  have e1 := str_ne h1
  simp only [ByteArray.toList_mk] at e1
  have J := Lib.hid ((((Held.nil w).alloc [.string a1, .string a2, .int .i64 a3] 28).alloc [.string b1, .string b2, .int .i64 b3] 28))
  obtain ⟨q0, q1, q2, -, -⟩ := (show Held w _ ([] ++ (_, _) :: [_]) from J.out).tri
  obtain ⟨p0, p1, p2, -, -⟩ := (show Held w _ ([_] ++ (w.heap.size, _) :: []) from J.out).tri
  have HB := Lib.hid J.out.below
  cases same with
  | true =>
    clear h1 h2 h3 J
    go_enter Tryd.func27, Tryd.ntmps27
    go_wp2_with fail
    refine (A _ (by first | exact T | exact T.below J.out.below | exact T.below J.out | exact T.below J0.out | exact T.below J1.out | exact T.below J2.out | exact T.below J4.out | exact T.below J6.out | exact T.below J7.out | exact T.below HB.out)).out.mono ?_
    rintro e w1 ⟨rfl, rfl⟩
    clear A
    go_wp2_with fail
    go_ret
    exact ⟨rfl, HB.out⟩
  | false =>
    have h2' : ¬ a1 = b1 := by
      rcases h2 with h | h
      · cases h
      · exact h
    have e2 := str_ne h2'
    clear h1 h2 h3 h2' J
    go_enter Tryd.func27, Tryd.ntmps27
    go_wp2_with fail
    refine (A _ (by first | exact T | exact T.below J.out.below | exact T.below J.out | exact T.below J0.out | exact T.below J1.out | exact T.below J2.out | exact T.below J4.out | exact T.below J6.out | exact T.below J7.out | exact T.below HB.out)).out.mono ?_
    rintro e w1 ⟨rfl, rfl⟩
    clear A
    go_wp2_with fail
    go_ret
    exact ⟨rfl, HB.out⟩

theorem nmI_inj : ∀ i, i < 15 → ∀ j, j < 15 → nmI i = nmI j → i = j := by decide +kernel
theorem nmI_some : ∀ i, i < 15 → nmI i ≠ s_0 := by decide +kernel

/-- two operations of a list are sound -/
def goodT (n : ByteArray) (l : List On) (x y : Nat) : Bool :=
  let p := pickT n l x (verT n)
  let q := pickT n l y (verT n)
  !decide (p.2 = 0) || !decide (q.2 = 0) || (decide (p.1.nm ≠ s_0) && (decide (x = y) || decide (p.1.nm ≠ q.1.nm)) && sigT p.1.sg && decide (1 ≤ p.1.sn) && decide (p.1.sn ≤ verT n) && (!decide (x < y) || decide (p.1.sn ≤ q.1.sn)))

set_option maxRecDepth 100000 in
theorem good_req : ∀ i, i < 15 → ∀ x, x < 14 → ∀ y, y < 14 → goodT (nmI i) (reqT (nmI i)) x y = true := by decide +kernel
set_option maxRecDepth 100000 in
theorem good_evt : ∀ i, i < 15 → ∀ x, x < 14 → ∀ y, y < 14 → goodT (nmI i) (evtT (nmI i)) x y = true := by decide +kernel

theorem good_out {n : ByteArray} {l : List On} {x y : Nat} (h : goodT n l x y = true) {a1 a2 b1 b2 : ByteArray} {a3 b3 : Int} (hp : pickT n l x (verT n) = (⟨a1, a2, a3⟩, 0)) (hq : pickT n l y (verT n) = (⟨b1, b2, b3⟩, 0)) :
    a1 ≠ s_0 ∧ (decide (x = y) = true ∨ a1 ≠ b1) ∧ sigT a2 = true ∧ 1 ≤ a3 ∧ a3 ≤ verT n ∧ (x < y → a3 ≤ b3) := by
  unfold goodT at h
  rw [hp, hq] at h
  simp at h
  obtain ⟨⟨⟨⟨⟨h1, h2⟩, h3⟩, h4⟩, h5⟩, h6⟩ := h
  refine ⟨h1, by simpa using h2, h3, h4, h5, fun hxy => ?_⟩
  rcases h6 with h | h
  · omega
  · exact h

end Go.Proofs.YtjefalkcolmjcaaDoor
