/-
  exampleHolds: the examples of the chapter.
-/
import Derived.Test.YtkphkmcdbmphlaaOver
import Derived.Test.YtkphkmcdbmphlaaPack
import Derived.Test.YtkphkmcdbmphlaaAvg
namespace Go.Proofs.Ytkphkmcdbmphlaa
open Go.RowKit

/-- a law's answer b, and nothing that was there has turned -/
def Says (b : Bool) (w : World) (e : Ending) (w' : World) : Prop := e = .returned (.bool b) ∧ Below w.heap.size w w'

theorem ex_over : overP ⟨128, 128, 128, 128⟩ ⟨0, 0, 0, 255⟩ = ⟨128, 128, 128, 255⟩ := by rfl
theorem ex_prem : premP 255 100 0 128 = ⟨128, 50, 0, 128⟩ := by rfl
theorem ex_avg : avgP [⟨1, 0, 0, 2⟩, ⟨2, 0, 0, 2⟩] = ⟨2, 0, 0, 2⟩ := by rfl

theorem c_over (W : World) : Calls Try.prog 24 #[.agg #[.int .u8 128, .int .u8 128, .int .u8 128, .int .u8 128], .agg #[.int .u8 0, .int .u8 0, .int .u8 0, .int .u8 255]] W fun e w' => e = .returned (.agg #[.int .u8 128, .int .u8 128, .int .u8 128, .int .u8 255]) ∧ Below W.heap.size W w' := by
  have := over_any (s := ⟨128, 128, 128, 128⟩) (d := ⟨0, 0, 0, 255⟩) ⟨by decide, by decide, by decide, by decide⟩ ⟨by decide, by decide, by decide, by decide⟩ W
  rw [ex_over] at this
  exact this
theorem c_prem (W : World) : Calls Try.prog 20 #[.int .u8 255, .int .u8 100, .int .u8 0, .int .u8 128] W fun e w' => e = .returned (.agg #[.int .u8 128, .int .u8 50, .int .u8 0, .int .u8 128]) ∧ Below W.heap.size W w' := by
  have := prem_any (r := 255) (g := 100) (b := 0) (a := 128) (by decide) (by decide) (by decide) (by decide) W
  rw [ex_prem] at this
  exact this
theorem c_avg {W : World} {v : Value} (h : Pxs W v [⟨1, 0, 0, 2⟩, ⟨2, 0, 0, 2⟩]) : Calls Try.prog 26 #[v] W fun e w' => e = .returned (.agg #[.int .u8 2, .int .u8 0, .int .u8 0, .int .u8 2]) ∧ Below W.heap.size W w' := by
  have := avg_any (l := [⟨1, 0, 0, 2⟩, ⟨2, 0, 0, 2⟩]) (by
    intro p hp
    simp only [List.mem_cons, List.not_mem_nil, or_false] at hp
    rcases hp with rfl | rfl <;> exact ⟨by decide, by decide, by decide, by decide⟩) (by decide) h
  rw [ex_avg] at this
  exact this

theorem pxs_two (w : World) (p q : Px) : Pxs (w.alloc (.cells #[.int .u8 (p.r : Int), .int .u8 (p.g : Int), .int .u8 (p.b : Int), .int .u8 (p.a : Int), .int .u8 (q.r : Int), .int .u8 (q.g : Int), .int .u8 (q.b : Int), .int .u8 (q.a : Int)] 23)) (.slice (some ⟨w.heap.size, 0, none⟩) 2 2) [p, q] := by
  refine ⟨_, 2, rfl, Nat.le_refl _, by simp [maxLen], fun _ => ⟨w.heap.size, 0, rfl, by rw [World.size_alloc]; exact Nat.lt_succ_self _, fun j t ht => ?_⟩⟩
  match j with
  | 0 =>
    obtain rfl : p = t := by simpa using ht
    unfold At4
    simp [go_sem]
  | 1 =>
    obtain rfl : q = t := by simpa using ht
    unfold At4
    simp [go_sem]
  | j + 2 => simp at ht

set_option maxRecDepth 100000 in
set_option maxHeartbeats 4000000 in
theorem example_any (w : World) : Calls Try.prog 19 #[] w (Says true w) := by
  have C1 := fun W => Lib.hid (c_over W)
  have C2 := fun W => Lib.hid (c_prem W)
  go_enter Try.func19, Try.ntmps19
  go_wp2_with fail
  refine (C1 _).out.mono ?_
  rintro e w1 ⟨rfl, hb⟩
  have K := Lib.hid hb
  clear hb
  go_wp2_with fail
  refine (C2 _).out.mono ?_
  rintro e w2 ⟨rfl, hb⟩
  replace K := Lib.hid (Below.next K.out hb)
  clear hb
  go_wp2_with fail
  refine (c_avg (pxs_two w2 ⟨1, 0, 0, 2⟩ ⟨2, 0, 0, 2⟩)).mono ?_
  rintro e w3 ⟨rfl, hb⟩
  replace K := Lib.hid (Below.next (K.out.alloc K.out.size _) hb)
  clear hb
  go_wp2_with fail
  go_ret
  exact ⟨rfl, K.out⟩

end Go.Proofs.Ytkphkmcdbmphlaa
