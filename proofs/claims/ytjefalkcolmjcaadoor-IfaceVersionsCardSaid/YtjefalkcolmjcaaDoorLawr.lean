/-
  The laws IfaceRequest, IfaceEvent.
-/
import Derived.Test.YtjefalkcolmjcaaDoorExam
namespace Go.Proofs.YtjefalkcolmjcaaDoor
open Go.RowKit

theorem str_self (x : ByteArray) : (x == x) = true := by
  obtain ⟨l⟩ := x
  show (l == l) = true
  simp
theorem str_other {x y : ByteArray} (h : x ≠ y) : (x == y) = false := by
  obtain ⟨l⟩ := x
  obtain ⟨m⟩ := y
  show (l == m) = false
  simpa using h

set_option maxHeartbeats 2000000 in
theorem eq_op (a b : ByteArray) (c : Int) (w : World) : (binOp .eql 32 (.agg #[.string a, .string b, .int .i64 c]) (.agg #[.string a, .string b, .int .i64 c])).run Tryd.prog w = .ok (.bool true) w := by
  have h : ∀ d : Nat, (Op.equalIn (d + 3) 32 (.agg #[.string a, .string b, .int .i64 c]) (.agg #[.string a, .string b, .int .i64 c])).run Tryd.prog w = .ok true w := fun d => by
    simp [Op.equalIn, run_underlying Tryd.underlying32, run_underlying Tryd.underlying9, run_underlying Tryd.underlying3, go_sem, str_self]
  simp only [binOp]
  simp [Op.equal, Op.maxDepth, h 9997]

set_option maxHeartbeats 2000000 in
theorem request_walk (n : ByteArray) (k v : Int) {w : World} (T : Tab w) : Calls Tryd.prog 4 #[.string n, .int .i64 k, .int .i64 v] w (Says true w) := by
  have C := fun W (T : Tab W) => Lib.hid (p_request_any T n k v)
  have D := fun W => Lib.hid (request_any n k v W)
  have E := fun W (T : Tab W) => Lib.hid (exam_any T)
  have EQ := eq_op
  obtain ⟨p, hp⟩ : ∃ p, pickT n (reqT n) k v = p := ⟨_, rfl⟩
  rw [hp] at C D
  clear hp
  obtain ⟨⟨a, b, c⟩, r⟩ := p
  go_enter Tryd.func4, Tryd.ntmps4
  go_wp2_with fail
  refine (C _ (by first | exact T | exact T.below J.out.below | exact T.below J.out | exact T.below J0.out | exact T.below J1.out | exact T.below J2.out | exact T.below J4.out | exact T.below J6.out | exact T.below J7.out | exact T.below HB.out)).out.mono ?_
  rintro e w1 ⟨rfl, hb⟩
  have J := Lib.hid (((Held.nil w).step hb).alloc [.string a, .string b, .int .i64 c] 28)
  clear C hb
  go_wp2_with fail
  refine (D _).out.mono ?_
  rintro e w2 ⟨rfl, hb⟩
  replace J := Lib.hid ((J.out.step hb).alloc [.string a, .string b, .int .i64 c] 32)
  clear D hb
  obtain ⟨y0, y1, y2, -, -⟩ := (J.out).tri (l1 := [])
  obtain ⟨z0, z1, z2, -, -⟩ := (show Held w _ ([_] ++ (w1.heap.size, _) :: []) from J.out).tri
  go_wp2_with fail
  refine (E _ (by first | exact T | exact T.below J.out.below | exact T.below J.out | exact T.below J0.out | exact T.below J1.out | exact T.below J2.out | exact T.below J4.out | exact T.below J6.out | exact T.below J7.out | exact T.below HB.out)).out.mono ?_
  rintro e w3 ⟨rfl, hb⟩
  have HB := Lib.hid (J.out.step hb).below
  clear E J hb
  go_wp2_with fail
  go_ret
  exact ⟨rfl, HB.out⟩

set_option maxHeartbeats 2000000 in
theorem event_walk (n : ByteArray) (k v : Int) {w : World} (T : Tab w) : Calls Tryd.prog 5 #[.string n, .int .i64 k, .int .i64 v] w (Says true w) := by
  have C := fun W (T : Tab W) => Lib.hid (p_event_any T n k v)
  have D := fun W => Lib.hid (event_any n k v W)
  have E := fun W (T : Tab W) => Lib.hid (exam_any T)
  have EQ := eq_op
  obtain ⟨p, hp⟩ : ∃ p, pickT n (evtT n) k v = p := ⟨_, rfl⟩
  rw [hp] at C D
  clear hp
  obtain ⟨⟨a, b, c⟩, r⟩ := p
  go_enter Tryd.func5, Tryd.ntmps5
  go_wp2_with fail
  refine (C _ (by first | exact T | exact T.below J.out.below | exact T.below J.out | exact T.below J0.out | exact T.below J1.out | exact T.below J2.out | exact T.below J4.out | exact T.below J6.out | exact T.below J7.out | exact T.below HB.out)).out.mono ?_
  rintro e w1 ⟨rfl, hb⟩
  have J := Lib.hid (((Held.nil w).step hb).alloc [.string a, .string b, .int .i64 c] 28)
  clear C hb
  go_wp2_with fail
  refine (D _).out.mono ?_
  rintro e w2 ⟨rfl, hb⟩
  replace J := Lib.hid ((J.out.step hb).alloc [.string a, .string b, .int .i64 c] 32)
  clear D hb
  obtain ⟨y0, y1, y2, -, -⟩ := (J.out).tri (l1 := [])
  obtain ⟨z0, z1, z2, -, -⟩ := (show Held w _ ([_] ++ (w1.heap.size, _) :: []) from J.out).tri
  go_wp2_with fail
  refine (E _ (by first | exact T | exact T.below J.out.below | exact T.below J.out | exact T.below J0.out | exact T.below J1.out | exact T.below J2.out | exact T.below J4.out | exact T.below J6.out | exact T.below J7.out | exact T.below HB.out)).out.mono ?_
  rintro e w3 ⟨rfl, hb⟩
  have HB := Lib.hid (J.out.step hb).below
  clear E J hb
  go_wp2_with fail
  go_ret
  exact ⟨rfl, HB.out⟩

end Go.Proofs.YtjefalkcolmjcaaDoor
