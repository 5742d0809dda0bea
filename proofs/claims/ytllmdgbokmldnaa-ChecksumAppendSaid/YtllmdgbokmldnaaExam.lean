/-
  The law file's 'exampleHolds'.
-/
import Derived.Test.YtllmdgbokmldnaaVer
import Derived.Test.YtllmdgbokmldnaaAdl
import Derived.Lib.SmallJoins
namespace Go.Proofs.Ytllmdgbokmldnaa
open Go.RowKit Mem

def Says (b : Bool) (w : World) (e : Ending) (w' : World) : Prop := e = .returned (.bool b) ∧ Below w.heap.size w w'

theorem crc_nine {p : Nat} (hp : Poly p) : crcu p 0 [49, 50, 51, 52, 53, 54, 55, 56, 57] = 3421780262 := by
  rw [hp.eq]
  kernel_rfl
theorem crc_none {p : Nat} (hp : Poly p) : crcu p 0 [] = 0 := by
  rw [hp.eq]
  kernel_rfl
theorem adl_a : adlu 1 [97] = 6422626 := by kernel_rfl
theorem adl_none : adlu 1 [] = 1 := by kernel_rfl

theorem ver_three (p : Nat) : verE p [1, 2, 3] = 4 ∧ verB p [1, 2, 3] = [] := ⟨rfl, rfl⟩
theorem sum_zero {p : Nat} (hp : Poly p) : withSum p [] = [0, 0, 0, 0] := by
  unfold withSum
  rw [crc_none hp]
  rfl
theorem ok_zero {p : Nat} (hp : Poly p) : okSum p [0, 0, 0, 0] = true := by
  have h := sum_zero hp
  unfold okSum
  exact decide_eq_true h
theorem ver_zero {p : Nat} (hp : Poly p) : verE p [0, 0, 0, 0] = 0 ∧ verB p [0, 0, 0, 0] = [] := by
  unfold verE verB
  rw [ok_zero hp]
  exact ⟨rfl, rfl⟩

/-- what a call of Verify leaves of bytes that leave no bytes over -/
def VerN (w : World) (x : Int) (e : Ending) (w' : World) : Prop := ∃ A c, e = .returned (.tuple #[.slice A 0 c, .int .i64 x]) ∧ Below w.heap.size w w'

theorem ver_none {w : World} {p : Nat} {bs : List UInt8} {x : Int} (h : verE p bs = x ∧ verB p bs = []) (e : Ending) (w' : World) (hv : VerP w p bs e w') : VerN w x e w' := by
  obtain ⟨v, he, ho, hb⟩ := hv
  rw [h.1] at he
  rw [h.2] at ho
  obtain ⟨A, c, rfl, _, _⟩ := ho.sees.shape
  exact ⟨A, c, he, hb⟩

theorem ver3 {p : Nat} (hp : Poly p) (W : World) : Calls Try.prog 26 #[.slice (some ⟨W.heap.size, 0, none⟩) 3 3] (W.alloc (.cells #[.int .u8 1, .int .u8 2, .int .u8 3] 5)) (VerN (W.alloc (.cells #[.int .u8 1, .int .u8 2, .int .u8 3] 5)) 4) :=
  (verify_any hp (sees_new W #[.int .u8 1, .int .u8 2, .int .u8 3] [1, 2, 3] 3 rfl rfl (by simp [maxLen])) (by decide)).mono (ver_none (ver_three p))
theorem ver4 {p : Nat} (hp : Poly p) (W : World) : Calls Try.prog 26 #[.slice (some ⟨W.heap.size, 0, none⟩) 4 4] (W.alloc (.cells #[.int .u8 0, .int .u8 0, .int .u8 0, .int .u8 0] 5)) (VerN (W.alloc (.cells #[.int .u8 0, .int .u8 0, .int .u8 0, .int .u8 0] 5)) 0) :=
  (verify_any hp (sees_new W #[.int .u8 0, .int .u8 0, .int .u8 0, .int .u8 0] [0, 0, 0, 0] 4 rfl rfl (by simp [maxLen])) (by decide)).mono (ver_none (ver_zero hp))
/-- the bytes of a constant string, just made -/
theorem sees_mark (w : World) (cs : Array Value) {t : TypeId} (fr : Nat × Nat) (bs : List UInt8) (n : Nat) (hn : n = bs.length) (h : cs = (bs.map byte).toArray) (hm : n ≤ maxLen) : Sees (w.alloc (.cells cs t fr)) (.slice (some ⟨w.heap.size, 0, none⟩) n n) bs := by
  subst h hn
  refine ⟨_, _, rfl, Nat.le_refl _, hm, fun _ => ⟨w.heap.size, 0, rfl, by simp, fun j hj => ?_⟩⟩
  rw [Nat.zero_add, World.cell?_alloc_mark]
  simp [List.getD, List.getElem?_eq_getElem hj]
def nine : Array Value := #[.int .u8 49, .int .u8 50, .int .u8 51, .int .u8 52, .int .u8 53, .int .u8 54, .int .u8 55, .int .u8 56, .int .u8 57]
theorem conv9 (W : World) : (convert 23 23 (.slice (some ⟨W.heap.size, 0, none⟩) 9 9)).run Try.prog (W.alloc (.cells #[.int .u8 49, .int .u8 50, .int .u8 51, .int .u8 52, .int .u8 53, .int .u8 54, .int .u8 55, .int .u8 56, .int .u8 57] 5)) = .ok (.slice (some ⟨W.heap.size, 0, none⟩) 9 9) (W.alloc (.cells nine 5 (9, 10))) :=
  Go.Joins.run_convert_bytes_const_at W 23 5 _ 9 9 _ rfl Try.underlying23 Try.underlying5
theorem crc9 {p : Nat} (hp : Poly p) (W : World) : Calls Try.prog 15 #[.slice (some ⟨W.heap.size, 0, none⟩) 9 9] (W.alloc (.cells nine 5 (9, 10))) (Gives (W.alloc (.cells nine 5 (9, 10))) 3421780262) := by
  have h := crc_any hp (sees_mark W nine (t := 5) (9, 10) [49, 50, 51, 52, 53, 54, 55, 56, 57] 9 rfl rfl (by simp [maxLen]))
  rw [crc_nine hp] at h
  exact h
theorem crc0 {p : Nat} (hp : Poly p) (W : World) : Calls Try.prog 15 #[.slice none 0 0] W (Gives W 0) := by
  have h := crc_any hp (sees_nil W)
  rw [crc_none hp] at h
  exact h
def lone : Array Value := #[.int .u8 97]
theorem conv1 (W : World) : (convert 23 23 (.slice (some ⟨W.heap.size, 0, none⟩) 1 1)).run Try.prog (W.alloc (.cells #[.int .u8 97] 5)) = .ok (.slice (some ⟨W.heap.size, 0, none⟩) 1 1) (W.alloc (.cells lone 5 (1, 2))) :=
  Go.Joins.run_convert_bytes_const_at W 23 5 _ 1 1 _ rfl Try.underlying23 Try.underlying5
theorem adl1 (W : World) : Calls Try.prog 19 #[.slice (some ⟨W.heap.size, 0, none⟩) 1 1] (W.alloc (.cells lone 5 (1, 2))) (Only (W.alloc (.cells lone 5 (1, 2))) 6422626) := by
  have h := adl_any (sees_mark W lone (t := 5) (1, 2) [97] 1 rfl rfl (by simp [maxLen]))
  rw [adl_a] at h
  exact h
theorem adl0 (W : World) : Calls Try.prog 19 #[.slice none 0 0] W (Only W 1) := by
  have h := adl_any (sees_nil W)
  rw [adl_none] at h
  exact h

set_option maxHeartbeats 2000000 in
theorem example_any (w : World) : Calls Try.prog 12 #[] w (Says true w) := by
  obtain ⟨p, hp⟩ := poly
  have H3 := Lib.hid (ver3 hp)
  have H4 := Lib.hid (ver4 hp)
  have H9 := Lib.hid (crc9 hp)
  have H0 := Lib.hid (crc0 hp)
  have K1 := Lib.hid adl1
  have K0 := Lib.hid adl0
  have c9 := conv9
  have c1 := conv1
  clear hp
  go_enter Try.func12, Try.ntmps12
  go_wp2_with fail
  refine (H3.out w).mono ?_
  rintro e w1 ⟨A1, c1, rfl, hb1⟩
  have B1 : Below w.heap.size w w1 := ((Below.refl _ _).alloc (Nat.le_refl _) _).trans (hb1.mono (by simp))
  clear hb1
  go_wp2_with fail
  refine (H4.out w1).mono ?_
  rintro e w2 ⟨A2, c2, rfl, hb2⟩
  have B2 : Below w.heap.size w w2 := (B1.alloc B1.size _).trans (hb2.mono (by have := B1.size; simp; omega))
  clear hb2 B1
  go_wp2_with fail
  refine (H9.out w2).mono ?_
  rintro e w3 ⟨rfl, hb3⟩
  have B3 : Below w.heap.size w w3 := (B2.alloc B2.size _).trans (hb3.mono (by have := B2.size; simp; omega))
  clear hb3 B2
  go_wp2_with fail
  refine (K1.out w3).mono ?_
  rintro e w4 ⟨rfl, rfl⟩
  have B4 : Below w.heap.size w (w3.alloc (.cells lone 5 (1, 2))) := B3.alloc B3.size _
  generalize w3.alloc (.cells lone 5 (1, 2)) = w4 at *
  go_wp2_with fail
  refine (H0.out w4).mono ?_
  rintro e w5 ⟨rfl, hb5⟩
  have B5 : Below w.heap.size w w5 := B4.trans (hb5.mono B4.size)
  clear hb5 B4
  go_wp2_with fail
  refine (K0.out w5).mono ?_
  rintro e w6 ⟨rfl, rfl⟩
  go_wp2_with fail
  go_ret
  exact ⟨rfl, B5⟩

end Go.Proofs.Ytllmdgbokmldnaa
