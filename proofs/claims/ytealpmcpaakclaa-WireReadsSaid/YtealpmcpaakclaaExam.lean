/-
  The examples of the chapter, as the law file's own function 'exampleHolds' asks them: it answers true, and nothing that was there turns.
-/
import Derived.Test.YtealpmcpaakclaaText
import Derived.Test.YtealpmcpaakclaaSame
namespace Go.Proofs.Ytealpmcpaakclaa
open Go.RowKit Mem Wire

/-- the call answers b; nothing that was there has turned -/
def Says (b : Bool) (w : World) (e : Ending) (w' : World) : Prop := e = .returned (.bool b) ∧ Below w.heap.size w w'

theorem grown_below {w w1 w2 : World} {g : Nat} (h : Below w.heap.size w w1) (hg : w1.grownBy w2 (some g)) (hge : w.heap.size ≤ g) : Below w.heap.size w w2 :=
  h.grown hg h.size (fun k hk => by injection hk with e; omega)

theorem below_draws {B : Nat} {a w : World} (h : Below B a w) (n : Nat) : Below B a (w.drewN n) := ⟨h.os, h.tape, h.output, h.size, h.block⟩

set_option maxHeartbeats 1000000 in
theorem example_any (w : World) : Calls Try.prog 11 #[] w (Says true w) := by
  have n1 : numS ([1, 0, 0, 0, 5], 0) = (([5], 0), 1) := by decide
  have n2 : numS ([5], 0) = (([], 4), 0) := by decide
  have n3 : strS ([2, 0, 0, 0, 97, 0, 0, 0], 0) 9 = (([], 3), []) := by decide
  have n4 : endS ([5], 0) = 3 := by decide
  have N1 := Lib.hid n1; have N2 := Lib.hid n2; have N3 := Lib.hid n3; have N4 := Lib.hid n4
  clear n1 n2 n3 n4
  go_enter Try.func11, Try.ntmps11
  go_wp2_with fail
  refine (from_any (sees_new w _ [1, 0, 0, 0, 5] 5 rfl rfl (by simp [maxLen])) (by simp)).mono ?_
  rintro e w1 ⟨g, rfl, hg, hr, hb⟩
  have hbw1 : Below w.heap.size w w1 := ((Below.refl _ _).alloc (Nat.le_refl _) _).trans (hb.mono (by simp))
  have hgw : w.heap.size ≤ g := by simp at hg; omega
  have HR := Lib.hid hr
  clear hr hg hb
  have U1 := Lib.hid (uint_any HR.out)
  rw [N1.out] at U1
  go_wp2_with fail
  refine U1.out.mono ?_
  rintro e w2 ⟨rfl, h1, h2⟩
  have hbw2 := grown_below hbw1 h2 hgw
  have H1 := Lib.hid h1
  clear h1 h2
  go_wp2_with fail
  refine (left_any H1.out).mono ?_
  rintro e w3 ⟨rfl, rfl⟩
  have E1 := Lib.hid (end_any H1.out)
  rw [N4.out] at E1
  go_wp2_with fail
  refine E1.out.mono ?_
  rintro e w3 ⟨rfl, rfl⟩
  have U2 := Lib.hid (uint_any H1.out)
  rw [N2.out] at U2
  go_wp2_with fail
  refine U2.out.mono ?_
  rintro e w3 ⟨rfl, h1, h2⟩
  have hbw3 := grown_below hbw2 h2 hgw
  have H3 := Lib.hid h1
  clear h1 h2
  go_wp2_with fail
  refine (from_any (sees_new w3 _ [2, 0, 0, 0, 97, 0, 0, 0] 8 rfl rfl (by simp [maxLen])) (by simp)).mono ?_
  rintro e w4 ⟨g2, rfl, hg2, hr2, hb2⟩
  have hb34 : Below w3.heap.size w3 w4 := ((Below.refl _ _).alloc (Nat.le_refl _) _).trans (hb2.mono (by simp))
  have hbw4 : Below w.heap.size w w4 := hbw3.trans (hb34.mono hbw3.size)
  have hne : g ≠ g2 := by have := H3.out.lt; simp at hg2; omega
  have hg2w : w.heap.size ≤ g2 := by have := hbw3.size; simp at hg2; omega
  have H4 := Lib.hid (H3.out.below hb34)
  have HS := Lib.hid hr2
  clear hb2 hr2 hg2 hb34
  have S1 := Lib.hid (string_any 9 HS.out (by omega))
  rw [N3.out] at S1
  go_wp2_with fail
  refine S1.out.mono ?_
  rintro e w5 ⟨rfl, h1, h2⟩
  have hbw5 := grown_below hbw4 h2 hg2w
  have H5 := Lib.hid (H4.out.grown HS.out hne h2)
  have HS5 := Lib.hid h1
  clear h1 h2 hne
  go_wp2_with fail
  refine (err_any H5.out).mono ?_
  rintro e w6 ⟨rfl, rfl⟩
  go_wp2_with fail
  refine (left_any H5.out).mono ?_
  rintro e w6 ⟨rfl, rfl⟩
  go_wp2_with fail
  refine (err_any HS5.out).mono ?_
  rintro e w6 ⟨rfl, rfl⟩
  go_wp2_with fail
  have P1 := Lib.hid (string_put ⟨#[97, 98]⟩ (sees_nil w5) (by simp) (by decide))
  rw [show ([] : List UInt8) ++ encA (⟨#[97, 98]⟩ : ByteArray).data.toList = [2, 0, 0, 0, 97, 98, 0, 0] by decide] at P1
  refine P1.out.mono ?_
  rintro e w6 ⟨v6, rfl, ho6, hb6⟩
  have hbw6 : Below w.heap.size w w6 := hbw5.trans (hb6.mono hbw5.size)
  have HO6 := Lib.hid ho6.sees
  obtain ⟨A6, c6, rfl, _, _⟩ := ho6.sees.shape
  clear ho6
  go_wp2_with fail
  refine (same_any (HO6.out.alloc _) (sees_new w6 _ [2, 0, 0, 0, 97, 98, 0, 0] 8 rfl rfl (by simp [maxLen]))).mono ?_
  rintro e w7 ⟨rfl, q, rfl⟩
  have hbw7 := below_draws (hbw6.alloc hbw6.size (.cells #[.int .u8 2, .int .u8 0, .int .u8 0, .int .u8 0, .int .u8 97, .int .u8 98, .int .u8 0, .int .u8 0] 5)) q
  have P2 := Lib.hid (fun W : World => int_put (-2) (sees_nil W) (by simp))
  rw [show ([] : List UInt8) ++ enc4 ((-2 : Int) % 4294967296).toNat = [254, 255, 255, 255] by decide] at P2
  go_wp2_with fail
  refine (P2.out _).mono ?_
  rintro e w8 ⟨v8, rfl, ho8, hb8⟩
  have hbw8 : Below w.heap.size w w8 := hbw7.trans (hb8.mono hbw7.size)
  have HO8 := Lib.hid ho8.sees
  obtain ⟨A8, c8, rfl, _, _⟩ := ho8.sees.shape
  clear ho8
  go_wp2_with fail
  refine (same_any (HO8.out.alloc _) (sees_new w8 _ [254, 255, 255, 255] 4 rfl rfl (by simp [maxLen]))).mono ?_
  rintro e w9 ⟨rfl, q9, rfl⟩
  have hbw9 := below_draws (hbw8.alloc hbw8.size (.cells #[.int .u8 254, .int .u8 255, .int .u8 255, .int .u8 255] 5)) q9
  go_wp2_with fail
  go_ret
  exact ⟨rfl, hbw9⟩

end Go.Proofs.Ytealpmcpaakclaa
