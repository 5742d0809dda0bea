/-
  The walks of the laws TransformTells and TransformGroup.
-/
import Derived.Test.YtphgjfkmnohjlaaDoorOpen
namespace Go.Proofs.YtphgjfkmnohjlaaDoor
open Go.RowKit

set_option maxRecDepth 100000 in
set_option maxHeartbeats 4000000 in
theorem tells_walk (a b x y : Int) (w : World) (h : Tab w) : Calls Tryd.prog 3 #[.int .i64 a, .int .i64 b, .agg #[.int .i64 x, .int .i64 y]] w (Says true w) := by
  have HT := Lib.hid h
  clear h
  have C1 := fun W => Lib.hid (size_any a x y W)
  have C2 := fun W => Lib.hid (rsize_any a x y W)
  have C3 := fun W => Lib.hid (validt_any a W)
  have C4 := fun W => Lib.hid (rvalidt_any a W)
  have C5 := fun W h => Lib.hid (compose_any a b W h)
  have C6 := fun W => Lib.hid (rcompose_any a b W)
  have C7 := fun W h => Lib.hid (invert_any a W h)
  have C8 := fun W => Lib.hid (rinvert_any a W)
  have C9 := fun W h => Lib.hid (example_any W h)
  generalize siW a x y = s1 at *
  generalize siH a x y = s2 at *
  generalize vT a = v at *
  generalize comp a b = c at *
  generalize inv a = i at *
  have hv : (v == v) = true := beq_self_eq_true v
  have P := Lib.hid (HeldP.new (Below.refl w.heap.size w) x y)
  go_enter Tryd.func3, Tryd.ntmps3
  go_wp2_with (first
    | (go_at_call 10; (with_reducible refine (C1 _).out.mono ?_); rintro e wq ⟨rfl, rfl⟩)
    | (go_at_call 11; (with_reducible refine (C2 _).out.mono ?_); rintro e wq ⟨rfl, rfl⟩)
    | (go_at_call 12; (with_reducible refine (C3 _).out.mono ?_); rintro e wq ⟨rfl, rfl⟩)
    | (go_at_call 13; (with_reducible refine (C4 _).out.mono ?_); rintro e wq ⟨rfl, rfl⟩)
    | (go_at_call 14; (with_reducible refine (C5 _ (HT.out.below P.out.below)).out.mono ?_); rintro e w1 ⟨rfl, hb⟩; replace P := Lib.hid (P.out.step hb); clear hb)
    | (go_at_call 15; (with_reducible refine (C6 _).out.mono ?_); rintro e w1 ⟨rfl, hb⟩; replace P := Lib.hid (P.out.step hb); clear hb)
    | (go_at_call 16; (with_reducible refine (C7 _ (HT.out.below P.out.below)).out.mono ?_); rintro e w1 ⟨rfl, hb⟩; replace P := Lib.hid (P.out.step hb); clear hb)
    | (go_at_call 17; (with_reducible refine (C8 _).out.mono ?_); rintro e w1 ⟨rfl, hb⟩; replace P := Lib.hid (P.out.step hb); clear hb)
    | (go_at_call 18; (with_reducible refine (C9 _ (HT.out.below P.out.below)).out.mono ?_); rintro e w1 ⟨rfl, hb⟩; replace P := Lib.hid (P.out.step hb); clear hb))
  go_ret
  exact ⟨rfl, P.out.below⟩

set_option maxRecDepth 100000 in
set_option maxHeartbeats 4000000 in
theorem group_walk (a b c : Int) (w : World) (h : Tab w) : Calls Tryd.prog 6 #[.int .i64 a, .int .i64 b, .int .i64 c] w (Says true w) := by
  have HT := Lib.hid h
  clear h
  have C0 := fun W h => Lib.hid (compose_any a b W h)
  have C1 := fun W h => Lib.hid (compose_any b c W h)
  have C2 := fun W => Lib.hid (validt_any (comp a b) W)
  have C3 := fun W h => Lib.hid (compose_any (comp a b) c W h)
  have C4 := fun W h => Lib.hid (compose_any a (comp b c) W h)
  have C5 := fun W h => Lib.hid (compose_any a 0 W h)
  have C6 := fun W h => Lib.hid (compose_any 0 a W h)
  have C7 := fun W => Lib.hid (lclean_any a W)
  have C8 := fun W h => Lib.hid (invert_any a W h)
  have C9 := fun W h => Lib.hid (compose_any a (inv a) W h)
  have C10 := fun W h => Lib.hid (compose_any (inv a) a W h)
  have C11 := fun W h => Lib.hid (invert_any (comp a b) W h)
  have C12 := fun W h => Lib.hid (invert_any b W h)
  have C13 := fun W h => Lib.hid (compose_any (inv b) (inv a) W h)
  have C14 := fun W h => Lib.hid (example_any W h)
  rw [comp_assoc] at C3
  rw [comp_one] at C5
  rw [one_comp] at C6
  rw [comp_inv] at C9
  rw [inv_comp] at C10
  rw [inv_prod] at C11
  rw [show vT (comp a b) = true from decide_eq_true (comp_in a b)] at C2
  generalize comp a (comp b c) = abc at *
  generalize comp (inv b) (inv a) = iab at *
  generalize comp a b = ab at *
  generalize comp b c = bc at *
  generalize cl a = ca at *
  generalize inv a = ia at *
  generalize inv b = ib at *
  have K := Lib.hid (Below.refl w.heap.size w)
  go_enter Tryd.func6, Tryd.ntmps6
  go_wp2_with (first
    | (go_at_call 14; (with_reducible refine (C0 _ (HT.out.below K.out)).out.mono ?_); rintro e w1 ⟨rfl, hb⟩; replace K := Lib.hid (Below.next K.out hb); clear hb)
    | (go_at_call 14; (with_reducible refine (C1 _ (HT.out.below K.out)).out.mono ?_); rintro e w1 ⟨rfl, hb⟩; replace K := Lib.hid (Below.next K.out hb); clear hb)
    | (go_at_call 12; (with_reducible refine (C2 _).out.mono ?_); rintro e wq ⟨rfl, rfl⟩)
    | (go_at_call 14; (with_reducible refine (C3 _ (HT.out.below K.out)).out.mono ?_); rintro e w1 ⟨rfl, hb⟩; replace K := Lib.hid (Below.next K.out hb); clear hb)
    | (go_at_call 14; (with_reducible refine (C4 _ (HT.out.below K.out)).out.mono ?_); rintro e w1 ⟨rfl, hb⟩; replace K := Lib.hid (Below.next K.out hb); clear hb)
    | (go_at_call 14; (with_reducible refine (C5 _ (HT.out.below K.out)).out.mono ?_); rintro e w1 ⟨rfl, hb⟩; replace K := Lib.hid (Below.next K.out hb); clear hb)
    | (go_at_call 14; (with_reducible refine (C6 _ (HT.out.below K.out)).out.mono ?_); rintro e w1 ⟨rfl, hb⟩; replace K := Lib.hid (Below.next K.out hb); clear hb)
    | (go_at_call 27; (with_reducible refine (C7 _).out.mono ?_); rintro e wq ⟨rfl, rfl⟩)
    | (go_at_call 16; (with_reducible refine (C8 _ (HT.out.below K.out)).out.mono ?_); rintro e w1 ⟨rfl, hb⟩; replace K := Lib.hid (Below.next K.out hb); clear hb)
    | (go_at_call 14; (with_reducible refine (C9 _ (HT.out.below K.out)).out.mono ?_); rintro e w1 ⟨rfl, hb⟩; replace K := Lib.hid (Below.next K.out hb); clear hb)
    | (go_at_call 14; (with_reducible refine (C10 _ (HT.out.below K.out)).out.mono ?_); rintro e w1 ⟨rfl, hb⟩; replace K := Lib.hid (Below.next K.out hb); clear hb)
    | (go_at_call 16; (with_reducible refine (C11 _ (HT.out.below K.out)).out.mono ?_); rintro e w1 ⟨rfl, hb⟩; replace K := Lib.hid (Below.next K.out hb); clear hb)
    | (go_at_call 16; (with_reducible refine (C12 _ (HT.out.below K.out)).out.mono ?_); rintro e w1 ⟨rfl, hb⟩; replace K := Lib.hid (Below.next K.out hb); clear hb)
    | (go_at_call 14; (with_reducible refine (C13 _ (HT.out.below K.out)).out.mono ?_); rintro e w1 ⟨rfl, hb⟩; replace K := Lib.hid (Below.next K.out hb); clear hb)
    | (go_at_call 18; (with_reducible refine (C14 _ (HT.out.below K.out)).out.mono ?_); rintro e w1 ⟨rfl, hb⟩; replace K := Lib.hid (Below.next K.out hb); clear hb))
  go_ret
  exact ⟨rfl, K.out⟩

end Go.Proofs.YtphgjfkmnohjlaaDoor
