/-
  exampleHolds: the examples of the chapter.
-/
import Derived.Test.YtalklenngalfjaaSame
import Derived.Test.YtalklenngalfjaaRsub
import Derived.Test.YtalklenngalfjaaUni
import Derived.Test.YtalklenngalfjaaMove
namespace Go.Proofs.Ytalklenngalfjaa
open Go.RowKit

/-- a law's answer b, and nothing that was there has turned -/
def Says (b : Bool) (w : World) (e : Ending) (w' : World) : Prop := e = .returned (.bool b) ∧ Below w.heap.size w w'

theorem ex_sub : subR ⟨0, 0, 4, 4⟩ ⟨1, 1, 2, 3⟩ = [⟨0, 0, 4, 1⟩, ⟨0, 3, 4, 4⟩, ⟨0, 1, 1, 3⟩, ⟨2, 1, 4, 3⟩] := by rfl
theorem ex_uni : uniR ⟨0, 0, 1, 1⟩ ⟨5, 5, 6, 6⟩ = ⟨0, 0, 6, 6⟩ := by rfl
theorem ex_tr : trR ⟨16380, 0, 16384, 2⟩ 3 (-1) = ⟨16383, -1, 16384, 1⟩ := by rfl
theorem ex_area : areaI ⟨0, 0, 2, 3⟩ = 6 := by rfl
theorem ex_valid : vldB ⟨0, 0, 0, 0⟩ = true := by rfl
theorem ex_empty : empB ⟨0, 0, 0, 0⟩ = true := by rfl
theorem ex_cx : clX ⟨0, 0, 4, 4⟩ 9 = 3 := by rfl
theorem ex_cy : clY ⟨0, 0, 4, 4⟩ (-2) = 0 := by rfl

set_option maxRecDepth 100000 in
set_option maxHeartbeats 4000000 in
theorem example_any (w : World) : Calls Try.prog 21 #[] w (Says true w) := by
  have C1 := fun W => Lib.hid (sub_any ⟨0, 0, 4, 4⟩ ⟨1, 1, 2, 3⟩ W)
  have C2 := fun W => Lib.hid (clamp_any ⟨0, 0, 4, 4⟩ 9 (-2) W)
  have C3 := fun W => Lib.hid (uni_any ⟨0, 0, 1, 1⟩ ⟨5, 5, 6, 6⟩ W)
  have C4 := fun W => Lib.hid (trans_any ⟨16380, 0, 16384, 2⟩ 3 (-1) W)
  have C5 := fun W => Lib.hid (area_any ⟨0, 0, 2, 3⟩ W)
  have C6 := fun W => Lib.hid (valid_any ⟨0, 0, 0, 0⟩ W)
  have C7 := fun W => Lib.hid (empty_any ⟨0, 0, 0, 0⟩ W)
  unfold Subs at C1
  rw [ex_sub] at C1
  rw [ex_cx, ex_cy] at C2
  rw [ex_uni] at C3
  rw [ex_tr] at C4
  rw [ex_area] at C5
  rw [ex_valid] at C6
  rw [ex_empty] at C7
  dsimp only at C1 C2 C3 C4 C5 C6 C7
  have K : Hid (Below w.heap.size w w) := Lib.hid (Below.refl _ _)
  go_enter Try.func21, Try.ntmps21
  go_wp2_with (go_at_call 35; refine (box_any _ _ _ _ _).mono ?_; rintro e wq ⟨rfl, hbq⟩; replace K := Lib.hid (K.out.trans (hbq.mono K.out.size)); clear hbq)
  refine (C1 _).out.mono ?_
  rintro e w1 ⟨v1, rfl, ho1, hb1⟩
  replace K := Lib.hid (K.out.trans (hb1.mono K.out.size))
  have RL := Lib.hid ho1.rs
  clear hb1 ho1
  go_wp2_with (first
    | (go_at_call 35; refine (box_any _ _ _ _ _).mono ?_; rintro e wq ⟨rfl, hbq⟩; replace K := Lib.hid (K.out.trans (hbq.mono K.out.size)); replace RL := Lib.hid (RL.out.below hbq); clear hbq)
    | (go_at_call 31; refine (C2 _).out.mono ?_; rintro e wq ⟨rfl, hbq⟩; replace K := Lib.hid (K.out.trans (hbq.mono K.out.size)); replace RL := Lib.hid (RL.out.below hbq); clear hbq))
  refine (same_true (RL.out.below ((Below.refl _ _).alloc (Nat.le_refl _) _)) (rs_four _ ⟨0, 0, 4, 1⟩ ⟨0, 3, 4, 4⟩ ⟨0, 1, 1, 3⟩ ⟨2, 1, 4, 3⟩)).mono ?_
  rintro e w2 ⟨rfl, hb2⟩
  replace K := Lib.hid ((K.out.alloc K.out.size _).trans (hb2.mono (K.out.alloc K.out.size _).size))
  clear hb2 RL
  go_wp2_with (first
    | (go_at_call 35; refine (box_any _ _ _ _ _).mono ?_; rintro e wq ⟨rfl, hbq⟩; replace K := Lib.hid (K.out.trans (hbq.mono K.out.size)); clear hbq)
    | (go_at_call 26; refine (C3 _).out.mono ?_; rintro e wq ⟨rfl, hbq⟩; replace K := Lib.hid (K.out.trans (hbq.mono K.out.size)); clear hbq)
    | (go_at_call 33; refine (C4 _).out.mono ?_; rintro e wq ⟨rfl, hbq⟩; replace K := Lib.hid (K.out.trans (hbq.mono K.out.size)); clear hbq)
    | (go_at_call 17; refine (C5 _).out.mono ?_; rintro e wq ⟨rfl, hbq⟩; replace K := Lib.hid (K.out.trans (hbq.mono K.out.size)); clear hbq)
    | (go_at_call 11; refine (C6 _).out.mono ?_; rintro e wq ⟨rfl, hbq⟩; replace K := Lib.hid (K.out.trans (hbq.mono K.out.size)); clear hbq)
    | (go_at_call 13; refine (C7 _).out.mono ?_; rintro e wq ⟨rfl, hbq⟩; replace K := Lib.hid (K.out.trans (hbq.mono K.out.size)); clear hbq))
  go_ret
  exact ⟨rfl, K.out⟩

end Go.Proofs.Ytalklenngalfjaa
