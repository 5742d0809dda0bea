/-
  The chapter's examples, over the contracts of the package's functions.
-/
import Derived.Test.YtkehdaahlfkiiaaPqk
namespace Go.Proofs.Ytkehdaahlfkiiaa
open Go.RowKit

def SaysB (b : Bool) (w : World) (e : Ending) (w' : World) : Prop := e = .returned (.bool b) ∧ Below w.heap.size w w'
theorem is_lit (w : World) (L : List Int) (h : L.length ≤ maxLen) : Is (w.alloc (.cells (ils L).toArray 3)) (.slice (some ⟨w.heap.size, 0, none⟩) L.length L.length) L := by
  refine ⟨_, _, rfl, Nat.le_refl _, h, fun _ => ⟨w.heap.size, 0, rfl, by simp, fun j q hj => ?_⟩⟩
  rw [Nat.zero_add, World.cell?_alloc_at _ _ _ _ rfl]
  simp [ils, hj]
def q0 : Qs := ⟨[2, 0], [0, 0]⟩
def q1 : Qs := ⟨[2, 0], [2, 0]⟩
theorem q0_ok : QOk q0 := newQ_ok (L := [2, 0]) (fun x hx => by simp at hx; rcases hx with rfl | rfl <;> exact i64_lit (by decide) (by decide))
theorem q1_ok : QOk q1 := useQ_ok q0_ok 0 2
def b0 : Bk := ⟨true, false, 1000, 5, 5000, 0⟩
def b1 : Bk := ⟨true, true, 1000, 5, 0, 0⟩
def b2 : Bk := ⟨true, true, 1000, 5, 2000, 2⟩
def b3 : Bk := ⟨true, true, 1000, 5, 0, 2⟩
theorem b0_ok : BOk b0 := newB_ok 1000 5
theorem b1_ok : BOk b1 := takeB_ok b0_ok (now := 0) (i64_lit (by decide) (by decide)) 5
theorem b2_ok : BOk b2 := lvlB_ok b1_ok (now := 2) (i64_lit (by decide) (by decide))
theorem b3_ok : BOk b3 := takeB_ok b2_ok (now := 1) (i64_lit (by decide) (by decide)) 2
section
variable {T : World → Prop} {R : World → World → Value → Qs → (Nat → Prop) → Prop} {RB : World → World → Value → Bk → (Nat → Prop) → Prop}
set_option maxRecDepth 100000 in
set_option maxHeartbeats 16000000 in
theorem ex_any (K : PQ T R) (KB : PB T RB) {w : World} (hT : T w) : Calls Try.prog 11 #[] w (SaysB true w) := by
  have HT := Lib.hid hT
  have J := Lib.hid ((HO.nil w).alloc (ils [2, 0]) 3).tail
  have HI := Lib.hid (is_lit w [2, 0] (by decide))
  clear hT
  go_enter Try.func11, Try.ntmps11
  go_wp2_with fail
  refine (K.new (K.below HT.out J.out.below) J.out.below HI.out (by decide) (fun x hx => by simp at hx; rcases hx with rfl | rfl <;> exact i64_lit (by decide) (by decide))).mono ?_
  rintro e w1 ⟨rv, S, rfl, hr, hs, hb⟩
  replace J := Lib.hid (J.out.newQ K (q := q0) hr hs hb)
  obtain ⟨pa, rfl⟩ := K.some hr
  clear HI hr hs hb
  go_wp2_with fail
  refine (KB.new (K.below HT.out J.out.below) J.out.below 1000 5 (i64_lit (by decide) (by decide)) (i64_lit (by decide) (by decide))).mono ?_
  rintro e w2 ⟨rb, SB, rfl, hr, hs, hb⟩
  replace J := Lib.hid (J.out.newB KB (b := b0) hr hs hb)
  obtain ⟨pb, rfl⟩ := KB.made hr rfl
  clear hr hs hb
  go_wp2_with fail
  refine (K.use (K.below HT.out J.out.below) (show HO w _ ([_] ++ objO R w _ q0 _ :: []) from J.out).at q0_ok 0 2 (i64_lit (by decide) (by decide)) (i64_lit (by decide) (by decide))).mono ?_
  rintro e w3 ⟨S3, he, hr, hs, ht⟩
  obtain rfl : e = .returned (.int .i64 0) := he
  replace J := Lib.hid ((show HO w _ ([_] ++ objO R w _ q0 _ :: []) from J.out).turnQ K (q' := q1) hr hs ht)
  clear hr hs ht
  go_wp2_with fail
  refine (K.use (K.below HT.out J.out.below) (show HO w _ ([_] ++ objO R w _ q1 _ :: []) from J.out).at q1_ok 0 1 (i64_lit (by decide) (by decide)) (i64_lit (by decide) (by decide))).mono ?_
  rintro e w4 ⟨S4, he, hr, hs, ht⟩
  obtain rfl : e = .returned (.int .i64 5) := he
  replace J := Lib.hid ((show HO w _ ([_] ++ objO R w _ q1 _ :: []) from J.out).turnQ K (q' := q1) hr hs ht)
  clear hr hs ht
  go_wp2_with fail
  refine (K.use (K.below HT.out J.out.below) (show HO w _ ([_] ++ objO R w _ q1 _ :: []) from J.out).at q1_ok 1 0 (i64_lit (by decide) (by decide)) (i64_lit (by decide) (by decide))).mono ?_
  rintro e w5 ⟨S5, he, hr, hs, ht⟩
  obtain rfl : e = .returned (.int .i64 0) := he
  replace J := Lib.hid ((show HO w _ ([_] ++ objO R w _ q1 _ :: []) from J.out).turnQ K (q' := q1) hr hs ht)
  clear hr hs ht
  go_wp2_with fail
  refine (K.use (K.below HT.out J.out.below) (show HO w _ ([_] ++ objO R w _ q1 _ :: []) from J.out).at q1_ok 2 0 (i64_lit (by decide) (by decide)) (i64_lit (by decide) (by decide))).mono ?_
  rintro e w6 ⟨S6, he, hr, hs, ht⟩
  obtain rfl : e = .returned (.int .i64 8) := he
  replace J := Lib.hid ((show HO w _ ([_] ++ objO R w _ q1 _ :: []) from J.out).turnQ K (q' := q1) hr hs ht)
  clear hr hs ht
  go_wp2_with fail
  refine (K.rel (K.below HT.out J.out.below) (show HO w _ ([_] ++ objO R w _ q1 _ :: []) from J.out).at q1_ok 0 3 (i64_lit (by decide) (by decide)) (i64_lit (by decide) (by decide))).mono ?_
  rintro e w7 ⟨S7, he, hr, hs, ht⟩
  obtain rfl : e = .returned (.int .i64 14) := he
  replace J := Lib.hid ((show HO w _ ([_] ++ objO R w _ q1 _ :: []) from J.out).turnQ K (q' := q1) hr hs ht)
  clear hr hs ht
  go_wp2_with fail
  refine (KB.take (K.below HT.out J.out.below) (show HO w _ ([] ++ objO RB w _ b0 _ :: _) from J.out).at b0_ok 0 5 (i64_lit (by decide) (by decide)) (i64_lit (by decide) (by decide))).mono ?_
  rintro e w8 ⟨S8, he, hr, hs, ht⟩
  obtain rfl : e = .returned (.bool true) := he
  replace J := Lib.hid ((show HO w _ ([] ++ objO RB w _ b0 _ :: _) from J.out).turnB KB (b' := b1) hr hs ht)
  clear hr hs ht
  go_wp2_with fail
  refine (KB.take (K.below HT.out J.out.below) (show HO w _ ([] ++ objO RB w _ b1 _ :: _) from J.out).at b1_ok 0 1 (i64_lit (by decide) (by decide)) (i64_lit (by decide) (by decide))).mono ?_
  rintro e w9 ⟨S9, he, hr, hs, ht⟩
  obtain rfl : e = .returned (.bool false) := he
  replace J := Lib.hid ((show HO w _ ([] ++ objO RB w _ b1 _ :: _) from J.out).turnB KB (b' := b1) hr hs ht)
  clear hr hs ht
  go_wp2_with fail
  refine (KB.lvl (K.below HT.out J.out.below) (show HO w _ ([] ++ objO RB w _ b1 _ :: _) from J.out).at b1_ok 2 (i64_lit (by decide) (by decide))).mono ?_
  rintro e w10 ⟨S10, he, hr, hs, ht⟩
  obtain rfl : e = .returned (.int .i64 2) := he
  replace J := Lib.hid ((show HO w _ ([] ++ objO RB w _ b1 _ :: _) from J.out).turnB KB (b' := b2) hr hs ht)
  clear hr hs ht
  go_wp2_with fail
  refine (KB.take (K.below HT.out J.out.below) (show HO w _ ([] ++ objO RB w _ b2 _ :: _) from J.out).at b2_ok 1 2 (i64_lit (by decide) (by decide)) (i64_lit (by decide) (by decide))).mono ?_
  rintro e w11 ⟨S11, he, hr, hs, ht⟩
  obtain rfl : e = .returned (.bool true) := he
  replace J := Lib.hid ((show HO w _ ([] ++ objO RB w _ b2 _ :: _) from J.out).turnB KB (b' := b3) hr hs ht)
  clear hr hs ht
  go_wp2_with fail
  refine (KB.lvl (K.below HT.out J.out.below) (show HO w _ ([] ++ objO RB w _ b3 _ :: _) from J.out).at b3_ok 2 (i64_lit (by decide) (by decide))).mono ?_
  rintro e w12 ⟨S12, he, hr, hs, ht⟩
  obtain rfl : e = .returned (.int .i64 0) := he
  replace J := Lib.hid ((show HO w _ ([] ++ objO RB w _ b3 _ :: _) from J.out).turnB KB (b' := b3) hr hs ht)
  clear hr hs ht
  go_wp2_with fail
  go_ret
  exact ⟨rfl, J.out.below⟩
end

end Go.Proofs.Ytkehdaahlfkiiaa
