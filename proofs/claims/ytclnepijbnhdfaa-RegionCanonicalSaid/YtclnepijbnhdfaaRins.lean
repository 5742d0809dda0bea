/-
  insert of the reference: the number's place in a list without duplicates.
-/
import Derived.Test.YtclnepijbnhdfaaInts
import Derived.Test.YtclnepijbnhdfaaRefp
import Derived.Deep.QuietTactic
import Derived.BigQuiet
namespace Go.Proofs.Ytclnepijbnhdfaa
open Go.RowKit

def InsRel (n : Int) (l : List Int) (w wr : World) (out : Value) (j : Nat) (d : Bool) (acc : List Int) : Prop :=
  wr.ownsRow w.heap.size 3 1 out acc.length (ints acc) ∧ Below w.heap.size w wr ∧ acc ++ (if d then l.drop j else insP n (l.drop j)) = insP n l

theorem InsRel.len {n : Int} {l : List Int} {w wr : World} {out : Value} {j : Nat} {d : Bool} {acc : List Int} (h : InsRel n l w wr out j d acc) : acc.length ≤ l.length + 1 := by
  have := congrArg List.length h.2.2
  have h2 := insP_len n l
  rw [List.length_append] at this
  omega

theorem ints_snoc {w1 : World} {base : Nat} {v : Value} {acc : List Int} {x : Int} (h : w1.ownsRow base 3 1 v (acc.length + 1) (ints acc ++ [.int .i64 x])) : w1.ownsRow base 3 1 v (acc ++ [x]).length (ints (acc ++ [x])) := by
  simpa [ints] using h

set_option maxRecDepth 100000 in
set_option maxHeartbeats 2000000 in
theorem insert_any {w : World} {v : Value} {l : List Int} (h : Is w v l) (n : Int) (hl : l.length ≤ 1000000) :
    Calls Try.prog 68 #[v, .int .i64 n] w fun e w' => ∃ u, e = .returned u ∧ OwnI w' w.heap.size u (insP n l) ∧ Below w.heap.size w w' := by
  obtain ⟨i0, hi, hz0, hz1, hz2⟩ := info_parts int_info
  obtain ⟨A, c, rfl, hc, hm, hcell⟩ := h
  simp only [maxLen] at hm
  have HC := Lib.hid hcell
  obtain ⟨len, hn⟩ : ∃ len, l.length = len := ⟨_, rfl⟩
  have HN := Lib.hid hn
  rw [hn] at hc hl ⊢
  clear hcell hn
  go_enter Try.func68, Try.ntmps68
  go_wp2_with fail
  go_loopw [5, 6, 7] (fun out dn k wr => ∃ (j : Nat) (d : Bool) (acc : List Int), j ≤ len ∧ k = .int .i64 (j : Int) ∧ dn = .bool d ∧ Hid (InsRel n l w wr out j d acc)) (fun _ _ k _ => len - (intOf k).toNat)
  case atStart => exact ⟨0, false, [], by omega, rfl, rfl, World.ownsRow_nil _ _ _ _, Below.refl _ _, by simp⟩
  case round =>
    obtain ⟨j, d, acc, hj, rfl, rfl, hrel⟩ := hrel
    have hal := hrel.out.len
    rw [HN.out] at hal
    by_cases hlt : j < len
    · obtain ⟨x, hx⟩ : ∃ x, l[j]? = some x := ⟨_, List.getElem?_eq_getElem (by rw [HN.out]; exact hlt)⟩
      obtain ⟨b, off, rfl, hb, hcs⟩ := HC.out (by rw [HN.out]; omega)
      have T := Lib.hid (hcs j x hx)
      have t0 := (hrel.out.2.1.cell (p := ⟨b, off + j, none⟩) hb).trans T.out
      have HD := Lib.hid (drop_at hx)
      have q0 : (j : Int) < len := by omega
      have q1 : (0 : Int) ≤ j := by omega
      have hsz := hrel.out.2.1.size
      have HR := hrel.out.1
      have HB := Lib.hid hrel.out.2.1
      have HE := Lib.hid hrel.out.2.2
      clear hx hcs
      cases d
      · by_cases h1 : n ≤ x
        · by_cases h2 : n < x
          · have HG := Lib.hid (show insP n (x :: l.drop (j + 1)) = n :: x :: l.drop (j + 1) by simp [insP, h1, h2])
            go_wp2_with (first
              | (at_builtin; have _t := HR; refine wpList_append_own _ rfl _ _ 56 rfl w.heap.size 3 i0 _ 1 8 Try.underlying56 hi hz0 hz1 hz2 rfl (by decide) _ _ _ rfl (HR.alloc _) ⟨_, 0, none⟩ 1 1 [.int .i64 n] rfl rfl (cell_one_new _ _ _) (by simp [Value.oneCell']) (by unfold maxLen; omega) (by omega) (by simp; omega) ?_; intro v1 w1 ho1 hg1 _; have hr1 := ints_snoc ho1; have HB1 := Lib.hid (below_grown HB.out HB.out.size (Nat.le_refl _) HR hg1); have hs1 := HB1.out.size; have hl1 : (acc ++ [n]).length ≤ 1000003 := (by simp; omega); have t1 := (HB1.out.cell (p := ⟨b, off + j, none⟩) hb).trans T.out; clear HR ho1 hg1)
              | (at_builtin; have _t := hr1; refine wpList_append_own _ rfl _ _ 56 rfl w.heap.size 3 i0 _ 1 8 Try.underlying56 hi hz0 hz1 hz2 rfl (by decide) _ _ _ rfl (hr1.alloc _) ⟨_, 0, none⟩ 1 1 [.int .i64 x] rfl rfl (cell_one_new _ _ _) (by simp [Value.oneCell']) (by unfold maxLen; omega) (by omega) (by simp; omega) ?_; intro v2 w2 ho2 hg2 _; have hr2 := ints_snoc ho2; have HB2 := Lib.hid (below_grown HB1.out HB1.out.size (Nat.le_refl _) hr1 hg2); have hs2 := HB2.out.size; have hl2 : (acc ++ [n] ++ [x]).length ≤ 1000003 := (by simp; omega); clear hr1 ho2 hg2)
              | go_in)
            go_roundw
            case rel => exact ⟨j + 1, true, acc ++ [n] ++ [x], by omega, by go_num, rfl, hr2, HB2.out, by rw [← HE.out, HD.out]; simp only [Bool.false_eq_true, if_false]; rw [HG.out]; simp⟩
            case measure => simp [intOf]; omega
          · have h3 : x ≤ n := by omega
            have HG := Lib.hid (show insP n (x :: l.drop (j + 1)) = x :: l.drop (j + 1) by simp [insP, h1, h2])
            go_wp2_with (first
              | (at_builtin; have _t := HR; refine wpList_append_own _ rfl _ _ 56 rfl w.heap.size 3 i0 _ 1 8 Try.underlying56 hi hz0 hz1 hz2 rfl (by decide) _ _ _ rfl (HR.alloc _) ⟨_, 0, none⟩ 1 1 [.int .i64 x] rfl rfl (cell_one_new _ _ _) (by simp [Value.oneCell']) (by unfold maxLen; omega) (by omega) (by simp; omega) ?_; intro v1 w1 ho1 hg1 _; have hr1 := ints_snoc ho1; have HB1 := Lib.hid (below_grown HB.out HB.out.size (Nat.le_refl _) HR hg1); have hs1 := HB1.out.size; have hl1 : (acc ++ [x]).length ≤ 1000003 := (by simp; omega); clear HR ho1 hg1)
              | go_in)
            go_roundw
            case rel => exact ⟨j + 1, true, acc ++ [x], by omega, by go_num, rfl, hr1, HB1.out, by rw [← HE.out, HD.out]; simp only [Bool.false_eq_true, if_false]; rw [HG.out]; simp⟩
            case measure => simp [intOf]; omega
        · have h3 : x < n := by omega
          have HG := Lib.hid (show insP n (x :: l.drop (j + 1)) = x :: insP n (l.drop (j + 1)) by simp [insP, h1])
          go_wp2_with (first
            | (at_builtin; have _t := HR; refine wpList_append_own _ rfl _ _ 56 rfl w.heap.size 3 i0 _ 1 8 Try.underlying56 hi hz0 hz1 hz2 rfl (by decide) _ _ _ rfl (HR.alloc _) ⟨_, 0, none⟩ 1 1 [.int .i64 x] rfl rfl (cell_one_new _ _ _) (by simp [Value.oneCell']) (by unfold maxLen; omega) (by omega) (by simp; omega) ?_; intro v1 w1 ho1 hg1 _; have hr1 := ints_snoc ho1; have HB1 := Lib.hid (below_grown HB.out HB.out.size (Nat.le_refl _) HR hg1); have hs1 := HB1.out.size; have hl1 : (acc ++ [x]).length ≤ 1000003 := (by simp; omega); clear HR ho1 hg1)
            | go_in)
          go_roundw
          case rel => exact ⟨j + 1, false, acc ++ [x], by omega, by go_num, rfl, hr1, HB1.out, by rw [← HE.out, HD.out]; simp only [Bool.false_eq_true, if_false]; rw [HG.out]; simp⟩
          case measure => simp [intOf]; omega
      · skip
        go_wp2_with (first
          | (at_builtin; have _t := HR; refine wpList_append_own _ rfl _ _ 56 rfl w.heap.size 3 i0 _ 1 8 Try.underlying56 hi hz0 hz1 hz2 rfl (by decide) _ _ _ rfl (HR.alloc _) ⟨_, 0, none⟩ 1 1 [.int .i64 x] rfl rfl (cell_one_new _ _ _) (by simp [Value.oneCell']) (by unfold maxLen; omega) (by omega) (by simp; omega) ?_; intro v1 w1 ho1 hg1 _; have hr1 := ints_snoc ho1; have HB1 := Lib.hid (below_grown HB.out HB.out.size (Nat.le_refl _) HR hg1); have hs1 := HB1.out.size; have hl1 : (acc ++ [x]).length ≤ 1000003 := (by simp; omega); clear HR ho1 hg1)
          | go_in)
        go_roundw
        case rel => exact ⟨j + 1, true, acc ++ [x], by omega, by go_num, rfl, hr1, HB1.out, by rw [← HE.out, HD.out]; simp⟩
        case measure => simp [intOf]; omega
    · have q0 : (len : Int) ≤ (j : Int) := by omega
      have HR := hrel.out.1
      have HB := Lib.hid hrel.out.2.1
      have hsz := hrel.out.2.1.size
      have HE := Lib.hid hrel.out.2.2
      have HDn := Lib.hid (show l.drop j = [] from List.drop_eq_nil_of_le (by rw [HN.out]; omega))
      cases d
      · go_wp2_with (first
          | (at_builtin; have _t := HR; refine wpList_append_own _ rfl _ _ 56 rfl w.heap.size 3 i0 _ 1 8 Try.underlying56 hi hz0 hz1 hz2 rfl (by decide) _ _ _ rfl (HR.alloc _) ⟨_, 0, none⟩ 1 1 [.int .i64 n] rfl rfl (cell_one_new _ _ _) (by simp [Value.oneCell']) (by unfold maxLen; omega) (by omega) (by simp; omega) ?_; intro v1 w1 ho1 hg1 _; have hr1 := ints_snoc ho1; have HB1 := Lib.hid (below_grown HB.out HB.out.size (Nat.le_refl _) HR hg1); have hs1 := HB1.out.size; have hl1 : (acc ++ [n]).length ≤ 1000003 := (by simp; omega); clear HR ho1 hg1)
          | go_in)
        go_ret
        refine ⟨_, rfl, ?_, HB1.out⟩
        have e : insP n l = acc ++ [n] := by rw [← HE.out, HDn.out]; rfl
        rw [e]
        exact hr1
      · go_wp2_with fail
        go_ret
        refine ⟨_, rfl, ?_, HB.out⟩
        have e : insP n l = acc := by rw [← HE.out, HDn.out]; simp
        rw [e]
        exact HR

end Go.Proofs.Ytclnepijbnhdfaa
