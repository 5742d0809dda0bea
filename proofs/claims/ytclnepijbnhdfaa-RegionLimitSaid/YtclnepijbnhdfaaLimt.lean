/-
  RegionLimit: the walk of the law.
-/
import Derived.Test.YtclnepijbnhdfaaLaws
import Derived.Test.YtclnepijbnhdfaaGrid
namespace Go.Proofs.Ytclnepijbnhdfaa
open Go.RowKit

theorem uniF_fold : ∀ (l : List R) (o : R), uniF l o = l.foldl uniR o
  | [], _ => rfl
  | _ :: l, _ => uniF_fold l _

/-- what the law compares, of its grid -/
structure Lm (w h : Nat) (G : List R) : Prop where
  len : G.length = h * w
  comb : combP orB G [] = G
  area : sumP G = ((h * w : Nat) : Int)
  hull : 0 < w → 0 < h → uniF G zeroR = ⟨0, 0, 2 * w - 1, 2 * h - 1⟩

theorem lm_ok {w h : Nat} (h1 : w ≤ 20) (h2 : h ≤ 20) : Lm w h (gridP w h 0) := by
  refine ⟨gridP_len w h 0, grid_comb h1 h2, grid_area w h 0, fun hw hh => ?_⟩
  rw [uniF_fold, grid_hull hw h1 h 0 (.inl ⟨h2, rfl⟩)]
  unfold gridH
  rw [if_neg (by omega), if_pos rfl]

set_option maxRecDepth 100000 in
set_option maxHeartbeats 8000000 in
theorem limit_walk {w : World} (c d : Nat) (hc : c < 256) (hd : d < 256) : Calls Try.prog 8 #[.int .u8 c, .int .u8 d] w (Says true w) := by
  obtain ⟨p, hp⟩ : ∃ p, c % 21 = p := ⟨_, rfl⟩
  obtain ⟨q, hq⟩ : ∃ q, d % 21 = q := ⟨_, rfl⟩
  have hp1 : p ≤ 20 := by omega
  have hq1 : q ≤ 20 := by omega
  have e1 : (c : Int) % 21 = p := by omega
  have e2 : (d : Int) % 21 = q := by omega
  have e3 : (p : Int) % 256 = p := by omega
  have e4 : (q : Int) % 256 = q := by omega
  have F := Lib.hid (lm_ok hp1 hq1)
  go_enter Try.func8, Try.ntmps8
  go_wp2_with fail
  clear e1 e2 e3 e4 hp hq
  go_loopw [7, 19] (fun s7 s19 wr => ∃ y : Nat, y ≤ q ∧ s19 = .int .i64 (y : Int) ∧ Hid (OwnR wr w.heap.size s7 (gridP p y 0) ∧ Below w.heap.size w wr)) (fun _ s19 _ => q - (intOf s19).toNat)
  case atStart => exact ⟨0, by omega, rfl, Lib.hid ⟨by rw [gridP_start]; exact ownR_nil _ _, Below.refl _ _⟩⟩
  case round =>
    obtain ⟨y, hy, rfl, HR⟩ := hrel
    obtain ⟨A0, c0, rfl, _, _⟩ := (OwnR.rs HR.out.1).shape
    by_cases hlt : y < q
    · have q0 : (y : Int) < q := by omega
      go_wp2_with fail
      go_loopw [7, 23] (fun s7 s23 wr => ∃ x : Nat, x ≤ p ∧ s23 = .int .i64 (x : Int) ∧ Hid (OwnR wr w.heap.size s7 (gridP p y x) ∧ Below w.heap.size w wr)) (fun _ s23 _ => p - (intOf s23).toNat)
      case atStart => exact ⟨0, by omega, rfl, HR⟩
      case round =>
        clear HR
        obtain ⟨x, hx, rfl, HR⟩ := hrel
        have HL := Lib.hid (gridP_len p y x)
        obtain ⟨A1, c1, rfl, _, hm1⟩ := (OwnR.rs HR.out.1).shape
        by_cases hlt2 : x < p
        · have q1 : (x : Int) < p := by omega
          have HN : Hid (y * p + x ≤ 420) := Lib.hid (by have := Nat.mul_le_mul (show y ≤ 20 by omega) hp1; omega)
          have f0 : wrap64 (2 * (x : Int)) = 2 * x := IntWalk.wrap64_in _ ⟨by omega, by omega⟩
          have f1 : wrap64 (2 * (y : Int)) = 2 * y := IntWalk.wrap64_in _ ⟨by omega, by omega⟩
          have f2 : wrap64 (2 * (x : Int) + 1) = 2 * x + 1 := IntWalk.wrap64_in _ ⟨by omega, by omega⟩
          have f3 : wrap64 (2 * (y : Int) + 1) = 2 * y + 1 := IntWalk.wrap64_in _ ⟨by omega, by omega⟩
          have HO := HR.out.1
          have HB := HR.out.2
          have hsz := HB.size
          simp only [maxLen] at hm1
          go_wp2_with (at_builtin; refine wpList_appR rfl _ _ rfl (base := w.heap.size) (l := gridP p y x) (m := [⟨2 * x, 2 * y, 2 * x + 1, 2 * y + 1⟩]) rfl (World.ownsRow.alloc HO _) rfl (rs_one wr ⟨2 * x, 2 * y, 2 * x + 1, 2 * y + 1⟩) (by have := HN.out; have := HL.out; simp only [List.length_singleton]; omega) (by simp; omega) ?_; intro v6 w6 ho6 hg6 hl6 _; have hb6 := below_grown0 (HB.alloc hsz _) (by simp; omega) (Nat.le_refl _) (World.ownsRow.alloc HO _) hg6)
          rw [gridP_next] at ho6
          have HR6 := Lib.hid (And.intro ho6 hb6)
          clear f0 f1 f2 f3 HO HB hsz ho6 hb6 hg6 hl6 HR
          go_wp2_with fail
          go_roundw
          case rel => exact ⟨x + 1, by omega, by go_num, HR6⟩
          case measure => simp [intOf]; omega
        · have hxp : x = p := by omega
          subst hxp
          have q1 : ¬ (x : Int) < x := by omega
          clear hlt2
          go_wp2_with fail
          go_roundw
          case rel => exact ⟨y + 1, by omega, by go_num, Lib.hid (by rw [← gridP_row]; exact HR.out)⟩
          case measure => simp [intOf]; omega
    · have hyq : y = q := by omega
      subst hyq
      have q0 : ¬ (y : Int) < y := by omega
      clear hlt
      obtain ⟨G, hG⟩ : ∃ G, gridP p y 0 = G := ⟨_, rfl⟩
      rw [hG] at F HR ⊢
      obtain ⟨n, hn⟩ : ∃ n, G.length = n := ⟨_, rfl⟩
      rw [hn] at HR ⊢
      have HN : Hid (G.length = n ∧ n = y * p ∧ n ≤ 400) := Lib.hid (by
        have h1 := F.out.len
        have h2 := Nat.mul_le_mul (show y ≤ 20 by omega) hp1
        exact ⟨hn, by omega, by omega⟩)
      clear hG hn
      have K := Lib.hid HR.out.2
      have HG := Lib.hid (OwnR.rs HR.out.1)
      clear HR
      have C11 : ∀ W, Below wr.heap.size wr W → Hid (Calls Try.prog 11 #[.slice A0 n c0] W (Lim G W)) := fun W hW => Lib.hid (by
        have := new_any (HG.out.below hW) (by have := HN.out; omega)
        rw [F.out.comb] at this
        exact this)
      have C14 : ∀ W, Below wr.heap.size wr W → Hid (Calls Try.prog 14 #[.slice A0 n c0] W fun e w' => e = .returned (.bool (decide (n ≤ 256))) ∧ Below W.heap.size W w') := fun W hW => Lib.hid (by
        have := iscan_any (HG.out.below hW) (by have := HN.out; omega)
        unfold isCanP at this
        rw [F.out.comb, sameL_refl, Bool.and_true, HN.out.1] at this
        exact this)
      have C18 : ∀ W, Below wr.heap.size wr W → Hid (Calls Try.prog 18 #[.slice A0 n c0] W fun e w' => e = .returned (.int .i64 (n : Int)) ∧ Below W.heap.size W w') := fun W hW => Lib.hid (by
        have := areas_any (HG.out.below hW) (by have := HN.out; omega)
        rw [F.out.comb, F.out.area, ← HN.out.2.1] at this
        exact this)
      have J : Hid (Below wr.heap.size wr wr) := Lib.hid (Below.refl _ _)
      have q2 : wrap64 ((p : Int) * y) = n := by
        have h0 := HN.out
        have h1 : ((y * p : Nat) : Int) = (p : Int) * y := by rw [Int.natCast_mul, Int.mul_comm]
        rw [← h1, ← h0.2.1]
        exact IntWalk.wrap64_in _ ⟨by omega, by omega⟩
      by_cases h256 : 256 < n
      · have q3 : (256 : Int) < n := by omega
        have d3 : decide (n ≤ 256) = false := decide_eq_false (by omega)
        rw [d3] at C14
        have hpos : 0 < p ∧ 0 < y := by
          have h1 := HN.out.2.1
          rcases Nat.eq_zero_or_pos p with rfl | hp0
          · simp at h1; omega
          · rcases Nat.eq_zero_or_pos y with rfl | hy0
            · simp at h1; omega
            · exact ⟨hp0, hy0⟩
        have f0 : wrap64 (2 * (p : Int)) = 2 * p := IntWalk.wrap64_in _ ⟨by omega, by omega⟩
        have f1 : wrap64 (2 * (y : Int)) = 2 * y := IntWalk.wrap64_in _ ⟨by omega, by omega⟩
        have C20 : ∀ W, Below wr.heap.size wr W → Hid (Calls Try.prog 20 #[.slice A0 n c0] W fun e w' => e = .returned (.agg #[.int .i64 0, .int .i64 0, .int .i64 (2 * (p : Int) - 1), .int .i64 (2 * (y : Int) - 1)]) ∧ Below W.heap.size W w') := fun W hW => Lib.hid (by
          have := bounds_any (HG.out.below hW)
          rw [F.out.hull hpos.1 hpos.2] at this
          exact this)
        have C11' : ∀ W, Below wr.heap.size wr W → Hid (Calls Try.prog 11 #[.slice A0 n c0] W fun e w' => ∃ A c, e = .returned (.tuple #[.slice A 0 c, .int .i64 5]) ∧ Below W.heap.size W w') := fun W hW => Lib.hid ((C11 W hW).out.mono fun e w' hL => by
          obtain ⟨t, rfl, ho, hb⟩ := hL
          have hl : ¬ G.length ≤ 256 := by have := HN.out; omega
          rw [if_neg hl] at ho
          rw [if_neg hl]
          obtain ⟨A, c, rfl, _, _⟩ := ho.rs.shape
          exact ⟨A, c, rfl, hb⟩)
        clear C11 hpos
        go_wp2_with fail
        refine (C11' _ J.out).out.mono ?_
        rintro e w1 ⟨A1, c1, rfl, hb1⟩
        replace J := Lib.hid (Below.next J.out hb1)
        clear hb1
        go_wp2_with fail
        refine (C14 _ J.out).out.mono ?_
        rintro e w2 ⟨rfl, hb2⟩
        replace J := Lib.hid (Below.next J.out hb2)
        clear hb2
        go_wp2_with fail
        refine (C18 _ J.out).out.mono ?_
        rintro e w3 ⟨rfl, hb3⟩
        replace J := Lib.hid (Below.next J.out hb3)
        clear hb3
        go_wp2_with fail
        refine (C20 _ J.out).out.mono ?_
        rintro e w4 ⟨rfl, hb4⟩
        replace J := Lib.hid (Below.next J.out hb4)
        clear hb4
        go_wp2_with fail
        refine (example_any _).mono ?_
        rintro e w5 ⟨rfl, hb5⟩
        replace J := Lib.hid (Below.next J.out hb5)
        clear hb5
        go_wp2_with fail
        go_ret
        exact ⟨rfl, K.out.trans (J.out.mono K.out.size)⟩
      · have q3 : ¬ (256 : Int) < n := by omega
        have d3 : decide (n ≤ 256) = true := decide_eq_true (by omega)
        rw [d3] at C14
        have C11' : ∀ W, Below wr.heap.size wr W → Hid (Calls Try.prog 11 #[.slice A0 n c0] W fun e w' => ∃ t, e = .returned (.tuple #[t, .int .i64 0]) ∧ Rs w' t G ∧ Below W.heap.size W w') := fun W hW => Lib.hid ((C11 W hW).out.mono fun e w' hL => lim_ok hL (by have := HN.out; omega))
        clear C11
        go_wp2_with fail
        refine (C11' _ J.out).out.mono ?_
        rintro e w1 ⟨t, rfl, ht, hb1⟩
        replace J := Lib.hid (Below.next J.out hb1)
        have S13 := Lib.hid (same_true ht (HG.out.below J.out))
        clear hb1 ht
        go_wp2_with fail
        refine S13.out.mono ?_
        rintro e w2 ⟨rfl, hb2⟩
        replace J := Lib.hid (Below.next J.out hb2)
        clear hb2 S13
        go_wp2_with fail
        refine (C14 _ J.out).out.mono ?_
        rintro e w3 ⟨rfl, hb3⟩
        replace J := Lib.hid (Below.next J.out hb3)
        clear hb3
        go_wp2_with fail
        refine (C18 _ J.out).out.mono ?_
        rintro e w4 ⟨rfl, hb4⟩
        replace J := Lib.hid (Below.next J.out hb4)
        clear hb4
        go_wp2_with fail
        refine (example_any _).mono ?_
        rintro e w5 ⟨rfl, hb5⟩
        replace J := Lib.hid (Below.next J.out hb5)
        clear hb5
        go_wp2_with fail
        go_ret
        exact ⟨rfl, K.out.trans (J.out.mono K.out.size)⟩

end Go.Proofs.Ytclnepijbnhdfaa
