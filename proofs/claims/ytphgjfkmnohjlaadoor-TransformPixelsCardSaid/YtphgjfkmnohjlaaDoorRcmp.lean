/-
  Compose and Invert of the reference: the same products and inverses.
-/
import Derived.Test.YtphgjfkmnohjlaaDoorTab
import Derived.Deep.RegionHeld3
namespace Go.Proofs.YtphgjfkmnohjlaaDoor
open Go.RowKit

/-- whether t and c do the same to pixel x, y of an image of 3 by 2 pixels -/
def eqAt (t c x y : Int) : Bool := decide (posX t 3 2 x y = posX c 3 2 x y) && decide (posY t 3 2 x y = posY c 3 2 x y)
/-- .. to the first n pixels, column by column -/
def agr (t c : Int) : Nat → Bool
  | 0 => decide (t % 2 = c % 2)
  | n + 1 => agr t c n && eqAt t c ((n / 2 : Nat) : Int) ((n % 2 : Nat) : Int)

theorem agr_all {t c : Int} (ht : 0 ≤ t ∧ t ≤ 7) (hc : 0 ≤ c ∧ c ≤ 7) : agr t c 6 = decide (t = c) := by
  rcases eight ht with rfl | rfl | rfl | rfl | rfl | rfl | rfl | rfl <;> rcases eight hc with rfl | rfl | rfl | rfl | rfl | rfl | rfl | rfl <;> decide +kernel

theorem agr_off {t c : Int} {n : Nat} (h : eqAt t c ((n / 2 : Nat) : Int) ((n % 2 : Nat) : Int) = false) : agr t c (n + 1) = false := by rw [agr, h, Bool.and_false]
theorem agr_on {t c : Int} {n : Nat} (h : eqAt t c ((n / 2 : Nat) : Int) ((n % 2 : Nat) : Int) = true) : agr t c (n + 1) = agr t c n := by rw [agr, h, Bool.and_true]

theorem par_comp (a b t : Int) : (t % 2 == (cl a + cl b) % 2) = agr t (comp a b) 0 := by
  unfold agr
  have ha := cl_in a
  have hb := cl_in b
  unfold comp
  generalize cl a = a at *
  generalize cl b = b at *
  rcases eight ha with rfl | rfl | rfl | rfl | rfl | rfl | rfl | rfl <;> rcases eight hb with rfl | rfl | rfl | rfl | rfl | rfl | rfl | rfl <;> rfl

/-- a point in a box of a call's own, held while calls make memory -/
structure HeldP (w0 W : World) (k : Nat) (x y : Int) : Prop where
  at1 : Two W k (.int .i64 x) (.int .i64 y)
  there : k < W.heap.size
  below : Below w0.heap.size w0 W

theorem HeldP.step {w0 w w' : World} {k : Nat} {x y : Int} (h : HeldP w0 w k x y) (hb : Below w.heap.size w w') : HeldP w0 w' k x y :=
  ⟨h.at1.keep hb h.there, Nat.lt_of_lt_of_le h.there hb.size, Below.next h.below hb⟩
theorem HeldP.drew {w0 w : World} {k : Nat} {x y : Int} (h : HeldP w0 w k x y) : HeldP w0 w.drew k x y := ⟨h.at1.drew 1, h.there, h.below.drew⟩
theorem HeldP.cells {w0 W : World} {k : Nat} {x y : Int} (h : HeldP w0 W k x y) : W.cell? ⟨k, 0, none⟩ = some (.int .i64 x) ∧ W.cell? ⟨k, 1, none⟩ = some (.int .i64 y) := ⟨h.at1.1, h.at1.2.1⟩
theorem HeldP.new {w0 w : World} (h : Below w0.heap.size w0 w) (x y : Int) : HeldP w0 (w.alloc (.cells #[.int .i64 x, .int .i64 y] 23)) w.heap.size x y :=
  ⟨Two.new w _ _ _, by rw [World.size_alloc]; exact Nat.lt_succ_self _, Below.next h ((Below.refl _ _).alloc (Nat.le_refl _) _)⟩

set_option maxRecDepth 100000 in
set_option maxHeartbeats 4000000 in
theorem rcompose_any (a b : Int) (w : World) : Calls Tryd.prog 15 #[.int .i64 a, .int .i64 b] w fun e w' => e = .returned (.int .i64 (comp a b)) ∧ Below w.heap.size w w' := by
  have C1 := fun W => Lib.hid (rclean_any a W)
  have C2 := fun W => Lib.hid (rclean_any b W)
  have C3 := fun W => Lib.hid (rsize_any a 3 2 W)
  obtain ⟨n, hn⟩ : ∃ n : Nat, comp a b = (n : Int) := ⟨(comp a b).toNat, by have := comp_in a b; omega⟩
  have HN := Lib.hid hn
  have hn7 : n ≤ 7 := by have := comp_in a b; omega
  have HP := fun t => Lib.hid (par_comp a b t)
  rw [hn] at HP ⊢
  obtain ⟨SW, hSW⟩ : ∃ SW, siW a 3 2 = SW := ⟨_, rfl⟩
  obtain ⟨SH, hSH⟩ : ∃ SH, siH a 3 2 = SH := ⟨_, rfl⟩
  rw [hSW, hSH] at C3
  replace hSW := Lib.hid hSW
  replace hSH := Lib.hid hSH
  have hA := cl_in a
  have hB := cl_in b
  obtain ⟨A, eA⟩ : ∃ A, cl a = A := ⟨_, rfl⟩
  obtain ⟨B, eB⟩ : ∃ B, cl b = B := ⟨_, rfl⟩
  rw [eA] at C1 hA HP
  rw [eB] at C2 hB HP
  replace eA := Lib.hid eA
  replace eB := Lib.hid eB
  clear hn
  go_enter Tryd.func15, Tryd.ntmps15
  go_wp2_with fail
  refine (C3 _).out.mono ?_
  rintro e w0 ⟨rfl, rfl⟩
  go_wp2_with fail
  go_loopw [7] (fun s7 wr => ∃ t : Nat, t ≤ n ∧ s7 = .int .i64 (t : Int) ∧ Hid (Below w.heap.size w wr)) (fun s7 _ => left7 n s7)
  case atStart => exact ⟨0, by omega, rfl, Below.refl _ _⟩
  case round =>
    obtain ⟨t, ht, rfl, K⟩ := hrel
    have hp := (HP (t : Int)).out
    have HAG := Lib.hid (agr_all (t := (t : Int)) (c := (n : Int)) (by omega) (by omega))
    go_wp2_with (first
      | (go_at_call 34; refine (C1 _).out.mono ?_; rintro e wq ⟨rfl, rfl⟩)
      | (go_at_call 34; refine (C2 _).out.mono ?_; rintro e wq ⟨rfl, rfl⟩))
    clear hp
    go_loopw [8, 9] (fun s8 s9 wr2 => ∃ x : Nat, x ≤ 3 ∧ s9 = .int .i64 (x : Int) ∧ s8 = .bool (agr t n (2 * x)) ∧ Hid (Below w.heap.size w wr2)) (fun _ s9 _ => left7 3 s9)
    case atStart => exact ⟨0, by omega, rfl, rfl, K.out⟩
    case round =>
      obtain ⟨x, hx, rfl, rfl, K2⟩ := hrel
      by_cases hlx : x < 3
      · have q0 : (x : Int) < 3 := by omega
        generalize hag : agr t n (2 * x) = ag at *
        replace hag := Lib.hid hag
        clear HAG
        go_wp2_with fail
        go_loopw [8, 10] (fun s8 s10 wr3 => ∃ y : Nat, y ≤ 2 ∧ s10 = .int .i64 (y : Int) ∧ s8 = .bool (agr t n (2 * x + y)) ∧ Hid (Below w.heap.size w wr3)) (fun _ s10 _ => left7 2 s10)
        case atStart => exact ⟨0, by omega, rfl, by rw [← hag.out]; rfl, K2.out⟩
        case round =>
          obtain ⟨y, hy, rfl, rfl, K3⟩ := hrel
          by_cases hly : y < 2
          · have q1 : (y : Int) < 2 := by omega
            generalize hag2 : agr t n (2 * x + y) = ag2 at *
            replace hag2 := Lib.hid hag2
            have hpx : Pix 3 2 x y := ⟨⟨⟨by omega, by omega⟩, ⟨by omega, by omega⟩⟩, by omega, by omega⟩
            have hpx2 : Pix SW SH (posX A 3 2 x y) (posY A 3 2 x y) := by
              have := hpx.image A
              rw [← eA.out, (si_cl a 3 2).1, (si_cl a 3 2).2, hSW.out, hSH.out, eA.out] at this
              exact this
            have P1 := fun W => Lib.hid (place_any t 3 2 x y (by omega) hpx W)
            have P2 := fun W => Lib.hid (place_any A 3 2 x y hA hpx W)
            have P3 := fun W => Lib.hid (place_any B SW SH (posX A 3 2 x y) (posY A 3 2 x y) hB hpx2 W)
            have ec : posX B SW SH (posX A 3 2 x y) (posY A 3 2 x y) = posX n 3 2 x y ∧ posY B SW SH (posX A 3 2 x y) (posY A 3 2 x y) = posY n 3 2 x y := by
              have := pos_comp a b 3 2 x y
              rw [HN.out, hSW.out, hSH.out, ← (pos_cl a 3 2 x y).1, ← (pos_cl a 3 2 x y).2, ← (pos_cl b SW SH _ _).1, ← (pos_cl b SW SH _ _).2, eA.out, eB.out] at this
              exact this
            rw [ec.1, ec.2] at P3
            have hq : eqAt t n (((2 * x + y) / 2 : Nat) : Int) (((2 * x + y) % 2 : Nat) : Int) = (decide (posX t 3 2 x y = posX n 3 2 x y) && decide (posY t 3 2 x y = posY n 3 2 x y)) := by
              rw [show (2 * x + y) / 2 = x by omega, show (2 * x + y) % 2 = y by omega]
              rfl
            clear ec hpx hpx2
            generalize posX A 3 2 x y = X1 at *
            generalize posY A 3 2 x y = Y1 at *
            generalize posX t 3 2 x y = X0 at *
            generalize posY t 3 2 x y = Y0 at *
            generalize posX n 3 2 x y = X3 at *
            generalize posY n 3 2 x y = Y3 at *
            have HH := Lib.hid (HeldP.new K3.out x y)
            by_cases hX : X0 = X3 ∧ Y0 = Y3
            · obtain ⟨rfl, rfl⟩ := hX
              have hag3 := Lib.hid (agr_on (hq.trans (by simp)))
              clear hq
              go_wp2_with fail
              replace HH := Lib.hid HH.out.drew
              have sk := HH.out.cells
              go_region_held3 (fun W => W.cell? ⟨wr.heap.size, 0, none⟩ = some (.int .i64 x) ∧ W.cell? ⟨wr.heap.size, 1, none⟩ = some (.int .i64 y))
                (first
                  | exact sk
                  | go_keep)
                (first
                  | (go_at_call 34; (with_reducible refine (C1 _).out.mono ?_); rintro e wq ⟨rfl, rfl⟩)
                  | (go_at_call 34; (with_reducible refine (C2 _).out.mono ?_); rintro e wq ⟨rfl, rfl⟩)
                  | (go_at_call 35; (with_reducible refine (P1 _).out.mono ?_); rintro e wq ⟨rfl, hbq⟩; replace HH := Lib.hid (HH.out.step hbq); (try clear sk); have sk := HH.out.cells; clear hbq)
                  | (go_at_call 35; (with_reducible refine (P2 _).out.mono ?_); rintro e wq ⟨rfl, hbq⟩; replace HH := Lib.hid (HH.out.step hbq); (try clear sk); have sk := HH.out.cells; clear hbq)
                  | (go_at_call 35; (with_reducible refine (P3 _).out.mono ?_); rintro e wq ⟨rfl, hbq⟩; replace HH := Lib.hid (HH.out.step hbq); (try clear sk); have sk := HH.out.cells; clear hbq)
                  | fail)
              all_goals
                go_wp2_with fail
                go_roundw
                case rel => exact ⟨y + 1, by omega, by go_num, by rw [show 2 * x + (y + 1) = 2 * x + y + 1 from rfl, hag3.out, hag2.out], HH.out.below⟩
                case measure =>
                  unfold left7
                  simp [intOf]
                  omega
            · have hag3 := Lib.hid (agr_off (hq.trans (by simpa [Bool.and_eq_false_iff] using hX)))
              clear hq
              have hcase : (X0 ≠ X3 ∧ Y0 = Y3) ∨ (X0 ≠ X3 ∧ Y0 ≠ Y3) ∨ (X0 = X3 ∧ Y0 ≠ Y3) := by omega
              clear hX
              rcases hcase with ⟨hx1, rfl⟩ | ⟨hx1, hy1⟩ | ⟨rfl, hy1⟩
              all_goals
                go_wp2_with fail
                replace HH := Lib.hid HH.out.drew
                have sk := HH.out.cells
                go_region_held3 (fun W => W.cell? ⟨wr.heap.size, 0, none⟩ = some (.int .i64 x) ∧ W.cell? ⟨wr.heap.size, 1, none⟩ = some (.int .i64 y))
                  (first
                    | exact sk
                    | go_keep)
                  (first
                    | (go_at_call 34; (with_reducible refine (C1 _).out.mono ?_); rintro e wq ⟨rfl, rfl⟩)
                    | (go_at_call 34; (with_reducible refine (C2 _).out.mono ?_); rintro e wq ⟨rfl, rfl⟩)
                    | (go_at_call 35; (with_reducible refine (P1 _).out.mono ?_); rintro e wq ⟨rfl, hbq⟩; replace HH := Lib.hid (HH.out.step hbq); (try clear sk); have sk := HH.out.cells; clear hbq)
                    | (go_at_call 35; (with_reducible refine (P2 _).out.mono ?_); rintro e wq ⟨rfl, hbq⟩; replace HH := Lib.hid (HH.out.step hbq); (try clear sk); have sk := HH.out.cells; clear hbq)
                    | (go_at_call 35; (with_reducible refine (P3 _).out.mono ?_); rintro e wq ⟨rfl, hbq⟩; replace HH := Lib.hid (HH.out.step hbq); (try clear sk); have sk := HH.out.cells; clear hbq)
                    | fail)
                go_wp2_with fail
                go_roundw
                case rel => exact ⟨y + 1, by omega, by go_num, by rw [show 2 * x + (y + 1) = 2 * x + y + 1 from rfl, hag3.out], HH.out.below⟩
                case measure =>
                  unfold left7
                  simp [intOf]
                  omega
          · have q1 : ¬ (y : Int) < 2 := by omega
            obtain rfl : y = 2 := by omega
            have e2 : agr t n (2 * x + 2) = agr t n (2 * (x + 1)) := rfl
            rw [e2]
            generalize hag2 : agr t n (2 * (x + 1)) = ag2 at *
            replace hag2 := Lib.hid hag2
            clear e2
            go_wp2_with fail
            go_roundw
            case rel => exact ⟨x + 1, by omega, by go_num, by rw [hag2.out], K3.out⟩
            case measure =>
              unfold left7
              simp [intOf]
              omega
      · have q0 : ¬ (x : Int) < 3 := by omega
        obtain rfl : x = 3 := by omega
        have e6 : agr t n (2 * 3) = decide ((t : Int) = n) := HAG.out
        rw [e6]
        by_cases htn : t = n
        · subst htn
          rw [decide_eq_true rfl]
          clear e6
          go_wp2_with fail
          go_ret
          exact ⟨rfl, K2.out⟩
        · have hne : ¬ (t : Int) = n := by omega
          rw [decide_eq_false hne]
          clear e6
          go_wp2_with fail
          go_roundw
          case rel => exact ⟨t + 1, by omega, by go_num, K2.out⟩
          case measure =>
            unfold left7
            simp [intOf]
            omega

set_option maxHeartbeats 2000000 in
theorem rinvert_any (a : Int) (w : World) : Calls Tryd.prog 17 #[.int .i64 a] w fun e w' => e = .returned (.int .i64 (inv a)) ∧ Below w.heap.size w w' := by
  obtain ⟨n, hn⟩ : ∃ n : Nat, inv a = (n : Int) := ⟨(inv a).toNat, by have := inv_in a; omega⟩
  have HN := Lib.hid hn
  have hn7 : n ≤ 7 := by have := inv_in a; omega
  rw [hn]
  clear hn
  go_enter Tryd.func17, Tryd.ntmps17
  go_wp2_with fail
  go_loopw [3] (fun s3 wr => ∃ k : Nat, k ≤ n ∧ s3 = .int .i64 (k : Int) ∧ Hid (Below w.heap.size w wr)) (fun s3 _ => left7 n s3)
  case atStart => exact ⟨0, by omega, rfl, Below.refl _ _⟩
  case round =>
    obtain ⟨k, hk, rfl, K⟩ := hrel
    have C := Lib.hid (rcompose_any a k wr)
    by_cases h0 : comp a k = 0
    · have e := inv_hit h0 (by rw [HN.out]; omega)
      rw [HN.out] at e
      obtain rfl : k = n := by omega
      rw [h0] at C
      clear h0 e
      go_wp2_with fail
      refine C.out.mono ?_
      rintro e w1 ⟨rfl, hb⟩
      have K1 := Lib.hid (Below.next K.out hb)
      clear hb
      go_wp2_with fail
      go_ret
      exact ⟨rfl, K1.out⟩
    · have e := inv_miss h0 (by rw [HN.out]; omega)
      rw [HN.out] at e
      have q0 : k < n := by omega
      generalize comp a k = c at *
      clear e
      go_wp2_with fail
      refine C.out.mono ?_
      rintro e w1 ⟨rfl, hb⟩
      have K1 := Lib.hid (Below.next K.out hb)
      clear hb
      go_wp2_with fail
      go_roundw
      case rel => exact ⟨k + 1, by omega, by go_num, K1.out⟩
      case measure =>
        unfold left7
        simp [intOf]
        omega

end Go.Proofs.YtphgjfkmnohjlaaDoor
