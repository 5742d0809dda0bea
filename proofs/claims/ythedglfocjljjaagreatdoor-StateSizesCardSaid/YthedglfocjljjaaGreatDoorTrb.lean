/-
  The table of products: what it holds; Compose and Invert of package transform.
-/
import Derived.Test.YthedglfocjljjaaGreatDoorTra
import Derived.Lib.LaidTab
import Derived.Deep.RegionHeld3
import Derived.Laws.MakeOwn
import Derived.Laws.Entries
namespace Go.Proofs.YthedglfocjljjaaGreatDoor.Trf
open Go.RowKit

def Tab (W : World) : Prop := 0 < W.heap.size ∧ ∀ i j : Nat, i < 8 → j < 8 → W.cell? ⟨0, i * 8 + j, none⟩ = some (.int .i64 (comp8 i j))

theorem Tab.below {W w1 : World} (h : Tab W) (hb : Below W.heap.size W w1) : Tab w1 :=
  ⟨Nat.lt_of_lt_of_le h.1 hb.size, fun i j hi hj => (hb.cell (p := ⟨0, i * 8 + j, none⟩) h.1).trans (h.2 i j hi hj)⟩

set_option maxRecDepth 100000 in
theorem turn {f : FuncId} {args : Array Value} {w : World} {x : Ending} (h : Calls Tryz.prog f args w fun e w' => e = x ∧ w = w') : Calls Tryz.prog f args w fun e w' => e = x ∧ w' = w := h.mono fun _ _ ⟨a, b⟩ => ⟨a, b.symm⟩

set_option maxRecDepth 100000 in
set_option maxHeartbeats 2000000 in
theorem compose_any (a b : Int) (w : World) (h : Tab w) : Calls Tryz.prog 83 #[.int .i64 a, .int .i64 b] w fun e w' => e = .returned (.int .i64 (comp a b)) ∧ Below w.heap.size w w' := by
  have C1 := fun W => Lib.hid (known_any a W)
  have C2 := fun W => Lib.hid (known_any b W)
  obtain ⟨i, hi⟩ : ∃ i : Nat, cl a = (i : Int) := ⟨(cl a).toNat, by have := cl_in a; omega⟩
  obtain ⟨j, hj⟩ : ∃ j : Nat, cl b = (j : Int) := ⟨(cl b).toNat, by have := cl_in b; omega⟩
  have hi8 : i < 8 := by have := cl_in a; omega
  have hj8 : j < 8 := by have := cl_in b; omega
  have hcell := h.2 i j hi8 hj8
  have hv : comp a b = comp8 i j := by unfold comp; rw [hi, hj]
  rw [hi] at C1
  rw [hj] at C2
  rw [hv]
  clear h hv hi hj
  have q0 : (0 : Int) ≤ i := by omega
  have q1 : (i : Int) < 8 := by omega
  have q2 : (0 : Int) ≤ j := by omega
  have q3 : (j : Int) < 8 := by omega
  go_enter Tryz.func83, Tryz.ntmps83
  go_wp2_with fail
  go_quiet (first
    | (go_at_call 102; with_reducible exact Calls.quiet_of_same (turn (C1 _).out))
    | (go_at_call 102; with_reducible exact Calls.quiet_of_same (turn (C2 _).out)))
  go_wp2_with fail
  go_ret
  exact ⟨rfl, below_drewN (Below.refl _ _) _⟩

theorem inv_hit {a : Int} {k : Nat} (h : comp a k = 0) (hk : (k : Int) ≤ inv a) : (k : Int) = inv a := by
  have h1 := inv_in a
  rw [← inv_only h, cl_eq (by omega) (by omega)]
theorem inv_miss {a : Int} {k : Nat} (h : comp a k ≠ 0) (hk : (k : Int) ≤ inv a) : (k : Int) < inv a := by
  have h1 : (k : Int) ≠ inv a := fun e => h (by rw [e, comp_inv])
  omega

def left7 (n : Nat) (v : Value) : Nat := n - (RowKit.intOf v).toNat

set_option maxRecDepth 100000 in
set_option maxHeartbeats 2000000 in
theorem invert_any (a : Int) (w : World) (h : Tab w) : Calls Tryz.prog 53 #[.int .i64 a] w fun e w' => e = .returned (.int .i64 (inv a)) ∧ Below w.heap.size w w' := by
  have HT := Lib.hid h
  clear h
  obtain ⟨n, hn⟩ : ∃ n : Nat, inv a = (n : Int) := ⟨(inv a).toNat, by have := inv_in a; omega⟩
  have HN := Lib.hid hn
  have hn7 : n ≤ 7 := by have := inv_in a; omega
  rw [hn]
  clear hn
  go_enter Tryz.func53, Tryz.ntmps53
  go_wp2_with fail
  go_loopw [3] (fun s3 wr => ∃ k : Nat, k ≤ n ∧ s3 = .int .i64 (k : Int) ∧ Hid (Below w.heap.size w wr)) (fun s3 _ => left7 n s3)
  case atStart => exact ⟨0, by omega, rfl, Below.refl _ _⟩
  case round =>
    obtain ⟨k, hk, rfl, K⟩ := hrel
    have C := Lib.hid (compose_any a k wr (HT.out.below K.out))
    by_cases h0 : comp a k = 0
    · have e := inv_hit h0 (by rw [HN.out]; omega)
      rw [HN.out] at e
      obtain rfl : k = n := by omega
      rw [h0] at C
      clear h0 e
      go_wp2_with fail
      refine C.out.mono ?_
      rintro e w1 ⟨rfl, hb⟩
      have K1 := Lib.hid (Below.next K.out hb)
      clear hb
      go_wp2_with fail
      go_ret
      exact ⟨rfl, K1.out⟩
    · have e := inv_miss h0 (by rw [HN.out]; omega)
      rw [HN.out] at e
      have q0 : k < n := by omega
      generalize comp a k = c at *
      clear e
      go_wp2_with fail
      refine C.out.mono ?_
      rintro e w1 ⟨rfl, hb⟩
      have K1 := Lib.hid (Below.next K.out hb)
      clear hb
      go_wp2_with fail
      go_roundw
      case rel => exact ⟨k + 1, by omega, by go_num, K1.out⟩
      case measure =>
        unfold left7
        simp [RowKit.intOf]
        omega

def eqAt (t c x y : Int) : Bool := decide (posX t 3 2 x y = posX c 3 2 x y) && decide (posY t 3 2 x y = posY c 3 2 x y)
def agr (t c : Int) : Nat → Bool
  | 0 => decide (t % 2 = c % 2)
  | n + 1 => agr t c n && eqAt t c ((n / 2 : Nat) : Int) ((n % 2 : Nat) : Int)

theorem agr_all {t c : Int} (ht : 0 ≤ t ∧ t ≤ 7) (hc : 0 ≤ c ∧ c ≤ 7) : agr t c 6 = decide (t = c) := by
  rcases eight ht with rfl | rfl | rfl | rfl | rfl | rfl | rfl | rfl <;> rcases eight hc with rfl | rfl | rfl | rfl | rfl | rfl | rfl | rfl <;> decide +kernel

theorem agr_off {t c : Int} {n : Nat} (h : eqAt t c ((n / 2 : Nat) : Int) ((n % 2 : Nat) : Int) = false) : agr t c (n + 1) = false := by rw [agr, h, Bool.and_false]
theorem agr_on {t c : Int} {n : Nat} (h : eqAt t c ((n / 2 : Nat) : Int) ((n % 2 : Nat) : Int) = true) : agr t c (n + 1) = agr t c n := by rw [agr, h, Bool.and_true]

theorem par_comp (a b t : Int) : (t % 2 == (cl a + cl b) % 2) = agr t (comp a b) 0 := by
  unfold agr
  have ha := cl_in a
  have hb := cl_in b
  unfold comp
  generalize cl a = a at *
  generalize cl b = b at *
  rcases eight ha with rfl | rfl | rfl | rfl | rfl | rfl | rfl | rfl <;> rcases eight hb with rfl | rfl | rfl | rfl | rfl | rfl | rfl | rfl <;> rfl

structure HeldP (w0 W : World) (k : Nat) (x y : Int) : Prop where
  at1 : Two W k (.int .i64 x) (.int .i64 y)
  there : k < W.heap.size
  below : Below w0.heap.size w0 W

theorem HeldP.step {w0 w w' : World} {k : Nat} {x y : Int} (h : HeldP w0 w k x y) (hb : Below w.heap.size w w') : HeldP w0 w' k x y :=
  ⟨h.at1.keep hb h.there, Nat.lt_of_lt_of_le h.there hb.size, Below.next h.below hb⟩
theorem HeldP.drew {w0 w : World} {k : Nat} {x y : Int} (h : HeldP w0 w k x y) : HeldP w0 w.drew k x y := ⟨h.at1.drew 1, h.there, h.below.drew⟩
theorem HeldP.cells {w0 W : World} {k : Nat} {x y : Int} (h : HeldP w0 W k x y) : W.cell? ⟨k, 0, none⟩ = some (.int .i64 x) ∧ W.cell? ⟨k, 1, none⟩ = some (.int .i64 y) := ⟨h.at1.1, h.at1.2.1⟩
theorem HeldP.new {w0 w : World} (h : Below w0.heap.size w0 w) (x y : Int) : HeldP w0 (w.alloc (.cells #[.int .i64 x, .int .i64 y] 25)) w.heap.size x y :=
  ⟨Two.new w _ _ _, by rw [World.size_alloc]; exact Nat.lt_succ_self _, Below.next h ((Below.refl _ _).alloc (Nat.le_refl _) _)⟩

set_option maxRecDepth 100000 in
set_option maxHeartbeats 4000000 in
theorem rcompose_any (a b : Int) (w : World) : Calls Tryz.prog 90 #[.int .i64 a, .int .i64 b] w fun e w' => e = .returned (.int .i64 (comp a b)) ∧ Below w.heap.size w w' := by
  have C1 := fun W => Lib.hid (rclean_any a W)
  have C2 := fun W => Lib.hid (rclean_any b W)
  have C3 := fun W => Lib.hid (rsize_any a 3 2 W)
  obtain ⟨n, hn⟩ : ∃ n : Nat, comp a b = (n : Int) := ⟨(comp a b).toNat, by have := comp_in a b; omega⟩
  have HN := Lib.hid hn
  have hn7 : n ≤ 7 := by have := comp_in a b; omega
  have HP := fun t => Lib.hid (par_comp a b t)
  rw [hn] at HP ⊢
  obtain ⟨SW, hSW⟩ : ∃ SW, siW a 3 2 = SW := ⟨_, rfl⟩
  obtain ⟨SH, hSH⟩ : ∃ SH, siH a 3 2 = SH := ⟨_, rfl⟩
  rw [hSW, hSH] at C3
  replace hSW := Lib.hid hSW
  replace hSH := Lib.hid hSH
  have hA := cl_in a
  have hB := cl_in b
  obtain ⟨A, eA⟩ : ∃ A, cl a = A := ⟨_, rfl⟩
  obtain ⟨B, eB⟩ : ∃ B, cl b = B := ⟨_, rfl⟩
  rw [eA] at C1 hA HP
  rw [eB] at C2 hB HP
  replace eA := Lib.hid eA
  replace eB := Lib.hid eB
  clear hn
  go_enter Tryz.func90, Tryz.ntmps90
  go_wp2_with fail
  refine (C3 _).out.mono ?_
  rintro e w0 ⟨rfl, rfl⟩
  go_wp2_with fail
  go_loopw [7] (fun s7 wr => ∃ t : Nat, t ≤ n ∧ s7 = .int .i64 (t : Int) ∧ Hid (Below w.heap.size w wr)) (fun s7 _ => left7 n s7)
  case atStart => exact ⟨0, by omega, rfl, Below.refl _ _⟩
  case round =>
    obtain ⟨t, ht, rfl, K⟩ := hrel
    have hp := (HP (t : Int)).out
    have HAG := Lib.hid (agr_all (t := (t : Int)) (c := (n : Int)) (by omega) (by omega))
    go_wp2_with (first
      | (go_at_call 80; refine (C1 _).out.mono ?_; rintro e wq ⟨rfl, rfl⟩)
      | (go_at_call 80; refine (C2 _).out.mono ?_; rintro e wq ⟨rfl, rfl⟩))
    clear hp
    go_loopw [8, 9] (fun s8 s9 wr2 => ∃ x : Nat, x ≤ 3 ∧ s9 = .int .i64 (x : Int) ∧ s8 = .bool (agr t n (2 * x)) ∧ Hid (Below w.heap.size w wr2)) (fun _ s9 _ => left7 3 s9)
    case atStart => exact ⟨0, by omega, rfl, rfl, K.out⟩
    case round =>
      obtain ⟨x, hx, rfl, rfl, K2⟩ := hrel
      by_cases hlx : x < 3
      · have q0 : (x : Int) < 3 := by omega
        generalize hag : agr t n (2 * x) = ag at *
        replace hag := Lib.hid hag
        clear HAG
        go_wp2_with fail
        go_loopw [8, 10] (fun s8 s10 wr3 => ∃ y : Nat, y ≤ 2 ∧ s10 = .int .i64 (y : Int) ∧ s8 = .bool (agr t n (2 * x + y)) ∧ Hid (Below w.heap.size w wr3)) (fun _ s10 _ => left7 2 s10)
        case atStart => exact ⟨0, by omega, rfl, by rw [← hag.out]; rfl, K2.out⟩
        case round =>
          obtain ⟨y, hy, rfl, rfl, K3⟩ := hrel
          by_cases hly : y < 2
          · have q1 : (y : Int) < 2 := by omega
            generalize hag2 : agr t n (2 * x + y) = ag2 at *
            replace hag2 := Lib.hid hag2
            have hpx : Pix 3 2 x y := ⟨⟨⟨by omega, by omega⟩, ⟨by omega, by omega⟩⟩, by omega, by omega⟩
            have hpx2 : Pix SW SH (posX A 3 2 x y) (posY A 3 2 x y) := by
              have := hpx.image A
              rw [← eA.out, (si_cl a 3 2).1, (si_cl a 3 2).2, hSW.out, hSH.out, eA.out] at this
              exact this
            have P1 := fun W => Lib.hid (place_any t 3 2 x y (by omega) hpx W)
            have P2 := fun W => Lib.hid (place_any A 3 2 x y hA hpx W)
            have P3 := fun W => Lib.hid (place_any B SW SH (posX A 3 2 x y) (posY A 3 2 x y) hB hpx2 W)
            have ec : posX B SW SH (posX A 3 2 x y) (posY A 3 2 x y) = posX n 3 2 x y ∧ posY B SW SH (posX A 3 2 x y) (posY A 3 2 x y) = posY n 3 2 x y := by
              have := pos_comp a b 3 2 x y
              rw [HN.out, hSW.out, hSH.out, ← (pos_cl a 3 2 x y).1, ← (pos_cl a 3 2 x y).2, ← (pos_cl b SW SH _ _).1, ← (pos_cl b SW SH _ _).2, eA.out, eB.out] at this
              exact this
            rw [ec.1, ec.2] at P3
            have hq : eqAt t n (((2 * x + y) / 2 : Nat) : Int) (((2 * x + y) % 2 : Nat) : Int) = (decide (posX t 3 2 x y = posX n 3 2 x y) && decide (posY t 3 2 x y = posY n 3 2 x y)) := by
              rw [show (2 * x + y) / 2 = x by omega, show (2 * x + y) % 2 = y by omega]
              rfl
            clear ec hpx hpx2
            generalize posX A 3 2 x y = X1 at *
            generalize posY A 3 2 x y = Y1 at *
            generalize posX t 3 2 x y = X0 at *
            generalize posY t 3 2 x y = Y0 at *
            generalize posX n 3 2 x y = X3 at *
            generalize posY n 3 2 x y = Y3 at *
            have HH := Lib.hid (HeldP.new K3.out x y)
            by_cases hX : X0 = X3 ∧ Y0 = Y3
            · obtain ⟨rfl, rfl⟩ := hX
              have hag3 := Lib.hid (agr_on (hq.trans (by simp)))
              clear hq
              go_wp2_with fail
              replace HH := Lib.hid HH.out.drew
              have sk := HH.out.cells
              go_region_held3 (fun W => W.cell? ⟨wr.heap.size, 0, none⟩ = some (.int .i64 x) ∧ W.cell? ⟨wr.heap.size, 1, none⟩ = some (.int .i64 y))
                (first
                  | exact sk
                  | go_keep)
                (first
                  | (go_at_call 80; (with_reducible refine (C1 _).out.mono ?_); rintro e wq ⟨rfl, rfl⟩)
                  | (go_at_call 80; (with_reducible refine (C2 _).out.mono ?_); rintro e wq ⟨rfl, rfl⟩)
                  | (go_at_call 89; (with_reducible refine (P1 _).out.mono ?_); rintro e wq ⟨rfl, hbq⟩; replace HH := Lib.hid (HH.out.step hbq); (try clear sk); have sk := HH.out.cells; clear hbq)
                  | (go_at_call 89; (with_reducible refine (P2 _).out.mono ?_); rintro e wq ⟨rfl, hbq⟩; replace HH := Lib.hid (HH.out.step hbq); (try clear sk); have sk := HH.out.cells; clear hbq)
                  | (go_at_call 89; (with_reducible refine (P3 _).out.mono ?_); rintro e wq ⟨rfl, hbq⟩; replace HH := Lib.hid (HH.out.step hbq); (try clear sk); have sk := HH.out.cells; clear hbq)
                  | fail)
              all_goals
                go_wp2_with fail
                go_roundw
                case rel => exact ⟨y + 1, by omega, by go_num, by rw [show 2 * x + (y + 1) = 2 * x + y + 1 from rfl, hag3.out, hag2.out], HH.out.below⟩
                case measure =>
                  unfold left7
                  simp [RowKit.intOf]
                  omega
            · have hag3 := Lib.hid (agr_off (hq.trans (by simpa [Bool.and_eq_false_iff] using hX)))
              clear hq
              have hcase : (X0 ≠ X3 ∧ Y0 = Y3) ∨ (X0 ≠ X3 ∧ Y0 ≠ Y3) ∨ (X0 = X3 ∧ Y0 ≠ Y3) := by omega
              clear hX
              rcases hcase with ⟨hx1, rfl⟩ | ⟨hx1, hy1⟩ | ⟨rfl, hy1⟩
              all_goals
                go_wp2_with fail
                replace HH := Lib.hid HH.out.drew
                have sk := HH.out.cells
                go_region_held3 (fun W => W.cell? ⟨wr.heap.size, 0, none⟩ = some (.int .i64 x) ∧ W.cell? ⟨wr.heap.size, 1, none⟩ = some (.int .i64 y))
                  (first
                    | exact sk
                    | go_keep)
                  (first
                    | (go_at_call 80; (with_reducible refine (C1 _).out.mono ?_); rintro e wq ⟨rfl, rfl⟩)
                    | (go_at_call 80; (with_reducible refine (C2 _).out.mono ?_); rintro e wq ⟨rfl, rfl⟩)
                    | (go_at_call 89; (with_reducible refine (P1 _).out.mono ?_); rintro e wq ⟨rfl, hbq⟩; replace HH := Lib.hid (HH.out.step hbq); (try clear sk); have sk := HH.out.cells; clear hbq)
                    | (go_at_call 89; (with_reducible refine (P2 _).out.mono ?_); rintro e wq ⟨rfl, hbq⟩; replace HH := Lib.hid (HH.out.step hbq); (try clear sk); have sk := HH.out.cells; clear hbq)
                    | (go_at_call 89; (with_reducible refine (P3 _).out.mono ?_); rintro e wq ⟨rfl, hbq⟩; replace HH := Lib.hid (HH.out.step hbq); (try clear sk); have sk := HH.out.cells; clear hbq)
                    | fail)
                go_wp2_with fail
                go_roundw
                case rel => exact ⟨y + 1, by omega, by go_num, by rw [show 2 * x + (y + 1) = 2 * x + y + 1 from rfl, hag3.out], HH.out.below⟩
                case measure =>
                  unfold left7
                  simp [RowKit.intOf]
                  omega
          · have q1 : ¬ (y : Int) < 2 := by omega
            obtain rfl : y = 2 := by omega
            have e2 : agr t n (2 * x + 2) = agr t n (2 * (x + 1)) := rfl
            rw [e2]
            generalize hag2 : agr t n (2 * (x + 1)) = ag2 at *
            replace hag2 := Lib.hid hag2
            clear e2
            go_wp2_with fail
            go_roundw
            case rel => exact ⟨x + 1, by omega, by go_num, by rw [hag2.out], K3.out⟩
            case measure =>
              unfold left7
              simp [RowKit.intOf]
              omega
      · have q0 : ¬ (x : Int) < 3 := by omega
        obtain rfl : x = 3 := by omega
        have e6 : agr t n (2 * 3) = decide ((t : Int) = n) := HAG.out
        rw [e6]
        by_cases htn : t = n
        · subst htn
          rw [decide_eq_true rfl]
          clear e6
          go_wp2_with fail
          go_ret
          exact ⟨rfl, K2.out⟩
        · have hne : ¬ (t : Int) = n := by omega
          rw [decide_eq_false hne]
          clear e6
          go_wp2_with fail
          go_roundw
          case rel => exact ⟨t + 1, by omega, by go_num, K2.out⟩
          case measure =>
            unfold left7
            simp [RowKit.intOf]
            omega

set_option maxRecDepth 100000 in
set_option maxHeartbeats 2000000 in
theorem rinvert_any (a : Int) (w : World) : Calls Tryz.prog 57 #[.int .i64 a] w fun e w' => e = .returned (.int .i64 (inv a)) ∧ Below w.heap.size w w' := by
  obtain ⟨n, hn⟩ : ∃ n : Nat, inv a = (n : Int) := ⟨(inv a).toNat, by have := inv_in a; omega⟩
  have HN := Lib.hid hn
  have hn7 : n ≤ 7 := by have := inv_in a; omega
  rw [hn]
  clear hn
  go_enter Tryz.func57, Tryz.ntmps57
  go_wp2_with fail
  go_loopw [3] (fun s3 wr => ∃ k : Nat, k ≤ n ∧ s3 = .int .i64 (k : Int) ∧ Hid (Below w.heap.size w wr)) (fun s3 _ => left7 n s3)
  case atStart => exact ⟨0, by omega, rfl, Below.refl _ _⟩
  case round =>
    obtain ⟨k, hk, rfl, K⟩ := hrel
    have C := Lib.hid (rcompose_any a k wr)
    by_cases h0 : comp a k = 0
    · have e := inv_hit h0 (by rw [HN.out]; omega)
      rw [HN.out] at e
      obtain rfl : k = n := by omega
      rw [h0] at C
      clear h0 e
      go_wp2_with fail
      refine C.out.mono ?_
      rintro e w1 ⟨rfl, hb⟩
      have K1 := Lib.hid (Below.next K.out hb)
      clear hb
      go_wp2_with fail
      go_ret
      exact ⟨rfl, K1.out⟩
    · have e := inv_miss h0 (by rw [HN.out]; omega)
      rw [HN.out] at e
      have q0 : k < n := by omega
      generalize comp a k = c at *
      clear e
      go_wp2_with fail
      refine C.out.mono ?_
      rintro e w1 ⟨rfl, hb⟩
      have K1 := Lib.hid (Below.next K.out hb)
      clear hb
      go_wp2_with fail
      go_roundw
      case rel => exact ⟨k + 1, by omega, by go_num, K1.out⟩
      case measure =>
        unfold left7
        simp [RowKit.intOf]
        omega

abbrev PP (w : World) (x y : Int) : World := (w.alloc (.cells #[.int .i64 x, .int .i64 y] 25)).alloc (.cells #[.int .i64 0, .int .i64 0] 25)

def At4 (w : World) (b off j : Nat) (p : Px) : Prop :=
  w.cell? ⟨b, off + j * 4, none⟩ = some (.int .u8 p.r) ∧ w.cell? ⟨b, off + j * 4 + 1, none⟩ = some (.int .u8 p.g) ∧ w.cell? ⟨b, off + j * 4 + 2, none⟩ = some (.int .u8 p.b) ∧ w.cell? ⟨b, off + j * 4 + 3, none⟩ = some (.int .u8 p.a)

theorem At4.keep {w w1 : World} {B b off j : Nat} {p : Px} (h : At4 w b off j p) (hb : Below B w w1) (hk : b < B) : At4 w1 b off j p :=
  ⟨(hb.cell (p := ⟨b, off + j * 4, none⟩) hk).trans h.1, (hb.cell (p := ⟨b, off + j * 4 + 1, none⟩) hk).trans h.2.1, (hb.cell (p := ⟨b, off + j * 4 + 2, none⟩) hk).trans h.2.2.1, (hb.cell (p := ⟨b, off + j * 4 + 3, none⟩) hk).trans h.2.2.2⟩

def Pxs (w : World) (v : Value) (l : List Px) : Prop :=
  ∃ (A : Option Addr) (cap : Nat), v = .slice A l.length cap ∧ l.length ≤ cap ∧ cap ≤ maxLen ∧
    (0 < l.length → ∃ b off, A = some ⟨b, off, none⟩ ∧ b < w.heap.size ∧ ∀ (j : Nat) (p : Px), l[j]? = some p → At4 w b off j p)

theorem Pxs.below {w w' : World} {v : Value} {l : List Px} (h : Pxs w v l) (hb : Below w.heap.size w w') : Pxs w' v l := by
  obtain ⟨A, cap, hv, h1, h2, h4⟩ := h
  refine ⟨A, cap, hv, h1, h2, fun hn => ?_⟩
  obtain ⟨b, off, hA, hlt, hc⟩ := h4 hn
  exact ⟨b, off, hA, Nat.lt_of_lt_of_le hlt hb.size, fun j t ht => (hc j t ht).keep hb hlt⟩

theorem pxs_nil (w : World) : Pxs w (.slice none 0 0) [] := ⟨none, 0, rfl, Nat.le_refl _, by simp [maxLen], fun h => by simp at h⟩

theorem Pxs.shape {w : World} {v : Value} {l : List Px} (h : Pxs w v l) : ∃ A cap, v = .slice A l.length cap ∧ l.length ≤ cap ∧ cap ≤ maxLen := by
  obtain ⟨A, cap, hv, h1, h2, _⟩ := h
  exact ⟨A, cap, hv, h1, h2⟩

def RowP (w : World) (g : Nat) (l : List Px) : Prop := (∀ (j : Nat) (p : Px), l[j]? = some p → At4 w g 0 j p) ∧ (∀ i, w.frozen? ⟨g, i, none⟩ = false) ∧ g < w.heap.size

theorem RowP.keep {w w1 : World} {B g : Nat} {l : List Px} (h : RowP w g l) (hb : Below B w w1) (hk : g < B) : RowP w1 g l :=
  ⟨fun j p hj => (h.1 j p hj).keep hb hk, fun i => (hb.frozen (p := ⟨g, i, none⟩) hk).trans (h.2.1 i), Nat.lt_of_lt_of_le h.2.2 hb.size⟩

theorem RowP.pxs {w : World} {g : Nat} {l : List Px} (h : RowP w g l) (hl : l.length ≤ 65536) : Pxs w (.slice (some ⟨g, 0, none⟩) l.length l.length) l :=
  ⟨_, _, rfl, Nat.le_refl _, by simp only [maxLen]; omega, fun _ => ⟨g, 0, rfl, h.2.2, fun j p hj => h.1 j p hj⟩⟩

def setP (w : World) (g j : Nat) (p : Px) : World :=
  (((w.setCell ⟨g, j * 4, none⟩ (.int .u8 p.r)).setCell ⟨g, j * 4 + 1, none⟩ (.int .u8 p.g)).setCell ⟨g, j * 4 + 2, none⟩ (.int .u8 p.b)).setCell ⟨g, j * 4 + 3, none⟩ (.int .u8 p.a)

theorem setP_size (w : World) (g j : Nat) (p : Px) : (setP w g j p).heap.size = w.heap.size := by simp [setP]

theorem below_setP {B g : Nat} {w w1 : World} (h : Below B w w1) (hb : B ≤ g) (j : Nat) (p : Px) : Below B w (setP w1 g j p) :=
  (((h.setCell (p := ⟨g, j * 4, none⟩) hb _).setCell (p := ⟨g, j * 4 + 1, none⟩) hb _).setCell (p := ⟨g, j * 4 + 2, none⟩) hb _).setCell (p := ⟨g, j * 4 + 3, none⟩) hb _

theorem RowP.set {w : World} {g : Nat} {l : List Px} (h : RowP w g l) {j : Nat} (hj : j < l.length) (p : Px) : RowP (setP w g j p) g (l.set j p) := by
  refine ⟨fun k q hk => ?_, fun i => ?_, by rw [setP_size]; exact h.2.2⟩
  · obtain ⟨o, ho⟩ : ∃ o, l[j]? = some o := ⟨_, List.getElem?_eq_getElem hj⟩
    obtain ⟨a0, a1, a2, a3⟩ := h.1 j o ho
    rw [Nat.zero_add] at a0 a1 a2 a3
    unfold At4 setP
    rw [Nat.zero_add]
    by_cases e : k = j
    · subst e
      rw [List.getElem?_set_self hj] at hk
      simp only [Option.some.injEq] at hk
      subst hk
      simp [go_sem, a0, a1, a2, a3]
    · rw [List.getElem?_set_ne (by omega)] at hk
      obtain ⟨b0, b1, b2, b3⟩ := h.1 k q hk
      rw [Nat.zero_add] at b0 b1 b2 b3
      have n0 : k * 4 ≠ j * 4 := by omega
      have n1 : k * 4 ≠ j * 4 + 1 := by omega
      have n2 : k * 4 ≠ j * 4 + 2 := by omega
      have n3 : k * 4 ≠ j * 4 + 3 := by omega
      have m0 : k * 4 + 1 ≠ j * 4 := by omega
      have m2 : k * 4 + 1 ≠ j * 4 + 2 := by omega
      have m3 : k * 4 + 1 ≠ j * 4 + 3 := by omega
      have u0 : k * 4 + 2 ≠ j * 4 := by omega
      have u1 : k * 4 + 2 ≠ j * 4 + 1 := by omega
      have u3 : k * 4 + 2 ≠ j * 4 + 3 := by omega
      have v0 : k * 4 + 3 ≠ j * 4 := by omega
      have v1 : k * 4 + 3 ≠ j * 4 + 1 := by omega
      have v2 : k * 4 + 3 ≠ j * 4 + 2 := by omega
      simp [go_sem, b0, b1, b2, b3]
  · unfold setP
    simp [go_sem, h.2.1]

def zerosP (n : Nat) : Array Value := madeCells #[.int .u8 0, .int .u8 0, .int .u8 0, .int .u8 0] (n * 4)

set_option maxRecDepth 100000 in
theorem make_px (n : Nat) (hn : n ≤ 65536) (w : World) : (Instr.makeSlice 40 (.int .i64 (n : Int)) (.int .i64 (n : Int))).run Tryz.prog w = .ok (.slice (some ⟨w.heap.size, 0, none⟩) n n) (w.alloc (.cells (zerosP n) 58)) := by
  obtain ⟨i, hi, hz, hs, hb⟩ : ∃ i, Tryz.prog.info? 58 = some i ∧ i.zero = some (.agg #[.int .u8 0, .int .u8 0, .int .u8 0, .int .u8 0]) ∧ i.size = 4 ∧ i.bytes = 4 := by
    have h : (Tryz.prog.info? 58).map (fun i => (i.zero, i.size, i.bytes)) = some (some (.agg #[.int .u8 0, .int .u8 0, .int .u8 0, .int .u8 0]), 4, 4) := by kernel_rfl
    cases he : Tryz.prog.info? 58 with
    | none => rw [he] at h; cases h
    | some i =>
      rw [he] at h
      simp only [Option.map_some, Option.some.injEq, Prod.mk.injEq] at h
      exact ⟨i, rfl, h.1, h.2.1, h.2.2⟩
  have hr := run_make (P := Tryz.prog) w 40 58 i _ Tryz.underlying40 hi hz .i64 .i64 n n (by omega) (by omega) (by rw [hb]; omega) (by omega)
  rw [hs, Int.toNat_natCast] at hr
  exact hr

theorem zerosP_at (n j : Nat) (hj : j < n * 4) : (zerosP n)[j]? = some (.int .u8 0) := by
  unfold zerosP madeCells
  have hm : j % 4 < 4 := Nat.mod_lt _ (by omega)
  rw [Array.getElem?_map]
  simp only [Array.getElem?_range, hj, if_true, Option.map_some, Option.some.injEq]
  have : j % 4 = 0 ∨ j % 4 = 1 ∨ j % 4 = 2 ∨ j % 4 = 3 := by omega
  rcases this with e | e | e | e <;> simp [e]

theorem RowP.new (w : World) (n : Nat) : RowP (w.alloc (.cells (zerosP n) 58)) w.heap.size (List.replicate n zeroPx) := by
  refine ⟨fun j p hj => ?_, fun i => by simp [go_sem], by rw [World.size_alloc]; exact Nat.lt_succ_self _⟩
  obtain ⟨hjn, hp⟩ := List.getElem?_eq_some_iff.1 hj
  rw [List.getElem_replicate] at hp
  subst hp
  rw [List.length_replicate] at hjn
  unfold At4
  rw [Nat.zero_add]
  simp only [zeroPx]
  refine ⟨?_, ?_, ?_, ?_⟩ <;> (simp [go_sem]; exact zerosP_at _ _ (by omega))

end Go.Proofs.YthedglfocjljjaaGreatDoor.Trf
