/-
  validBuffer of package transform and valid of its reference: whether a buffer is valid.
-/
import Derived.Test.YthedglfocjljjaaGreatDoorTrb
import Derived.Deep.RegionHeld3
import Derived.Deep.CutRange
namespace Go.Proofs.YthedglfocjljjaaGreatDoor.Trf
open Go.RowKit

@[local go_sem high] theorem run_max_three {P : Program} (w : World) (ts : Array TypeId) (t : TypeId) (k k1 k2 : IntKind) (x y z : Int) :
    (Builtin.max_ ts t #[.int k x, .int k1 y, .int k2 z]).run P w = .ok (.int k (max (max x y) z)) w := by
  have e : (if y > x then y else x) = max x y := by
    rw [Int.max_def]
    split <;> split <;> omega
  have e2 : ∀ m : Int, (if z > m then z else m) = max m z := fun m => by
    rw [Int.max_def]
    split <;> split <;> omega
  simp [Builtin.max_, Builtin.max2, e, e2]

structure HeldV (w W : World) (a b : Int) (A : Option Addr) (n c : Nat) : Prop where
  c0 : W.cell? ⟨w.heap.size, 0, none⟩ = some (.int .i64 a)
  c1 : W.cell? ⟨w.heap.size, 1, none⟩ = some (.int .i64 b)
  c2 : W.cell? ⟨w.heap.size, 2, none⟩ = some (.slice A n c)
  below : Below w.heap.size w W
  there : w.heap.size < W.heap.size

theorem HeldV.step {w W w' : World} {a b : Int} {A : Option Addr} {n c : Nat} (h : HeldV w W a b A n c) (hb : Below W.heap.size W w') : HeldV w w' a b A n c :=
  ⟨(hb.cell (p := ⟨w.heap.size, 0, none⟩) h.there).trans h.c0, (hb.cell (p := ⟨w.heap.size, 1, none⟩) h.there).trans h.c1, (hb.cell (p := ⟨w.heap.size, 2, none⟩) h.there).trans h.c2,
    Below.next h.below hb, Nat.lt_of_lt_of_le h.there hb.size⟩
theorem HeldV.new (w : World) (a b : Int) (A : Option Addr) (n c : Nat) : HeldV w (w.alloc (.cells #[.int .i64 a, .int .i64 b, .slice A n c] 42)) a b A n c :=
  ⟨by simp [go_sem], by simp [go_sem], by simp [go_sem], (Below.refl _ _).alloc (Nat.le_refl _) _, by rw [World.size_alloc]; exact Nat.lt_succ_self _⟩

theorem vBuf_cut {a b : Int} {l : List Px} (h0 : 1 ≤ a ∧ a ≤ 256) (h1 : 1 ≤ b ∧ b ≤ 256) (h2 : (l.length : Int) = a * b) : vBuf a b l = l.all okPx := by
  unfold vBuf
  rw [decide_eq_true h0, decide_eq_true h1, decide_eq_true h2]
  simp

theorem mul_small {a b : Int} (h0 : 1 ≤ a ∧ a ≤ 256) (h1 : 1 ≤ b ∧ b ≤ 256) : 1 ≤ a * b ∧ a * b ≤ 65536 := by
  constructor
  · have := Int.mul_le_mul h0.1 h1.1 (by omega) (by omega)
    omega
  · have := Int.mul_le_mul h0.2 h1.2 (by omega) (by omega)
    omega

theorem drop_at {l : List Px} {k : Nat} {p : Px} (h : l[k]? = some p) : (l.drop k).all okPx = (okPx p && (l.drop (k + 1)).all okPx) := by
  obtain ⟨hk, e⟩ := List.getElem?_eq_some_iff.1 h
  rw [List.drop_eq_getElem_cons hk, e, List.all_cons]

def leftN (n : Nat) (v : Value) : Nat := n - (RowKit.intOf v).toNat

set_option maxRecDepth 100000 in
set_option maxHeartbeats 4000000 in
theorem valid_buf_any (a b : Int) {v : Value} {l : List Px} {w : World} (h : Pxs w v l) : Calls Tryz.prog 81 #[.agg #[.int .i64 a, .int .i64 b, v]] w fun e w' => e = .returned (.bool (vBuf a b l)) ∧ Below w.heap.size w w' := by
  obtain ⟨A, c, rfl, hc, hm, hcell⟩ := h
  simp only [maxLen] at hm
  have HC := Lib.hid hcell
  obtain ⟨n, hn⟩ : ∃ n, l.length = n := ⟨_, rfl⟩
  have HN := Lib.hid hn
  rw [hn] at hc ⊢
  clear hcell hn
  have J := Lib.hid (HeldV.new w a b A n c)
  have C1 := fun W => Lib.hid (side_any a W)
  have C2 := fun W => Lib.hid (side_any b W)
  by_cases h0 : 1 ≤ a ∧ a ≤ 256
  · rw [decide_eq_true h0] at C1
    by_cases h1 : 1 ≤ b ∧ b ≤ 256
    · rw [decide_eq_true h1] at C2
      have hp := mul_small h0 h1
      by_cases h2 : (n : Int) = a * b
      · have hv := vBuf_cut h0 h1 (l := l) (by rw [HN.out]; exact h2)
        rw [hv]
        have hdz : (l.drop 0).all okPx = l.all okPx := by rw [List.drop_zero]
        have hw2 : wrap64 (a * b) = (n : Int) := by rw [IntWalk.wrap64_in _ (by omega), h2]
        have hn0 : 0 < n := by omega
        have hn6 : n ≤ 65536 := by omega
        obtain ⟨bb, off, rfl, hbb, hcs⟩ := HC.out (by rw [HN.out]; exact hn0)
        have HC2 := Lib.hid hcs
        obtain ⟨res, hres⟩ : ∃ res, l.all okPx = res := ⟨_, rfl⟩
        rw [hres] at hdz ⊢
        replace hdz := Lib.hid hdz
        clear hv hres HC hcs h2 hp h0 h1
        go_enter Tryz.func81, Tryz.ntmps81
        go_wp2_with (first
          | (go_at_call 103; (with_reducible refine (C1 _).out.mono ?_); rintro e wq ⟨rfl, rfl⟩)
          | (go_at_call 103; (with_reducible refine (C2 _).out.mono ?_); rintro e wq ⟨rfl, rfl⟩))
        go_loopw [29] (fun s29 wr => ∃ k : Nat, k ≤ n ∧ s29 = .int .i64 (k : Int) ∧ Hid ((l.drop k).all okPx = res ∧ Below w.heap.size w wr)) (fun s29 _ => leftN n s29)
        case atStart => exact ⟨0, by omega, rfl, hdz.out, J.out.below⟩
        case round =>
          obtain ⟨k, hk, rfl, HR⟩ := hrel
          by_cases hlt : k < n
          · obtain ⟨p, hpx⟩ : ∃ p, l[k]? = some p := ⟨_, List.getElem?_eq_getElem (by rw [HN.out]; exact hlt)⟩
            obtain ⟨c0, c1, c2, c3⟩ := (HC2.out k p hpx).keep HR.out.2 hbb
            have hd := HR.out.1
            rw [drop_at hpx] at hd
            have q0 : (k : Int) < n := by omega
            have q1 : (0 : Int) ≤ k := by omega
            clear hpx
            cases hok : okPx p
            · rw [hok] at hd
              simp only [Bool.false_and] at hd
              subst hd
              have hmx : p.a < max (max p.r p.g) p.b := by
                simp only [okPx, Bool.and_eq_false_iff, decide_eq_false_iff_not] at hok
                omega
              clear hok
              go_wp2_with fail
              go_ret
              exact ⟨rfl, Below.next HR.out.2 ((Below.refl _ _).alloc (Nat.le_refl _) _)⟩
            · rw [hok] at hd
              simp only [Bool.true_and] at hd
              have hmx : ¬ p.a < max (max p.r p.g) p.b := by
                simp only [okPx, Bool.and_eq_true, decide_eq_true_eq] at hok
                omega
              replace hd := Lib.hid hd
              clear hok
              go_wp2_with fail
              go_roundw
              case rel => exact ⟨k + 1, by omega, by go_num, hd.out, Below.next HR.out.2 ((Below.refl _ _).alloc (Nat.le_refl _) _)⟩
              case measure =>
                unfold leftN
                simp [RowKit.intOf]
                omega
          · obtain rfl : k = n := by omega
            have q0 : ¬ (k : Int) < k := by omega
            have hd := HR.out.1
            rw [List.drop_of_length_le (by rw [HN.out]; exact Nat.le_refl _)] at hd
            simp only [List.all_nil] at hd
            subst hd
            go_wp2_with fail
            go_ret
            exact ⟨rfl, HR.out.2⟩
      · have hv : vBuf a b l = false := by unfold vBuf; rw [HN.out, decide_eq_false h2]; simp
        rw [hv]
        have hw2 : wrap64 (a * b) = a * b := IntWalk.wrap64_in _ (by omega)
        obtain ⟨ab, hab⟩ : ∃ ab, a * b = ab := ⟨_, rfl⟩
        rw [hab] at h2
        replace hw2 := hw2.trans hab
        have h3 : ((n : Int) == ab) = false := by simpa using h2
        have h4 : ((n : Int) != ab) = true := by simpa using h2
        clear hv h0 h1 hab hp
        go_enter Tryz.func81, Tryz.ntmps81
        go_wp2_with (first
          | (go_at_call 103; (with_reducible refine (C1 _).out.mono ?_); rintro e wq ⟨rfl, rfl⟩)
          | (go_at_call 103; (with_reducible refine (C2 _).out.mono ?_); rintro e wq ⟨rfl, rfl⟩))
        go_ret
        exact ⟨rfl, J.out.below⟩
    · have hv : vBuf a b l = false := by unfold vBuf; rw [decide_eq_false h1]; simp
      rw [hv]
      rw [decide_eq_false h1] at C2
      clear hv h0 h1
      go_enter Tryz.func81, Tryz.ntmps81
      go_wp2_with (first
        | (go_at_call 103; (with_reducible refine (C1 _).out.mono ?_); rintro e wq ⟨rfl, rfl⟩)
        | (go_at_call 103; (with_reducible refine (C2 _).out.mono ?_); rintro e wq ⟨rfl, rfl⟩))
      go_ret
      exact ⟨rfl, J.out.below⟩
  · have hv : vBuf a b l = false := by unfold vBuf; rw [decide_eq_false h0]; simp
    rw [hv]
    rw [decide_eq_false h0] at C1
    clear hv h0
    go_enter Tryz.func81, Tryz.ntmps81
    go_wp2_with (go_at_call 103; (with_reducible refine (C1 _).out.mono ?_); rintro e wq ⟨rfl, rfl⟩)
    go_ret
    exact ⟨rfl, J.out.below⟩

set_option maxRecDepth 100000 in
set_option maxHeartbeats 4000000 in
theorem rvalid_buf_any (a b : Int) {v : Value} {l : List Px} {w : World} (h : Pxs w v l) : Calls Tryz.prog 88 #[.agg #[.int .i64 a, .int .i64 b, v]] w fun e w' => e = .returned (.bool (vBuf a b l)) ∧ Below w.heap.size w w' := by
  obtain ⟨A, c, rfl, hc, hm, hcell⟩ := h
  simp only [maxLen] at hm
  have HC := Lib.hid hcell
  obtain ⟨n, hn⟩ : ∃ n, l.length = n := ⟨_, rfl⟩
  have HN := Lib.hid hn
  rw [hn] at hc ⊢
  clear hcell hn
  have J := Lib.hid (HeldV.new w a b A n c)
  by_cases h0 : 1 ≤ a ∧ a ≤ 256
  · by_cases h1 : 1 ≤ b ∧ b ≤ 256
    · have hp := mul_small h0 h1
      have g0 : ¬ a < 1 := by omega
      have g1 : ¬ 256 < a := by omega
      have g2 : ¬ b < 1 := by omega
      have g3 : ¬ 256 < b := by omega
      by_cases h2 : (n : Int) = a * b
      · have hv := vBuf_cut h0 h1 (l := l) (by rw [HN.out]; exact h2)
        rw [hv]
        have hdz : (l.drop 0).all okPx = l.all okPx := by rw [List.drop_zero]
        have hw2 : wrap64 (a * b) = (n : Int) := by rw [IntWalk.wrap64_in _ (by omega), h2]
        have hn0 : 0 < n := by omega
        have hn6 : n ≤ 65536 := by omega
        obtain ⟨bb, off, rfl, hbb, hcs⟩ := HC.out (by rw [HN.out]; exact hn0)
        have HC2 := Lib.hid hcs
        obtain ⟨res, hres⟩ : ∃ res, l.all okPx = res := ⟨_, rfl⟩
        rw [hres] at hdz ⊢
        replace hdz := Lib.hid hdz
        clear hv hres HC hcs h2 hp h0 h1
        go_enter Tryz.func88, Tryz.ntmps88
        go_wp2_with fail
        go_loopw [3] (fun s3 wr => ∃ k : Nat, k ≤ n ∧ s3 = .int .i64 (k : Int) ∧ Hid ((l.drop k).all okPx = res ∧ HeldV w wr a b (some ⟨bb, off, none⟩) n c)) (fun s3 _ => leftN n s3)
        case atStart => exact ⟨0, by omega, rfl, hdz.out, J.out⟩
        case round =>
          obtain ⟨k, hk, rfl, HR⟩ := hrel
          have o0 := HR.out.2.c0
          have o1 := HR.out.2.c1
          have o2 := HR.out.2.c2
          have hz := HR.out.2.there
          by_cases hlt : k < n
          · obtain ⟨p, hpx⟩ : ∃ p, l[k]? = some p := ⟨_, List.getElem?_eq_getElem (by rw [HN.out]; exact hlt)⟩
            obtain ⟨c0, c1, c2, c3⟩ := (HC2.out k p hpx).keep HR.out.2.below hbb
            have hd := HR.out.1
            rw [drop_at hpx] at hd
            have q0 : (k : Int) < n := by omega
            have q1 : (0 : Int) ≤ k := by omega
            have JN := Lib.hid (HR.out.2.step ((Below.refl _ _).alloc (Nat.le_refl _) (.cells #[.int .u8 p.r, .int .u8 p.g, .int .u8 p.b, .int .u8 p.a] 58)))
            clear hpx
            by_cases r0 : p.a < p.r <;> by_cases r1 : p.a < p.g <;> by_cases r2 : p.a < p.b
            rotate_right 1
            · have hok : okPx p = true := by
                simp only [okPx, Bool.and_eq_true, decide_eq_true_eq]
                omega
              rw [hok] at hd
              simp only [Bool.true_and] at hd
              replace hd := Lib.hid hd
              clear hok
              go_wp2_with fail
              go_roundw
              case rel => exact ⟨k + 1, by omega, by go_num, hd.out, JN.out⟩
              case measure =>
                unfold leftN
                simp [RowKit.intOf]
                omega
            all_goals
              have hok : okPx p = false := by
                simp only [okPx, Bool.and_eq_false_iff, decide_eq_false_iff_not]
                omega
              rw [hok] at hd
              simp only [Bool.false_and] at hd
              subst hd
              clear hok
              go_wp2_with fail
              go_ret
              exact ⟨rfl, JN.out.below⟩
          · obtain rfl : k = n := by omega
            have q0 : ¬ (k : Int) < k := by omega
            have hd := HR.out.1
            rw [List.drop_of_length_le (by rw [HN.out]; exact Nat.le_refl _)] at hd
            simp only [List.all_nil] at hd
            subst hd
            go_wp2_with fail
            go_ret
            exact ⟨rfl, HR.out.2.below⟩
      · have hv : vBuf a b l = false := by unfold vBuf; rw [HN.out, decide_eq_false h2]; simp
        rw [hv]
        have hw2 : wrap64 (a * b) = a * b := IntWalk.wrap64_in _ (by omega)
        obtain ⟨ab, hab⟩ : ∃ ab, a * b = ab := ⟨_, rfl⟩
        rw [hab] at h2
        replace hw2 := hw2.trans hab
        have h3 : ((n : Int) == ab) = false := by simpa using h2
        have h4 : ((n : Int) != ab) = true := by simpa using h2
        clear hv h0 h1 hab hp
        go_enter Tryz.func88, Tryz.ntmps88
        go_wp2_with fail
        go_ret
        exact ⟨rfl, J.out.below⟩
    · have hv : vBuf a b l = false := by unfold vBuf; rw [decide_eq_false h1]; simp
      rw [hv]
      have g0 : ¬ a < 1 := by omega
      have g1 : ¬ 256 < a := by omega
      clear hv h0
      by_cases g2 : b < 1 <;> by_cases g3 : 256 < b
      all_goals first
        | (exfalso; omega)
        | (clear h1
           go_enter Tryz.func88, Tryz.ntmps88
           go_wp2_with fail
           go_ret
           exact ⟨ret_bool (by simp [*]), J.out.below⟩)
  · have hv : vBuf a b l = false := by unfold vBuf; rw [decide_eq_false h0]; simp
    rw [hv]
    clear hv
    by_cases g0 : a < 1 <;> by_cases g1 : 256 < a
    all_goals first
      | (exfalso; omega)
      | (clear h0
         go_enter Tryz.func88, Tryz.ntmps88
         go_wp2_with fail
         go_ret
         exact ⟨rfl, J.out.below⟩)

structure HeldS (w W : World) (a b : Int) (v u : Value) : Prop where
  c0 : W.cell? ⟨w.heap.size, 0, none⟩ = some (.int .i64 a)
  c1 : W.cell? ⟨w.heap.size, 1, none⟩ = some (.int .i64 b)
  c2 : W.cell? ⟨w.heap.size, 2, none⟩ = some v
  d0 : W.cell? ⟨w.heap.size + 1, 0, none⟩ = some (.int .i64 a)
  d1 : W.cell? ⟨w.heap.size + 1, 1, none⟩ = some (.int .i64 b)
  d2 : W.cell? ⟨w.heap.size + 1, 2, none⟩ = some u
  below : Below w.heap.size w W
  there : w.heap.size + 1 < W.heap.size

theorem HeldS.step {w W w' : World} {a b : Int} {v u : Value} (h : HeldS w W a b v u) (hb : Below W.heap.size W w') : HeldS w w' a b v u := by
  have h0 : w.heap.size < W.heap.size := by have := h.there; omega
  exact ⟨(hb.cell (p := ⟨w.heap.size, 0, none⟩) h0).trans h.c0, (hb.cell (p := ⟨w.heap.size, 1, none⟩) h0).trans h.c1, (hb.cell (p := ⟨w.heap.size, 2, none⟩) h0).trans h.c2,
    (hb.cell (p := ⟨w.heap.size + 1, 0, none⟩) h.there).trans h.d0, (hb.cell (p := ⟨w.heap.size + 1, 1, none⟩) h.there).trans h.d1, (hb.cell (p := ⟨w.heap.size + 1, 2, none⟩) h.there).trans h.d2,
    Below.next h.below hb, Nat.lt_of_lt_of_le h.there hb.size⟩
theorem HeldS.new (w : World) (a b : Int) (A A' : Option Addr) (n m c c' : Nat) : HeldS w ((w.alloc (.cells #[.int .i64 a, .int .i64 b, .slice A n c] 42)).alloc (.cells #[.int .i64 a, .int .i64 b, .slice A' m c'] 42)) a b (.slice A n c) (.slice A' m c') :=
  ⟨by simp [go_sem], by simp [go_sem], by simp [go_sem], by simp [go_sem], by simp [go_sem], by simp [go_sem],
    ((Below.refl _ _).alloc (Nat.le_refl _) _).alloc (Nat.le_of_lt (by rw [World.size_alloc]; exact Nat.lt_succ_self _)) _, by simp⟩

set_option maxRecDepth 100000 in
set_option maxHeartbeats 4000000 in
theorem rsame_true (a b : Int) {v u : Value} {l : List Px} {w : World} (h1 : Pxs w v l) (h2 : Pxs w u l) : Calls Tryz.prog 28 #[.agg #[.int .i64 a, .int .i64 b, v], .agg #[.int .i64 a, .int .i64 b, u]] w fun e w' => e = .returned (.bool true) ∧ Below w.heap.size w w' := by
  obtain ⟨A, c, rfl, hc1, hm1, hcell1⟩ := h1
  obtain ⟨A', c', rfl, hc2, hm2, hcell2⟩ := h2
  simp only [maxLen] at hm1 hm2
  have HC1 := Lib.hid hcell1
  have HC2 := Lib.hid hcell2
  obtain ⟨n, hn⟩ : ∃ n, l.length = n := ⟨_, rfl⟩
  have HN := Lib.hid hn
  rw [hn] at hc1 hc2 ⊢
  clear hcell1 hcell2 hn
  have J := Lib.hid (HeldS.new w a b A A' n n c c')
  go_enter Tryz.func28, Tryz.ntmps28
  go_wp2_with fail
  go_loopw [5] (fun k wr => ∃ j : Nat, j ≤ n ∧ k = .int .i64 (j : Int) ∧ Hid (HeldS w wr a b (.slice A n c) (.slice A' n c'))) (fun k _ => leftN n k)
  case atStart => exact ⟨0, by omega, rfl, J.out⟩
  case round =>
    obtain ⟨j, hj, rfl, K⟩ := hrel
    have o0 := K.out.c2
    have o1 := K.out.d2
    by_cases hlt : j < n
    · obtain ⟨p, hpx⟩ : ∃ p, l[j]? = some p := ⟨_, List.getElem?_eq_getElem (by rw [HN.out]; exact hlt)⟩
      obtain ⟨bb, off, rfl, hb, hcs⟩ := HC1.out (by rw [HN.out]; omega)
      obtain ⟨bb', off', rfl, hb', hcs'⟩ := HC2.out (by rw [HN.out]; omega)
      obtain ⟨t0, t1, t2, t3⟩ := (hcs j p hpx).keep K.out.below hb
      obtain ⟨s0, s1, s2, s3⟩ := (hcs' j p hpx).keep K.out.below hb'
      clear hpx hcs hcs' HC1 HC2
      have q0 : (j : Int) < n := by omega
      have q1 : (0 : Int) ≤ j := by omega
      go_wp2_with fail
      go_quiet (fail)
      go_wp2_with fail
      go_roundw
      case rel => exact ⟨j + 1, by omega, by go_num, K.out.step (below_drewN (Below.refl _ _) _)⟩
      case measure =>
        unfold leftN
        simp [RowKit.intOf]
        omega
    · obtain rfl : j = n := by omega
      have q0 : ¬ (j : Int) < j := by omega
      go_wp2_with fail
      go_ret
      exact ⟨rfl, K.out.below⟩

def oW (t a b : Int) (l : List Px) : Int := if vBuf a b l then siW t a b else 0
def oH (t a b : Int) (l : List Px) : Int := if vBuf a b l then siH t a b else 0
def oL (t a b : Int) (l : List Px) : List Px := if vBuf a b l then imgP t a b l else []

def Gives (a b : Int) (l : List Px) (w : World) (e : Ending) (w' : World) : Prop := ∃ A c, e = .returned (.agg #[.int .i64 a, .int .i64 b, .slice A l.length c]) ∧ Pxs w' (.slice A l.length c) l ∧ Below w.heap.size w w' ∧ ∀ ad, A = some ad → w.heap.size ≤ ad.block

def set3 (W : World) (k : Nat) (x0 x1 x2 : Value) : World := ((W.setCell ⟨k, 0, none⟩ x0).setCell ⟨k, 1, none⟩ x1).setCell ⟨k, 2, none⟩ x2
theorem below_set3 {B k : Nat} {w w1 : World} (h : Below B w w1) (hb : B ≤ k) {x0 x1 x2 : Value} : Below B w (set3 w1 k x0 x1 x2) :=
  ((h.setCell (p := ⟨k, 0, none⟩) hb x0).setCell (p := ⟨k, 1, none⟩) hb x1).setCell (p := ⟨k, 2, none⟩) hb x2
theorem set3_size (W : World) (k : Nat) (x0 x1 x2 : Value) : (set3 W k x0 x1 x2).heap.size = W.heap.size := by simp [set3]

theorem RowP.far {W : World} {g k : Nat} {l : List Px} (h : RowP W g l) (hne : g ≠ k) (x0 x1 x2 : Value) : RowP (set3 W k x0 x1 x2) g l := by
  refine ⟨fun j p hj => ?_, fun i => ?_, by rw [set3_size]; exact h.2.2⟩
  · obtain ⟨a0, a1, a2, a3⟩ := h.1 j p hj
    rw [Nat.zero_add] at a0 a1 a2 a3
    unfold At4 set3
    rw [Nat.zero_add]
    simp [go_sem, a0, a1, a2, a3]
  · unfold set3
    simp [go_sem, h.2.1]

def Tri (W : World) (k : Nat) (x0 x1 x2 : Value) : Prop := W.cell? ⟨k, 0, none⟩ = some x0 ∧ W.cell? ⟨k, 1, none⟩ = some x1 ∧ W.cell? ⟨k, 2, none⟩ = some x2 ∧ ∀ i, W.frozen? ⟨k, i, none⟩ = false

theorem Tri.keep {W w1 : World} {B k : Nat} {x0 x1 x2 : Value} (h : Tri W k x0 x1 x2) (hb : Below B W w1) (hk : k < B) : Tri w1 k x0 x1 x2 :=
  ⟨(hb.cell (p := ⟨k, 0, none⟩) hk).trans h.1, (hb.cell (p := ⟨k, 1, none⟩) hk).trans h.2.1, (hb.cell (p := ⟨k, 2, none⟩) hk).trans h.2.2.1, fun i => (hb.frozen (p := ⟨k, i, none⟩) hk).trans (h.2.2.2 i)⟩
theorem Tri.new (w : World) (x0 x1 x2 : Value) (t : TypeId) : Tri (w.alloc (.cells #[x0, x1, x2] t)) w.heap.size x0 x1 x2 := by
  unfold Tri
  simp [go_sem]
theorem Tri.setP {W : World} {g k j : Nat} {x0 x1 x2 : Value} (h : Tri W k x0 x1 x2) (hne : k ≠ g) (p : Px) : Tri (setP W g j p) k x0 x1 x2 := by
  obtain ⟨h0, h1, h2, h3⟩ := h
  unfold Tri Go.Proofs.YthedglfocjljjaaGreatDoor.Trf.setP
  simp [go_sem, h0, h1, h2, h3]

structure HeldX (w W : World) (a b : Int) (v : Value) (sw sh : Int) (g n m : Nat) (L : List Px) : Prop where
  at1 : Tri W w.heap.size (.int .i64 a) (.int .i64 b) v
  at2 : Tri W (w.heap.size + 1) (.int .i64 0) (.int .i64 0) (.slice none 0 0)
  at3 : Tri W m (.int .i64 sw) (.int .i64 sh) (.slice (some ⟨g, 0, none⟩) n n)
  row : RowP W g L
  below : Below w.heap.size w W
  there : w.heap.size + 1 < g ∧ g < m ∧ m < W.heap.size

theorem HeldX.step {w W w' : World} {a b sw sh : Int} {v : Value} {g n m : Nat} {L : List Px} (h : HeldX w W a b v sw sh g n m L) (hb : Below W.heap.size W w') : HeldX w w' a b v sw sh g n m L := by
  obtain ⟨h0, h1, h2⟩ := h.there
  exact ⟨h.at1.keep hb (by omega), h.at2.keep hb (by omega), h.at3.keep hb h2, h.row.keep hb (by omega), Below.next h.below hb, h0, h1, Nat.lt_of_lt_of_le h2 hb.size⟩

theorem HeldX.set {w W : World} {a b sw sh : Int} {v : Value} {g n m : Nat} {L : List Px} (h : HeldX w W a b v sw sh g n m L) {j : Nat} (hj : j < L.length) (p : Px) : HeldX w (setP W g j p) a b v sw sh g n m (L.set j p) := by
  obtain ⟨h0, h1, h2⟩ := h.there
  exact ⟨h.at1.setP (by omega) p, h.at2.setP (by omega) p, h.at3.setP (by omega) p, h.row.set hj p, below_setP h.below (by omega) j p, h0, h1, by rw [setP_size]; exact h2⟩

structure HeldY (W : World) (q mm : Nat) (p : Px) (x y : Int) : Prop where
  c0 : W.cell? ⟨q, 0, none⟩ = some (.int .u8 p.r)
  c1 : W.cell? ⟨q, 1, none⟩ = some (.int .u8 p.g)
  c2 : W.cell? ⟨q, 2, none⟩ = some (.int .u8 p.b)
  c3 : W.cell? ⟨q, 3, none⟩ = some (.int .u8 p.a)
  at2 : Two W mm (.int .i64 x) (.int .i64 y)

theorem px_keep {W W' : World} {q : Nat} {p : Px} (h : W.cell? ⟨q, 0, none⟩ = some (.int .u8 p.r) ∧ W.cell? ⟨q, 1, none⟩ = some (.int .u8 p.g) ∧ W.cell? ⟨q, 2, none⟩ = some (.int .u8 p.b) ∧ W.cell? ⟨q, 3, none⟩ = some (.int .u8 p.a)) (hb : Below W.heap.size W W') (hq : q < W.heap.size) :
    W'.cell? ⟨q, 0, none⟩ = some (.int .u8 p.r) ∧ W'.cell? ⟨q, 1, none⟩ = some (.int .u8 p.g) ∧ W'.cell? ⟨q, 2, none⟩ = some (.int .u8 p.b) ∧ W'.cell? ⟨q, 3, none⟩ = some (.int .u8 p.a) :=
  ⟨(hb.cell (p := ⟨q, 0, none⟩) hq).trans h.1, (hb.cell (p := ⟨q, 1, none⟩) hq).trans h.2.1, (hb.cell (p := ⟨q, 2, none⟩) hq).trans h.2.2.1, (hb.cell (p := ⟨q, 3, none⟩) hq).trans h.2.2.2⟩

theorem Tri.far2 {W : World} {k j : Nat} {x0 x1 x2 y0 y1 : Value} (h : Tri W k x0 x1 x2) (hne : k ≠ j) : Tri (set2 W j y0 y1) k x0 x1 x2 := by
  obtain ⟨h0, h1, h2, h3⟩ := h
  unfold Tri set2
  simp [go_sem, h0, h1, h2, h3]
theorem RowP.far2 {W : World} {g k : Nat} {l : List Px} (h : RowP W g l) (hne : g ≠ k) (x0 x1 : Value) : RowP (set2 W k x0 x1) g l := by
  refine ⟨fun j p hj => ?_, fun i => ?_, by rw [set2_size]; exact h.2.2⟩
  · obtain ⟨a0, a1, a2, a3⟩ := h.1 j p hj
    rw [Nat.zero_add] at a0 a1 a2 a3
    unfold At4 set2
    rw [Nat.zero_add]
    simp [go_sem, a0, a1, a2, a3]
  · unfold set2
    simp [go_sem, h.2.1]
theorem HeldX.two {w W : World} {a b sw sh : Int} {v : Value} {g n m : Nat} {L : List Px} (h : HeldX w W a b v sw sh g n m L) {k : Nat} (hk : m < k) (x y : Value) : HeldX w (set2 W k x y) a b v sw sh g n m L := by
  obtain ⟨h0, h1, h2⟩ := h.there
  exact ⟨h.at1.far2 (by omega), h.at2.far2 (by omega), h.at3.far2 (by omega), h.row.far2 (by omega) x y, below_set2 h.below (by omega), h0, h1, by rw [set2_size]; exact h2⟩
theorem HeldY.of_set {W : World} {q k : Nat} {p : Px} {x0 x1 : Value} (h : W.cell? ⟨q, 0, none⟩ = some (.int .u8 p.r) ∧ W.cell? ⟨q, 1, none⟩ = some (.int .u8 p.g) ∧ W.cell? ⟨q, 2, none⟩ = some (.int .u8 p.b) ∧ W.cell? ⟨q, 3, none⟩ = some (.int .u8 p.a)) (T : Two W k x0 x1) (hq : q ≠ k) (x y : Int) :
    HeldY (set2 W k (.int .i64 x) (.int .i64 y)) q k p x y := by
  obtain ⟨h0, h1, h2, h3⟩ := h
  refine ⟨?_, ?_, ?_, ?_, T.set⟩ <;> (unfold set2; simp [go_sem, h0, h1, h2, h3])
theorem HeldY.of_new {W : World} {q : Nat} {p : Px} (h : W.cell? ⟨q, 0, none⟩ = some (.int .u8 p.r) ∧ W.cell? ⟨q, 1, none⟩ = some (.int .u8 p.g) ∧ W.cell? ⟨q, 2, none⟩ = some (.int .u8 p.b) ∧ W.cell? ⟨q, 3, none⟩ = some (.int .u8 p.a)) (hq : q < W.heap.size) (x y : Int) :
    HeldY (W.alloc (.cells #[.int .i64 x, .int .i64 y] 25)) q W.heap.size p x y := by
  obtain ⟨h0, h1, h2, h3⟩ := px_keep h ((Below.refl _ _).alloc (Nat.le_refl _) (.cells #[.int .i64 x, .int .i64 y] 25)) hq
  exact ⟨h0, h1, h2, h3, Two.new _ _ _ _⟩

abbrev BB (w : World) (a b : Int) (A : Option Addr) (n c : Nat) : World := (w.alloc (.cells #[.int .i64 a, .int .i64 b, .slice A n c] 42)).alloc (.cells #[.int .i64 0, .int .i64 0, .slice none 0 0] 42)

theorem bb_held {w W : World} {a b : Int} {A : Option Addr} {n c : Nat} (h : Below (BB w a b A n c).heap.size (BB w a b A n c) W) :
    Tri W w.heap.size (.int .i64 a) (.int .i64 b) (.slice A n c) ∧ Tri W (w.heap.size + 1) (.int .i64 0) (.int .i64 0) (.slice none 0 0) ∧ Below w.heap.size w W ∧ w.heap.size + 1 < W.heap.size := by
  have T0 := Tri.new w (.int .i64 a) (.int .i64 b) (.slice A n c) 42
  have T1 := Tri.new (w.alloc (.cells #[.int .i64 a, .int .i64 b, .slice A n c] 42)) (.int .i64 0) (.int .i64 0) (.slice none 0 0) 42
  rw [World.size_alloc] at T1
  have T2 := T0.keep (w1 := BB w a b A n c) ((Below.refl _ _).alloc (Nat.le_refl _) _) (by rw [World.size_alloc]; exact Nat.lt_succ_self _)
  have hs : (BB w a b A n c).heap.size = w.heap.size + 2 := by simp [BB]
  have hz := h.size
  have HB : Below w.heap.size w (BB w a b A n c) := ((Below.refl w.heap.size w).alloc (Nat.le_refl _) _).alloc (Nat.le_of_lt (by rw [World.size_alloc]; exact Nat.lt_succ_self _)) _
  exact ⟨T2.keep h (by omega), T1.keep h (by omega), Below.next HB h, by omega⟩

theorem HeldX.new {w w1 : World} {a b : Int} {v : Value} (h0 : Tri w1 w.heap.size (.int .i64 a) (.int .i64 b) v) (h1 : Tri w1 (w.heap.size + 1) (.int .i64 0) (.int .i64 0) (.slice none 0 0)) (h2 : Below w.heap.size w w1) (h3 : w.heap.size + 1 < w1.heap.size) (sw sh : Int) (n : Nat) :
    HeldX w ((w1.alloc (.cells (zerosP n) 58)).alloc (.cells #[.int .i64 sw, .int .i64 sh, .slice (some ⟨w1.heap.size, 0, none⟩) n n] 42)) a b v sw sh w1.heap.size n (w1.heap.size + 1) (List.replicate n zeroPx) := by
  have hb : Below w1.heap.size w1 ((w1.alloc (.cells (zerosP n) 58)).alloc (.cells #[.int .i64 sw, .int .i64 sh, .slice (some ⟨w1.heap.size, 0, none⟩) n n] 42)) :=
    ((Below.refl _ _).alloc (Nat.le_refl _) _).alloc (Nat.le_of_lt (by rw [World.size_alloc]; exact Nat.lt_succ_self _)) _
  have T := Tri.new (w1.alloc (.cells (zerosP n) 58)) (.int .i64 sw) (.int .i64 sh) (.slice (some ⟨w1.heap.size, 0, none⟩) n n) 42
  rw [World.size_alloc] at T
  exact ⟨h0.keep hb (by omega), h1.keep hb h3, T, (RowP.new w1 n).keep ((Below.refl _ _).alloc (Nat.le_refl _) _) (by rw [World.size_alloc]; exact Nat.lt_succ_self _), Below.next h2 hb, h3, Nat.lt_succ_self _, by simp⟩

theorem zero_out {t a b : Int} {l : List Px} (h : vBuf a b l = false) : oW t a b l = 0 ∧ oH t a b l = 0 ∧ oL t a b l = [] := by simp [oW, oH, oL, h]
theorem full_out {t a b : Int} {l : List Px} (h : vBuf a b l = true) : oW t a b l = siW t a b ∧ oH t a b l = siH t a b ∧ oL t a b l = imgP t a b l := by simp [oW, oH, oL, h]

set_option maxRecDepth 100000 in
set_option maxHeartbeats 4000000 in
theorem pixels_any (t a b : Int) {v : Value} {l : List Px} {w : World} (h : Pxs w v l) : Calls Tryz.prog 52 #[.int .i64 t, .agg #[.int .i64 a, .int .i64 b, v]] w (Gives (oW t a b l) (oH t a b l) (oL t a b l) w) := by
  have HV := Lib.hid h
  have C1 := fun W (hW : Pxs W v l) => Lib.hid (valid_buf_any a b hW)
  obtain ⟨A, c, rfl, hc, hm, hcell⟩ := h
  simp only [maxLen] at hm
  have HC := Lib.hid hcell
  clear hcell
  have J := Lib.hid (Below.refl (BB w a b A l.length c).heap.size (BB w a b A l.length c))
  cases hv : vBuf a b l
  · obtain ⟨e0, e1, e2⟩ := zero_out (t := t) hv
    rw [e0, e1, e2]
    rw [hv] at C1
    clear e0 e1 e2 hv
    generalize l.length = n at *
    go_enter Tryz.func52, Tryz.ntmps52
    go_wp2_with fail
    refine (C1 _ (HV.out.below (bb_held J.out).2.2.1)).out.mono ?_
    rintro e w1 ⟨rfl, hb⟩
    obtain ⟨_, ⟨o0, o1, o2, of⟩, B, _⟩ := bb_held hb
    replace B := Lib.hid B
    clear hb
    go_wp2_with fail
    refine bodyPost_ret (v := .agg #[.int .i64 0, .int .i64 0, .slice none 0 0]) (by simp [results, Tryz.results52, go_sem, o0, o1, o2]) rfl ⟨none, 0, rfl, pxs_nil _, ?_, fun _ h => by cases h⟩
    exact below_set3 B.out (Nat.le_succ _)
  · obtain ⟨e0, e1, e2⟩ := full_out (t := t) hv
    rw [e0, e1, e2]
    rw [hv] at C1
    obtain ⟨ha, hb, hlen, _⟩ := vBuf_iff.1 hv
    have hp := mul_small ha hb
    have C2 := fun W => Lib.hid (size_any t a b W)
    have hpos := si_pos t (w := a) (h := b) (by omega) (by omega)
    obtain ⟨bb, off, rfl, hbb, hcs⟩ := HC.out (by omega)
    have HS := Lib.hid hcs
    have HL := Lib.hid hlen
    obtain ⟨n, hn⟩ : ∃ n, l.length = n := ⟨_, rfl⟩
    have HN := Lib.hid hn
    have hnb : n ≤ 65536 := by omega
    have hmk := make_px n hnb
    have hil : (imgP t a b l).length = n := by rw [img_len, hn]
    unfold Gives
    rw [hil]
    rw [hn] at hc J HV ⊢
    simp only [hn] at C1
    have C4 := fun (k : Nat) (hk : k < n) => Lib.hid (position_any t a b ((k : Int) % a) ((k : Int) / a) ⟨⟨(at_in (n := n) (by omega) (by rw [← hn]; exact hlen) hk).1, (at_in (n := n) (by omega) (by rw [← hn]; exact hlen) hk).2⟩, by omega, by omega⟩)
    have HI := fun (k : Nat) (hk : k < n) => Lib.hid (sig_int (w := a) (h := b) (n := n) t (by omega) (by rw [← hn]; exact hlen) hk)
    have HLT := fun (k : Nat) (hk : k < n) => Lib.hid (sig_lt (w := a) (h := b) (n := n) t (by omega) (by rw [← hn]; exact hlen) hk)
    have HPI := fun (k : Nat) (hk : k < n) => Lib.hid (pos_in t (w := a) (h := b) (at_in (w := a) (h := b) (n := n) (by omega) (by rw [← hn]; exact hlen) hk).1 (at_in (w := a) (h := b) (n := n) (by omega) (by rw [← hn]; exact hlen) hk).2)
    have hsw : siW t a b ≤ 256 ∧ siH t a b ≤ 256 := by
      unfold siW siH
      cases odd t <;> simp <;> omega
    have HIL := Lib.hid hil
    clear e0 e1 e2 hv HC hcs hlen hp hn hil
    have hR : Hid (imgP t a b l = mkI (sig t a b) l n) := Lib.hid (by unfold imgP; rw [HN.out])
    generalize imgP t a b l = R at *
    generalize siW t a b = sw at *
    generalize siH t a b = sh at *
    go_enter Tryz.func52, Tryz.ntmps52
    go_wp2_with fail
    refine (C1 _ (HV.out.below (bb_held J.out).2.2.1)).out.mono ?_
    rintro e w1 ⟨rfl, hb1⟩
    obtain ⟨T0, T1, B, hz⟩ := bb_held hb1
    have HX := Lib.hid (HeldX.new T0 T1 B hz sw sh n)
    replace B := Lib.hid B
    clear hb1 T1
    obtain ⟨o0, o1, o2, of⟩ := T0
    go_wp2_with fail
    refine (C2 _).out.mono ?_
    rintro e wq ⟨rfl, rfl⟩
    have x2 := HX.out.at1.2.2.1
    have hz0 : w.heap.size < w1.heap.size := by omega
    have hz1 : w.heap.size < w1.heap.size + 1 := by omega
    go_wp2_with fail
    clear x2 o0 o1 o2 of hmk
    have HX0 : Hid (HeldX w ((w1.alloc (.cells (zerosP n) 58)).alloc (.cells #[.int .i64 sw, .int .i64 sh, .slice (some ⟨w1.heap.size, 0, none⟩) n n] 42)) a b (.slice (some ⟨bb, off, none⟩) n c) sw sh w1.heap.size n (w1.heap.size + 1) (mkI (sig t a b) l 0)) := Lib.hid (by unfold mkI; rw [HN.out]; exact HX.out)
    clear HX
    generalize w1.heap.size = g at *
    go_loopw [34] (fun s34 wr => ∃ k : Nat, k ≤ n ∧ s34 = .int .i64 (k : Int) ∧ Hid (HeldX w wr a b (.slice (some ⟨bb, off, none⟩) n c) sw sh g n (g + 1) (mkI (sig t a b) l k))) (fun s34 _ => leftN n s34)
    case atStart => exact ⟨0, by omega, rfl, HX0⟩
    case round =>
      obtain ⟨k, hk, rfl, HR⟩ := hrel
      by_cases hlt : k < n
      · obtain ⟨p, hpx⟩ : ∃ p, l[k]? = some p := ⟨_, List.getElem?_eq_getElem (by rw [HN.out]; exact hlt)⟩
        obtain ⟨c0, c1, c2, c3⟩ := (HS.out k p hpx).keep HR.out.below hbb
        have q0 : (k : Int) < n := by omega
        have q1 : (0 : Int) ≤ k := by omega
        have hset : mkI (sig t a b) l (k + 1) = (mkI (sig t a b) l k).set (sig t a b k) p := by
          rw [mkI, List.getD_eq_getElem?_getD, hpx]
          rfl
        have C5 := fun W => Lib.hid ((C4 k hlt).out W)
        have hi := (HI k hlt).out
        have hl2 := (HLT k hlt).out
        have hpi := (HPI k hlt).out
        have hml : (mkI (sig t a b) l k).length = n := by rw [mkI_len, HN.out]
        generalize mkI (sig t a b) l k = L at *
        generalize sig t a b k = sg at *
        generalize posX t a b ((k : Int) % a) ((k : Int) / a) = PX at *
        generalize posY t a b ((k : Int) % a) ((k : Int) / a) = PY at *
        obtain ⟨M, hM⟩ : ∃ M, PY * sw = M := ⟨_, rfl⟩
        have hM0 : 0 ≤ M := by rw [← hM]; exact Int.mul_nonneg hpi.2.1 (by omega)
        rw [hM] at hi
        have hmul : wrap64 (PY * sw) = M := by rw [hM]; exact IntWalk.wrap64_in _ (by omega)
        have hadd : wrap64 (M + PX) = (sg : Int) := by rw [← hi]; exact IntWalk.wrap64_in _ (by omega)
        have ha0 : a ≠ 0 := by omega
        have r0 : (k : Int).tmod a = (k : Int) % a := Int.tmod_eq_emod_of_nonneg (by omega)
        obtain ⟨Y, hY⟩ : ∃ Y, (k : Int) / a = Y := ⟨_, rfl⟩
        have hk9 := IntWalk.tdiv_le (k : Int) a (by omega) (by omega)
        have r1 : IntKind.i64.wrap ((k : Int) / a) = Y := by rw [IntWalk.i64_in _ (by omega), hY]
        simp only [hY] at C5
        clear hY hk9
        generalize (k : Int) % a = X at *
        have HXp := Lib.hid (HR.out.step ((Below.refl _ _).alloc (Nat.le_refl _) (.cells #[.int .u8 p.r, .int .u8 p.g, .int .u8 p.b, .int .u8 p.a] 58)))
        have px0 : (wr.alloc (.cells #[.int .u8 p.r, .int .u8 p.g, .int .u8 p.b, .int .u8 p.a] 58)).cell? ⟨wr.heap.size, 0, none⟩ = some (.int .u8 p.r) ∧ (wr.alloc (.cells #[.int .u8 p.r, .int .u8 p.g, .int .u8 p.b, .int .u8 p.a] 58)).cell? ⟨wr.heap.size, 1, none⟩ = some (.int .u8 p.g) ∧ (wr.alloc (.cells #[.int .u8 p.r, .int .u8 p.g, .int .u8 p.b, .int .u8 p.a] 58)).cell? ⟨wr.heap.size, 2, none⟩ = some (.int .u8 p.b) ∧ (wr.alloc (.cells #[.int .u8 p.r, .int .u8 p.g, .int .u8 p.b, .int .u8 p.a] 58)).cell? ⟨wr.heap.size, 3, none⟩ = some (.int .u8 p.a) := by simp [go_sem]
        replace px0 := Lib.hid px0
        have hq : wr.heap.size < (wr.alloc (.cells #[.int .u8 p.r, .int .u8 p.g, .int .u8 p.b, .int .u8 p.a] 58)).heap.size := by rw [World.size_alloc]; exact Nat.lt_succ_self _
        replace hset := Lib.hid hset
        clear hpx hM hi hpi hM0
        go_upto_region 8 with fail
        clear c0 c1 c2 c3 HR
        generalize wr.alloc (.cells #[.int .u8 p.r, .int .u8 p.g, .int .u8 p.b, .int .u8 p.a] 58) = wp at *
        generalize wr.heap.size = q at *
        go_cut [10] from 39 to 65 (fun s10 wx => ∃ mm : Nat, s10 = .pointer (some ⟨mm, 0, none⟩) ∧ Hid (HeldX w wx a b (.slice (some ⟨bb, off, none⟩) n c) sw sh g n (g + 1) L ∧ HeldY wx q mm p PX PY))
        case first =>
          have n1 : w.heap.size ≠ wp.heap.size := by have h1 := HXp.out.there; omega
          have n2 : wp.heap.size ≠ w.heap.size := fun e => n1 e.symm
          have HXa := Lib.hid (HXp.out.step ((Below.refl wp.heap.size wp).alloc (Nat.le_refl _) (.cells #[.int .i64 0, .int .i64 0] 25)).drew)
          have hmw : g + 1 < wp.heap.size := HXp.out.there.2.2
          have hba : Below wp.heap.size wp (wp.alloc (.cells #[.int .i64 0, .int .i64 0] 25)).drew := ((Below.refl wp.heap.size wp).alloc (Nat.le_refl _) _).drew
          have hbd : Below wp.heap.size wp wp.drew := (Below.refl wp.heap.size wp).drew
          have sj := And.intro HXp.out.at1.1 HXp.out.at1.2.1
          have sa := And.intro HXa.out.at1.1 HXa.out.at1.2.1
          go_region_held3 (fun W => W.cell? ⟨w.heap.size, 0, none⟩ = some (.int .i64 a) ∧ W.cell? ⟨w.heap.size, 1, none⟩ = some (.int .i64 b))
            (first
              | go_keep
              | exact sk
              | exact ss
              | exact sj
              | exact sa)
            (first
              | (go_at_call 82; (with_reducible refine (C5 (wp.alloc _).drew).out.mono ?_); rintro e w4 ⟨rfl, hb⟩; have HF := HXa.out.step hb; have T := ((Two.new wp (.int .i64 0) (.int .i64 0) 25).drew 1).keep hb (by simp); have Z := Lib.hid (And.intro (HF.two (k := wp.heap.size) hmw (.int .i64 PX) (.int .i64 PY)) (HeldY.of_set (px_keep (px_keep px0.out hba hq) hb (Nat.lt_of_lt_of_le hq hba.size)) T (Nat.ne_of_lt hq) PX PY)); obtain ⟨p0, p1, pf⟩ := T; have sk := And.intro HF.at1.1 HF.at1.2.1; have ss := And.intro Z.out.1.at1.1 Z.out.1.at1.2.1; clear HF hb)
              | (go_at_call 82; (with_reducible refine (C5 wp.drew).out.mono ?_); rintro e w4 ⟨rfl, hb⟩; have HF := HXp.out.step hbd; replace HF := HF.step hb; have Z := Lib.hid (And.intro (HF.step ((Below.refl _ _).alloc (Nat.le_refl _) (.cells #[.int .i64 PX, .int .i64 PY] 25))) (HeldY.of_new (px_keep (px_keep px0.out hbd hq) hb hq) (Nat.lt_of_lt_of_le hq hb.size) PX PY)); have sk := And.intro HF.at1.1 HF.at1.2.1; clear HF hb)
              | fail)
          all_goals
            clear n1 n2 sj sa sk hmul hadd r0 r1
            (try clear p0 p1 pf ss)
            go_wp2_with fail
            go_meet
            exact ⟨_, rfl, Z⟩
        case rest =>
          obtain ⟨mm, rfl, HZ⟩ := hcut
          clear HXp px0 hq r0 r1
          obtain ⟨o, ho⟩ : ∃ o, L[sg]? = some o := ⟨_, List.getElem?_eq_getElem (by rw [hml]; exact hl2)⟩
          obtain ⟨a0, a1, a2, a3⟩ := HZ.out.1.row.1 sg o ho
          rw [Nat.zero_add] at a0 a1 a2 a3
          have af := HZ.out.1.row.2.1
          obtain ⟨u0, u1, u2, uf⟩ := HZ.out.1.at3
          obtain ⟨c0, c1, c2, c3, t0, t1, tf⟩ := HZ.out.2
          have g0 : (0 : Int) ≤ sg := by omega
          have g1 : (sg : Int) < n := by omega
          have HN2 := Lib.hid (HZ.out.1.set (j := sg) (by rw [hml]; exact hl2) p)
          rw [← hset.out] at HN2
          clear ho
          go_wp2_with fail
          go_roundw
          case rel => exact ⟨k + 1, by omega, by go_num, HN2⟩
          case measure =>
            unfold leftN
            simp [RowKit.intOf]
            omega
      · obtain rfl : k = n := by omega
        have q0 : ¬ (k : Int) < k := by omega
        have HE := HR.out
        rw [← hR.out] at HE
        obtain ⟨u0, u1, u2, uf⟩ := HE.at3
        obtain ⟨o0, o1, o2, of⟩ := HE.at2
        have HF := Lib.hid HE
        clear HE
        go_wp2_with fail
        refine bodyPost_ret (v := .agg #[.int .i64 sw, .int .i64 sh, .slice (some ⟨g, 0, none⟩) k k]) (by simp [results, Tryz.results52, go_sem, o0, o1, o2]) rfl ⟨_, _, rfl, ?_, below_set3 HF.out.below (Nat.le_succ _), fun ad h => by injection h with h; subst h; have := HF.out.there; show w.heap.size ≤ g; omega⟩
        have hne : g ≠ w.heap.size + 1 := by have := HF.out.there; omega
        have := (HF.out.row.far hne (.int .i64 sw) (.int .i64 sh) (.slice (some ⟨g, 0, none⟩) k k)).pxs (by rw [HIL.out]; exact hnb)
        rw [HIL.out] at this
        exact this

end Go.Proofs.YthedglfocjljjaaGreatDoor.Trf
