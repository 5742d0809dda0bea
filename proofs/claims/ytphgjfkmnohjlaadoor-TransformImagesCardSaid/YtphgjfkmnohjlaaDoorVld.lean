/-
  validBuffer of package transform and valid of its reference: whether a buffer is valid.
-/
import Derived.Test.YtphgjfkmnohjlaaDoorPxm
namespace Go.Proofs.YtphgjfkmnohjlaaDoor
open Go.RowKit

/-- 'max' of three integers -/
@[local go_sem high] theorem run_max_three {P : Program} (w : World) (ts : Array TypeId) (t : TypeId) (k k1 k2 : IntKind) (x y z : Int) :
    (Builtin.max_ ts t #[.int k x, .int k1 y, .int k2 z]).run P w = .ok (.int k (max (max x y) z)) w := by
  have e : (if y > x then y else x) = max x y := by
    rw [Int.max_def]
    split <;> split <;> omega
  have e2 : ∀ m : Int, (if z > m then z else m) = max m z := fun m => by
    rw [Int.max_def]
    split <;> split <;> omega
  simp [Builtin.max_, Builtin.max2, e, e2]

/-- the box of a buffer, held while calls make memory -/
structure HeldV (w W : World) (a b : Int) (A : Option Addr) (n c : Nat) : Prop where
  c0 : W.cell? ⟨w.heap.size, 0, none⟩ = some (.int .i64 a)
  c1 : W.cell? ⟨w.heap.size, 1, none⟩ = some (.int .i64 b)
  c2 : W.cell? ⟨w.heap.size, 2, none⟩ = some (.slice A n c)
  below : Below w.heap.size w W
  there : w.heap.size < W.heap.size

theorem HeldV.step {w W w' : World} {a b : Int} {A : Option Addr} {n c : Nat} (h : HeldV w W a b A n c) (hb : Below W.heap.size W w') : HeldV w w' a b A n c :=
  ⟨(hb.cell (p := ⟨w.heap.size, 0, none⟩) h.there).trans h.c0, (hb.cell (p := ⟨w.heap.size, 1, none⟩) h.there).trans h.c1, (hb.cell (p := ⟨w.heap.size, 2, none⟩) h.there).trans h.c2,
    Below.next h.below hb, Nat.lt_of_lt_of_le h.there hb.size⟩
theorem HeldV.new (w : World) (a b : Int) (A : Option Addr) (n c : Nat) : HeldV w (w.alloc (.cells #[.int .i64 a, .int .i64 b, .slice A n c] 40)) a b A n c :=
  ⟨by simp [go_sem], by simp [go_sem], by simp [go_sem], (Below.refl _ _).alloc (Nat.le_refl _) _, by rw [World.size_alloc]; exact Nat.lt_succ_self _⟩

theorem vBuf_cut {a b : Int} {l : List Px} (h0 : 1 ≤ a ∧ a ≤ 256) (h1 : 1 ≤ b ∧ b ≤ 256) (h2 : (l.length : Int) = a * b) : vBuf a b l = l.all okPx := by
  unfold vBuf
  rw [decide_eq_true h0, decide_eq_true h1, decide_eq_true h2]
  simp

theorem mul_small {a b : Int} (h0 : 1 ≤ a ∧ a ≤ 256) (h1 : 1 ≤ b ∧ b ≤ 256) : 1 ≤ a * b ∧ a * b ≤ 65536 := by
  constructor
  · have := Int.mul_le_mul h0.1 h1.1 (by omega) (by omega)
    omega
  · have := Int.mul_le_mul h0.2 h1.2 (by omega) (by omega)
    omega

theorem drop_at {l : List Px} {k : Nat} {p : Px} (h : l[k]? = some p) : (l.drop k).all okPx = (okPx p && (l.drop (k + 1)).all okPx) := by
  obtain ⟨hk, e⟩ := List.getElem?_eq_some_iff.1 h
  rw [List.drop_eq_getElem_cons hk, e, List.all_cons]

def leftN (n : Nat) (v : Value) : Nat := n - (intOf v).toNat

set_option maxRecDepth 100000 in
set_option maxHeartbeats 4000000 in
theorem valid_buf_any (a b : Int) {v : Value} {l : List Px} {w : World} (h : Pxs w v l) : Calls Tryd.prog 45 #[.agg #[.int .i64 a, .int .i64 b, v]] w fun e w' => e = .returned (.bool (vBuf a b l)) ∧ Below w.heap.size w w' := by
  obtain ⟨A, c, rfl, hc, hm, hcell⟩ := h
  simp only [maxLen] at hm
  have HC := Lib.hid hcell
  obtain ⟨n, hn⟩ : ∃ n, l.length = n := ⟨_, rfl⟩
  have HN := Lib.hid hn
  rw [hn] at hc ⊢
  clear hcell hn
  have J := Lib.hid (HeldV.new w a b A n c)
  have C1 := fun W => Lib.hid (side_any a W)
  have C2 := fun W => Lib.hid (side_any b W)
  by_cases h0 : 1 ≤ a ∧ a ≤ 256
  · rw [decide_eq_true h0] at C1
    by_cases h1 : 1 ≤ b ∧ b ≤ 256
    · rw [decide_eq_true h1] at C2
      have hp := mul_small h0 h1
      by_cases h2 : (n : Int) = a * b
      · have hv := vBuf_cut h0 h1 (l := l) (by rw [HN.out]; exact h2)
        rw [hv]
        have hdz : (l.drop 0).all okPx = l.all okPx := by rw [List.drop_zero]
        have hw2 : wrap64 (a * b) = (n : Int) := by rw [IntWalk.wrap64_in _ (by omega), h2]
        have hn0 : 0 < n := by omega
        have hn6 : n ≤ 65536 := by omega
        obtain ⟨bb, off, rfl, hbb, hcs⟩ := HC.out (by rw [HN.out]; exact hn0)
        have HC2 := Lib.hid hcs
        obtain ⟨res, hres⟩ : ∃ res, l.all okPx = res := ⟨_, rfl⟩
        rw [hres] at hdz ⊢
        replace hdz := Lib.hid hdz
        clear hv hres HC hcs h2 hp h0 h1
        go_enter Tryd.func45, Tryd.ntmps45
        go_wp2_with (first
          | (go_at_call 53; (with_reducible refine (C1 _).out.mono ?_); rintro e wq ⟨rfl, rfl⟩)
          | (go_at_call 53; (with_reducible refine (C2 _).out.mono ?_); rintro e wq ⟨rfl, rfl⟩))
        go_loopw [29] (fun s29 wr => ∃ k : Nat, k ≤ n ∧ s29 = .int .i64 (k : Int) ∧ Hid ((l.drop k).all okPx = res ∧ Below w.heap.size w wr)) (fun s29 _ => leftN n s29)
        case atStart => exact ⟨0, by omega, rfl, hdz.out, J.out.below⟩
        case round =>
          obtain ⟨k, hk, rfl, HR⟩ := hrel
          by_cases hlt : k < n
          · obtain ⟨p, hpx⟩ : ∃ p, l[k]? = some p := ⟨_, List.getElem?_eq_getElem (by rw [HN.out]; exact hlt)⟩
            obtain ⟨c0, c1, c2, c3⟩ := (HC2.out k p hpx).keep HR.out.2 hbb
            have hd := HR.out.1
            rw [drop_at hpx] at hd
            have q0 : (k : Int) < n := by omega
            have q1 : (0 : Int) ≤ k := by omega
            clear hpx
            cases hok : okPx p
            · rw [hok] at hd
              simp only [Bool.false_and] at hd
              subst hd
              have hmx : p.a < max (max p.r p.g) p.b := by
                simp only [okPx, Bool.and_eq_false_iff, decide_eq_false_iff_not] at hok
                omega
              clear hok
              go_wp2_with fail
              go_ret
              exact ⟨rfl, Below.next HR.out.2 ((Below.refl _ _).alloc (Nat.le_refl _) _)⟩
            · rw [hok] at hd
              simp only [Bool.true_and] at hd
              have hmx : ¬ p.a < max (max p.r p.g) p.b := by
                simp only [okPx, Bool.and_eq_true, decide_eq_true_eq] at hok
                omega
              replace hd := Lib.hid hd
              clear hok
              go_wp2_with fail
              go_roundw
              case rel => exact ⟨k + 1, by omega, by go_num, hd.out, Below.next HR.out.2 ((Below.refl _ _).alloc (Nat.le_refl _) _)⟩
              case measure =>
                unfold leftN
                simp [intOf]
                omega
          · obtain rfl : k = n := by omega
            have q0 : ¬ (k : Int) < k := by omega
            have hd := HR.out.1
            rw [List.drop_of_length_le (by rw [HN.out]; exact Nat.le_refl _)] at hd
            simp only [List.all_nil] at hd
            subst hd
            go_wp2_with fail
            go_ret
            exact ⟨rfl, HR.out.2⟩
      · have hv : vBuf a b l = false := by unfold vBuf; rw [HN.out, decide_eq_false h2]; simp
        rw [hv]
        have hw2 : wrap64 (a * b) = a * b := IntWalk.wrap64_in _ (by omega)
        obtain ⟨ab, hab⟩ : ∃ ab, a * b = ab := ⟨_, rfl⟩
        rw [hab] at h2
        replace hw2 := hw2.trans hab
        have h3 : ((n : Int) == ab) = false := by simpa using h2
        have h4 : ((n : Int) != ab) = true := by simpa using h2
        clear hv h0 h1 hab hp
        go_enter Tryd.func45, Tryd.ntmps45
        go_wp2_with (first
          | (go_at_call 53; (with_reducible refine (C1 _).out.mono ?_); rintro e wq ⟨rfl, rfl⟩)
          | (go_at_call 53; (with_reducible refine (C2 _).out.mono ?_); rintro e wq ⟨rfl, rfl⟩))
        go_ret
        exact ⟨rfl, J.out.below⟩
    · have hv : vBuf a b l = false := by unfold vBuf; rw [decide_eq_false h1]; simp
      rw [hv]
      rw [decide_eq_false h1] at C2
      clear hv h0 h1
      go_enter Tryd.func45, Tryd.ntmps45
      go_wp2_with (first
        | (go_at_call 53; (with_reducible refine (C1 _).out.mono ?_); rintro e wq ⟨rfl, rfl⟩)
        | (go_at_call 53; (with_reducible refine (C2 _).out.mono ?_); rintro e wq ⟨rfl, rfl⟩))
      go_ret
      exact ⟨rfl, J.out.below⟩
  · have hv : vBuf a b l = false := by unfold vBuf; rw [decide_eq_false h0]; simp
    rw [hv]
    rw [decide_eq_false h0] at C1
    clear hv h0
    go_enter Tryd.func45, Tryd.ntmps45
    go_wp2_with (go_at_call 53; (with_reducible refine (C1 _).out.mono ?_); rintro e wq ⟨rfl, rfl⟩)
    go_ret
    exact ⟨rfl, J.out.below⟩

end Go.Proofs.YtphgjfkmnohjlaaDoor
