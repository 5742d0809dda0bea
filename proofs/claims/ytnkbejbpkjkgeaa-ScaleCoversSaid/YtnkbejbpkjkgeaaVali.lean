/-
  validSize, frame and Valid of package buffer; size and Valid of the reference: whether a buffer is valid.
-/
import Derived.Test.YtnkbejbpkjkgeaaBuf
import Derived.Test.YtnkbejbpkjkgeaaPxm
namespace Go.Proofs.Ytnkbejbpkjkgeaa
open Go.RowKit

set_option maxHeartbeats 1000000 in
theorem vsize_any (a b : Int) (w : World) : Calls Try.prog 55 #[.int .i64 a, .int .i64 b] w fun e w' => e = .returned (.bool (sizB a b)) ∧ w = w' := by
  obtain ⟨v, hv⟩ : ∃ v, sizB a b = v := ⟨_, rfl⟩
  rw [hv]
  unfold sizB at hv
  by_cases h0 : 1 ≤ a <;> by_cases h1 : a ≤ 256 <;> by_cases h2 : 1 ≤ b <;> by_cases h3 : b ≤ 256 <;> (simp [h0, h1, h2, h3] at hv; subst hv)
  all_goals
    go_enter Try.func55, Try.ntmps55
    go_wp2
    go_ret
    exact ⟨ret_bool (by simp [*]), rfl⟩

theorem drop_at {l : List Px} {k : Nat} {p : Px} (h : l[k]? = some p) : (l.drop k).all okPx = (okPx p && (l.drop (k + 1)).all okPx) := by
  obtain ⟨hk, e⟩ := List.getElem?_eq_some_iff.1 h
  rw [List.drop_eq_getElem_cons hk, e, List.all_cons]

theorem mul_int {a b : Int} (h0 : 1 ≤ a ∧ a ≤ 256) (h1 : 1 ≤ b ∧ b ≤ 256) : 1 ≤ a * b ∧ a * b ≤ 65536 := by
  constructor
  · have := Int.mul_le_mul h0.1 h1.1 (by omega) (by omega)
    omega
  · have := Int.mul_le_mul h0.2 h1.2 (by omega) (by omega)
    omega

theorem vBuf_cut {a b : Int} {l : List Px} (h0 : sizB a b = true) (h2 : (l.length : Int) = a * b) : vBuf a b l = l.all okPx := by
  unfold vBuf
  rw [h0, decide_eq_true h2]
  simp


set_option maxRecDepth 100000 in
set_option maxHeartbeats 4000000 in
theorem valid_any (a b : Int) {v : Value} {l : List Px} {w : World} (h : Pxs w v l) : Calls Try.prog 41 #[.agg #[.int .i64 a, .int .i64 b, v]] w fun e w' => e = .returned (.bool (vBuf a b l)) ∧ Below w.heap.size w w' := by
  obtain ⟨A, c, rfl, hc, hm, hcell⟩ := h
  simp only [maxLen] at hm
  have HC := Lib.hid hcell
  obtain ⟨n, hn⟩ : ∃ n, l.length = n := ⟨_, rfl⟩
  have HN := Lib.hid hn
  rw [hn] at hc ⊢
  clear hcell hn
  have J := Lib.hid ((Held.nil w).alloc [.int .i64 a, .int .i64 b, .slice A n c] 24)
  have C1 := fun W => Lib.hid (vsize_any a b W)
  have C2 := fun p W => Lib.hid (okpx_any p W)
  cases h0 : sizB a b
  · have hv : vBuf a b l = false := by unfold vBuf; rw [h0]; simp
    rw [hv]
    rw [h0] at C1
    clear hv h0
    go_enter Try.func41, Try.ntmps41
    go_wp2_with (go_at_call 55; (with_reducible refine (C1 _).out.mono ?_); rintro e wq ⟨rfl, rfl⟩)
    go_ret
    exact ⟨rfl, J.out.below⟩
  · obtain ⟨g0, g1⟩ := siz_iff.1 h0
    rw [h0] at C1
    have hp := mul_int g0 g1
    by_cases h2 : (n : Int) = a * b
    · have hv := vBuf_cut h0 (l := l) (by rw [HN.out]; exact h2)
      rw [hv]
      have hdz : (l.drop 0).all okPx = l.all okPx := by rw [List.drop_zero]
      have hw2 : wrap64 (a * b) = (n : Int) := by rw [IntWalk.wrap64_in _ (by omega), h2]
      have hn0 : 0 < n := by omega
      have hn6 : n ≤ 65536 := by omega
      obtain ⟨bb, off, rfl, hbb, hcs⟩ := HC.out (by rw [HN.out]; exact hn0)
      have HC2 := Lib.hid hcs
      obtain ⟨res, hres⟩ : ∃ res, l.all okPx = res := ⟨_, rfl⟩
      rw [hres] at hdz ⊢
      replace hdz := Lib.hid hdz
      clear hv hres HC hcs h2 hp h0 g0 g1
      go_enter Try.func41, Try.ntmps41
      go_wp2_with (go_at_call 55; (with_reducible refine (C1 _).out.mono ?_); rintro e wq ⟨rfl, rfl⟩)
      clear hw2
      go_loopw [25] (fun st wr => ∃ k : Nat, k ≤ n ∧ st = .int .i64 (k : Int) ∧ Hid ((l.drop k).all okPx = res ∧ Held w wr [(w.heap.size, [.int .i64 a, .int .i64 b, .slice (some ⟨bb, off, none⟩) n c])])) (fun st _ => leftN n st)
      case atStart => exact ⟨0, by omega, rfl, hdz.out, J.out⟩
      case round =>
        obtain ⟨k, hk, rfl, HR⟩ := hrel
        obtain ⟨o0, o1, o2, _, hz⟩ := HR.out.2.tri (l1 := [])
        by_cases hlt : k < n
        · obtain ⟨p, hpx⟩ : ∃ p, l[k]? = some p := ⟨_, List.getElem?_eq_getElem (by rw [HN.out]; exact hlt)⟩
          obtain ⟨c0, c1, c2, c3⟩ := (HC2.out k p hpx).keep HR.out.2.below hbb
          have hd := HR.out.1
          rw [drop_at hpx] at hd
          have q0 : (k : Int) < n := by omega
          have q1 : (0 : Int) ≤ k := by omega
          have K := Lib.hid HR.out.2
          clear hpx HR
          have C3 := fun W => Lib.hid ((C2 p W).out)
          cases hok : okPx p
          · rw [hok] at hd C3
            simp only [Bool.false_and] at hd
            subst hd
            clear hok
            go_wp2_with fail
            refine (C3 _).out.mono ?_
            rintro e w4 ⟨rfl, hb⟩
            have K2 := Lib.hid ((K.out.made _).step hb)
            clear hb
            go_wp2_with fail
            go_ret
            exact ⟨rfl, K2.out.below⟩
          · rw [hok] at hd C3
            simp only [Bool.true_and] at hd
            replace hd := Lib.hid hd
            clear hok
            go_wp2_with fail
            refine (C3 _).out.mono ?_
            rintro e w4 ⟨rfl, hb⟩
            have K2 := Lib.hid ((K.out.made _).step hb)
            clear hb
            go_wp2_with fail
            go_roundw
            case rel => exact ⟨k + 1, by omega, by go_num, hd.out, K2.out⟩
            case measure =>
              unfold leftN
              simp [intOf]
              omega
        · obtain rfl : k = n := by omega
          have q0 : ¬ (k : Int) < k := by omega
          have hd := HR.out.1
          rw [List.drop_of_length_le (by rw [HN.out]; exact Nat.le_refl _)] at hd
          simp only [List.all_nil] at hd
          subst hd
          go_wp2_with fail
          go_ret
          exact ⟨rfl, HR.out.2.below⟩
    · have hv : vBuf a b l = false := by unfold vBuf; rw [HN.out, decide_eq_false h2]; simp
      rw [hv]
      have hw2 : wrap64 (a * b) = a * b := IntWalk.wrap64_in _ (by omega)
      obtain ⟨ab, hab⟩ : ∃ ab, a * b = ab := ⟨_, rfl⟩
      rw [hab] at h2
      replace hw2 := hw2.trans hab
      have h3 : ((n : Int) == ab) = false := by simpa using h2
      have h4 : ((n : Int) != ab) = true := by simpa using h2
      clear hv h0 hab hp
      go_enter Try.func41, Try.ntmps41
      go_wp2_with (go_at_call 55; (with_reducible refine (C1 _).out.mono ?_); rintro e wq ⟨rfl, rfl⟩)
      go_ret
      exact ⟨rfl, J.out.below⟩

end Go.Proofs.Ytnkbejbpkjkgeaa
