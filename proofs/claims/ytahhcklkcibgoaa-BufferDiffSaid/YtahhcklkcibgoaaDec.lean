/-
  Decode of package buffer and of the reference: the errors; decodePixel.
-/
import Derived.Test.YtahhcklkcibgoaaOwn
import Derived.Test.YtahhcklkcibgoaaNew
namespace Go.Proofs.Ytahhcklkcibgoaa
open Go.RowKit Mem

theorem held1 (w : World) : Held w (w.alloc (.cells #[.int .i64 0, .int .i64 0, .slice none 0 0] 24)) [(w.heap.size, [.int .i64 0, .int .i64 0, .slice none 0 0])] := (Held.nil w).alloc [.int .i64 0, .int .i64 0, .slice none 0 0] 24



set_option maxRecDepth 100000 in
set_option maxHeartbeats 4000000 in
theorem dec_fmt {f a b st : Int} {A : Option Addr} {n c : Nat} (w : World) (h1 : ¬ f = 1) (h2 : ¬ f = 2) : Calls Try.prog 23 #[.int .i64 f, .int .i64 a, .int .i64 b, .int .i64 st, .slice A n c] w (Outs 0 0 [] 2 w) := by
  have J := Lib.hid (held1 w)
  unfold Outs
  have g1 : (f == 1) = false := by simpa using h1
  have g2 : (f == 2) = false := by simpa using h2
  have g3 : (f != 1) = true := by simpa using h1
  have g4 : (f != 2) = true := by simpa using h2
  go_enter Try.func23, Try.ntmps23
  go_wp2_with fail
  exact bodyPost_ret (v := .tuple #[.agg #[.int .i64 0, .int .i64 0, .slice none 0 0], .int .i64 2]) (by simp [results, Try.results23, go_sem]) rfl ⟨_, rfl, .inl ⟨rfl, rfl⟩, J.out.below⟩

set_option maxRecDepth 100000 in
set_option maxHeartbeats 4000000 in
theorem dec_size {f a b st : Int} {A : Option Addr} {n c : Nat} (w : World) (h1 : f = 1 ∨ f = 2) (h2 : sizB a b = false) : Calls Try.prog 23 #[.int .i64 f, .int .i64 a, .int .i64 b, .int .i64 st, .slice A n c] w (Outs 0 0 [] 6 w) := by
  have J := Lib.hid (held1 w)
  have C1 := fun W => Lib.hid (vsize_any a b W)
  rw [h2] at C1
  unfold Outs
  clear h2
  rcases h1 with rfl | rfl
  all_goals
    go_enter Try.func23, Try.ntmps23
    go_wp2_with (go_at_call 39; (with_reducible refine (C1 _).out.mono ?_); rintro e wq ⟨rfl, rfl⟩)
    exact bodyPost_ret (v := .tuple #[.agg #[.int .i64 0, .int .i64 0, .slice none 0 0], .int .i64 6]) (by simp [results, Try.results23, go_sem]) rfl ⟨_, rfl, .inl ⟨rfl, rfl⟩, J.out.below⟩

set_option maxRecDepth 100000 in
set_option maxHeartbeats 4000000 in
theorem dec_stride {f st : Int} {a b : Nat} {A : Option Addr} {n c : Nat} (w : World) (h1 : f = 1 ∨ f = 2) (ha : 1 ≤ a ∧ a ≤ 256) (hb : 1 ≤ b ∧ b ≤ 256) (h2 : st < 4 * (a : Int) ∨ (4 * (a : Int) ≤ st ∧ ¬ st % 4 = 0)) : Calls Try.prog 23 #[.int .i64 f, .int .i64 (a : Int), .int .i64 (b : Int), .int .i64 st, .slice A n c] w (Outs 0 0 [] 15 w) := by
  have J := Lib.hid (held1 w)
  have C1 := fun W => Lib.hid (vsize_any (a : Int) (b : Int) W)
  rw [siz_iff.2 ⟨by omega, by omega⟩] at C1
  unfold Outs
  obtain ⟨ha1, ha2⟩ := ha
  rcases h2 with h2 | ⟨h2, h3⟩
  · rcases h1 with rfl | rfl
    all_goals
      go_enter Try.func23, Try.ntmps23
      go_wp2_with (go_at_call 39; (with_reducible refine (C1 _).out.mono ?_); rintro e wq ⟨rfl, rfl⟩)
      exact bodyPost_ret (v := .tuple #[.agg #[.int .i64 0, .int .i64 0, .slice none 0 0], .int .i64 15]) (by simp [results, Try.results23, go_sem]) rfl ⟨_, rfl, .inl ⟨rfl, rfl⟩, J.out.below⟩
  · have g1 : ¬ st < 4 * (a : Int) := by omega
    have g2 : (0 : Int) ≤ st := by omega
    have g3 : st.tmod 4 = st % 4 := Int.tmod_eq_emod_of_nonneg g2
    have g4 : ((st % 4) == 0) = false := by simpa using h3
    have g5 : ((st % 4) != 0) = true := by simpa using h3
    rcases h1 with rfl | rfl
    all_goals
      go_enter Try.func23, Try.ntmps23
      go_wp2_with (go_at_call 39; (with_reducible refine (C1 _).out.mono ?_); rintro e wq ⟨rfl, rfl⟩)
      exact bodyPost_ret (v := .tuple #[.agg #[.int .i64 0, .int .i64 0, .slice none 0 0], .int .i64 15]) (by simp [results, Try.results23, go_sem]) rfl ⟨_, rfl, .inl ⟨rfl, rfl⟩, J.out.below⟩

set_option maxRecDepth 100000 in
set_option maxHeartbeats 4000000 in
theorem dec_short {f st : Int} {a b : Nat} {A : Option Addr} {n c : Nat} (w : World) (h1 : f = 1 ∨ f = 2) (ha : 1 ≤ a ∧ a ≤ 256) (hb : 1 ≤ b ∧ b ≤ 256) (h2 : 4 * (a : Int) ≤ st) (h3 : st % 4 = 0) (hn : n ≤ 1000000) (h4 : (n : Int) / b < st) : Calls Try.prog 23 #[.int .i64 f, .int .i64 (a : Int), .int .i64 (b : Int), .int .i64 st, .slice A n c] w (Outs 0 0 [] 4 w) := by
  have J := Lib.hid (held1 w)
  have C1 := fun W => Lib.hid (vsize_any (a : Int) (b : Int) W)
  rw [siz_iff.2 ⟨by omega, by omega⟩] at C1
  unfold Outs
  obtain ⟨ha1, ha2⟩ := ha
  have g1 : ¬ st < 4 * (a : Int) := by omega
  have g2 : (0 : Int) ≤ st := by omega
  have g3 : st.tmod 4 = 0 := by rw [Int.tmod_eq_emod_of_nonneg g2]; exact h3
  have g6 : ((b : Int) == 0) = false := by simp; omega
  have g7 : (b : Int) ≠ 0 := by omega
  obtain ⟨q, hq⟩ : ∃ q : Int, (n : Int) / b = q := ⟨_, rfl⟩
  have g8 := IntWalk.tdiv_le (n : Int) (b : Int) (by omega) (by omega)
  rw [hq] at h4
  have g9 : q ≤ 1000000 := by
    rw [← hq]
    exact Int.le_trans (Int.ediv_le_self _ (by omega)) (by omega)
  have g10 : (0 : Int) ≤ q := by rw [← hq]; exact Int.ediv_nonneg (by omega) (by omega)
  clear g8
  rcases h1 with rfl | rfl
  all_goals
    go_enter Try.func23, Try.ntmps23
    go_wp2_with (go_at_call 39; (with_reducible refine (C1 _).out.mono ?_); rintro e wq ⟨rfl, rfl⟩)
    exact bodyPost_ret (v := .tuple #[.agg #[.int .i64 0, .int .i64 0, .slice none 0 0], .int .i64 4]) (by simp [results, Try.results23, go_sem]) rfl ⟨_, rfl, .inl ⟨rfl, rfl⟩, J.out.below⟩

set_option maxRecDepth 100000 in
set_option maxHeartbeats 4000000 in
theorem rdec_fmt {f a b st : Int} {A : Option Addr} {n c : Nat} (w : World) (h1 : ¬ f = 1) (h2 : ¬ f = 2) : Calls Try.prog 24 #[.int .i64 f, .int .i64 a, .int .i64 b, .int .i64 st, .slice A n c] w (Outs 0 0 [] 2 w) := by
  have J := Lib.hid (held1 w)
  unfold Outs
  have g1 : (f == 1) = false := by simpa using h1
  have g2 : (f == 2) = false := by simpa using h2
  have g3 : (f != 1) = true := by simpa using h1
  have g4 : (f != 2) = true := by simpa using h2
  go_enter Try.func24, Try.ntmps24
  go_wp2_with fail
  exact bodyPost_ret (v := .tuple #[.agg #[.int .i64 0, .int .i64 0, .slice none 0 0], .int .i64 2]) (by simp [results, Try.results24, go_sem]) rfl ⟨_, rfl, .inl ⟨rfl, rfl⟩, J.out.below⟩

set_option maxRecDepth 100000 in
set_option maxHeartbeats 4000000 in
theorem rdec_size {f a b st : Int} {A : Option Addr} {n c : Nat} (w : World) (h1 : f = 1 ∨ f = 2) (h2 : sizB a b = false) : Calls Try.prog 24 #[.int .i64 f, .int .i64 a, .int .i64 b, .int .i64 st, .slice A n c] w (Outs 0 0 [] 6 w) := by
  have J := Lib.hid (held1 w)
  have C1 := fun W => Lib.hid (rsize_any a b W)
  rw [h2] at C1
  unfold Outs
  clear h2
  rcases h1 with rfl | rfl
  all_goals
    go_enter Try.func24, Try.ntmps24
    go_wp2_with (go_at_call 41; (with_reducible refine (C1 _).out.mono ?_); rintro e wq ⟨rfl, rfl⟩)
    exact bodyPost_ret (v := .tuple #[.agg #[.int .i64 0, .int .i64 0, .slice none 0 0], .int .i64 6]) (by simp [results, Try.results24, go_sem]) rfl ⟨_, rfl, .inl ⟨rfl, rfl⟩, J.out.below⟩

set_option maxRecDepth 100000 in
set_option maxHeartbeats 4000000 in
theorem rdec_stride {f st : Int} {a b : Nat} {A : Option Addr} {n c : Nat} (w : World) (h1 : f = 1 ∨ f = 2) (ha : 1 ≤ a ∧ a ≤ 256) (hb : 1 ≤ b ∧ b ≤ 256) (h2 : st < 4 * (a : Int) ∨ (4 * (a : Int) ≤ st ∧ ¬ st % 4 = 0)) : Calls Try.prog 24 #[.int .i64 f, .int .i64 (a : Int), .int .i64 (b : Int), .int .i64 st, .slice A n c] w (Outs 0 0 [] 15 w) := by
  have J := Lib.hid (held1 w)
  have C1 := fun W => Lib.hid (rsize_any (a : Int) (b : Int) W)
  rw [siz_iff.2 ⟨by omega, by omega⟩] at C1
  unfold Outs
  obtain ⟨ha1, ha2⟩ := ha
  rcases h2 with h2 | ⟨h2, h3⟩
  · rcases h1 with rfl | rfl
    all_goals
      go_enter Try.func24, Try.ntmps24
      go_wp2_with (go_at_call 41; (with_reducible refine (C1 _).out.mono ?_); rintro e wq ⟨rfl, rfl⟩)
      exact bodyPost_ret (v := .tuple #[.agg #[.int .i64 0, .int .i64 0, .slice none 0 0], .int .i64 15]) (by simp [results, Try.results24, go_sem]) rfl ⟨_, rfl, .inl ⟨rfl, rfl⟩, J.out.below⟩
  · have g1 : ¬ st < 4 * (a : Int) := by omega
    have g2 : (0 : Int) ≤ st := by omega
    have g3 : st.tmod 4 = st % 4 := Int.tmod_eq_emod_of_nonneg g2
    have g4 : ((st % 4) == 0) = false := by simpa using h3
    have g5 : ((st % 4) != 0) = true := by simpa using h3
    rcases h1 with rfl | rfl
    all_goals
      go_enter Try.func24, Try.ntmps24
      go_wp2_with (go_at_call 41; (with_reducible refine (C1 _).out.mono ?_); rintro e wq ⟨rfl, rfl⟩)
      exact bodyPost_ret (v := .tuple #[.agg #[.int .i64 0, .int .i64 0, .slice none 0 0], .int .i64 15]) (by simp [results, Try.results24, go_sem]) rfl ⟨_, rfl, .inl ⟨rfl, rfl⟩, J.out.below⟩

set_option maxRecDepth 100000 in
set_option maxHeartbeats 4000000 in
theorem rdec_short {f st : Int} {a b : Nat} {A : Option Addr} {n c : Nat} (w : World) (h1 : f = 1 ∨ f = 2) (ha : 1 ≤ a ∧ a ≤ 256) (hb : 1 ≤ b ∧ b ≤ 256) (h2 : 4 * (a : Int) ≤ st) (h3 : st % 4 = 0) (hn : n ≤ 1000000) (h4 : (n : Int) / b < st) : Calls Try.prog 24 #[.int .i64 f, .int .i64 (a : Int), .int .i64 (b : Int), .int .i64 st, .slice A n c] w (Outs 0 0 [] 4 w) := by
  have J := Lib.hid (held1 w)
  have C1 := fun W => Lib.hid (rsize_any (a : Int) (b : Int) W)
  rw [siz_iff.2 ⟨by omega, by omega⟩] at C1
  unfold Outs
  obtain ⟨ha1, ha2⟩ := ha
  have g1 : ¬ st < 4 * (a : Int) := by omega
  have g2 : (0 : Int) ≤ st := by omega
  have g3 : st.tmod 4 = 0 := by rw [Int.tmod_eq_emod_of_nonneg g2]; exact h3
  have g6 : ((b : Int) == 0) = false := by simp; omega
  have g7 : (b : Int) ≠ 0 := by omega
  obtain ⟨q, hq⟩ : ∃ q : Int, (n : Int) / b = q := ⟨_, rfl⟩
  have g8 := IntWalk.tdiv_le (n : Int) (b : Int) (by omega) (by omega)
  rw [hq] at h4
  have g9 : q ≤ 1000000 := by
    rw [← hq]
    exact Int.le_trans (Int.ediv_le_self _ (by omega)) (by omega)
  have g10 : (0 : Int) ≤ q := by rw [← hq]; exact Int.ediv_nonneg (by omega) (by omega)
  clear g8
  rcases h1 with rfl | rfl
  all_goals
    go_enter Try.func24, Try.ntmps24
    go_wp2_with (go_at_call 41; (with_reducible refine (C1 _).out.mono ?_); rintro e wq ⟨rfl, rfl⟩)
    exact bodyPost_ret (v := .tuple #[.agg #[.int .i64 0, .int .i64 0, .slice none 0 0], .int .i64 4]) (by simp [results, Try.results24, go_sem]) rfl ⟨_, rfl, .inl ⟨rfl, rfl⟩, J.out.below⟩


end Go.Proofs.Ytahhcklkcibgoaa
