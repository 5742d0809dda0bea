/-
  kind and Version of the reference.
-/
import Derived.Test.YtcecicmihdcjgaaDoorIfk
namespace Go.Proofs.YtcecicmihdcjgaaDoor
open Go.RowKit

/-- the letters of signatures, in the order of their kinds -/
def ltrs : List Nat := [105, 117, 102, 115, 111, 110, 97]
def kindN (c : Nat) : Nat := if c = 105 then 1 else if c = 117 then 2 else if c = 102 then 3 else if c = 115 then 4 else if c = 111 then 5 else if c = 110 then 6 else if c = 97 then 7 else 0

theorem kind_hit (i c : Nat) (hi : i < 7) (h : ltrs.getD i 0 = c) : kindN c = i + 1 := by
  have e : i = 0 ∨ i = 1 ∨ i = 2 ∨ i = 3 ∨ i = 4 ∨ i = 5 ∨ i = 6 := by omega
  rcases e with rfl | rfl | rfl | rfl | rfl | rfl | rfl <;> subst h <;> rfl
theorem kind_miss (c : Nat) (h : ∀ j, j < 7 → ltrs.getD j 0 ≠ c) : kindN c = 0 := by
  have h0 := h 0 (by omega)
  have h1 := h 1 (by omega)
  have h2 := h 2 (by omega)
  have h3 := h 3 (by omega)
  have h4 := h 4 (by omega)
  have h5 := h 5 (by omega)
  have h6 := h 6 (by omega)
  simp only [ltrs, List.getD_cons_zero, List.getD_cons_succ] at h0 h1 h2 h3 h4 h5 h6
  unfold kindN
  rw [if_neg (Ne.symm h0), if_neg (Ne.symm h1), if_neg (Ne.symm h2), if_neg (Ne.symm h3), if_neg (Ne.symm h4), if_neg (Ne.symm h5), if_neg (Ne.symm h6)]

theorem index_ltrs (i : Nat) (hi : i < 7) (W : World) : (Instr.index 9 (.string ⟨#[105, 117, 102, 115, 111, 110, 97]⟩) (.int .i64 (i : Int))).run Tryd.prog W = .ok (.int .u8 ((ltrs.getD i 0 : Nat) : Int)) W := by
  have e : i = 0 ∨ i = 1 ∨ i = 2 ∨ i = 3 ∨ i = 4 ∨ i = 5 ∨ i = 6 := by omega
  rcases e with rfl | rfl | rfl | rfl | rfl | rfl | rfl
  all_goals
    simp [Instr.index, go_sem, ltrs]
    try rfl

/-- the i-th interface -/
def nmI (i : Nat) : ByteArray := namT.getD i ⟨#[]⟩

theorem nmI_cell (w : World) (i : Nat) (hi : i < 15) : (w.alloc (.cells (namT.map Value.string).toArray 9)).cell? ⟨w.heap.size, i, none⟩ = some (.string (nmI i)) := by
  rw [World.cell?_alloc_at _ _ _ _ rfl]
  have hl : i < namT.length := hi
  simp [nmI, hl]

theorem ver_hit (i : Nat) (hi : i < 15) : verT (nmI i) = if nmI i = s_shell then 2 else if nmI i = s_surface then 3 else 1 := by
  have e : i = 0 ∨ i = 1 ∨ i = 2 ∨ i = 3 ∨ i = 4 ∨ i = 5 ∨ i = 6 ∨ i = 7 ∨ i = 8 ∨ i = 9 ∨ i = 10 ∨ i = 11 ∨ i = 12 ∨ i = 13 ∨ i = 14 := by omega
  rcases e with rfl | rfl | rfl | rfl | rfl | rfl | rfl | rfl | rfl | rfl | rfl | rfl | rfl | rfl | rfl <;> rfl

theorem ver_miss (n : ByteArray) (h : ∀ j, j < 15 → nmI j ≠ n) : verT n = 0 := by
  have q0 : ¬ n = s_display := Ne.symm (h 0 (by omega))
  have q1 : ¬ n = s_registry := Ne.symm (h 1 (by omega))
  have q2 : ¬ n = s_callback := Ne.symm (h 2 (by omega))
  have q3 : ¬ n = s_shell := Ne.symm (h 3 (by omega))
  have q4 : ¬ n = s_buffer := Ne.symm (h 4 (by omega))
  have q5 : ¬ n = s_surface := Ne.symm (h 5 (by omega))
  have q6 : ¬ n = s_subsurface := Ne.symm (h 6 (by omega))
  have q7 : ¬ n = s_toplevel := Ne.symm (h 7 (by omega))
  have q8 : ¬ n = s_popup := Ne.symm (h 8 (by omega))
  have q9 : ¬ n = s_seat := Ne.symm (h 9 (by omega))
  have q10 : ¬ n = s_pointer := Ne.symm (h 10 (by omega))
  have q11 : ¬ n = s_keyboard := Ne.symm (h 11 (by omega))
  have q12 : ¬ n = s_touch := Ne.symm (h 12 (by omega))
  have q13 : ¬ n = s_output := Ne.symm (h 13 (by omega))
  have q14 : ¬ n = s_presentation := Ne.symm (h 14 (by omega))
  unfold verT
  rw [if_neg q0, if_neg q1, if_neg q2, if_neg q3, if_neg q4, if_neg q5, if_neg q6, if_neg q7, if_neg q8, if_neg q9, if_neg q10, if_neg q11, if_neg q12, if_neg q13, if_neg q14]

set_option maxHeartbeats 1000000 in
theorem version_any (n : ByteArray) (w : World) : Calls Tryd.prog 26 #[.string n] w fun e w' => e = .returned (.int .i64 (verT n)) ∧ Below w.heap.size w w' := by
  have C := Lib.hid (names_any w)
  have HB : Hid (Below w.heap.size w (w.alloc (.cells (namT.map Value.string).toArray 9))) := Lib.hid ((Below.refl _ _).alloc (Nat.le_refl _) _)
  have HC := Lib.hid (nmI_cell w)
  obtain ⟨r, hr⟩ : ∃ r, verT n = r := ⟨_, rfl⟩
  rw [hr]
  replace hr := Lib.hid hr
  go_enter Tryd.func26, Tryd.ntmps26
  go_wp2_with fail
  refine C.out.mono ?_
  rintro e w1 ⟨rfl, rfl⟩
  generalize w.alloc (.cells (namT.map Value.string).toArray 9) = w1 at *
  clear C
  go_wp2_with fail
  go_loopw [4] (fun s4 wr => ∃ i : Nat, i ≤ 15 ∧ s4 = .int .i64 (i : Int) ∧ Hid (∀ j, j < i → nmI j ≠ n) ∧ wr = w1) (fun s4 _ => leftN 15 s4)
  case atStart => exact ⟨0, Nat.zero_le _, rfl, Lib.hid (fun j h => by omega), rfl⟩
  case round =>
    obtain ⟨i, hi, rfl, HN, rfl⟩ := hrel
    by_cases hlt : i < 15
    · have q0 : (0 : Int) ≤ i := by omega
      have q1 : (i : Int) < 15 := by omega
      have c0 := HC.out i hlt
      have hv := ver_hit i hlt
      obtain ⟨x, hx⟩ : ∃ x, nmI i = x := ⟨_, rfl⟩
      rw [hx] at c0 hv
      by_cases he : x = n
      · subst he
        have e0 : (x.toList == x.toList) = true := by simp
        rw [hr.out] at hv
        clear hx HN hr
        by_cases h1 : x = s_shell
        · subst h1
          rw [if_pos rfl] at hv
          subst hv
          go_wp2_with fail
          go_ret
          exact ⟨rfl, HB.out⟩
        · rw [if_neg h1] at hv
          have g1 := str_ne h1
          simp only [ByteArray.toList_mk] at g1
          by_cases h2 : x = s_surface
          · subst h2
            rw [if_pos rfl] at hv
            subst hv
            go_wp2_with fail
            go_ret
            exact ⟨rfl, HB.out⟩
          · rw [if_neg h2] at hv
            have g2 := str_ne h2
            simp only [ByteArray.toList_mk] at g2
            subst hv
            clear h1 h2
            go_wp2_with fail
            go_ret
            exact ⟨rfl, HB.out⟩
      · have e0 := str_ne he
        have HN2 : Hid (∀ j, j < i + 1 → nmI j ≠ n) := Lib.hid (fun j hj => by
          by_cases e : j = i
          · subst e
            rw [hx]
            exact he
          · exact HN.out j (by omega))
        clear hx he HN hv
        go_wp2_with fail
        go_roundw
        case rel => exact ⟨i + 1, by omega, by go_num, HN2, trivial⟩
        case measure =>
          unfold leftN
          simp [intOf]
          omega
    · obtain rfl : i = 15 := by omega
      obtain rfl : r = 0 := hr.out.symm.trans (ver_miss n HN.out)
      go_wp2_with fail
      go_ret
      exact ⟨rfl, HB.out⟩

end Go.Proofs.YtcecicmihdcjgaaDoor
