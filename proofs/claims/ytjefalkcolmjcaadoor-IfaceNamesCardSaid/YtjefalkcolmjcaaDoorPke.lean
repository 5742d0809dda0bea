/-
  events of the package.
-/
import Derived.Test.YtjefalkcolmjcaaDoorIfk
namespace Go.Proofs.YtjefalkcolmjcaaDoor
open Go.RowKit

set_option maxHeartbeats 1000000 in
theorem p_revt_display (W0 : World) : Calls Tryd.prog 32 #[.string s_display] W0 (GivesO [⟨s_error, s_ou, 1⟩, ⟨s_delete_id, s_u, 1⟩] W0) := by
  go_enter Tryd.func32, Tryd.ntmps32
  go_wp2_with fail
  go_ret
  exact ⟨_, rfl, opns_new W0 [⟨s_error, s_ou, 1⟩, ⟨s_delete_id, s_u, 1⟩] (by decide) _, (Below.refl _ _).alloc (Nat.le_refl _) _⟩

set_option maxHeartbeats 1000000 in
theorem p_revt_registry (W0 : World) : Calls Tryd.prog 32 #[.string s_registry] W0 (GivesO [⟨s_global, s_usu, 1⟩, ⟨s_global_remove, s_u, 1⟩] W0) := by
  go_enter Tryd.func32, Tryd.ntmps32
  go_wp2_with fail
  go_ret
  exact ⟨_, rfl, opns_new W0 [⟨s_global, s_usu, 1⟩, ⟨s_global_remove, s_u, 1⟩] (by decide) _, (Below.refl _ _).alloc (Nat.le_refl _) _⟩

set_option maxHeartbeats 1000000 in
theorem p_revt_callback (W0 : World) : Calls Tryd.prog 32 #[.string s_callback] W0 (GivesO [⟨s_done, s_u, 1⟩] W0) := by
  go_enter Tryd.func32, Tryd.ntmps32
  go_wp2_with fail
  go_ret
  exact ⟨_, rfl, opns_new W0 [⟨s_done, s_u, 1⟩] (by decide) _, (Below.refl _ _).alloc (Nat.le_refl _) _⟩

set_option maxHeartbeats 1000000 in
theorem p_revt_shell (W0 : World) : Calls Tryd.prog 32 #[.string s_shell] W0 (GivesO [] W0) := by
  go_enter Tryd.func32, Tryd.ntmps32
  go_wp2_with fail
  go_ret
  exact ⟨_, rfl, opns_nil _, Below.refl _ _⟩

set_option maxHeartbeats 1000000 in
theorem p_revt_buffer (W0 : World) : Calls Tryd.prog 32 #[.string s_buffer] W0 (GivesO [] W0) := by
  go_enter Tryd.func32, Tryd.ntmps32
  go_wp2_with fail
  go_ret
  exact ⟨_, rfl, opns_nil _, Below.refl _ _⟩

set_option maxHeartbeats 1000000 in
theorem p_revt_surface (W0 : World) : Calls Tryd.prog 32 #[.string s_surface] W0 (GivesO [] W0) := by
  go_enter Tryd.func32, Tryd.ntmps32
  go_wp2_with fail
  go_ret
  exact ⟨_, rfl, opns_nil _, Below.refl _ _⟩

set_option maxHeartbeats 1000000 in
theorem p_revt_subsurface (W0 : World) : Calls Tryd.prog 32 #[.string s_subsurface] W0 (GivesO [] W0) := by
  go_enter Tryd.func32, Tryd.ntmps32
  go_wp2_with fail
  go_ret
  exact ⟨_, rfl, opns_nil _, Below.refl _ _⟩

set_option maxHeartbeats 1000000 in
theorem p_revt_toplevel (W0 : World) : Calls Tryd.prog 32 #[.string s_toplevel] W0 (GivesO [⟨s_configure, s_uiiu, 1⟩, ⟨s_close, s_0, 1⟩] W0) := by
  go_enter Tryd.func32, Tryd.ntmps32
  go_wp2_with fail
  go_ret
  exact ⟨_, rfl, opns_new W0 [⟨s_configure, s_uiiu, 1⟩, ⟨s_close, s_0, 1⟩] (by decide) _, (Below.refl _ _).alloc (Nat.le_refl _) _⟩

set_option maxHeartbeats 1000000 in
theorem p_revt_popup (W0 : World) : Calls Tryd.prog 32 #[.string s_popup] W0 (GivesO [⟨s_configure, s_uii, 1⟩, ⟨s_done, s_0, 1⟩] W0) := by
  go_enter Tryd.func32, Tryd.ntmps32
  go_wp2_with fail
  go_ret
  exact ⟨_, rfl, opns_new W0 [⟨s_configure, s_uii, 1⟩, ⟨s_done, s_0, 1⟩] (by decide) _, (Below.refl _ _).alloc (Nat.le_refl _) _⟩

set_option maxHeartbeats 1000000 in
theorem p_revt_seat (W0 : World) : Calls Tryd.prog 32 #[.string s_seat] W0 (GivesO [⟨s_selection, s_u, 1⟩] W0) := by
  go_enter Tryd.func32, Tryd.ntmps32
  go_wp2_with fail
  go_ret
  exact ⟨_, rfl, opns_new W0 [⟨s_selection, s_u, 1⟩] (by decide) _, (Below.refl _ _).alloc (Nat.le_refl _) _⟩

set_option maxHeartbeats 1000000 in
theorem p_revt_pointer (W0 : World) : Calls Tryd.prog 32 #[.string s_pointer] W0 (GivesO [⟨s_enter, s_uoii, 1⟩, ⟨s_leave, s_uo, 1⟩, ⟨s_motion, s_uii, 1⟩, ⟨s_button, s_uuuu, 1⟩, ⟨s_axis, s_uui, 1⟩, ⟨s_frame, s_0, 1⟩] W0) := by
  go_enter Tryd.func32, Tryd.ntmps32
  go_wp2_with fail
  go_ret
  exact ⟨_, rfl, opns_new W0 [⟨s_enter, s_uoii, 1⟩, ⟨s_leave, s_uo, 1⟩, ⟨s_motion, s_uii, 1⟩, ⟨s_button, s_uuuu, 1⟩, ⟨s_axis, s_uui, 1⟩, ⟨s_frame, s_0, 1⟩] (by decide) _, (Below.refl _ _).alloc (Nat.le_refl _) _⟩

set_option maxHeartbeats 1000000 in
theorem p_revt_keyboard (W0 : World) : Calls Tryd.prog 32 #[.string s_keyboard] W0 (GivesO [⟨s_enter, s_uo, 1⟩, ⟨s_leave, s_uo, 1⟩, ⟨s_key, s_uuuu, 1⟩, ⟨s_modifiers, s_uuu, 1⟩] W0) := by
  go_enter Tryd.func32, Tryd.ntmps32
  go_wp2_with fail
  go_ret
  exact ⟨_, rfl, opns_new W0 [⟨s_enter, s_uo, 1⟩, ⟨s_leave, s_uo, 1⟩, ⟨s_key, s_uuuu, 1⟩, ⟨s_modifiers, s_uuu, 1⟩] (by decide) _, (Below.refl _ _).alloc (Nat.le_refl _) _⟩

set_option maxHeartbeats 1000000 in
theorem p_revt_touch (W0 : World) : Calls Tryd.prog 32 #[.string s_touch] W0 (GivesO [⟨s_down, s_uuouii, 1⟩, ⟨s_motion, s_uuii, 1⟩, ⟨s_up, s_uuu, 1⟩] W0) := by
  go_enter Tryd.func32, Tryd.ntmps32
  go_wp2_with fail
  go_ret
  exact ⟨_, rfl, opns_new W0 [⟨s_down, s_uuouii, 1⟩, ⟨s_motion, s_uuii, 1⟩, ⟨s_up, s_uuu, 1⟩] (by decide) _, (Below.refl _ _).alloc (Nat.le_refl _) _⟩

set_option maxHeartbeats 1000000 in
theorem p_revt_output (W0 : World) : Calls Tryd.prog 32 #[.string s_output] W0 (GivesO [⟨s_mode, s_iii, 1⟩, ⟨s_done, s_0, 1⟩] W0) := by
  go_enter Tryd.func32, Tryd.ntmps32
  go_wp2_with fail
  go_ret
  exact ⟨_, rfl, opns_new W0 [⟨s_mode, s_iii, 1⟩, ⟨s_done, s_0, 1⟩] (by decide) _, (Below.refl _ _).alloc (Nat.le_refl _) _⟩

set_option maxHeartbeats 1000000 in
theorem p_revt_presentation (W0 : World) : Calls Tryd.prog 32 #[.string s_presentation] W0 (GivesO [⟨s_presented, s_uu, 1⟩, ⟨s_discarded, s_0, 1⟩] W0) := by
  go_enter Tryd.func32, Tryd.ntmps32
  go_wp2_with fail
  go_ret
  exact ⟨_, rfl, opns_new W0 [⟨s_presented, s_uu, 1⟩, ⟨s_discarded, s_0, 1⟩] (by decide) _, (Below.refl _ _).alloc (Nat.le_refl _) _⟩

set_option maxHeartbeats 1000000 in
theorem p_revt_other (n : ByteArray) (h0 : ¬ n = s_display) (h1 : ¬ n = s_registry) (h2 : ¬ n = s_callback) (h7 : ¬ n = s_toplevel) (h8 : ¬ n = s_popup) (h9 : ¬ n = s_seat) (h10 : ¬ n = s_pointer) (h11 : ¬ n = s_keyboard) (h12 : ¬ n = s_touch) (h13 : ¬ n = s_output) (h14 : ¬ n = s_presentation) (W0 : World) : Calls Tryd.prog 32 #[.string n] W0 (GivesO [] W0) := by
  have q0 := str_ne h0
  have q1 := str_ne h1
  have q2 := str_ne h2
  have q7 := str_ne h7
  have q8 := str_ne h8
  have q9 := str_ne h9
  have q10 := str_ne h10
  have q11 := str_ne h11
  have q12 := str_ne h12
  have q13 := str_ne h13
  have q14 := str_ne h14
  simp only [ByteArray.toList_mk] at q0 q1 q2 q7 q8 q9 q10 q11 q12 q13 q14
  go_enter Tryd.func32, Tryd.ntmps32
  go_wp2_with fail
  go_ret
  exact ⟨_, rfl, opns_nil _, Below.refl _ _⟩

theorem p_revt_any (n : ByteArray) (W0 : World) : Calls Tryd.prog 32 #[.string n] W0 (GivesO (evtT n) W0) := by
  unfold evtT
  by_cases h0 : n = s_display
  · subst h0
    exact p_revt_display W0
  rw [if_neg h0]
  by_cases h1 : n = s_registry
  · subst h1
    exact p_revt_registry W0
  rw [if_neg h1]
  by_cases h2 : n = s_callback
  · subst h2
    exact p_revt_callback W0
  rw [if_neg h2]
  by_cases h7 : n = s_toplevel
  · subst h7
    exact p_revt_toplevel W0
  rw [if_neg h7]
  by_cases h8 : n = s_popup
  · subst h8
    exact p_revt_popup W0
  rw [if_neg h8]
  by_cases h9 : n = s_seat
  · subst h9
    exact p_revt_seat W0
  rw [if_neg h9]
  by_cases h10 : n = s_pointer
  · subst h10
    exact p_revt_pointer W0
  rw [if_neg h10]
  by_cases h11 : n = s_keyboard
  · subst h11
    exact p_revt_keyboard W0
  rw [if_neg h11]
  by_cases h12 : n = s_touch
  · subst h12
    exact p_revt_touch W0
  rw [if_neg h12]
  by_cases h13 : n = s_output
  · subst h13
    exact p_revt_output W0
  rw [if_neg h13]
  by_cases h14 : n = s_presentation
  · subst h14
    exact p_revt_presentation W0
  rw [if_neg h14]
  exact p_revt_other n h0 h1 h2 h7 h8 h9 h10 h11 h12 h13 h14 W0

end Go.Proofs.YtjefalkcolmjcaaDoor
