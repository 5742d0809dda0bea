/-
  Requests of the reference.
-/
import Derived.Test.YtjefalkcolmjcaaDoorIfk
namespace Go.Proofs.YtjefalkcolmjcaaDoor
open Go.RowKit

set_option maxHeartbeats 1000000 in
theorem rreq_display (W0 : World) : Calls Tryd.prog 31 #[.string s_display] W0 (GivesO [⟨s_sync, s_n, 1⟩, ⟨s_get_registry, s_n, 1⟩] W0) := by
  have C := fun a b W => Lib.hid (one_any a b W)
  have hB := Lib.hid (Below.refl W0.heap.size W0)
  go_enter Tryd.func31, Tryd.ntmps31
  go_wp2_with fail
  refine (C _ _ _).out.mono ?_
  rintro e w1 ⟨rfl, hb⟩
  replace hB := Lib.hid (Below.next hB.out hb)
  clear hb
  go_wp2_with fail
  refine (C _ _ _).out.mono ?_
  rintro e w2 ⟨rfl, hb⟩
  replace hB := Lib.hid (Below.next hB.out hb)
  clear hb
  go_wp2_with fail
  go_ret
  exact ⟨_, rfl, opns_new w2 [⟨s_sync, s_n, 1⟩, ⟨s_get_registry, s_n, 1⟩] (by decide) _, hB.out.alloc hB.out.size _⟩

set_option maxHeartbeats 1000000 in
theorem rreq_registry (W0 : World) : Calls Tryd.prog 31 #[.string s_registry] W0 (GivesO [⟨s_bind, s_usun, 1⟩] W0) := by
  have C := fun a b W => Lib.hid (one_any a b W)
  have hB := Lib.hid (Below.refl W0.heap.size W0)
  go_enter Tryd.func31, Tryd.ntmps31
  go_wp2_with fail
  refine (C _ _ _).out.mono ?_
  rintro e w1 ⟨rfl, hb⟩
  replace hB := Lib.hid (Below.next hB.out hb)
  clear hb
  go_wp2_with fail
  go_ret
  exact ⟨_, rfl, opns_new w1 [⟨s_bind, s_usun, 1⟩] (by decide) _, hB.out.alloc hB.out.size _⟩

set_option maxHeartbeats 1000000 in
theorem rreq_callback (W0 : World) : Calls Tryd.prog 31 #[.string s_callback] W0 (GivesO [] W0) := by
  go_enter Tryd.func31, Tryd.ntmps31
  go_wp2_with fail
  go_ret
  exact ⟨_, rfl, opns_nil _, Below.refl _ _⟩

set_option maxHeartbeats 1000000 in
theorem rreq_shell (W0 : World) : Calls Tryd.prog 31 #[.string s_shell] W0 (GivesO [⟨s_create_surface, s_n, 1⟩, ⟨s_create_buffer, s_niiua, 1⟩] W0) := by
  have C := fun a b W => Lib.hid (one_any a b W)
  have hB := Lib.hid (Below.refl W0.heap.size W0)
  go_enter Tryd.func31, Tryd.ntmps31
  go_wp2_with fail
  refine (C _ _ _).out.mono ?_
  rintro e w1 ⟨rfl, hb⟩
  replace hB := Lib.hid (Below.next hB.out hb)
  clear hb
  go_wp2_with fail
  refine (C _ _ _).out.mono ?_
  rintro e w2 ⟨rfl, hb⟩
  replace hB := Lib.hid (Below.next hB.out hb)
  clear hb
  go_wp2_with fail
  go_ret
  exact ⟨_, rfl, opns_new w2 [⟨s_create_surface, s_n, 1⟩, ⟨s_create_buffer, s_niiua, 1⟩] (by decide) _, hB.out.alloc hB.out.size _⟩

set_option maxHeartbeats 1000000 in
theorem rreq_buffer (W0 : World) : Calls Tryd.prog 31 #[.string s_buffer] W0 (GivesO [⟨s_destroy, s_0, 1⟩] W0) := by
  have C := fun a b W => Lib.hid (one_any a b W)
  have hB := Lib.hid (Below.refl W0.heap.size W0)
  go_enter Tryd.func31, Tryd.ntmps31
  go_wp2_with fail
  refine (C _ _ _).out.mono ?_
  rintro e w1 ⟨rfl, hb⟩
  replace hB := Lib.hid (Below.next hB.out hb)
  clear hb
  go_wp2_with fail
  go_ret
  exact ⟨_, rfl, opns_new w1 [⟨s_destroy, s_0, 1⟩] (by decide) _, hB.out.alloc hB.out.size _⟩

set_option maxHeartbeats 1000000 in
theorem rreq_surface (W0 : World) : Calls Tryd.prog 31 #[.string s_surface] W0 (GivesO [⟨s_destroy, s_0, 1⟩, ⟨s_attach, s_o, 1⟩, ⟨s_damage, s_iiii, 1⟩, ⟨s_frame, s_n, 1⟩, ⟨s_set_opaque, s_a, 1⟩, ⟨s_set_input, s_a, 1⟩, ⟨s_commit, s_0, 1⟩, ⟨s_get_subsurface, s_no, 1⟩, ⟨s_get_toplevel, s_n, 1⟩, ⟨s_get_popup, s_noiiiiiiuu, 1⟩, ⟨s_set_scale, s_i, 2⟩, ⟨s_set_transform, s_i, 2⟩, ⟨s_set_viewport, s_ii, 3⟩] W0) := by
  have C := fun a b W => Lib.hid (one_any a b W)
  have hB := Lib.hid (Below.refl W0.heap.size W0)
  go_enter Tryd.func31, Tryd.ntmps31
  go_wp2_with fail
  refine (C _ _ _).out.mono ?_
  rintro e w1 ⟨rfl, hb⟩
  replace hB := Lib.hid (Below.next hB.out hb)
  clear hb
  go_wp2_with fail
  refine (C _ _ _).out.mono ?_
  rintro e w2 ⟨rfl, hb⟩
  replace hB := Lib.hid (Below.next hB.out hb)
  clear hb
  go_wp2_with fail
  refine (C _ _ _).out.mono ?_
  rintro e w3 ⟨rfl, hb⟩
  replace hB := Lib.hid (Below.next hB.out hb)
  clear hb
  go_wp2_with fail
  refine (C _ _ _).out.mono ?_
  rintro e w4 ⟨rfl, hb⟩
  replace hB := Lib.hid (Below.next hB.out hb)
  clear hb
  go_wp2_with fail
  refine (C _ _ _).out.mono ?_
  rintro e w5 ⟨rfl, hb⟩
  replace hB := Lib.hid (Below.next hB.out hb)
  clear hb
  go_wp2_with fail
  refine (C _ _ _).out.mono ?_
  rintro e w6 ⟨rfl, hb⟩
  replace hB := Lib.hid (Below.next hB.out hb)
  clear hb
  go_wp2_with fail
  refine (C _ _ _).out.mono ?_
  rintro e w7 ⟨rfl, hb⟩
  replace hB := Lib.hid (Below.next hB.out hb)
  clear hb
  go_wp2_with fail
  refine (C _ _ _).out.mono ?_
  rintro e w8 ⟨rfl, hb⟩
  replace hB := Lib.hid (Below.next hB.out hb)
  clear hb
  go_wp2_with fail
  refine (C _ _ _).out.mono ?_
  rintro e w9 ⟨rfl, hb⟩
  replace hB := Lib.hid (Below.next hB.out hb)
  clear hb
  go_wp2_with fail
  refine (C _ _ _).out.mono ?_
  rintro e w10 ⟨rfl, hb⟩
  replace hB := Lib.hid (Below.next hB.out hb)
  clear hb
  go_wp2_with fail
  go_ret
  exact ⟨_, rfl, opns_new w10 [⟨s_destroy, s_0, 1⟩, ⟨s_attach, s_o, 1⟩, ⟨s_damage, s_iiii, 1⟩, ⟨s_frame, s_n, 1⟩, ⟨s_set_opaque, s_a, 1⟩, ⟨s_set_input, s_a, 1⟩, ⟨s_commit, s_0, 1⟩, ⟨s_get_subsurface, s_no, 1⟩, ⟨s_get_toplevel, s_n, 1⟩, ⟨s_get_popup, s_noiiiiiiuu, 1⟩, ⟨s_set_scale, s_i, 2⟩, ⟨s_set_transform, s_i, 2⟩, ⟨s_set_viewport, s_ii, 3⟩] (by decide) _, hB.out.alloc hB.out.size _⟩

set_option maxHeartbeats 1000000 in
theorem rreq_subsurface (W0 : World) : Calls Tryd.prog 31 #[.string s_subsurface] W0 (GivesO [⟨s_destroy, s_0, 1⟩, ⟨s_set_position, s_ii, 1⟩, ⟨s_place_above, s_o, 1⟩, ⟨s_place_below, s_o, 1⟩, ⟨s_set_sync, s_0, 1⟩, ⟨s_set_desync, s_0, 1⟩] W0) := by
  have C := fun a b W => Lib.hid (one_any a b W)
  have hB := Lib.hid (Below.refl W0.heap.size W0)
  go_enter Tryd.func31, Tryd.ntmps31
  go_wp2_with fail
  refine (C _ _ _).out.mono ?_
  rintro e w1 ⟨rfl, hb⟩
  replace hB := Lib.hid (Below.next hB.out hb)
  clear hb
  go_wp2_with fail
  refine (C _ _ _).out.mono ?_
  rintro e w2 ⟨rfl, hb⟩
  replace hB := Lib.hid (Below.next hB.out hb)
  clear hb
  go_wp2_with fail
  refine (C _ _ _).out.mono ?_
  rintro e w3 ⟨rfl, hb⟩
  replace hB := Lib.hid (Below.next hB.out hb)
  clear hb
  go_wp2_with fail
  refine (C _ _ _).out.mono ?_
  rintro e w4 ⟨rfl, hb⟩
  replace hB := Lib.hid (Below.next hB.out hb)
  clear hb
  go_wp2_with fail
  refine (C _ _ _).out.mono ?_
  rintro e w5 ⟨rfl, hb⟩
  replace hB := Lib.hid (Below.next hB.out hb)
  clear hb
  go_wp2_with fail
  refine (C _ _ _).out.mono ?_
  rintro e w6 ⟨rfl, hb⟩
  replace hB := Lib.hid (Below.next hB.out hb)
  clear hb
  go_wp2_with fail
  go_ret
  exact ⟨_, rfl, opns_new w6 [⟨s_destroy, s_0, 1⟩, ⟨s_set_position, s_ii, 1⟩, ⟨s_place_above, s_o, 1⟩, ⟨s_place_below, s_o, 1⟩, ⟨s_set_sync, s_0, 1⟩, ⟨s_set_desync, s_0, 1⟩] (by decide) _, hB.out.alloc hB.out.size _⟩

set_option maxHeartbeats 1000000 in
theorem rreq_toplevel (W0 : World) : Calls Tryd.prog 31 #[.string s_toplevel] W0 (GivesO [⟨s_destroy, s_0, 1⟩, ⟨s_set_state, s_ui, 1⟩, ⟨s_ack_configure, s_u, 1⟩] W0) := by
  have C := fun a b W => Lib.hid (one_any a b W)
  have hB := Lib.hid (Below.refl W0.heap.size W0)
  go_enter Tryd.func31, Tryd.ntmps31
  go_wp2_with fail
  refine (C _ _ _).out.mono ?_
  rintro e w1 ⟨rfl, hb⟩
  replace hB := Lib.hid (Below.next hB.out hb)
  clear hb
  go_wp2_with fail
  refine (C _ _ _).out.mono ?_
  rintro e w2 ⟨rfl, hb⟩
  replace hB := Lib.hid (Below.next hB.out hb)
  clear hb
  go_wp2_with fail
  refine (C _ _ _).out.mono ?_
  rintro e w3 ⟨rfl, hb⟩
  replace hB := Lib.hid (Below.next hB.out hb)
  clear hb
  go_wp2_with fail
  go_ret
  exact ⟨_, rfl, opns_new w3 [⟨s_destroy, s_0, 1⟩, ⟨s_set_state, s_ui, 1⟩, ⟨s_ack_configure, s_u, 1⟩] (by decide) _, hB.out.alloc hB.out.size _⟩

set_option maxHeartbeats 1000000 in
theorem rreq_popup (W0 : World) : Calls Tryd.prog 31 #[.string s_popup] W0 (GivesO [⟨s_destroy, s_0, 1⟩, ⟨s_ack_configure, s_u, 1⟩] W0) := by
  have C := fun a b W => Lib.hid (one_any a b W)
  have hB := Lib.hid (Below.refl W0.heap.size W0)
  go_enter Tryd.func31, Tryd.ntmps31
  go_wp2_with fail
  refine (C _ _ _).out.mono ?_
  rintro e w1 ⟨rfl, hb⟩
  replace hB := Lib.hid (Below.next hB.out hb)
  clear hb
  go_wp2_with fail
  refine (C _ _ _).out.mono ?_
  rintro e w2 ⟨rfl, hb⟩
  replace hB := Lib.hid (Below.next hB.out hb)
  clear hb
  go_wp2_with fail
  go_ret
  exact ⟨_, rfl, opns_new w2 [⟨s_destroy, s_0, 1⟩, ⟨s_ack_configure, s_u, 1⟩] (by decide) _, hB.out.alloc hB.out.size _⟩

set_option maxHeartbeats 1000000 in
theorem rreq_seat (W0 : World) : Calls Tryd.prog 31 #[.string s_seat] W0 (GivesO [⟨s_get_pointer, s_n, 1⟩, ⟨s_get_keyboard, s_n, 1⟩, ⟨s_get_touch, s_n, 1⟩, ⟨s_set_selection, s_su, 1⟩, ⟨s_start_drag, s_oosuu, 1⟩, ⟨s_accept_drag, s_s, 1⟩, ⟨s_set_actions, s_uu, 1⟩, ⟨s_finish_drag, s_0, 1⟩] W0) := by
  have C := fun a b W => Lib.hid (one_any a b W)
  have hB := Lib.hid (Below.refl W0.heap.size W0)
  go_enter Tryd.func31, Tryd.ntmps31
  go_wp2_with fail
  refine (C _ _ _).out.mono ?_
  rintro e w1 ⟨rfl, hb⟩
  replace hB := Lib.hid (Below.next hB.out hb)
  clear hb
  go_wp2_with fail
  refine (C _ _ _).out.mono ?_
  rintro e w2 ⟨rfl, hb⟩
  replace hB := Lib.hid (Below.next hB.out hb)
  clear hb
  go_wp2_with fail
  refine (C _ _ _).out.mono ?_
  rintro e w3 ⟨rfl, hb⟩
  replace hB := Lib.hid (Below.next hB.out hb)
  clear hb
  go_wp2_with fail
  refine (C _ _ _).out.mono ?_
  rintro e w4 ⟨rfl, hb⟩
  replace hB := Lib.hid (Below.next hB.out hb)
  clear hb
  go_wp2_with fail
  refine (C _ _ _).out.mono ?_
  rintro e w5 ⟨rfl, hb⟩
  replace hB := Lib.hid (Below.next hB.out hb)
  clear hb
  go_wp2_with fail
  refine (C _ _ _).out.mono ?_
  rintro e w6 ⟨rfl, hb⟩
  replace hB := Lib.hid (Below.next hB.out hb)
  clear hb
  go_wp2_with fail
  refine (C _ _ _).out.mono ?_
  rintro e w7 ⟨rfl, hb⟩
  replace hB := Lib.hid (Below.next hB.out hb)
  clear hb
  go_wp2_with fail
  refine (C _ _ _).out.mono ?_
  rintro e w8 ⟨rfl, hb⟩
  replace hB := Lib.hid (Below.next hB.out hb)
  clear hb
  go_wp2_with fail
  go_ret
  exact ⟨_, rfl, opns_new w8 [⟨s_get_pointer, s_n, 1⟩, ⟨s_get_keyboard, s_n, 1⟩, ⟨s_get_touch, s_n, 1⟩, ⟨s_set_selection, s_su, 1⟩, ⟨s_start_drag, s_oosuu, 1⟩, ⟨s_accept_drag, s_s, 1⟩, ⟨s_set_actions, s_uu, 1⟩, ⟨s_finish_drag, s_0, 1⟩] (by decide) _, hB.out.alloc hB.out.size _⟩

set_option maxHeartbeats 1000000 in
theorem rreq_pointer (W0 : World) : Calls Tryd.prog 31 #[.string s_pointer] W0 (GivesO [⟨s_release, s_0, 1⟩] W0) := by
  have C := fun a b W => Lib.hid (one_any a b W)
  have hB := Lib.hid (Below.refl W0.heap.size W0)
  go_enter Tryd.func31, Tryd.ntmps31
  go_wp2_with fail
  refine (C _ _ _).out.mono ?_
  rintro e w1 ⟨rfl, hb⟩
  replace hB := Lib.hid (Below.next hB.out hb)
  clear hb
  go_wp2_with fail
  go_ret
  exact ⟨_, rfl, opns_new w1 [⟨s_release, s_0, 1⟩] (by decide) _, hB.out.alloc hB.out.size _⟩

set_option maxHeartbeats 1000000 in
theorem rreq_keyboard (W0 : World) : Calls Tryd.prog 31 #[.string s_keyboard] W0 (GivesO [⟨s_release, s_0, 1⟩] W0) := by
  have C := fun a b W => Lib.hid (one_any a b W)
  have hB := Lib.hid (Below.refl W0.heap.size W0)
  go_enter Tryd.func31, Tryd.ntmps31
  go_wp2_with fail
  refine (C _ _ _).out.mono ?_
  rintro e w1 ⟨rfl, hb⟩
  replace hB := Lib.hid (Below.next hB.out hb)
  clear hb
  go_wp2_with fail
  go_ret
  exact ⟨_, rfl, opns_new w1 [⟨s_release, s_0, 1⟩] (by decide) _, hB.out.alloc hB.out.size _⟩

set_option maxHeartbeats 1000000 in
theorem rreq_touch (W0 : World) : Calls Tryd.prog 31 #[.string s_touch] W0 (GivesO [⟨s_release, s_0, 1⟩] W0) := by
  have C := fun a b W => Lib.hid (one_any a b W)
  have hB := Lib.hid (Below.refl W0.heap.size W0)
  go_enter Tryd.func31, Tryd.ntmps31
  go_wp2_with fail
  refine (C _ _ _).out.mono ?_
  rintro e w1 ⟨rfl, hb⟩
  replace hB := Lib.hid (Below.next hB.out hb)
  clear hb
  go_wp2_with fail
  go_ret
  exact ⟨_, rfl, opns_new w1 [⟨s_release, s_0, 1⟩] (by decide) _, hB.out.alloc hB.out.size _⟩

set_option maxHeartbeats 1000000 in
theorem rreq_output (W0 : World) : Calls Tryd.prog 31 #[.string s_output] W0 (GivesO [⟨s_release, s_0, 1⟩] W0) := by
  have C := fun a b W => Lib.hid (one_any a b W)
  have hB := Lib.hid (Below.refl W0.heap.size W0)
  go_enter Tryd.func31, Tryd.ntmps31
  go_wp2_with fail
  refine (C _ _ _).out.mono ?_
  rintro e w1 ⟨rfl, hb⟩
  replace hB := Lib.hid (Below.next hB.out hb)
  clear hb
  go_wp2_with fail
  go_ret
  exact ⟨_, rfl, opns_new w1 [⟨s_release, s_0, 1⟩] (by decide) _, hB.out.alloc hB.out.size _⟩

set_option maxHeartbeats 1000000 in
theorem rreq_presentation (W0 : World) : Calls Tryd.prog 31 #[.string s_presentation] W0 (GivesO [⟨s_destroy, s_0, 1⟩] W0) := by
  have C := fun a b W => Lib.hid (one_any a b W)
  have hB := Lib.hid (Below.refl W0.heap.size W0)
  go_enter Tryd.func31, Tryd.ntmps31
  go_wp2_with fail
  refine (C _ _ _).out.mono ?_
  rintro e w1 ⟨rfl, hb⟩
  replace hB := Lib.hid (Below.next hB.out hb)
  clear hb
  go_wp2_with fail
  go_ret
  exact ⟨_, rfl, opns_new w1 [⟨s_destroy, s_0, 1⟩] (by decide) _, hB.out.alloc hB.out.size _⟩

set_option maxHeartbeats 1000000 in
theorem rreq_other (n : ByteArray) (h0 : ¬ n = s_display) (h1 : ¬ n = s_registry) (h3 : ¬ n = s_shell) (h4 : ¬ n = s_buffer) (h5 : ¬ n = s_surface) (h6 : ¬ n = s_subsurface) (h7 : ¬ n = s_toplevel) (h8 : ¬ n = s_popup) (h9 : ¬ n = s_seat) (h10 : ¬ n = s_pointer) (h11 : ¬ n = s_keyboard) (h12 : ¬ n = s_touch) (h13 : ¬ n = s_output) (h14 : ¬ n = s_presentation) (W0 : World) : Calls Tryd.prog 31 #[.string n] W0 (GivesO [] W0) := by
  have q0 := str_ne h0
  have q1 := str_ne h1
  have q3 := str_ne h3
  have q4 := str_ne h4
  have q5 := str_ne h5
  have q6 := str_ne h6
  have q7 := str_ne h7
  have q8 := str_ne h8
  have q9 := str_ne h9
  have q10 := str_ne h10
  have q11 := str_ne h11
  have q12 := str_ne h12
  have q13 := str_ne h13
  have q14 := str_ne h14
  simp only [ByteArray.toList_mk] at q0 q1 q3 q4 q5 q6 q7 q8 q9 q10 q11 q12 q13 q14
  go_enter Tryd.func31, Tryd.ntmps31
  go_wp2_with fail
  go_ret
  exact ⟨_, rfl, opns_nil _, Below.refl _ _⟩

theorem rreq_any (n : ByteArray) (W0 : World) : Calls Tryd.prog 31 #[.string n] W0 (GivesO (reqT n) W0) := by
  unfold reqT
  by_cases h0 : n = s_display
  · subst h0
    exact rreq_display W0
  rw [if_neg h0]
  by_cases h1 : n = s_registry
  · subst h1
    exact rreq_registry W0
  rw [if_neg h1]
  by_cases h3 : n = s_shell
  · subst h3
    exact rreq_shell W0
  rw [if_neg h3]
  by_cases h4 : n = s_buffer
  · subst h4
    exact rreq_buffer W0
  rw [if_neg h4]
  by_cases h5 : n = s_surface
  · subst h5
    exact rreq_surface W0
  rw [if_neg h5]
  by_cases h6 : n = s_subsurface
  · subst h6
    exact rreq_subsurface W0
  rw [if_neg h6]
  by_cases h7 : n = s_toplevel
  · subst h7
    exact rreq_toplevel W0
  rw [if_neg h7]
  by_cases h8 : n = s_popup
  · subst h8
    exact rreq_popup W0
  rw [if_neg h8]
  by_cases h9 : n = s_seat
  · subst h9
    exact rreq_seat W0
  rw [if_neg h9]
  by_cases h10 : n = s_pointer
  · subst h10
    exact rreq_pointer W0
  rw [if_neg h10]
  by_cases h11 : n = s_keyboard
  · subst h11
    exact rreq_keyboard W0
  rw [if_neg h11]
  by_cases h12 : n = s_touch
  · subst h12
    exact rreq_touch W0
  rw [if_neg h12]
  by_cases h13 : n = s_output
  · subst h13
    exact rreq_output W0
  rw [if_neg h13]
  by_cases h14 : n = s_presentation
  · subst h14
    exact rreq_presentation W0
  rw [if_neg h14]
  exact rreq_other n h0 h1 h3 h4 h5 h6 h7 h8 h9 h10 h11 h12 h13 h14 W0

end Go.Proofs.YtjefalkcolmjcaaDoor
