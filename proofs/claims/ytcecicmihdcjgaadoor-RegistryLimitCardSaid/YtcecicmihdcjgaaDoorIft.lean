/-
  The table of interfaces: names, versions, requests and events (no memory).
-/
import Derived.Test.YtcecicmihdcjgaaDoorHeld
namespace Go.Proofs.YtcecicmihdcjgaaDoor
open Go.RowKit

abbrev s_0 : ByteArray := ⟨#[]⟩
abbrev s_a : ByteArray := ⟨#[97]⟩
abbrev s_accept_drag : ByteArray := ⟨#[97, 99, 99, 101, 112, 116, 95, 100, 114, 97, 103]⟩
abbrev s_ack_configure : ByteArray := ⟨#[97, 99, 107, 95, 99, 111, 110, 102, 105, 103, 117, 114, 101]⟩
abbrev s_attach : ByteArray := ⟨#[97, 116, 116, 97, 99, 104]⟩
abbrev s_axis : ByteArray := ⟨#[97, 120, 105, 115]⟩
abbrev s_bind : ByteArray := ⟨#[98, 105, 110, 100]⟩
abbrev s_buffer : ByteArray := ⟨#[98, 117, 102, 102, 101, 114]⟩
abbrev s_button : ByteArray := ⟨#[98, 117, 116, 116, 111, 110]⟩
abbrev s_callback : ByteArray := ⟨#[99, 97, 108, 108, 98, 97, 99, 107]⟩
abbrev s_close : ByteArray := ⟨#[99, 108, 111, 115, 101]⟩
abbrev s_commit : ByteArray := ⟨#[99, 111, 109, 109, 105, 116]⟩
abbrev s_configure : ByteArray := ⟨#[99, 111, 110, 102, 105, 103, 117, 114, 101]⟩
abbrev s_create_buffer : ByteArray := ⟨#[99, 114, 101, 97, 116, 101, 95, 98, 117, 102, 102, 101, 114]⟩
abbrev s_create_surface : ByteArray := ⟨#[99, 114, 101, 97, 116, 101, 95, 115, 117, 114, 102, 97, 99, 101]⟩
abbrev s_damage : ByteArray := ⟨#[100, 97, 109, 97, 103, 101]⟩
abbrev s_delete_id : ByteArray := ⟨#[100, 101, 108, 101, 116, 101, 95, 105, 100]⟩
abbrev s_destroy : ByteArray := ⟨#[100, 101, 115, 116, 114, 111, 121]⟩
abbrev s_discarded : ByteArray := ⟨#[100, 105, 115, 99, 97, 114, 100, 101, 100]⟩
abbrev s_display : ByteArray := ⟨#[100, 105, 115, 112, 108, 97, 121]⟩
abbrev s_done : ByteArray := ⟨#[100, 111, 110, 101]⟩
abbrev s_down : ByteArray := ⟨#[100, 111, 119, 110]⟩
abbrev s_enter : ByteArray := ⟨#[101, 110, 116, 101, 114]⟩
abbrev s_error : ByteArray := ⟨#[101, 114, 114, 111, 114]⟩
abbrev s_finish_drag : ByteArray := ⟨#[102, 105, 110, 105, 115, 104, 95, 100, 114, 97, 103]⟩
abbrev s_frame : ByteArray := ⟨#[102, 114, 97, 109, 101]⟩
abbrev s_get_keyboard : ByteArray := ⟨#[103, 101, 116, 95, 107, 101, 121, 98, 111, 97, 114, 100]⟩
abbrev s_get_pointer : ByteArray := ⟨#[103, 101, 116, 95, 112, 111, 105, 110, 116, 101, 114]⟩
abbrev s_get_popup : ByteArray := ⟨#[103, 101, 116, 95, 112, 111, 112, 117, 112]⟩
abbrev s_get_registry : ByteArray := ⟨#[103, 101, 116, 95, 114, 101, 103, 105, 115, 116, 114, 121]⟩
abbrev s_get_subsurface : ByteArray := ⟨#[103, 101, 116, 95, 115, 117, 98, 115, 117, 114, 102, 97, 99, 101]⟩
abbrev s_get_toplevel : ByteArray := ⟨#[103, 101, 116, 95, 116, 111, 112, 108, 101, 118, 101, 108]⟩
abbrev s_get_touch : ByteArray := ⟨#[103, 101, 116, 95, 116, 111, 117, 99, 104]⟩
abbrev s_global : ByteArray := ⟨#[103, 108, 111, 98, 97, 108]⟩
abbrev s_global_remove : ByteArray := ⟨#[103, 108, 111, 98, 97, 108, 95, 114, 101, 109, 111, 118, 101]⟩
abbrev s_i : ByteArray := ⟨#[105]⟩
abbrev s_ii : ByteArray := ⟨#[105, 105]⟩
abbrev s_iii : ByteArray := ⟨#[105, 105, 105]⟩
abbrev s_iiii : ByteArray := ⟨#[105, 105, 105, 105]⟩
abbrev s_key : ByteArray := ⟨#[107, 101, 121]⟩
abbrev s_keyboard : ByteArray := ⟨#[107, 101, 121, 98, 111, 97, 114, 100]⟩
abbrev s_leave : ByteArray := ⟨#[108, 101, 97, 118, 101]⟩
abbrev s_mode : ByteArray := ⟨#[109, 111, 100, 101]⟩
abbrev s_modifiers : ByteArray := ⟨#[109, 111, 100, 105, 102, 105, 101, 114, 115]⟩
abbrev s_motion : ByteArray := ⟨#[109, 111, 116, 105, 111, 110]⟩
abbrev s_n : ByteArray := ⟨#[110]⟩
abbrev s_niiua : ByteArray := ⟨#[110, 105, 105, 117, 97]⟩
abbrev s_no : ByteArray := ⟨#[110, 111]⟩
abbrev s_noiiiiiiuu : ByteArray := ⟨#[110, 111, 105, 105, 105, 105, 105, 105, 117, 117]⟩
abbrev s_o : ByteArray := ⟨#[111]⟩
abbrev s_oosuu : ByteArray := ⟨#[111, 111, 115, 117, 117]⟩
abbrev s_ou : ByteArray := ⟨#[111, 117]⟩
abbrev s_output : ByteArray := ⟨#[111, 117, 116, 112, 117, 116]⟩
abbrev s_place_above : ByteArray := ⟨#[112, 108, 97, 99, 101, 95, 97, 98, 111, 118, 101]⟩
abbrev s_place_below : ByteArray := ⟨#[112, 108, 97, 99, 101, 95, 98, 101, 108, 111, 119]⟩
abbrev s_pointer : ByteArray := ⟨#[112, 111, 105, 110, 116, 101, 114]⟩
abbrev s_popup : ByteArray := ⟨#[112, 111, 112, 117, 112]⟩
abbrev s_presentation : ByteArray := ⟨#[112, 114, 101, 115, 101, 110, 116, 97, 116, 105, 111, 110]⟩
abbrev s_presented : ByteArray := ⟨#[112, 114, 101, 115, 101, 110, 116, 101, 100]⟩
abbrev s_registry : ByteArray := ⟨#[114, 101, 103, 105, 115, 116, 114, 121]⟩
abbrev s_release : ByteArray := ⟨#[114, 101, 108, 101, 97, 115, 101]⟩
abbrev s_s : ByteArray := ⟨#[115]⟩
abbrev s_seat : ByteArray := ⟨#[115, 101, 97, 116]⟩
abbrev s_selection : ByteArray := ⟨#[115, 101, 108, 101, 99, 116, 105, 111, 110]⟩
abbrev s_set_actions : ByteArray := ⟨#[115, 101, 116, 95, 97, 99, 116, 105, 111, 110, 115]⟩
abbrev s_set_desync : ByteArray := ⟨#[115, 101, 116, 95, 100, 101, 115, 121, 110, 99]⟩
abbrev s_set_input : ByteArray := ⟨#[115, 101, 116, 95, 105, 110, 112, 117, 116]⟩
abbrev s_set_opaque : ByteArray := ⟨#[115, 101, 116, 95, 111, 112, 97, 113, 117, 101]⟩
abbrev s_set_position : ByteArray := ⟨#[115, 101, 116, 95, 112, 111, 115, 105, 116, 105, 111, 110]⟩
abbrev s_set_scale : ByteArray := ⟨#[115, 101, 116, 95, 115, 99, 97, 108, 101]⟩
abbrev s_set_selection : ByteArray := ⟨#[115, 101, 116, 95, 115, 101, 108, 101, 99, 116, 105, 111, 110]⟩
abbrev s_set_state : ByteArray := ⟨#[115, 101, 116, 95, 115, 116, 97, 116, 101]⟩
abbrev s_set_sync : ByteArray := ⟨#[115, 101, 116, 95, 115, 121, 110, 99]⟩
abbrev s_set_transform : ByteArray := ⟨#[115, 101, 116, 95, 116, 114, 97, 110, 115, 102, 111, 114, 109]⟩
abbrev s_set_viewport : ByteArray := ⟨#[115, 101, 116, 95, 118, 105, 101, 119, 112, 111, 114, 116]⟩
abbrev s_shell : ByteArray := ⟨#[115, 104, 101, 108, 108]⟩
abbrev s_start_drag : ByteArray := ⟨#[115, 116, 97, 114, 116, 95, 100, 114, 97, 103]⟩
abbrev s_su : ByteArray := ⟨#[115, 117]⟩
abbrev s_subsurface : ByteArray := ⟨#[115, 117, 98, 115, 117, 114, 102, 97, 99, 101]⟩
abbrev s_surface : ByteArray := ⟨#[115, 117, 114, 102, 97, 99, 101]⟩
abbrev s_sync : ByteArray := ⟨#[115, 121, 110, 99]⟩
abbrev s_toplevel : ByteArray := ⟨#[116, 111, 112, 108, 101, 118, 101, 108]⟩
abbrev s_touch : ByteArray := ⟨#[116, 111, 117, 99, 104]⟩
abbrev s_u : ByteArray := ⟨#[117]⟩
abbrev s_ui : ByteArray := ⟨#[117, 105]⟩
abbrev s_uii : ByteArray := ⟨#[117, 105, 105]⟩
abbrev s_uiiu : ByteArray := ⟨#[117, 105, 105, 117]⟩
abbrev s_uo : ByteArray := ⟨#[117, 111]⟩
abbrev s_uoii : ByteArray := ⟨#[117, 111, 105, 105]⟩
abbrev s_up : ByteArray := ⟨#[117, 112]⟩
abbrev s_usu : ByteArray := ⟨#[117, 115, 117]⟩
abbrev s_usun : ByteArray := ⟨#[117, 115, 117, 110]⟩
abbrev s_uu : ByteArray := ⟨#[117, 117]⟩
abbrev s_uui : ByteArray := ⟨#[117, 117, 105]⟩
abbrev s_uuii : ByteArray := ⟨#[117, 117, 105, 105]⟩
abbrev s_uuouii : ByteArray := ⟨#[117, 117, 111, 117, 105, 105]⟩
abbrev s_uuu : ByteArray := ⟨#[117, 117, 117]⟩
abbrev s_uuuu : ByteArray := ⟨#[117, 117, 117, 117]⟩

/-- an operation: its name, its signature, the version since which it exists -/
structure On where
  nm : ByteArray
  sg : ByteArray
  sn : Int

def namT : List ByteArray := [s_display, s_registry, s_callback, s_shell, s_buffer, s_surface, s_subsurface, s_toplevel, s_popup, s_seat, s_pointer, s_keyboard, s_touch, s_output, s_presentation]
def verT (n : ByteArray) : Int :=
  if n = s_display then 1 else
  if n = s_registry then 1 else
  if n = s_callback then 1 else
  if n = s_shell then 2 else
  if n = s_buffer then 1 else
  if n = s_surface then 3 else
  if n = s_subsurface then 1 else
  if n = s_toplevel then 1 else
  if n = s_popup then 1 else
  if n = s_seat then 1 else
  if n = s_pointer then 1 else
  if n = s_keyboard then 1 else
  if n = s_touch then 1 else
  if n = s_output then 1 else
  if n = s_presentation then 1 else
  0
def reqT (n : ByteArray) : List On :=
  if n = s_display then [⟨s_sync, s_n, 1⟩, ⟨s_get_registry, s_n, 1⟩] else
  if n = s_registry then [⟨s_bind, s_usun, 1⟩] else
  if n = s_shell then [⟨s_create_surface, s_n, 1⟩, ⟨s_create_buffer, s_niiua, 1⟩] else
  if n = s_buffer then [⟨s_destroy, s_0, 1⟩] else
  if n = s_surface then [⟨s_destroy, s_0, 1⟩, ⟨s_attach, s_o, 1⟩, ⟨s_damage, s_iiii, 1⟩, ⟨s_frame, s_n, 1⟩, ⟨s_set_opaque, s_a, 1⟩, ⟨s_set_input, s_a, 1⟩, ⟨s_commit, s_0, 1⟩, ⟨s_get_subsurface, s_no, 1⟩, ⟨s_get_toplevel, s_n, 1⟩, ⟨s_get_popup, s_noiiiiiiuu, 1⟩, ⟨s_set_scale, s_i, 2⟩, ⟨s_set_transform, s_i, 2⟩, ⟨s_set_viewport, s_ii, 3⟩] else
  if n = s_subsurface then [⟨s_destroy, s_0, 1⟩, ⟨s_set_position, s_ii, 1⟩, ⟨s_place_above, s_o, 1⟩, ⟨s_place_below, s_o, 1⟩, ⟨s_set_sync, s_0, 1⟩, ⟨s_set_desync, s_0, 1⟩] else
  if n = s_toplevel then [⟨s_destroy, s_0, 1⟩, ⟨s_set_state, s_ui, 1⟩, ⟨s_ack_configure, s_u, 1⟩] else
  if n = s_popup then [⟨s_destroy, s_0, 1⟩, ⟨s_ack_configure, s_u, 1⟩] else
  if n = s_seat then [⟨s_get_pointer, s_n, 1⟩, ⟨s_get_keyboard, s_n, 1⟩, ⟨s_get_touch, s_n, 1⟩, ⟨s_set_selection, s_su, 1⟩, ⟨s_start_drag, s_oosuu, 1⟩, ⟨s_accept_drag, s_s, 1⟩, ⟨s_set_actions, s_uu, 1⟩, ⟨s_finish_drag, s_0, 1⟩] else
  if n = s_pointer then [⟨s_release, s_0, 1⟩] else
  if n = s_keyboard then [⟨s_release, s_0, 1⟩] else
  if n = s_touch then [⟨s_release, s_0, 1⟩] else
  if n = s_output then [⟨s_release, s_0, 1⟩] else
  if n = s_presentation then [⟨s_destroy, s_0, 1⟩] else
  []
def evtT (n : ByteArray) : List On :=
  if n = s_display then [⟨s_error, s_ou, 1⟩, ⟨s_delete_id, s_u, 1⟩] else
  if n = s_registry then [⟨s_global, s_usu, 1⟩, ⟨s_global_remove, s_u, 1⟩] else
  if n = s_callback then [⟨s_done, s_u, 1⟩] else
  if n = s_toplevel then [⟨s_configure, s_uiiu, 1⟩, ⟨s_close, s_0, 1⟩] else
  if n = s_popup then [⟨s_configure, s_uii, 1⟩, ⟨s_done, s_0, 1⟩] else
  if n = s_seat then [⟨s_selection, s_u, 1⟩] else
  if n = s_pointer then [⟨s_enter, s_uoii, 1⟩, ⟨s_leave, s_uo, 1⟩, ⟨s_motion, s_uii, 1⟩, ⟨s_button, s_uuuu, 1⟩, ⟨s_axis, s_uui, 1⟩, ⟨s_frame, s_0, 1⟩] else
  if n = s_keyboard then [⟨s_enter, s_uo, 1⟩, ⟨s_leave, s_uo, 1⟩, ⟨s_key, s_uuuu, 1⟩, ⟨s_modifiers, s_uuu, 1⟩] else
  if n = s_touch then [⟨s_down, s_uuouii, 1⟩, ⟨s_motion, s_uuii, 1⟩, ⟨s_up, s_uuu, 1⟩] else
  if n = s_output then [⟨s_mode, s_iii, 1⟩, ⟨s_done, s_0, 1⟩] else
  if n = s_presentation then [⟨s_presented, s_uu, 1⟩, ⟨s_discarded, s_0, 1⟩] else
  []

end Go.Proofs.YtcecicmihdcjgaaDoor
