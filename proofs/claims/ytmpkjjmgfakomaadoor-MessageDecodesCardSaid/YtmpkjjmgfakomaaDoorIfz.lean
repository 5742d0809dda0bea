/-
  Names, operations and kinds as the reference of package iface has them.
-/
import Derived.Test.YtmpkjjmgfakomaaDoorHeld
import Derived.Deep.AppendLies
import Derived.Maps.AppendAt
import Derived.Laws.AppendOwnNone
namespace Go.Proofs.YtmpkjjmgfakomaaDoor
open Go.RowKit

abbrev s_0 : ByteArray := ⟨#[]⟩
abbrev s_a : ByteArray := ⟨#[97]⟩
abbrev s_accept_drag : ByteArray := ⟨#[97, 99, 99, 101, 112, 116, 95, 100, 114, 97, 103]⟩
abbrev s_ack_configure : ByteArray := ⟨#[97, 99, 107, 95, 99, 111, 110, 102, 105, 103, 117, 114, 101]⟩
abbrev s_attach : ByteArray := ⟨#[97, 116, 116, 97, 99, 104]⟩
abbrev s_axis : ByteArray := ⟨#[97, 120, 105, 115]⟩
abbrev s_bind : ByteArray := ⟨#[98, 105, 110, 100]⟩
abbrev s_buffer : ByteArray := ⟨#[98, 117, 102, 102, 101, 114]⟩
abbrev s_button : ByteArray := ⟨#[98, 117, 116, 116, 111, 110]⟩
abbrev s_callback : ByteArray := ⟨#[99, 97, 108, 108, 98, 97, 99, 107]⟩
abbrev s_close : ByteArray := ⟨#[99, 108, 111, 115, 101]⟩
abbrev s_commit : ByteArray := ⟨#[99, 111, 109, 109, 105, 116]⟩
abbrev s_configure : ByteArray := ⟨#[99, 111, 110, 102, 105, 103, 117, 114, 101]⟩
abbrev s_create_buffer : ByteArray := ⟨#[99, 114, 101, 97, 116, 101, 95, 98, 117, 102, 102, 101, 114]⟩
abbrev s_create_surface : ByteArray := ⟨#[99, 114, 101, 97, 116, 101, 95, 115, 117, 114, 102, 97, 99, 101]⟩
abbrev s_damage : ByteArray := ⟨#[100, 97, 109, 97, 103, 101]⟩
abbrev s_delete_id : ByteArray := ⟨#[100, 101, 108, 101, 116, 101, 95, 105, 100]⟩
abbrev s_destroy : ByteArray := ⟨#[100, 101, 115, 116, 114, 111, 121]⟩
abbrev s_discarded : ByteArray := ⟨#[100, 105, 115, 99, 97, 114, 100, 101, 100]⟩
abbrev s_display : ByteArray := ⟨#[100, 105, 115, 112, 108, 97, 121]⟩
abbrev s_done : ByteArray := ⟨#[100, 111, 110, 101]⟩
abbrev s_down : ByteArray := ⟨#[100, 111, 119, 110]⟩
abbrev s_enter : ByteArray := ⟨#[101, 110, 116, 101, 114]⟩
abbrev s_error : ByteArray := ⟨#[101, 114, 114, 111, 114]⟩
abbrev s_finish_drag : ByteArray := ⟨#[102, 105, 110, 105, 115, 104, 95, 100, 114, 97, 103]⟩
abbrev s_frame : ByteArray := ⟨#[102, 114, 97, 109, 101]⟩
abbrev s_get_keyboard : ByteArray := ⟨#[103, 101, 116, 95, 107, 101, 121, 98, 111, 97, 114, 100]⟩
abbrev s_get_pointer : ByteArray := ⟨#[103, 101, 116, 95, 112, 111, 105, 110, 116, 101, 114]⟩
abbrev s_get_popup : ByteArray := ⟨#[103, 101, 116, 95, 112, 111, 112, 117, 112]⟩
abbrev s_get_registry : ByteArray := ⟨#[103, 101, 116, 95, 114, 101, 103, 105, 115, 116, 114, 121]⟩
abbrev s_get_subsurface : ByteArray := ⟨#[103, 101, 116, 95, 115, 117, 98, 115, 117, 114, 102, 97, 99, 101]⟩
abbrev s_get_toplevel : ByteArray := ⟨#[103, 101, 116, 95, 116, 111, 112, 108, 101, 118, 101, 108]⟩
abbrev s_get_touch : ByteArray := ⟨#[103, 101, 116, 95, 116, 111, 117, 99, 104]⟩
abbrev s_global : ByteArray := ⟨#[103, 108, 111, 98, 97, 108]⟩
abbrev s_global_remove : ByteArray := ⟨#[103, 108, 111, 98, 97, 108, 95, 114, 101, 109, 111, 118, 101]⟩
abbrev s_i : ByteArray := ⟨#[105]⟩
abbrev s_ii : ByteArray := ⟨#[105, 105]⟩
abbrev s_iii : ByteArray := ⟨#[105, 105, 105]⟩
abbrev s_iiii : ByteArray := ⟨#[105, 105, 105, 105]⟩
abbrev s_key : ByteArray := ⟨#[107, 101, 121]⟩
abbrev s_keyboard : ByteArray := ⟨#[107, 101, 121, 98, 111, 97, 114, 100]⟩
abbrev s_leave : ByteArray := ⟨#[108, 101, 97, 118, 101]⟩
abbrev s_mode : ByteArray := ⟨#[109, 111, 100, 101]⟩
abbrev s_modifiers : ByteArray := ⟨#[109, 111, 100, 105, 102, 105, 101, 114, 115]⟩
abbrev s_motion : ByteArray := ⟨#[109, 111, 116, 105, 111, 110]⟩
abbrev s_n : ByteArray := ⟨#[110]⟩
abbrev s_niiua : ByteArray := ⟨#[110, 105, 105, 117, 97]⟩
abbrev s_no : ByteArray := ⟨#[110, 111]⟩
abbrev s_noiiiiiiuu : ByteArray := ⟨#[110, 111, 105, 105, 105, 105, 105, 105, 117, 117]⟩
abbrev s_o : ByteArray := ⟨#[111]⟩
abbrev s_oosuu : ByteArray := ⟨#[111, 111, 115, 117, 117]⟩
abbrev s_ou : ByteArray := ⟨#[111, 117]⟩
abbrev s_output : ByteArray := ⟨#[111, 117, 116, 112, 117, 116]⟩
abbrev s_place_above : ByteArray := ⟨#[112, 108, 97, 99, 101, 95, 97, 98, 111, 118, 101]⟩
abbrev s_place_below : ByteArray := ⟨#[112, 108, 97, 99, 101, 95, 98, 101, 108, 111, 119]⟩
abbrev s_pointer : ByteArray := ⟨#[112, 111, 105, 110, 116, 101, 114]⟩
abbrev s_popup : ByteArray := ⟨#[112, 111, 112, 117, 112]⟩
abbrev s_presentation : ByteArray := ⟨#[112, 114, 101, 115, 101, 110, 116, 97, 116, 105, 111, 110]⟩
abbrev s_presented : ByteArray := ⟨#[112, 114, 101, 115, 101, 110, 116, 101, 100]⟩
abbrev s_registry : ByteArray := ⟨#[114, 101, 103, 105, 115, 116, 114, 121]⟩
abbrev s_release : ByteArray := ⟨#[114, 101, 108, 101, 97, 115, 101]⟩
abbrev s_s : ByteArray := ⟨#[115]⟩
abbrev s_seat : ByteArray := ⟨#[115, 101, 97, 116]⟩
abbrev s_selection : ByteArray := ⟨#[115, 101, 108, 101, 99, 116, 105, 111, 110]⟩
abbrev s_set_actions : ByteArray := ⟨#[115, 101, 116, 95, 97, 99, 116, 105, 111, 110, 115]⟩
abbrev s_set_desync : ByteArray := ⟨#[115, 101, 116, 95, 100, 101, 115, 121, 110, 99]⟩
abbrev s_set_input : ByteArray := ⟨#[115, 101, 116, 95, 105, 110, 112, 117, 116]⟩
abbrev s_set_opaque : ByteArray := ⟨#[115, 101, 116, 95, 111, 112, 97, 113, 117, 101]⟩
abbrev s_set_position : ByteArray := ⟨#[115, 101, 116, 95, 112, 111, 115, 105, 116, 105, 111, 110]⟩
abbrev s_set_scale : ByteArray := ⟨#[115, 101, 116, 95, 115, 99, 97, 108, 101]⟩
abbrev s_set_selection : ByteArray := ⟨#[115, 101, 116, 95, 115, 101, 108, 101, 99, 116, 105, 111, 110]⟩
abbrev s_set_state : ByteArray := ⟨#[115, 101, 116, 95, 115, 116, 97, 116, 101]⟩
abbrev s_set_sync : ByteArray := ⟨#[115, 101, 116, 95, 115, 121, 110, 99]⟩
abbrev s_set_transform : ByteArray := ⟨#[115, 101, 116, 95, 116, 114, 97, 110, 115, 102, 111, 114, 109]⟩
abbrev s_set_viewport : ByteArray := ⟨#[115, 101, 116, 95, 118, 105, 101, 119, 112, 111, 114, 116]⟩
abbrev s_shell : ByteArray := ⟨#[115, 104, 101, 108, 108]⟩
abbrev s_start_drag : ByteArray := ⟨#[115, 116, 97, 114, 116, 95, 100, 114, 97, 103]⟩
abbrev s_su : ByteArray := ⟨#[115, 117]⟩
abbrev s_subsurface : ByteArray := ⟨#[115, 117, 98, 115, 117, 114, 102, 97, 99, 101]⟩
abbrev s_surface : ByteArray := ⟨#[115, 117, 114, 102, 97, 99, 101]⟩
abbrev s_sync : ByteArray := ⟨#[115, 121, 110, 99]⟩
abbrev s_toplevel : ByteArray := ⟨#[116, 111, 112, 108, 101, 118, 101, 108]⟩
abbrev s_touch : ByteArray := ⟨#[116, 111, 117, 99, 104]⟩
abbrev s_u : ByteArray := ⟨#[117]⟩
abbrev s_ui : ByteArray := ⟨#[117, 105]⟩
abbrev s_uii : ByteArray := ⟨#[117, 105, 105]⟩
abbrev s_uiiu : ByteArray := ⟨#[117, 105, 105, 117]⟩
abbrev s_uo : ByteArray := ⟨#[117, 111]⟩
abbrev s_uoii : ByteArray := ⟨#[117, 111, 105, 105]⟩
abbrev s_up : ByteArray := ⟨#[117, 112]⟩
abbrev s_usu : ByteArray := ⟨#[117, 115, 117]⟩
abbrev s_usun : ByteArray := ⟨#[117, 115, 117, 110]⟩
abbrev s_uu : ByteArray := ⟨#[117, 117]⟩
abbrev s_uui : ByteArray := ⟨#[117, 117, 105]⟩
abbrev s_uuii : ByteArray := ⟨#[117, 117, 105, 105]⟩
abbrev s_uuouii : ByteArray := ⟨#[117, 117, 111, 117, 105, 105]⟩
abbrev s_uuu : ByteArray := ⟨#[117, 117, 117]⟩
abbrev s_uuuu : ByteArray := ⟨#[117, 117, 117, 117]⟩

/-- an operation: its name, its signature, the version since which it exists -/
structure On where
  nm : ByteArray
  sg : ByteArray
  sn : Int

def namT : List ByteArray := [s_display, s_registry, s_callback, s_shell, s_buffer, s_surface, s_subsurface, s_toplevel, s_popup, s_seat, s_pointer, s_keyboard, s_touch, s_output, s_presentation]
def verT (n : ByteArray) : Int :=
  if n = s_display then 1 else
  if n = s_registry then 1 else
  if n = s_callback then 1 else
  if n = s_shell then 2 else
  if n = s_buffer then 1 else
  if n = s_surface then 3 else
  if n = s_subsurface then 1 else
  if n = s_toplevel then 1 else
  if n = s_popup then 1 else
  if n = s_seat then 1 else
  if n = s_pointer then 1 else
  if n = s_keyboard then 1 else
  if n = s_touch then 1 else
  if n = s_output then 1 else
  if n = s_presentation then 1 else
  0
def reqT (n : ByteArray) : List On :=
  if n = s_display then [⟨s_sync, s_n, 1⟩, ⟨s_get_registry, s_n, 1⟩] else
  if n = s_registry then [⟨s_bind, s_usun, 1⟩] else
  if n = s_shell then [⟨s_create_surface, s_n, 1⟩, ⟨s_create_buffer, s_niiua, 1⟩] else
  if n = s_buffer then [⟨s_destroy, s_0, 1⟩] else
  if n = s_surface then [⟨s_destroy, s_0, 1⟩, ⟨s_attach, s_o, 1⟩, ⟨s_damage, s_iiii, 1⟩, ⟨s_frame, s_n, 1⟩, ⟨s_set_opaque, s_a, 1⟩, ⟨s_set_input, s_a, 1⟩, ⟨s_commit, s_0, 1⟩, ⟨s_get_subsurface, s_no, 1⟩, ⟨s_get_toplevel, s_n, 1⟩, ⟨s_get_popup, s_noiiiiiiuu, 1⟩, ⟨s_set_scale, s_i, 2⟩, ⟨s_set_transform, s_i, 2⟩, ⟨s_set_viewport, s_ii, 3⟩] else
  if n = s_subsurface then [⟨s_destroy, s_0, 1⟩, ⟨s_set_position, s_ii, 1⟩, ⟨s_place_above, s_o, 1⟩, ⟨s_place_below, s_o, 1⟩, ⟨s_set_sync, s_0, 1⟩, ⟨s_set_desync, s_0, 1⟩] else
  if n = s_toplevel then [⟨s_destroy, s_0, 1⟩, ⟨s_set_state, s_ui, 1⟩, ⟨s_ack_configure, s_u, 1⟩] else
  if n = s_popup then [⟨s_destroy, s_0, 1⟩, ⟨s_ack_configure, s_u, 1⟩] else
  if n = s_seat then [⟨s_get_pointer, s_n, 1⟩, ⟨s_get_keyboard, s_n, 1⟩, ⟨s_get_touch, s_n, 1⟩, ⟨s_set_selection, s_su, 1⟩, ⟨s_start_drag, s_oosuu, 1⟩, ⟨s_accept_drag, s_s, 1⟩, ⟨s_set_actions, s_uu, 1⟩, ⟨s_finish_drag, s_0, 1⟩] else
  if n = s_pointer then [⟨s_release, s_0, 1⟩] else
  if n = s_keyboard then [⟨s_release, s_0, 1⟩] else
  if n = s_touch then [⟨s_release, s_0, 1⟩] else
  if n = s_output then [⟨s_release, s_0, 1⟩] else
  if n = s_presentation then [⟨s_destroy, s_0, 1⟩] else
  []
def evtT (n : ByteArray) : List On :=
  if n = s_display then [⟨s_error, s_ou, 1⟩, ⟨s_delete_id, s_u, 1⟩] else
  if n = s_registry then [⟨s_global, s_usu, 1⟩, ⟨s_global_remove, s_u, 1⟩] else
  if n = s_callback then [⟨s_done, s_u, 1⟩] else
  if n = s_toplevel then [⟨s_configure, s_uiiu, 1⟩, ⟨s_close, s_0, 1⟩] else
  if n = s_popup then [⟨s_configure, s_uii, 1⟩, ⟨s_done, s_0, 1⟩] else
  if n = s_seat then [⟨s_selection, s_u, 1⟩] else
  if n = s_pointer then [⟨s_enter, s_uoii, 1⟩, ⟨s_leave, s_uo, 1⟩, ⟨s_motion, s_uii, 1⟩, ⟨s_button, s_uuuu, 1⟩, ⟨s_axis, s_uui, 1⟩, ⟨s_frame, s_0, 1⟩] else
  if n = s_keyboard then [⟨s_enter, s_uo, 1⟩, ⟨s_leave, s_uo, 1⟩, ⟨s_key, s_uuuu, 1⟩, ⟨s_modifiers, s_uuu, 1⟩] else
  if n = s_touch then [⟨s_down, s_uuouii, 1⟩, ⟨s_motion, s_uuii, 1⟩, ⟨s_up, s_uuu, 1⟩] else
  if n = s_output then [⟨s_mode, s_iii, 1⟩, ⟨s_done, s_0, 1⟩] else
  if n = s_presentation then [⟨s_presented, s_uu, 1⟩, ⟨s_discarded, s_0, 1⟩] else
  []

end Go.Proofs.YtmpkjjmgfakomaaDoor

namespace Go.Proofs.YtmpkjjmgfakomaaDoor
open Go.RowKit

def cellsO (l : List On) : List Value := l.flatMap fun o => [.string o.nm, .string o.sg, .int .i64 o.sn]

/-- the slice value v holds the operations l -/
def Opns (W : World) (v : Value) (l : List On) : Prop :=
  ∃ (A : Option Addr) (cap : Nat), v = .slice A l.length cap ∧ l.length ≤ cap ∧ cap ≤ maxLen ∧
    (0 < l.length → ∃ b off, A = some ⟨b, off, none⟩ ∧ b < W.heap.size ∧ ∀ (j : Nat) (o : On), l[j]? = some o → W.cell? ⟨b, off + j * 3, none⟩ = some (.string o.nm) ∧ W.cell? ⟨b, off + j * 3 + 1, none⟩ = some (.string o.sg) ∧ W.cell? ⟨b, off + j * 3 + 2, none⟩ = some (.int .i64 o.sn))

theorem Opns.below {w w' : World} {v : Value} {l : List On} (h : Opns w v l) (hb : Below w.heap.size w w') : Opns w' v l := by
  obtain ⟨A, cap, hv, h1, h2, h4⟩ := h
  refine ⟨A, cap, hv, h1, h2, fun hn => ?_⟩
  obtain ⟨b, off, hA, hlt, hc⟩ := h4 hn
  refine ⟨b, off, hA, Nat.lt_of_lt_of_le hlt hb.size, fun j o ho => ?_⟩
  rw [hb.cell (p := ⟨b, off + j * 3, none⟩) hlt, hb.cell (p := ⟨b, off + j * 3 + 1, none⟩) hlt, hb.cell (p := ⟨b, off + j * 3 + 2, none⟩) hlt]
  exact hc j o ho

theorem opns_nil (w : World) : Opns w (.slice none 0 0) [] := ⟨none, 0, rfl, Nat.le_refl _, by simp [maxLen], fun h => by simp at h⟩

theorem cellsO_at {l : List On} {j : Nat} {o : On} (h : l[j]? = some o) : (cellsO l)[j * 3]? = some (.string o.nm) ∧ (cellsO l)[j * 3 + 1]? = some (.string o.sg) ∧ (cellsO l)[j * 3 + 2]? = some (.int .i64 o.sn) := by
  induction l generalizing j with
  | nil => simp at h
  | cons a l ih =>
    cases j with
    | zero =>
      simp only [List.getElem?_cons_zero, Option.some.injEq] at h
      subst h
      exact ⟨rfl, rfl, rfl⟩
    | succ j =>
      simp only [List.getElem?_cons_succ] at h
      obtain ⟨h0, h1, h2⟩ := ih h
      have e : cellsO (a :: l) = .string a.nm :: .string a.sg :: .int .i64 a.sn :: cellsO l := rfl
      have e0 : (j + 1) * 3 = j * 3 + 3 := by omega
      rw [e, e0]
      exact ⟨h0, h1, h2⟩

/-- a block just made that holds the operations l -/
theorem opns_new (w : World) (l : List On) (hl : l.length ≤ 1000) (t : TypeId) : Opns (w.alloc (.cells (cellsO l).toArray t)) (.slice (some ⟨w.heap.size, 0, none⟩) l.length l.length) l := by
  refine ⟨_, l.length, rfl, Nat.le_refl _, by simp only [maxLen]; omega, fun _ => ⟨w.heap.size, 0, rfl, by simp, fun j o ho => ?_⟩⟩
  obtain ⟨h0, h1, h2⟩ := cellsO_at ho
  rw [Nat.zero_add]
  refine ⟨?_, ?_, ?_⟩
  · rw [World.cell?_alloc_at _ _ _ _ rfl]
    simpa using h0
  · rw [World.cell?_alloc_at _ _ _ _ rfl]
    simpa using h1
  · rw [World.cell?_alloc_at _ _ _ _ rfl]
    simpa using h2

theorem toList_data (s : ByteArray) : s.toList = s.data.toList := by
  obtain ⟨⟨l⟩⟩ := s
  exact ByteArray.toList_mk l

/-- strings that differ, as the walk compares them -/
theorem str_ne {a b : ByteArray} (h : ¬ a = b) : (a.toList == b.toList) = false := by
  rw [beq_eq_false_iff_ne, toList_data, toList_data]
  intro e
  apply h
  obtain ⟨⟨x⟩⟩ := a
  obtain ⟨⟨y⟩⟩ := b
  simp at e
  rw [e]

/-- a list of operations, with nothing older turned -/
def GivesO (l : List On) (w : World) (e : Ending) (w' : World) : Prop := ∃ v, e = .returned v ∧ Opns w' v l ∧ Below w.heap.size w w'

end Go.Proofs.YtmpkjjmgfakomaaDoor

namespace Go.Proofs.YtmpkjjmgfakomaaDoor
open Go.RowKit

end Go.Proofs.YtmpkjjmgfakomaaDoor

namespace Go.Proofs.YtmpkjjmgfakomaaDoor
open Go.RowKit

end Go.Proofs.YtmpkjjmgfakomaaDoor

namespace Go.Proofs.YtmpkjjmgfakomaaDoor
open Go.RowKit

/-- the letters of signatures, in the order of their kinds -/
def ltrs : List Nat := [105, 117, 102, 115, 111, 110, 97]
def kindN (c : Nat) : Nat := if c = 105 then 1 else if c = 117 then 2 else if c = 102 then 3 else if c = 115 then 4 else if c = 111 then 5 else if c = 110 then 6 else if c = 97 then 7 else 0

theorem kind_hit (i c : Nat) (hi : i < 7) (h : ltrs.getD i 0 = c) : kindN c = i + 1 := by
  have e : i = 0 ∨ i = 1 ∨ i = 2 ∨ i = 3 ∨ i = 4 ∨ i = 5 ∨ i = 6 := by omega
  rcases e with rfl | rfl | rfl | rfl | rfl | rfl | rfl <;> subst h <;> rfl
theorem kind_miss (c : Nat) (h : ∀ j, j < 7 → ltrs.getD j 0 ≠ c) : kindN c = 0 := by
  have h0 := h 0 (by omega)
  have h1 := h 1 (by omega)
  have h2 := h 2 (by omega)
  have h3 := h 3 (by omega)
  have h4 := h 4 (by omega)
  have h5 := h 5 (by omega)
  have h6 := h 6 (by omega)
  simp only [ltrs, List.getD_cons_zero, List.getD_cons_succ] at h0 h1 h2 h3 h4 h5 h6
  unfold kindN
  rw [if_neg (Ne.symm h0), if_neg (Ne.symm h1), if_neg (Ne.symm h2), if_neg (Ne.symm h3), if_neg (Ne.symm h4), if_neg (Ne.symm h5), if_neg (Ne.symm h6)]

set_option maxRecDepth 100000 in
theorem index_ltrs (i : Nat) (hi : i < 7) (W : World) : (Instr.index 9 (.string ⟨#[105, 117, 102, 115, 111, 110, 97]⟩) (.int .i64 (i : Int))).run Tryd.prog W = .ok (.int .u8 ((ltrs.getD i 0 : Nat) : Int)) W := by
  have e : i = 0 ∨ i = 1 ∨ i = 2 ∨ i = 3 ∨ i = 4 ∨ i = 5 ∨ i = 6 := by omega
  rcases e with rfl | rfl | rfl | rfl | rfl | rfl | rfl
  all_goals
    simp [Instr.index, go_sem, ltrs]
    try rfl

/-- the i-th interface -/
def nmI (i : Nat) : ByteArray := namT.getD i ⟨#[]⟩

theorem nmI_cell (w : World) (i : Nat) (hi : i < 15) : (w.alloc (.cells (namT.map Value.string).toArray 9)).cell? ⟨w.heap.size, i, none⟩ = some (.string (nmI i)) := by
  rw [World.cell?_alloc_at _ _ _ _ rfl]
  have hl : i < namT.length := hi
  simp [nmI, hl]

theorem ver_hit (i : Nat) (hi : i < 15) : verT (nmI i) = if nmI i = s_shell then 2 else if nmI i = s_surface then 3 else 1 := by
  have e : i = 0 ∨ i = 1 ∨ i = 2 ∨ i = 3 ∨ i = 4 ∨ i = 5 ∨ i = 6 ∨ i = 7 ∨ i = 8 ∨ i = 9 ∨ i = 10 ∨ i = 11 ∨ i = 12 ∨ i = 13 ∨ i = 14 := by omega
  rcases e with rfl | rfl | rfl | rfl | rfl | rfl | rfl | rfl | rfl | rfl | rfl | rfl | rfl | rfl | rfl <;> rfl

theorem ver_miss (n : ByteArray) (h : ∀ j, j < 15 → nmI j ≠ n) : verT n = 0 := by
  have q0 : ¬ n = s_display := Ne.symm (h 0 (by omega))
  have q1 : ¬ n = s_registry := Ne.symm (h 1 (by omega))
  have q2 : ¬ n = s_callback := Ne.symm (h 2 (by omega))
  have q3 : ¬ n = s_shell := Ne.symm (h 3 (by omega))
  have q4 : ¬ n = s_buffer := Ne.symm (h 4 (by omega))
  have q5 : ¬ n = s_surface := Ne.symm (h 5 (by omega))
  have q6 : ¬ n = s_subsurface := Ne.symm (h 6 (by omega))
  have q7 : ¬ n = s_toplevel := Ne.symm (h 7 (by omega))
  have q8 : ¬ n = s_popup := Ne.symm (h 8 (by omega))
  have q9 : ¬ n = s_seat := Ne.symm (h 9 (by omega))
  have q10 : ¬ n = s_pointer := Ne.symm (h 10 (by omega))
  have q11 : ¬ n = s_keyboard := Ne.symm (h 11 (by omega))
  have q12 : ¬ n = s_touch := Ne.symm (h 12 (by omega))
  have q13 : ¬ n = s_output := Ne.symm (h 13 (by omega))
  have q14 : ¬ n = s_presentation := Ne.symm (h 14 (by omega))
  unfold verT
  rw [if_neg q0, if_neg q1, if_neg q2, if_neg q3, if_neg q4, if_neg q5, if_neg q6, if_neg q7, if_neg q8, if_neg q9, if_neg q10, if_neg q11, if_neg q12, if_neg q13, if_neg q14]

end Go.Proofs.YtmpkjjmgfakomaaDoor

namespace Go.Proofs.YtmpkjjmgfakomaaDoor
open Go.RowKit

/-- the index of an operation's name from index k on -/
def opcF : List On → ByteArray → Nat → Int × Bool
  | [], _, _ => (0, false)
  | x :: l, o, k => if x.nm = o then (k, true) else opcF l o (k + 1)

theorem le_ite {c : Prop} [Decidable c] {a b : List On} (ha : a.length ≤ 13) (hb : b.length ≤ 13) : (if c then a else b).length ≤ 13 := by
  by_cases h : c
  · rw [if_pos h]
    exact ha
  · rw [if_neg h]
    exact hb
theorem reqT_len (n : ByteArray) : (reqT n).length ≤ 13 := by
  unfold reqT
  repeat refine le_ite (by decide) ?_
  decide
theorem evtT_len (n : ByteArray) : (evtT n).length ≤ 13 := by
  unfold evtT
  repeat refine le_ite (by decide) ?_
  decide

theorem drop_at {l : List On} {i : Nat} {x : On} (h : l[i]? = some x) : l.drop i = x :: l.drop (i + 1) := by
  obtain ⟨hl, rfl⟩ := List.getElem?_eq_some_iff.1 h
  exact List.drop_eq_getElem_cons hl

/-- what pick answers: the operation, the error -/
def pickT (n : ByteArray) (l : List On) (k v : Int) : On × Int :=
  if verT n = 0 then (⟨s_0, s_0, 0⟩, 8) else if k < 0 ∨ (l.length : Int) ≤ k then (⟨s_0, s_0, 0⟩, 10) else
    if v < (l.getD k.toNat ⟨s_0, s_0, 0⟩).sn then (⟨s_0, s_0, 0⟩, 11) else (l.getD k.toNat ⟨s_0, s_0, 0⟩, 0)

/-- a pair of an operation and an error, with nothing older turned -/
def GivesP (x : On × Int) (w : World) (e : Ending) (w' : World) : Prop :=
  e = .returned (.tuple #[.agg #[.string x.1.nm, .string x.1.sg, .int .i64 x.1.sn], .int .i64 x.2]) ∧ Below w.heap.size w w'

/-- the operation at an index, in a world that has kept what is older -/
theorem opns_at {w W : World} {A : Option Addr} {n cap : Nat} {l : List On} (h : Opns w (.slice A n cap) l) (hb : Below w.heap.size w W) {j : Nat} {o : On} (ho : l[j]? = some o) :
    ∃ b off, A = some ⟨b, off, none⟩ ∧ b < w.heap.size ∧ W.cell? ⟨b, off + j * 3, none⟩ = some (.string o.nm) ∧ W.cell? ⟨b, off + j * 3 + 1, none⟩ = some (.string o.sg) ∧ W.cell? ⟨b, off + j * 3 + 2, none⟩ = some (.int .i64 o.sn) := by
  obtain ⟨A', cap', hv, h1, h2, h4⟩ := h.below hb
  have hl : 0 < l.length := by
    obtain ⟨h, -⟩ := List.getElem?_eq_some_iff.1 ho
    omega
  simp only [Value.slice.injEq] at hv
  obtain ⟨rfl, -, -⟩ := hv
  obtain ⟨b, off, hA, hlt, hc⟩ := h4 hl
  obtain ⟨_, _, hv, _, _, h5⟩ := h
  simp only [Value.slice.injEq] at hv
  obtain ⟨rfl, -, -⟩ := hv
  obtain ⟨b', off', hA', hlt', -⟩ := h5 hl
  rw [hA] at hA'
  simp only [Option.some.injEq, Addr.mk.injEq] at hA'
  obtain ⟨rfl, rfl, -⟩ := hA'
  exact ⟨b, off, hA, hlt', hc j o ho⟩

/-- a signature: its bytes -/
def sigT (s : ByteArray) : Bool := decide (s.size ≤ 16) && s.data.toList.all fun c => kindN c.toNat != 0

theorem kindN_le (c : Nat) : kindN c ≤ 7 := by
  unfold kindN
  repeat' split
  all_goals omega

def sigF : List UInt8 → Bool
  | [] => true
  | c :: l => if kindN c.toNat = 0 then false else sigF l

theorem sigF_all (l : List UInt8) : sigF l = l.all fun c => kindN c.toNat != 0 := by
  induction l with
  | nil => rfl
  | cons c l ih =>
    unfold sigF
    by_cases h : kindN c.toNat = 0 <;> simp [h, ih]

theorem sizeL_eq (s : ByteArray) : s.size = s.data.toList.length := by rw [Array.length_toList]; rfl
theorem drop_byte (s : ByteArray) (k : Nat) (h : k < s.size) : s.data.toList.drop k = s[k] :: s.data.toList.drop (k + 1) := by
  have e : s.data.toList[k]? = some s[k] := by
    have h2 : k < s.data.toList.length := by rw [← sizeL_eq]; exact h
    rw [List.getElem?_eq_getElem h2]
    rfl
  obtain ⟨hl, e2⟩ := List.getElem?_eq_some_iff.1 e
  rw [List.drop_eq_getElem_cons hl, e2]

end Go.Proofs.YtmpkjjmgfakomaaDoor

namespace Go.Proofs.YtmpkjjmgfakomaaDoor
open Go.RowKit

theorem addI_at (b off j : Nat) : (⟨b, off, none⟩ : Addr).add j = ⟨b, off + j, none⟩ := by unfold Addr.add; split <;> simp_all
theorem infoI_parts {P : Program} {t : TypeId} {z : Option Value} {s b : Nat} (h : (P.info? t).map (fun i => (i.zero, i.size, i.bytes)) = some (z, s, b)) : ∃ i, P.info? t = some i ∧ i.zero = z ∧ i.size = s ∧ i.bytes = b := by
  cases he : P.info? t with
  | none => rw [he] at h; cases h
  | some i =>
    rw [he] at h
    simp only [Option.map_some, Option.some.injEq, Prod.mk.injEq] at h
    exact ⟨i, rfl, h.1, h.2.1, h.2.2⟩

theorem appendI_nil_run {P : Program} {w : World} {base : Nat} {t ty e : TypeId} {i : TypeInfo} {size : Nat} (ht : P.underlying t = some (.slice e)) (hi : P.info? e = some i)
    {v : Value} {n : Nat} {xs : List Value} (hown : w.ownsRow base e size v n xs) (c : Nat) : (Builtin.append_ #[t, t] ty #[v, .slice none 0 c]).run P w = .ok v w := by
  rcases hown.2 with ⟨rfl, rfl⟩ | ⟨g, cap, cur, rfl, _, _, hnc, _⟩
  · simp [Builtin.append_, run_underlying ht, sizeOf, typeInfo, hi, Builtin.lenOf, Builtin.firstCells]
  · simp [Builtin.append_, run_underlying ht, sizeOf, typeInfo, hi, Builtin.lenOf, Builtin.firstCells, hnc, storeCells]

set_option maxRecDepth 100000 in
theorem i64_info : (Tryd.prog.info? 3).map (fun i => (i.zero, i.size, i.bytes)) = some (some (.int .i64 0), 1, 8) := by kernel_rfl

abbrev ils (l : List Nat) : List Value := l.map (fun x : Nat => Value.int .i64 (x : Int))

/-- block b is a row of cells of type e -/
def TyAI (w : World) (b : Nat) (e : TypeId) : Prop := ∃ c f, w.heap[b]? = some (.cells c e f)
theorem TyAI.lt {w : World} {b : Nat} {e : TypeId} (h : TyAI w b e) : b < w.heap.size := by
  obtain ⟨c, f, h⟩ := h
  exact (Array.getElem?_eq_some_iff.1 h).1
theorem TyAI.below {w w' : World} {b : Nat} {e : TypeId} (h : TyAI w b e) (hb : Below w.heap.size w w') : TyAI w' b e := by
  have hl := h.lt
  obtain ⟨c, f, h⟩ := h
  exact ⟨c, f, (hb.block b hl).trans h⟩

/-- the slice value v holds the numbers l -/
def Is (w : World) (v : Value) (l : List Nat) : Prop :=
  ∃ (A : Option Addr) (cap : Nat), v = .slice A l.length cap ∧ l.length ≤ cap ∧ cap ≤ maxLen ∧
    (0 < l.length → ∃ b off, A = some ⟨b, off, none⟩ ∧ TyAI w b 3 ∧ ∀ (j : Nat) (x : Nat), l[j]? = some x → w.cell? ⟨b, off + j, none⟩ = some (.int .i64 (x : Int)))

theorem Is.below {w w' : World} {v : Value} {l : List Nat} (h : Is w v l) (hb : Below w.heap.size w w') : Is w' v l := by
  obtain ⟨A, cap, hv, h1, h2, h4⟩ := h
  refine ⟨A, cap, hv, h1, h2, fun hn => ?_⟩
  obtain ⟨b, off, hA, hlt, hc⟩ := h4 hn
  refine ⟨b, off, hA, hlt.below hb, fun j t ht => ?_⟩
  rw [hb.cell (p := ⟨b, off + j, none⟩) hlt.lt]
  exact hc j t ht

theorem is_nil (w : World) : Is w (.slice none 0 0) [] := ⟨none, 0, rfl, Nat.le_refl _, by simp [maxLen], fun h => by simp at h⟩

/-- the value v owns a row of the numbers l, in a block from base on -/
def OwnI (w : World) (base : Nat) (v : Value) (l : List Nat) : Prop := w.ownsRow base 3 1 v l.length (ils l)

theorem ownI_nil (w : World) (base : Nat) : OwnI w base (.slice none 0 0) [] := World.ownsRow_nil w base 3 1

theorem OwnI.is {w : World} {base : Nat} {v : Value} {l : List Nat} (h : OwnI w base v l) : Is w v l := by
  have hall := h
  obtain ⟨_, hc⟩ := h
  rcases hc with ⟨rfl, h0⟩ | ⟨g, cap, cur, rfl, _, hh, hn, hm, _⟩
  · have : l = [] := List.eq_nil_of_length_eq_zero h0
    subst this
    exact is_nil w
  · refine ⟨_, cap, rfl, hn, hm, fun _ => ⟨g, 0, rfl, ⟨_, _, hh⟩, fun j p hj => ?_⟩⟩
    have hjl := (List.getElem?_eq_some_iff.1 hj).1
    rw [Nat.zero_add, hall.cellAt j (by omega)]
    simp [ils, hj]

theorem OwnI.below {w w' : World} {base : Nat} {v : Value} {l : List Nat} (h : OwnI w base v l) (hb : Below w.heap.size w w') : OwnI w' base v l := World.ownsRow.kept (row := none) h ⟨hb.os, hb.tape, hb.output, hb.size, fun k hk _ => hb.block k hk⟩ (by cases v.ownBlock <;> simp)

theorem oneCell_ils (l : List Nat) : ∀ u ∈ ils l, u.oneCell' = true := by
  intro u hu
  obtain ⟨p, _, rfl⟩ := List.mem_map.1 hu
  rfl

theorem ils_cells {w : World} {b off : Nat} {l : List Nat} (h : ∀ (j : Nat) (x : Nat), l[j]? = some x → w.cell? ⟨b, off + j, none⟩ = some (.int .i64 (x : Int))) :
    ∀ j u, (ils l)[j]? = some u → w.cell? ((⟨b, off, none⟩ : Addr).add j) = some u := by
  intro j u hu
  rw [addI_at]
  simp only [ils, List.getElem?_map, Option.map_eq_some_iff] at hu
  obtain ⟨x, hx, rfl⟩ := hu
  exact h j x hx

theorem ils_append (l m : List Nat) : ils (l ++ m) = ils l ++ ils m := List.map_append
theorem ils_length (l : List Nat) : (ils l).length = l.length * 1 := by simp [ils]

set_option maxRecDepth 100000 in
theorem appendI_run {w : World} {base : Nat} {v : Value} {l m : List Nat} (hown : OwnI w base v l) {A : Option Addr} {k c : Nat} (hsee : Is w (.slice A k c) m) (hb : l.length + m.length ≤ 4000000) (hbase : base ≤ w.heap.size) (ty : TypeId) :
    ∃ v' w', (Builtin.append_ #[52, 52] ty #[v, .slice A k c]).run Tryd.prog w = .ok v' w' ∧ OwnI w' base v' (l ++ m) ∧ w.grownBy w' v.ownBlock ∧ (v'.ownBlock = v.ownBlock ∨ v'.ownBlock = some w.heap.size) ∧ (v' = .slice none 0 0 ↔ v = .slice none 0 0 ∧ m.length = 0) := by
  obtain ⟨i, hi, hz, hsz, hby⟩ := infoI_parts i64_info
  obtain ⟨A', c', hv, hc1, hc2, hcells⟩ := hsee
  injection hv with e1 e2 e3
  subst e1 e2 e3
  by_cases h0 : m.length = 0
  · have : m = [] := List.eq_nil_of_length_eq_zero h0
    subst this
    cases A with
    | none =>
      have hn := appendI_nil_run (ty := ty) Tryd.underlying52 hi hown c
      exact ⟨v, w, hn, by rw [List.append_nil]; exact hown, World.grownBy.refl w _, .inl rfl, by simp⟩
    | some a =>
      obtain ⟨v', w', hrun, h2, h3, h4, h5⟩ := run_append_own_at (P := Tryd.prog) w base 52 ty 3 i _ 1 8 Tryd.underlying52 hi hz hsz hby rfl (by decide) v l.length (ils l) hown a 0 c [] rfl (by simp) (by simp) (by simp only [maxLen]; simp at hb; omega) (by simp at hb ⊢; omega) hbase
      exact ⟨v', w', hrun, by unfold OwnI; simpa using h2, h3, h5, by simpa using h4⟩
  · obtain ⟨b, off, rfl, _, hc⟩ := hcells (by omega)
    obtain ⟨v', w', hrun, h2, h3, h4, h5⟩ := run_append_own_at (P := Tryd.prog) w base 52 ty 3 i _ 1 8 Tryd.underlying52 hi hz hsz hby rfl (by decide) v l.length (ils l) hown ⟨b, off, none⟩ m.length c (ils m) (ils_length m) (ils_cells hc) (oneCell_ils m) (by simp only [maxLen]; omega) (by omega) hbase
    exact ⟨v', w', hrun, by unfold OwnI; rw [ils_append, List.length_append]; exact h2, h3, h5, h4⟩

set_option maxRecDepth 100000 in
/-- append onto a row of one's own, for the walk -/
theorem wpList_appI {w : World} {ops : Array Oper} {rest : List Oper} {o : Oper} {a : Act} {Q : Exit → Act → World → Prop} (hgd : o.guard = none) (s x : Operand)
    (ho : o.op = .call { callee := .builtin .append, args := #[s, x], argTypes := #[52, 52] })
    {base : Nat} {v : Value} {l m : List Nat} (hs : a.eval s = v) (hown : OwnI w base v l) {A : Option Addr} {k c : Nat} (hx : a.eval x = .slice A k c) (hsee : Is w (.slice A k c) m)
    (hb : l.length + m.length ≤ 4000000) (hbase : base ≤ w.heap.size)
    (h : ∀ v' w', OwnI w' base v' (l ++ m) → w.grownBy w' v.ownBlock → (v'.ownBlock = v.ownBlock ∨ v'.ownBlock = some w.heap.size) → (v' = .slice none 0 0 ↔ v = .slice none 0 0 ∧ m.length = 0) → wpList Tryd.prog ops Q rest (a.put o.dst v') w') : wpList Tryd.prog ops Q (o :: rest) a w := by
  refine wpList_plain hgd fun K hK => ?_
  obtain ⟨v', w', hrun, h2, h3, h4, h5⟩ := appendI_run hown hsee hb hbase o.type
  unfold Oper.wp execOp
  simp only [ho, resolve, invoke, builtin, Sem.run_bind, Sem.run_pure, Result.andThen_ok, List.map_toArray, List.map_cons, List.map_nil, hs, hx, hrun]
  exact hK _ _ (h v' w' h2 h3 h4 h5)

set_option maxRecDepth 100000 in
/-- the same at a step of a region that draws its order -/
theorem step_appI {w : World} {ops : Array Oper} {o : Oper} {a : Act} {K : Act → World → Prop} {Q : Exit → Act → World → Prop} {D : Prop} (hgd : o.guard = none) (s x : Operand)
    (ho : o.op = .call { callee := .builtin .append, args := #[s, x], argTypes := #[52, 52] })
    {base : Nat} {v : Value} {l m : List Nat} (hs : a.eval s = v) (hown : OwnI w base v l) {A : Option Addr} {k c : Nat} (hx : a.eval x = .slice A k c) (hsee : Is w (.slice A k c) m)
    (hb : l.length + m.length ≤ 4000000) (hbase : base ≤ w.heap.size)
    (h : ∀ v' w', OwnI w' base v' (l ++ m) → w.grownBy w' v.ownBlock → (v'.ownBlock = v.ownBlock ∨ v'.ownBlock = some w.heap.size) → (v' = .slice none 0 0 ↔ v = .slice none 0 0 ∧ m.length = 0) → K (a.put o.dst v') w') :
    if Region.wanted o (yielded ops a.tmps) = true then Oper.wp Tryd.prog o a w K Q else D := by
  have hw : Region.wanted o (yielded ops a.tmps) = true := by simp [Region.wanted, hgd]
  rw [if_pos hw]
  obtain ⟨v', w', hrun, h2, h3, h4, h5⟩ := appendI_run hown hsee hb hbase o.type
  unfold Oper.wp execOp
  simp only [ho, resolve, invoke, builtin, Sem.run_bind, Sem.run_pure, Result.andThen_ok, List.map_toArray, List.map_cons, List.map_nil, hs, hx, hrun]
  exact h v' w' h2 h3 h4 h5

theorem is_one (w : World) (x : Nat) : Is (w.alloc (.cells #[.int .i64 (x : Int)] 3)) (.slice (some ⟨w.heap.size, 0, none⟩) 1 1) [x] := by
  refine ⟨_, 1, rfl, Nat.le_refl _, by simp [maxLen], fun _ => ⟨w.heap.size, 0, rfl, ⟨#[.int .i64 (x : Int)], (0, 0), (MapKept.heap_alloc w _).1⟩, fun j q hj => ?_⟩⟩
  match j, hj with
  | 0, hj => simp only [List.getElem?_cons_zero, Option.some.injEq] at hj; subst hj; rw [World.cell?_alloc_at _ _ _ _ rfl]; rfl

/-- a row of one's own was appended to -/
theorem below_grownI {w W W' : World} {v : Value} {L : List Nat} (h : Below w.heap.size w W) (hg : W.grownBy W' v.ownBlock) (ho : OwnI W w.heap.size v L) : Below w.heap.size w W' := by
  have hk := World.ownsRow.lt ho
  exact h.grown hg h.size (fun k e => (hk k e).1)
theorem Is.shape {w : World} {v : Value} {l : List Nat} (h : Is w v l) : ∃ A cap, v = .slice A l.length cap ∧ l.length ≤ cap ∧ cap ≤ maxLen := by
  obtain ⟨A, cap, hv, h1, h2, _⟩ := h
  exact ⟨A, cap, hv, h1, h2⟩

end Go.Proofs.YtmpkjjmgfakomaaDoor

namespace Go.Proofs.YtmpkjjmgfakomaaDoor
open Go.RowKit

def kdsT (l : List UInt8) : List Nat := l.map fun c => kindN c.toNat

theorem kds_step (s : ByteArray) (i : Nat) (h : i < s.size) : kdsT (s.data.toList.take (i + 1)) = kdsT (s.data.toList.take i) ++ [kindN s[i].toNat] := by
  have e : s.data.toList[i]? = some s[i] := by
    have h2 : i < s.data.toList.length := by rw [← sizeL_eq]; exact h
    rw [List.getElem?_eq_getElem h2]
    rfl
  unfold kdsT
  rw [List.take_add_one, e, List.map_append]
  rfl
theorem kds_le (s : ByteArray) (i : Nat) : (kdsT (s.data.toList.take i)).length ≤ s.size := by
  unfold kdsT
  rw [List.length_map, List.length_take, sizeL_eq]
  omega

end Go.Proofs.YtmpkjjmgfakomaaDoor
