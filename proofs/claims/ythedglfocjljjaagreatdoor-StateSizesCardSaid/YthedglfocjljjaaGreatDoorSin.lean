/-
  The reference's state: Initial.
-/
import Derived.Test.YthedglfocjljjaaGreatDoorSrh
namespace Go.Proofs.YthedglfocjljjaaGreatDoor
open Go.RowKit

theorem st_init (W : World) (s : St) (h : s.bf = [] ∧ s.dm = [] ∧ s.op = [] ∧ s.ip = [] ∧ s.cb = []) : StAt W s [] (.slice none 0 0) (.slice none 0 0) (.slice none 0 0) (.slice none 0 0) (.slice none 0 0) := by
  obtain ⟨h1, h2, h3, h4, h5⟩ := h
  exact ⟨sn_nil W 3, (fun p hp => by cases hp), by rw [h1]; rfl, by rw [h2]; exact sn_nil W 4, by rw [h3]; exact sn_nil W 4, by rw [h4]; exact sn_nil W 4, by rw [h5]; exact sn_nil W 1⟩
set_option maxRecDepth 100000 in
theorem rinit_any (w : World) : Calls Tryz.prog 16 #[] w fun e w' => e = .returned (stV initS (.slice none 0 0) (.slice none 0 0) (.slice none 0 0) (.slice none 0 0) (.slice none 0 0)) ∧ Below w.heap.size w w' := by
  have J := Lib.hid ((HO.nil w).alloc (stC initS (.slice none 0 0) (.slice none 0 0) (.slice none 0 0) (.slice none 0 0) (.slice none 0 0)) 28)
  go_enter Tryz.func16, Tryz.ntmps16
  go_wp2_with fail
  exact bodyPost_ret (v := stV initS (.slice none 0 0) (.slice none 0 0) (.slice none 0 0) (.slice none 0 0) (.slice none 0 0)) (by simp [results, Tryz.results16, go_sem, initS, zeroS]) rfl ⟨rfl, J.out.below⟩

end Go.Proofs.YthedglfocjljjaaGreatDoor
