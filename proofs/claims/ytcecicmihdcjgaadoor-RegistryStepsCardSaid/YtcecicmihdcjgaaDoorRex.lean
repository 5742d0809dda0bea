/-
  The chapter's examples, over the contracts of the registry's functions.
-/
import Derived.Test.YtcecicmihdcjgaaDoorPrk
namespace Go.Proofs.YtcecicmihdcjgaaDoor
open Go.RowKit

theorem first_any (w : World) : Calls Tryd.prog 24 #[] w fun e w' => e = .returned (.string s_display) ∧ Below w.heap.size w w' := by
  have N := fun W => Lib.hid (names_any W)
  have z0 : (w.alloc (.cells (namT.map Value.string).toArray 9)).cell? ⟨w.heap.size, 0, none⟩ = some (.string s_display) := nmI_cell w 0 (by omega)
  have hb := Lib.hid ((Below.refl w.heap.size w).alloc (Nat.le_refl _) (.cells (namT.map Value.string).toArray 9))
  go_enter Tryd.func24, Tryd.ntmps24
  go_wp2_with fail
  refine (N _).out.mono ?_
  rintro e w1 ⟨rfl, rfl⟩
  clear N
  go_wp2_with fail
  go_ret
  exact ⟨rfl, hb.out⟩
deriving instance DecidableEq for Gl
def e_l1 : List Gl := [⟨1, s_display, 1⟩]
def e_l2 : List Gl := [⟨1, s_display, 1⟩, ⟨1, s_display, 0⟩]
def e_no : ByteArray := ⟨#[110, 111, 32, 115, 117, 99, 104, 32, 105, 110, 116, 101, 114, 102, 97, 99, 101]⟩
theorem ex_add1 : addF [] s_display 1 = (e_l1, 1, 0) := by decide
theorem ex_rem1 : remF e_l1 1 = (e_l2, 0) := by decide
theorem ex_add2 : addF e_l2 e_no 0 = (e_l2, 0, 8) := by decide
theorem ex_add3 : addF e_l2 s_display 0 = (e_l2, 0, 11) := by decide
theorem ex_list : listF e_l2 = [] := by decide
theorem ex_bind : bindF e_l2 1 s_display 1 = 0 := by decide
theorem ex_rem2 : remF e_l2 1 = (e_l2, 8) := by decide

section
variable {T : World → Prop} {R : World → World → Value → List Gl → (Nat → Prop) → Prop}
set_option maxRecDepth 100000 in
set_option maxHeartbeats 4000000 in
theorem ex_any (K : PR T R) {w : World} (hT : T w) : Calls Tryd.prog 9 #[] w (SaysB true w) := by
  have HT := Lib.hid hT
  have F := fun W => Lib.hid (first_any W)
  have NW := fun (W : World) (hb : Below w.heap.size w W) => Lib.hid (K.new (w0 := w) (K.below HT.out hb) hb)
  have A1 := fun (W : World) (hb : Below w.heap.size w W) rv S (hr : R w W rv [] S) => Lib.hid (K.add (K.below HT.out hb) hr (by simp) s_display 1)
  have M1 := fun (W : World) (hb : Below w.heap.size w W) rv S (hr : R w W rv e_l1 S) => Lib.hid (K.rem (K.below HT.out hb) hr (by simp [e_l1]) 1 (by omega))
  have A2 := fun (W : World) (hb : Below w.heap.size w W) rv S (hr : R w W rv e_l2 S) => Lib.hid (K.add (K.below HT.out hb) hr (by simp [e_l2]) e_no 0)
  have A3 := fun (W : World) (hb : Below w.heap.size w W) rv S (hr : R w W rv e_l2 S) => Lib.hid (K.add (K.below HT.out hb) hr (by simp [e_l2]) s_display 0)
  have LS := fun (W : World) (hb : Below w.heap.size w W) rv S (hr : R w W rv e_l2 S) => Lib.hid (K.list (K.below HT.out hb) hr (by simp [e_l2]))
  have LG := fun (W : World) (hb : Below w.heap.size w W) rv S (hr : R w W rv e_l2 S) => Lib.hid (K.log (K.below HT.out hb) hr (by simp [e_l2]))
  have BD := fun (W : World) (hb : Below w.heap.size w W) rv S (hr : R w W rv e_l2 S) => Lib.hid (K.bind (K.below HT.out hb) hr (by simp [e_l2]) 1 (by omega) s_display 1)
  have M2 := fun (W : World) (hb : Below w.heap.size w W) rv S (hr : R w W rv e_l2 S) => Lib.hid (K.rem (K.below HT.out hb) hr (by simp [e_l2]) 1 (by omega))
  rw [ex_add1] at A1
  rw [ex_rem1] at M1
  rw [ex_add2] at A2
  rw [ex_add3] at A3
  rw [ex_list] at LS
  rw [ex_bind] at BD
  rw [ex_rem2] at M2
  simp only [Int.natCast_zero, Int.natCast_one] at A1 M1 A2 A3 BD M2
  go_enter Tryd.func9, Tryd.ntmps9
  go_wp2_with fail
  refine (NW _ (Below.refl _ _)).out.mono ?_
  rintro e w1 ⟨rv, S, rfl, hr, -, hb⟩
  have H := Lib.hid (⟨(Held.nil w).step hb, hr, by simp⟩ : HR R w w1 [] rv [] S)
  clear hb hr NW
  go_wp2_with fail
  refine (F _).out.mono ?_
  rintro e w2 ⟨rfl, hb⟩
  replace H := Lib.hid (H.out.step K hb)
  clear hb
  go_wp2_with fail
  refine (A1 _ H.out.held.below _ _ H.out.reg).out.mono ?_
  rintro e w3 ⟨S1, rfl, hr, hs, ht⟩
  replace H := Lib.hid (H.out.turn K hr hs ht)
  clear hr hs ht A1
  go_wp2_with fail
  refine (M1 _ H.out.held.below _ _ H.out.reg).out.mono ?_
  rintro e w4 ⟨S2, rfl, hr, hs, ht⟩
  replace H := Lib.hid (H.out.turn K hr hs ht)
  clear hr hs ht M1
  go_wp2_with fail
  refine (A2 _ H.out.held.below _ _ H.out.reg).out.mono ?_
  rintro e w5 ⟨S3, rfl, hr, hs, ht⟩
  replace H := Lib.hid (H.out.turn K hr hs ht)
  clear hr hs ht A2
  go_wp2_with fail
  refine (F _).out.mono ?_
  rintro e w6 ⟨rfl, hb⟩
  replace H := Lib.hid (H.out.step K hb)
  clear hb
  go_wp2_with fail
  refine (A3 _ H.out.held.below _ _ H.out.reg).out.mono ?_
  rintro e w7 ⟨S4, rfl, hr, hs, ht⟩
  replace H := Lib.hid (H.out.turn K hr hs ht)
  clear hr hs ht A3
  go_wp2_with fail
  refine (LS _ H.out.held.below _ _ H.out.reg).out.mono ?_
  rintro e w8 ⟨u, rfl, hg, hb⟩
  replace H := Lib.hid (H.out.step K hb)
  obtain ⟨A, c, rfl, -, -⟩ := hg.shape
  simp only [List.length_nil]
  clear hg hb LS
  go_wp2_with fail
  refine (LG _ H.out.held.below _ _ H.out.reg).out.mono ?_
  rintro e w9 ⟨u, rfl, hg, hb⟩
  replace H := Lib.hid (H.out.step K hb)
  obtain ⟨A, c, rfl, -, -⟩ := hg.shape
  simp only [e_l2, List.length_cons, List.length_nil]
  clear hg hb LG
  go_wp2_with fail
  refine (F _).out.mono ?_
  rintro e w10 ⟨rfl, hb⟩
  replace H := Lib.hid (H.out.step K hb)
  clear hb
  go_wp2_with fail
  refine (BD _ H.out.held.below _ _ H.out.reg).out.mono ?_
  rintro e w11 ⟨rfl, hb⟩
  replace H := Lib.hid (H.out.step K hb)
  clear hb BD
  go_wp2_with fail
  refine (M2 _ H.out.held.below _ _ H.out.reg).out.mono ?_
  rintro e w12 ⟨S5, rfl, hr, hs, ht⟩
  replace H := Lib.hid (H.out.turn K hr hs ht)
  clear hr hs ht M2
  go_wp2_with fail
  go_ret
  exact ⟨rfl, H.out.held.below⟩
end
end Go.Proofs.YtcecicmihdcjgaaDoor
