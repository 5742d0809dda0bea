/-
  RegistryBind over the contracts of the registry's functions.
-/
import Derived.Test.YtcecicmihdcjgaaDoorRfn
namespace Go.Proofs.YtcecicmihdcjgaaDoor
open Go.RowKit

section
variable {T : World → Prop} {R : World → World → Value → List Gl → (Nat → Prop) → Prop}
theorem nmI_mem {i : Nat} (hi : i < 15) : nmI i ∈ namT := by
  unfold nmI
  rw [List.getD_eq_getElem?_getD, List.getElem?_eq_getElem (show i < namT.length from hi)]
  exact List.getElem_mem _
set_option maxRecDepth 100000 in
set_option maxHeartbeats 16000000 in
theorem bind_walk (K : PR T R) {w : World} (hT : T w) {wh : Nat} (hw : wh < 256) (v : Int) (x : Int) (o : ByteArray) :
    Calls Tryd.prog 6 #[.agg #[.int .u8 (wh : Int), .int .i64 v], .int .i64 x, .string o] w (SaysB true w) := by
  have HT := Lib.hid hT
  have EX := fun (W : World) (hb : Below w.heap.size w W) => Lib.hid (ex_any K (K.below HT.out hb))
  have NW := fun (W : World) (hb : Below w.heap.size w W) => Lib.hid (K.new (w0 := w) (K.below HT.out hb) hb)
  have J := Lib.hid ((Held.nil w).alloc [.int .u8 (wh : Int), .int .i64 v] 53)
  obtain ⟨x0, x1, -, -⟩ := (show Held w _ ([] ++ (w.heap.size, _) :: []) from J.out).two
  by_cases h1 : 200 < o.size
  · have q1 : (200 : Int) < o.size := by omega
    clear hT
    go_enter Tryd.func6, Tryd.ntmps6
    go_wp2_with fail
    refine (EX _ J.out.below).out.mono ?_
    rintro e w2 ⟨rfl, hb⟩
    replace J := Lib.hid (J.out.step hb)
    clear hb EX
    go_wp2_with fail
    go_ret
    exact ⟨rfl, J.out.below⟩
  have q1 : ¬ (200 : Int) < o.size := by omega
  obtain ⟨i, hi'⟩ : ∃ i, wh % 15 = i := ⟨_, rfl⟩
  have hi : i < 15 := by omega
  have qi : (wh : Int) % 15 = i := by omega
  have NA := fun W => Lib.hid (names_any W)
  have hm := nmI_mem hi
  have VE := fun W => Lib.hid (version_any (nmI i) W)
  obtain ⟨s, hs⟩ : ∃ s, nmI i = s := ⟨_, rfl⟩
  have NC := fun W => nmI_cell W i hi
  rw [hs] at hm VE NC
  obtain ⟨u, hu⟩ : ∃ u, verT s = u := ⟨_, rfl⟩
  rw [hu] at VE
  clear hT hs hi'
  go_enter Tryd.func6, Tryd.ntmps6
  go_wp2_with fail
  go_quiet (fail)
  replace J := Lib.hid (J.out.drews nq)
  generalize (w.alloc (.cells #[.int .u8 (wh : Int), .int .i64 v] 53)).drewN nq = wd at *
  clear x0 x1
  go_wp2_with fail
  refine (NA _).out.mono ?_
  rintro e w2 ⟨rfl, rfl⟩
  clear NA
  have NC1 := NC wd
  have hb1 := Lib.hid ((Below.refl _ wd).alloc (Nat.le_refl _) (.cells (namT.map Value.string).toArray 9))
  obtain ⟨w3, hw3⟩ : ∃ w3, wd.alloc (.cells (namT.map Value.string).toArray 9) = w3 := ⟨_, rfl⟩
  rw [hw3] at NC1 hb1 ⊢
  replace J := Lib.hid (J.out.step hb1.out)
  clear NC hw3 hb1
  go_wp2_with fail
  refine (VE _).out.mono ?_
  rintro e w4 ⟨rfl, hb⟩
  replace J := Lib.hid (J.out.step hb)
  clear hb VE NC1
  go_wp2_with fail
  refine (NW _ J.out.below).out.mono ?_
  rintro e w5 ⟨rv, S, rfl, hr, -, hb⟩
  have H := Lib.hid (⟨(J.out.sub (List.nil_sublist _)).step hb, hr, by simp⟩ : HR R w w5 [] rv [] S)
  clear hb hr NW J
  have AD := K.add (K.below HT.out H.out.held.below) H.out.reg (by simp) s v
  by_cases hc : v < 1 ∨ u < v
  · rw [one_no hm (by rw [hu]; exact hc)] at AD
    simp only [Int.natCast_zero] at AD
    replace AD := Lib.hid AD
    have B1 := fun (W : World) (hb : Below w.heap.size w W) rv S (hr : R w W rv [] S) => Lib.hid (K.bind (K.below HT.out hb) hr (by simp) 1 (by omega) s 1)
    simp only [none_bind, Int.natCast_one] at B1
    by_cases hv : v < 1
    · have e1 : decide (v < 1) = true := decide_eq_true hv
      clear hc
      go_wp2_with fail
      refine AD.out.mono ?_
      rintro e w6 ⟨S1, rfl, hr, hs, ht⟩
      replace H := Lib.hid (H.out.turn K hr hs ht)
      clear hr hs ht AD
      go_wp2_with fail
      refine (B1 _ H.out.held.below _ _ H.out.reg).out.mono ?_
      rintro e w7 ⟨rfl, hb⟩
      replace H := Lib.hid (H.out.step K hb)
      clear hb B1
      go_wp2_with fail
      refine (EX _ H.out.held.below).out.mono ?_
      rintro e w8 ⟨rfl, hb⟩
      replace H := Lib.hid (H.out.step K hb)
      clear hb EX
      go_wp2_with fail
      go_ret
      exact ⟨rfl, H.out.held.below⟩
    · have e1 : decide (v < 1) = false := decide_eq_false hv
      have e2 : decide (u < v) = true := decide_eq_true (by omega)
      clear hc
      go_wp2_with fail
      refine AD.out.mono ?_
      rintro e w6 ⟨S1, rfl, hr, hs, ht⟩
      replace H := Lib.hid (H.out.turn K hr hs ht)
      clear hr hs ht AD
      go_wp2_with fail
      refine (B1 _ H.out.held.below _ _ H.out.reg).out.mono ?_
      rintro e w7 ⟨rfl, hb⟩
      replace H := Lib.hid (H.out.step K hb)
      clear hb B1
      go_wp2_with fail
      refine (EX _ H.out.held.below).out.mono ?_
      rintro e w8 ⟨rfl, hb⟩
      replace H := Lib.hid (H.out.step K hb)
      clear hb EX
      go_wp2_with fail
      go_ret
      exact ⟨rfl, H.out.held.below⟩
  rw [one_yes hm (by rw [hu]; exact hc)] at AD
  simp only [Int.natCast_one] at AD
  replace AD := Lib.hid AD
  have hv0 : 0 < v := by omega
  have e1 : decide (v < 1) = false := decide_eq_false (by omega)
  have e2 : decide (u < v) = false := decide_eq_false (by omega)
  have B1 := fun (W : World) (hb : Below w.heap.size w W) rv S (hr : R w W rv [⟨1, s, v⟩] S) => Lib.hid (K.bind (K.below HT.out hb) hr (by simp) 1 (by omega) s x)
  have B2 := fun (W : World) (hb : Below w.heap.size w W) rv S (hr : R w W rv [⟨1, s, v⟩] S) => Lib.hid (K.bind (K.below HT.out hb) hr (by simp) 2 (by omega) s x)
  have B0 := fun (W : World) (hb : Below w.heap.size w W) rv S (hr : R w W rv [⟨1, s, v⟩] S) => Lib.hid (K.bind (K.below HT.out hb) hr (by simp) 0 (by omega) s x)
  have BO := fun (W : World) (hb : Below w.heap.size w W) rv S (hr : R w W rv [⟨1, s, v⟩] S) => Lib.hid (K.bind (K.below HT.out hb) hr (by simp) 1 (by omega) o x)
  simp only [one_bind hv0, Int.natCast_one] at B1
  simp only [one_else hv0 x (show 2 ≠ 1 by omega), show ((2 : Nat) : Int) = 2 from rfl] at B2
  simp only [one_else hv0 x (show 0 ≠ 1 by omega), Int.natCast_zero] at B0
  simp only [Int.natCast_one] at BO
  by_cases ho : o = s
  · subst ho
    clear BO
    by_cases hx : x < 1 ∨ v < x
    · simp only [if_pos hx] at B1
      by_cases hx1 : x < 1
      · have e3 : decide (x < 1) = true := decide_eq_true hx1
        clear hc hx hv0
        go_wp2_with fail
        refine AD.out.mono ?_
        rintro e w6 ⟨S1, rfl, hr, hs, ht⟩
        replace H := Lib.hid (H.out.turn K hr hs ht)
        clear hr hs ht AD
        go_wp2_with fail
        refine (B1 _ H.out.held.below _ _ H.out.reg).out.mono ?_
        rintro e wq ⟨rfl, hb⟩
        replace H := Lib.hid (H.out.step K hb)
        clear hb B1
        go_wp2_with fail
        refine (B2 _ H.out.held.below _ _ H.out.reg).out.mono ?_
        rintro e wq ⟨rfl, hb⟩
        replace H := Lib.hid (H.out.step K hb)
        clear hb B2
        go_wp2_with fail
        refine (B0 _ H.out.held.below _ _ H.out.reg).out.mono ?_
        rintro e wq ⟨rfl, hb⟩
        replace H := Lib.hid (H.out.step K hb)
        clear hb B0
        go_wp2_with fail
        refine (EX _ H.out.held.below).out.mono ?_
        rintro e w8 ⟨rfl, hb⟩
        replace H := Lib.hid (H.out.step K hb)
        clear hb EX
        go_wp2_with fail
        go_ret
        exact ⟨rfl, H.out.held.below⟩
      · have e3 : decide (x < 1) = false := decide_eq_false hx1
        have e4 : decide (v < x) = true := decide_eq_true (by omega)
        clear hc hx hv0
        go_wp2_with fail
        refine AD.out.mono ?_
        rintro e w6 ⟨S1, rfl, hr, hs, ht⟩
        replace H := Lib.hid (H.out.turn K hr hs ht)
        clear hr hs ht AD
        go_wp2_with fail
        refine (B1 _ H.out.held.below _ _ H.out.reg).out.mono ?_
        rintro e wq ⟨rfl, hb⟩
        replace H := Lib.hid (H.out.step K hb)
        clear hb B1
        go_wp2_with fail
        refine (B2 _ H.out.held.below _ _ H.out.reg).out.mono ?_
        rintro e wq ⟨rfl, hb⟩
        replace H := Lib.hid (H.out.step K hb)
        clear hb B2
        go_wp2_with fail
        refine (B0 _ H.out.held.below _ _ H.out.reg).out.mono ?_
        rintro e wq ⟨rfl, hb⟩
        replace H := Lib.hid (H.out.step K hb)
        clear hb B0
        go_wp2_with fail
        refine (EX _ H.out.held.below).out.mono ?_
        rintro e w8 ⟨rfl, hb⟩
        replace H := Lib.hid (H.out.step K hb)
        clear hb EX
        go_wp2_with fail
        go_ret
        exact ⟨rfl, H.out.held.below⟩
    · simp only [if_neg hx] at B1
      have e3 : decide (x < 1) = false := decide_eq_false (by omega)
      have e4 : decide (v < x) = false := decide_eq_false (by omega)
      clear hc hx hv0
      go_wp2_with fail
      refine AD.out.mono ?_
      rintro e w6 ⟨S1, rfl, hr, hs, ht⟩
      replace H := Lib.hid (H.out.turn K hr hs ht)
      clear hr hs ht AD
      go_wp2_with fail
      refine (B1 _ H.out.held.below _ _ H.out.reg).out.mono ?_
      rintro e wq ⟨rfl, hb⟩
      replace H := Lib.hid (H.out.step K hb)
      clear hb B1
      go_wp2_with fail
      refine (B2 _ H.out.held.below _ _ H.out.reg).out.mono ?_
      rintro e wq ⟨rfl, hb⟩
      replace H := Lib.hid (H.out.step K hb)
      clear hb B2
      go_wp2_with fail
      refine (B0 _ H.out.held.below _ _ H.out.reg).out.mono ?_
      rintro e wq ⟨rfl, hb⟩
      replace H := Lib.hid (H.out.step K hb)
      clear hb B0
      go_wp2_with fail
      refine (EX _ H.out.held.below).out.mono ?_
      rintro e w8 ⟨rfl, hb⟩
      replace H := Lib.hid (H.out.step K hb)
      clear hb EX
      go_wp2_with fail
      go_ret
      exact ⟨rfl, H.out.held.below⟩
  · have ho' := str_ne ho
    simp only [one_other hv0 x ho] at BO
    by_cases hx : x < 1 ∨ v < x
    · simp only [if_pos hx] at B1
      by_cases hx1 : x < 1
      · have e3 : decide (x < 1) = true := decide_eq_true hx1
        clear hc hx hv0
        go_wp2_with fail
        refine AD.out.mono ?_
        rintro e w6 ⟨S1, rfl, hr, hs, ht⟩
        replace H := Lib.hid (H.out.turn K hr hs ht)
        clear hr hs ht AD
        go_wp2_with fail
        refine (B1 _ H.out.held.below _ _ H.out.reg).out.mono ?_
        rintro e wq ⟨rfl, hb⟩
        replace H := Lib.hid (H.out.step K hb)
        clear hb B1
        go_wp2_with fail
        refine (B2 _ H.out.held.below _ _ H.out.reg).out.mono ?_
        rintro e wq ⟨rfl, hb⟩
        replace H := Lib.hid (H.out.step K hb)
        clear hb B2
        go_wp2_with fail
        refine (B0 _ H.out.held.below _ _ H.out.reg).out.mono ?_
        rintro e wq ⟨rfl, hb⟩
        replace H := Lib.hid (H.out.step K hb)
        clear hb B0
        go_wp2_with fail
        refine (BO _ H.out.held.below _ _ H.out.reg).out.mono ?_
        rintro e wq ⟨rfl, hb⟩
        replace H := Lib.hid (H.out.step K hb)
        clear hb BO
        go_wp2_with fail
        refine (EX _ H.out.held.below).out.mono ?_
        rintro e w8 ⟨rfl, hb⟩
        replace H := Lib.hid (H.out.step K hb)
        clear hb EX
        go_wp2_with fail
        go_ret
        exact ⟨rfl, H.out.held.below⟩
      · have e3 : decide (x < 1) = false := decide_eq_false hx1
        have e4 : decide (v < x) = true := decide_eq_true (by omega)
        clear hc hx hv0
        go_wp2_with fail
        refine AD.out.mono ?_
        rintro e w6 ⟨S1, rfl, hr, hs, ht⟩
        replace H := Lib.hid (H.out.turn K hr hs ht)
        clear hr hs ht AD
        go_wp2_with fail
        refine (B1 _ H.out.held.below _ _ H.out.reg).out.mono ?_
        rintro e wq ⟨rfl, hb⟩
        replace H := Lib.hid (H.out.step K hb)
        clear hb B1
        go_wp2_with fail
        refine (B2 _ H.out.held.below _ _ H.out.reg).out.mono ?_
        rintro e wq ⟨rfl, hb⟩
        replace H := Lib.hid (H.out.step K hb)
        clear hb B2
        go_wp2_with fail
        refine (B0 _ H.out.held.below _ _ H.out.reg).out.mono ?_
        rintro e wq ⟨rfl, hb⟩
        replace H := Lib.hid (H.out.step K hb)
        clear hb B0
        go_wp2_with fail
        refine (BO _ H.out.held.below _ _ H.out.reg).out.mono ?_
        rintro e wq ⟨rfl, hb⟩
        replace H := Lib.hid (H.out.step K hb)
        clear hb BO
        go_wp2_with fail
        refine (EX _ H.out.held.below).out.mono ?_
        rintro e w8 ⟨rfl, hb⟩
        replace H := Lib.hid (H.out.step K hb)
        clear hb EX
        go_wp2_with fail
        go_ret
        exact ⟨rfl, H.out.held.below⟩
    · simp only [if_neg hx] at B1
      have e3 : decide (x < 1) = false := decide_eq_false (by omega)
      have e4 : decide (v < x) = false := decide_eq_false (by omega)
      clear hc hx hv0
      go_wp2_with fail
      refine AD.out.mono ?_
      rintro e w6 ⟨S1, rfl, hr, hs, ht⟩
      replace H := Lib.hid (H.out.turn K hr hs ht)
      clear hr hs ht AD
      go_wp2_with fail
      refine (B1 _ H.out.held.below _ _ H.out.reg).out.mono ?_
      rintro e wq ⟨rfl, hb⟩
      replace H := Lib.hid (H.out.step K hb)
      clear hb B1
      go_wp2_with fail
      refine (B2 _ H.out.held.below _ _ H.out.reg).out.mono ?_
      rintro e wq ⟨rfl, hb⟩
      replace H := Lib.hid (H.out.step K hb)
      clear hb B2
      go_wp2_with fail
      refine (B0 _ H.out.held.below _ _ H.out.reg).out.mono ?_
      rintro e wq ⟨rfl, hb⟩
      replace H := Lib.hid (H.out.step K hb)
      clear hb B0
      go_wp2_with fail
      refine (BO _ H.out.held.below _ _ H.out.reg).out.mono ?_
      rintro e wq ⟨rfl, hb⟩
      replace H := Lib.hid (H.out.step K hb)
      clear hb BO
      go_wp2_with fail
      refine (EX _ H.out.held.below).out.mono ?_
      rintro e w8 ⟨rfl, hb⟩
      replace H := Lib.hid (H.out.step K hb)
      clear hb EX
      go_wp2_with fail
      go_ret
      exact ⟨rfl, H.out.held.below⟩
end
end Go.Proofs.YtcecicmihdcjgaaDoor
