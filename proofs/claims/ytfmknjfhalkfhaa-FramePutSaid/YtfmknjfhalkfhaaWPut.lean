/-
  FramePut: for every frame, Put returns the encoding or the error of the reference (asked of bodies of at most 6,000 bytes): the law returns true and leaves its argument as it was. No condition.
-/
import Derived.Test.YtfmknjfhalkfhaaOpen
namespace Go.Proofs.Ytfmknjfhalkfhaa
open Go.ChangeShapes Go.WideShapes Go.ChangeAt Go.RowKit Mem Wire

theorem put_walk {w : World} {f : Fr} {sv : Value} (hs : Sees w sv f.b) (ho : f.o < 4294967296) : Calls Try.prog 3 #[.agg #[.int .u32 (f.o : Int), .int .i64 f.c, sv]] w (Says true w) := by
  obtain ⟨A, cap, rfl, hcap, hmx⟩ := hs.shape
  simp only [maxLen] at hmx
  obtain ⟨w1, hw1⟩ : ∃ w1, w1 = w.alloc (.cells #[.int .u32 (f.o : Int), .int .i64 f.c, .slice A f.b.length cap] 25) := ⟨_, rfl⟩
  have hb1 : Below w.heap.size w w1 := by rw [hw1]; exact (Below.refl _ _).alloc (Nat.le_refl _) _
  have hlt : w.heap.size < w1.heap.size := by rw [hw1]; simp
  have k := box_cells hw1
  obtain ⟨k0, k1, k2⟩ := k
  have hs1 := Lib.hid (hs.below hb1)
  have HW := Lib.hid hw1
  clear hs hw1
  by_cases hbig : 6000 < f.b.length
  · generalize f.b.length = m at *
    go_enter Try.func3, Try.ntmps3
    go_wp2_with fail
    rw [← HW.out]
    refine (example_any w1).mono ?_
    rintro e w2 ⟨rfl, hx⟩
    go_wp2_with fail
    go_ret
    exact ⟨rfl, hb1.trans (hx.mono hb1.size)⟩
  · have P1 := Lib.hid (put_any hs1.out ho (by omega))
    have P2 : Hid (∀ w2, Below w1.heap.size w1 w2 → Calls Try.prog 12 #[.agg #[.int .u32 (f.o : Int), .int .i64 f.c, .slice A f.b.length cap]] w2 (PutP w2 f)) := fun w2 h2 => rput_any (hs1.out.below h2) ho (by omega)
    unfold PutP at P1 P2
    have hE : Hid ((if f.err = 0 then f.enc else []).length ≤ 1000000) := by
      show _ ≤ _
      split
      · rw [f.enc_length]; omega
      · simp
    generalize (if f.err = 0 then f.enc else []) = en at *
    generalize f.err = x at *
    generalize f.b.length = m at *
    go_enter Try.func3, Try.ntmps3
    go_wp2_with fail
    rw [← HW.out]
    refine P1.out.mono ?_
    rintro e w2 ⟨v2, rfl, ho2, hb2⟩
    obtain ⟨l0, l1, l2⟩ := keep3 hlt hb2 ⟨k0, k1, k2⟩
    have P3 := Lib.hid (P2.out w2 hb2)
    have H2 := Lib.hid ho2.sees
    obtain ⟨A2, c2, rfl, _, _⟩ := ho2.sees.shape
    clear ho2 k0 k1 k2
    go_wp2_with fail
    refine P3.out.mono ?_
    rintro e w3 ⟨v3, rfl, ho3, hb3⟩
    have H3 := ho3.sees
    obtain ⟨A3, c3, rfl, _, _⟩ := ho3.sees.shape
    have t2 := run_text (P := Try.prog) Try.underlying23 Try.underlying5 Try.underlying9 (H2.out.below hb3)
    have t3 := run_text (P := Try.prog) Try.underlying23 Try.underlying5 Try.underlying9 H3
    have hb4 := Lib.hid (hb1.trans ((hb2.trans (hb3.mono hb2.size)).mono hb1.size))
    clear ho3 H3 l0 l1 l2 hb3
    generalize (⟨en.toArray⟩ : ByteArray) = str at *
    generalize en.length = el at *
    go_wp2_with fail
    refine (example_any w3).mono ?_
    rintro e w4 ⟨rfl, hx⟩
    go_wp2_with fail
    go_ret
    exact ⟨rfl, hb4.out.trans (hx.mono hb4.out.size)⟩

set_option maxRecDepth 100000 in
theorem put_lifted (os : Os) (started : os.Started) (H : Type) (enc : TypeId × Value → H) :
    ReturnsInHanded {} Try.checked os 3 .any (Rows.framePutSpec.pre6 enc Try.prog Try.f3 Rows.framePutRow.domain false) (Rows.framePutSpec.post enc Try.prog Try.f3 false true false false) := by
  refine returnsInHanded_of_change (C := Try.checked) own started (by kernel_rfl) Try.func3
    (ChangeSpec.witness6 (enc := enc) (C := Try.checked) false ⟨#[], #[.agg #[.int .u32 0, .int .i64 0, .slice none 0 0]], []⟩ 8 (by kernel_rfl) (by kernel_rfl) (by kernel_rfl) (by kernel_rfl)) ?_
  intro W base args ds gs before hval0 hW _ _
  have hval : ∀ (j : Nat) t v, Try.f3.params[j]? = some t → args[j]? = some v → Value.okWide Try.prog W .any base t v := hval0
  have hW' := hW
  obtain ⟨p, q, hA0, hV, rfl, _, _⟩ := hW
  have hA : DataW.TrodAll enc Try.prog W 0 (fun _ => true) true Try.f3.params.toList args.toList ds p := hA0
  rw [Try.params3] at hA hval
  obtain ⟨v0, vs0, d0, ds0, p0, q0, hargs, rfl, rfl, h0, r0⟩ := trodAll_cons hA
  obtain ⟨rfl, rfl, rfl⟩ := trodAll_nil r0
  obtain rfl : args = #[v0] := by cases args; simp_all
  obtain ⟨rfl, rfl⟩ := trodVars_none hV
  clear hA0 hval0
  simp only [List.append_nil] at hW'
  have hlt0 : ∀ x ∈ p0, x.block < W.heap.size := fun x hx => hW'.lt x (by simp [hx])
  have k0 := h0
  obtain ⟨f, sv, rfl, hs, ho⟩ := open_frame (hval 0 25 v0 rfl rfl) h0
  refine (put_walk hs ho).mono fun e W' ⟨he, hg⟩ => ?_
  subst he
  exact ⟨_, rfl, _, _, _, [], _, [], hW', trodAll_cons_mk (shut_bool Try.underlying4 _) trodAll_mk0,
    trodAll_cons_mk (Below.trod laidOut (by kernel_rfl) (of_decide_eq_true (by kernel_rfl)) k0 hg hlt0) trodAll_mk0, rfl, hg.frame _, fun h => by cases h⟩

theorem put_holds : Rows.FramePutSaid :=
  OpenClaim.holds_of_wide 3 Try.f3 rfl rfl rfl rfl rfl rfl rfl ⟨rfl, rfl, rfl, rfl, rfl⟩ rfl rfl rfl rfl rfl (by kernel_rfl) Try.func3 (by kernel_rfl)
    (of_decide_eq_true (by kernel_rfl)) (by unfold Func.isWrapper; first | (rw [if_pos (by decide +kernel)]; kernel_rfl) | (rw [if_neg (by decide +kernel)]; exact ⟨rfl, rfl⟩))
    (fun os started H enc _ => put_lifted os started H enc)

end Go.Proofs.Ytfmknjfhalkfhaa
