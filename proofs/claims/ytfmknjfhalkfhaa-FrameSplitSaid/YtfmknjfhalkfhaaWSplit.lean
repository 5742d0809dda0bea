/-
  FrameSplit: for every byte slice, Split returns the frames, the number of bytes and the error of the reference (asked of at most 9,000 bytes): the law returns true and leaves its argument as it was. No condition.
-/
import Derived.Test.YtfmknjfhalkfhaaRsplit
import Derived.Test.YtfmknjfhalkfhaaOpen
namespace Go.Proofs.Ytfmknjfhalkfhaa
open Go.ChangeShapes Go.WideShapes Go.ChangeAt Go.RowKit Mem Wire

theorem split_walk {w : World} {A : Option Addr} {n c : Nat} {p : List UInt8} (hs : Sees w (.slice A n c) p) : Calls Try.prog 4 #[.slice A n c] w (Says true w) := by
  have hn : n = p.length := by
    obtain ⟨_, _, hv, _⟩ := hs.shape
    injection hv
  have hnc : n ≤ c ∧ c ≤ 9223372036854775807 := by
    obtain ⟨_, _, hv, h1, h2⟩ := hs.shape
    injection hv with _ _ e3
    simp only [maxLen] at h2
    omega
  obtain ⟨hnc, hcm⟩ := hnc
  by_cases hbig : 9000 < n
  · clear hn
    go_enter Try.func4, Try.ntmps4
    go_wp2_with fail
    refine (example_any w).mono ?_
    rintro e w2 ⟨rfl, hx⟩
    go_wp2_with fail
    go_ret
    exact ⟨rfl, hx⟩
  · have P1 := Lib.hid (split_any hs (by omega))
    have P2 : Hid (∀ w2, Below w.heap.size w w2 → Calls Try.prog 14 #[.slice A n c] w2 (SplitP w2 p)) := fun w2 h2 => rsplit_any (hs.below h2) (by omega)
    unfold SplitP at P1 P2
    clear hn hs
    generalize (splitS p).1 = fs at *
    generalize (splitS p).2.2 = x at *
    generalize taken fs = tk at *
    go_enter Try.func4, Try.ntmps4
    go_wp2_with fail
    refine P1.out.mono ?_
    rintro e w2 ⟨fv, l, rfl, ho2, hf2, hb2⟩
    have P3 := Lib.hid (P2.out w2 hb2)
    go_wp2_with fail
    refine P3.out.mono ?_
    rintro e w3 ⟨fv3, m, rfl, ho3, hf3, hb3⟩
    have S := Lib.hid (same_true (ho2.frs.below hb3) ho3.frs (hf2.trans hf3.symm))
    have hb4 := Lib.hid (hb2.trans (hb3.mono hb2.size))
    clear ho2 ho3 hf2 hf3 hb3 P3 P2 P1
    go_wp2_with fail
    refine S.out.mono ?_
    rintro e w4 ⟨rfl, q, rfl⟩
    go_wp2_with fail
    refine (example_any _).mono ?_
    rintro e w5 ⟨rfl, hx⟩
    go_wp2_with fail
    go_ret
    exact ⟨rfl, (below_draws hb4.out q).trans (hx.mono (below_draws hb4.out q).size)⟩

set_option maxRecDepth 100000 in
theorem split_lifted (os : Os) (started : os.Started) (H : Type) (enc : TypeId × Value → H) :
    ReturnsInHanded {} Try.checked os 4 .any (Rows.frameSplitSpec.pre6 enc Try.prog Try.f4 Rows.frameSplitRow.domain false) (Rows.frameSplitSpec.post enc Try.prog Try.f4 false true false false) := by
  refine returnsInHanded_of_change (C := Try.checked) own started (by kernel_rfl) Try.func4
    (ChangeSpec.witness6 (enc := enc) (C := Try.checked) false ⟨#[], #[.slice none 0 0], []⟩ 8 (by kernel_rfl) (by kernel_rfl) (by kernel_rfl) (by kernel_rfl)) ?_
  intro W base args ds gs before hval0 hW _ _
  have hval : ∀ (j : Nat) t v, Try.f4.params[j]? = some t → args[j]? = some v → Value.okWide Try.prog W .any base t v := hval0
  have hW' := hW
  obtain ⟨p, q, hA0, hV, rfl, _, _⟩ := hW
  have hA : DataW.TrodAll enc Try.prog W 0 (fun _ => true) true Try.f4.params.toList args.toList ds p := hA0
  rw [Try.params4] at hA hval
  obtain ⟨v0, vs0, d0, ds0, p0, q0, hargs, rfl, rfl, h0, r0⟩ := trodAll_cons hA
  obtain ⟨rfl, rfl, rfl⟩ := trodAll_nil r0
  obtain rfl : args = #[v0] := by cases args; simp_all
  obtain ⟨rfl, rfl⟩ := trodVars_none hV
  clear hA0 hval0
  simp only [List.append_nil] at hW'
  have hlt0 : ∀ x ∈ p0, x.block < W.heap.size := fun x hx => hW'.lt x (by simp [hx])
  have k0 := h0
  obtain ⟨A, n, c, rfl⟩ := okWide_slice Try.underlying23 (hval 0 23 v0 rfl rfl)
  obtain ⟨fuel, hf⟩ := h0
  obtain ⟨bs, hs⟩ := open_bytes (by simpa [Value.cells] using hf)
  refine (split_walk hs).mono fun e W' ⟨he, hg⟩ => ?_
  subst he
  exact ⟨_, rfl, _, _, _, [], _, [], hW', trodAll_cons_mk (shut_bool Try.underlying4 _) trodAll_mk0,
    trodAll_cons_mk (Below.trod laidOut (by kernel_rfl) (of_decide_eq_true (by kernel_rfl)) k0 hg hlt0) trodAll_mk0, rfl, hg.frame _, fun h => by cases h⟩

theorem split_holds : Rows.FrameSplitSaid :=
  OpenClaim.holds_of_wide 4 Try.f4 rfl rfl rfl rfl rfl rfl rfl ⟨rfl, rfl, rfl, rfl, rfl⟩ rfl rfl rfl rfl rfl (by kernel_rfl) Try.func4 (by kernel_rfl)
    (of_decide_eq_true (by kernel_rfl)) (by unfold Func.isWrapper; first | (rw [if_pos (by decide +kernel)]; kernel_rfl) | (rw [if_neg (by decide +kernel)]; exact ⟨rfl, rfl⟩))
    (fun os started H enc _ => split_lifted os started H enc)

end Go.Proofs.Ytfmknjfhalkfhaa
