/-
  ChecksumCRC: for every number and every byte slice, CRC32 and UpdateCRC32 return the checksums of the reference (asked of at most 2,000 bytes): the law returns true and leaves its arguments as they were. No condition.
-/
import Derived.Test.YtllmdgbokmldnaaOpen
namespace Go.Proofs.Ytllmdgbokmldnaa
open Go.ChangeShapes Go.WideShapes Go.ChangeAt Go.RowKit Mem

theorem sees_len {w : World} {A : Option Addr} {n c : Nat} {bs : List UInt8} (h : Sees w (.slice A n c) bs) : n = bs.length ∧ n ≤ c ∧ c ≤ 9223372036854775807 := by
  obtain ⟨_, _, hv, h1, h2⟩ := h.shape
  injection hv with _ e2 e3
  simp only [maxLen] at h2
  omega

set_option maxHeartbeats 1000000 in
theorem crc_walk {w : World} {A : Option Addr} {n c : Nat} {bs : List UInt8} (s : Nat) (hsl : s < 4294967296) (hs : Sees w (.slice A n c) bs) : Calls Try.prog 3 #[.int .u32 (s : Int), .slice A n c] w (Says true w) := by
  obtain ⟨p, hp⟩ := poly
  obtain ⟨hnl, hc1, hc2⟩ := sees_len hs
  clear hnl
  by_cases hbig : 2000 < n
  · go_enter Try.func3, Try.ntmps3
    go_wp2_with fail
    refine (example_any w).mono ?_
    rintro e w2 ⟨rfl, hx⟩
    go_wp2_with fail
    go_ret
    exact ⟨rfl, hx⟩
  · have U1 := Lib.hid (upd_any hp s hsl hs)
    have U2 : Hid (∀ W, Below w.heap.size w W → Calls Try.prog 14 #[.int .u32 (s : Int), .slice A n c] W (Only W (crcu p s bs))) := fun W hW => rupd_any hp s hsl (hs.below hW)
    have C1 : Hid (∀ W, Below w.heap.size w W → Calls Try.prog 15 #[.slice A n c] W (Gives W (crcu p 0 bs))) := fun W hW => crc_any hp (hs.below hW)
    have C2 : Hid (∀ W, Below w.heap.size w W → Calls Try.prog 16 #[.slice A n c] W (Only W (crcu p 0 bs))) := fun W hW => rcrc_any hp (hs.below hW)
    generalize crcu p s bs = r1 at *
    generalize crcu p 0 bs = r2 at *
    clear hs
    go_enter Try.func3, Try.ntmps3
    go_wp2_with fail
    refine U1.out.mono ?_
    rintro e w1 ⟨rfl, hb1⟩
    go_wp2_with fail
    refine (U2.out w1 hb1).mono ?_
    rintro e w2 ⟨rfl, rfl⟩
    go_wp2_with fail
    refine (C1.out w1 hb1).mono ?_
    rintro e w3 ⟨rfl, hb3⟩
    have hb13 : Below w.heap.size w w3 := hb1.trans (hb3.mono hb1.size)
    clear hb3
    go_wp2_with fail
    refine (C2.out w3 hb13).mono ?_
    rintro e w4 ⟨rfl, rfl⟩
    go_wp2_with fail
    refine (example_any w3).mono ?_
    rintro e w5 ⟨rfl, hx⟩
    go_wp2_with fail
    go_ret
    exact ⟨rfl, hb13.trans (hx.mono hb13.size)⟩

set_option maxRecDepth 100000 in
theorem crc_lifted (os : Os) (started : os.Started) (H : Type) (enc : TypeId × Value → H) :
    ReturnsInHanded {} Try.checked os 3 .any (Rows.checksumCRCSpec.pre6 enc Try.prog Try.f3 Rows.checksumCRCRow.domain false) (Rows.checksumCRCSpec.post enc Try.prog Try.f3 false true false false) := by
  refine returnsInHanded_of_change (C := Try.checked) own started (by kernel_rfl) Try.func3
    (ChangeSpec.witness6 (enc := enc) (C := Try.checked) false ⟨#[], #[.int .u32 0, .slice none 0 0], []⟩ 8 (by kernel_rfl) (by kernel_rfl) (by kernel_rfl) (by kernel_rfl)) ?_
  intro W base args ds gs before hval0 hW _ _
  have hval : ∀ (j : Nat) t v, Try.f3.params[j]? = some t → args[j]? = some v → Value.okWide Try.prog W .any base t v := hval0
  have hW' := hW
  obtain ⟨p, q, hA0, hV, rfl, _, _⟩ := hW
  have hA : DataW.TrodAll enc Try.prog W 0 (fun _ => true) true Try.f3.params.toList args.toList ds p := hA0
  rw [Try.params3] at hA hval
  obtain ⟨v0, vs0, d0, ds0, p0, q0, hargs, rfl, rfl, h0, r0⟩ := trodAll_cons hA
  obtain ⟨v1, vs1, d1, ds1, p1, q1, rfl, rfl, rfl, h1, r1⟩ := trodAll_cons r0
  obtain ⟨rfl, rfl, rfl⟩ := trodAll_nil r1
  obtain rfl : args = #[v0, v1] := by cases args; simp_all
  obtain ⟨rfl, rfl⟩ := trodVars_none hV
  clear hA0 hval0
  simp only [List.append_nil] at hW'
  have hlt0 : ∀ x ∈ p0, x.block < W.heap.size := fun x hx => hW'.lt x (by simp [hx])
  have k0 := h0
  have hlt1 : ∀ x ∈ p1, x.block < W.heap.size := fun x hx => hW'.lt x (by simp [hx])
  have k1 := h1
  obtain ⟨m0, rfl, _, _, w0⟩ := open_int Try.underlying22 (hval 0 22 v0 rfl rfl) h0
  obtain ⟨x0, rfl, b0⟩ := range_u32 w0
  obtain ⟨A1, n1, c1, rfl⟩ := okWide_slice Try.underlying23 (hval 1 23 v1 rfl rfl)
  obtain ⟨fuel1, hf1⟩ := h1
  obtain ⟨bs1, hs1⟩ := open_bytes (by simpa [Value.cells] using hf1)
  refine (crc_walk x0 b0 hs1).mono fun e W' ⟨he, hg⟩ => ?_
  subst he
  exact ⟨_, rfl, _, _, _, [], _, [], hW', trodAll_cons_mk (shut_bool Try.underlying4 _) trodAll_mk0,
    (trodAll_cons_mk (Below.trod laidOut (by kernel_rfl) (of_decide_eq_true (by kernel_rfl)) k0 hg hlt0) (trodAll_cons_mk (Below.trod laidOut (by kernel_rfl) (of_decide_eq_true (by kernel_rfl)) k1 hg hlt1) trodAll_mk0)), rfl, hg.frame _, fun h => by cases h⟩

theorem crc_holds : Rows.ChecksumCRCSaid :=
  OpenClaim.holds_of_wide 3 Try.f3 rfl rfl rfl rfl rfl rfl rfl ⟨rfl, rfl, rfl, rfl, rfl⟩ rfl rfl rfl rfl rfl (by kernel_rfl) Try.func3 (by kernel_rfl)
    (of_decide_eq_true (by kernel_rfl)) (by unfold Func.isWrapper; first | (rw [if_pos (by decide +kernel)]; kernel_rfl) | (rw [if_neg (by decide +kernel)]; exact ⟨rfl, rfl⟩))
    (fun os started H enc _ => crc_lifted os started H enc)

end Go.Proofs.Ytllmdgbokmldnaa
