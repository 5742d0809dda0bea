/-
  ChecksumVerify: for every byte slice, Verify returns the bytes and the error of the reference, in new memory (asked of at most 2,000 bytes): the law returns true and leaves its argument as it was. No condition.
-/
import Derived.Test.YtllmdgbokmldnaaFlip
namespace Go.Proofs.Ytllmdgbokmldnaa
open Go.ChangeShapes Go.WideShapes Go.ChangeAt Go.RowKit Mem

theorem same_yes2 {w : World} {v1 v2 : Value} {xs : List UInt8} (h1 : Sees w v1 xs) (h2 : Sees w v2 xs) : Calls Try.prog 24 #[v1, v2] w (Tells w true) := by
  have h := same_any h1 h2
  rw [decide_eq_true rfl] at h
  exact h

theorem grown_set (w : World) (g i : Nat) (u : Value) : w.grownBy (w.setCell ⟨g, i, none⟩ u) (some g) :=
  ⟨rfl, rfl, rfl, by simp [World.setCell], fun k _ hne => Below.heap_setCell w ⟨g, i, none⟩ u k (fun e => hne (by rw [e]))⟩

/-- what the loop keeps: nothing of the caller's turns; v4 owns bs; the row of the slice that is overwritten is another one -/
def Over (w : World) (lo : Nat) (v4 : Value) (bs : List UInt8) (A : Option Addr) (m c : Nat) (wr : World) : Prop :=
  Below w.heap.size w wr ∧ Owns wr lo v4 bs ∧ (∀ k, v4.ownBlock = some k → (Value.slice A m c).ownBlock ≠ some k) ∧ ∃ rs : List UInt8, rs.length = m ∧ Owns wr w.heap.size (.slice A m c) rs

theorem Over.cell {w wr : World} {lo m c k : Nat} {v4 : Value} {bs : List UInt8} {A : Option Addr} (h : Over w lo v4 bs A m c wr) (hk : k < m) :
    ∃ g x : Nat, A = some ⟨g, 0, none⟩ ∧ x < 256 ∧ wr.cell? ⟨g, k, none⟩ = some (.int .u8 (x : Int)) ∧ wr.frozen? ⟨g, k, none⟩ = false ∧ Over w lo v4 bs (some ⟨g, 0, none⟩) m c (wr.setCell ⟨g, k, none⟩ (.int .u8 (((x : Int) + 1) % 256))) := by
  obtain ⟨hb, h4, hd, rs, hl, ho⟩ := h
  obtain ⟨g, c', hv, _, _, hg, hf, hc⟩ := ho.lies (by omega)
  injection hv with e1 e2 e3
  subst e1
  refine ⟨g, (rs.getD k 0).toNat, rfl, u8_lt _, hc k (by omega), hf k, hb.setCell hg _, ?_, hd, rs.set k (UInt8.ofNat ((rs.getD k 0).toNat + 1)), by simpa using hl, ?_⟩
  · refine h4.kept (grown_set wr g k _) ?_
    cases hq : v4.ownBlock with
    | none => exact .inl rfl
    | some j =>
      refine .inr fun e => ?_
      injection e with e
      subst e
      exact hd _ hq rfl
  · have e : Value.int .u8 (((((rs.getD k 0).toNat : Nat) : Int) + 1) % 256) = byte (UInt8.ofNat ((rs.getD k 0).toNat + 1)) := by
      unfold byte
      rw [UInt8.toNat_ofNat']
      rfl
    rw [e]
    exact ho.setB k _

/-- what is behind the loop: the world has grown, but for the row at g -/
theorem own_slice {w : World} {lo : Nat} {v : Value} {bs : List UInt8} (h : Owns w lo v bs) : ∃ A c, v = .slice A bs.length c ∧ bs.length ≤ c ∧ c ≤ 9223372036854775807 := by
  obtain ⟨A, c, hv, h1, h2⟩ := h.sees.shape
  simp only [maxLen] at h2
  exact ⟨A, c, hv, h1, by omega⟩

set_option maxRecDepth 20000 in
set_option maxHeartbeats 4000000 in
theorem wver_walk {w : World} {A : Option Addr} {n c : Nat} {bs : List UInt8} (hs : Sees w (.slice A n c) bs) : Calls Try.prog 11 #[.slice A n c] w (Says true w) := by
  obtain ⟨p, hp⟩ := poly
  have hn1 : n ≤ 9223372036854775807 ∧ n = bs.length := by
    obtain ⟨_, _, hv, h1, h2⟩ := hs.shape
    injection hv with _ e2 e3
    simp only [maxLen] at h2
    omega
  obtain ⟨hm1, hl1⟩ := hn1
  have HL := Lib.hid hl1
  clear hl1
  by_cases hbig : 2000 < n
  · clear hs
    go_enter Try.func11, Try.ntmps11
    go_wp2_with fail
    refine (example_any w).mono ?_
    rintro e w2 ⟨rfl, hx⟩
    go_wp2_with fail
    go_ret
    exact ⟨rfl, hx⟩
  have V1 := Lib.hid (verify_any hp hs (by omega))
  have V2 : Hid (∀ W, Below w.heap.size w W → Calls Try.prog 28 #[.slice A n c] W (VerP W p bs)) := fun W hW => rverify_any hp (hs.below hW) (by omega)
  have J : Hid (∀ W, Below w.heap.size w W → Calls Try.prog 23 #[.slice A n c, .slice none 0 0] W (Puts W bs)) := fun W hW => by
    have h := joined_any (hs.below hW) (sees_nil W) (by rw [← HL.out]; simp only [List.length_nil]; omega)
    rw [List.append_nil] at h
    exact h
  have HS : Hid (∀ W, Below w.heap.size w W → Sees W (.slice A n c) bs) := fun W hW => hs.below hW
  unfold VerP at V1 V2
  generalize verE p bs = x at *
  generalize verB p bs = r at *
  clear hs
  go_enter Try.func11, Try.ntmps11
  go_wp2_with fail
  refine V1.out.mono ?_
  rintro e w1 ⟨v1, rfl, ho1, hb1⟩
  go_wp2_with fail
  refine (V2.out w1 hb1).mono ?_
  rintro e w2 ⟨v2, rfl, ho2, hb12⟩
  have hb2 : Below w.heap.size w w2 := hb1.trans (hb12.mono hb1.size)
  have HO1 := Lib.hid (ho1.below hb12)
  have HS2 := Lib.hid ho2.sees
  obtain ⟨A1, c1, rfl, hc1, hc1m⟩ := own_slice ho1
  obtain ⟨A2, c2, rfl, hc2, hc2m⟩ := own_slice ho2
  clear ho1 ho2 hb12 hb1 hc2 hc2m
  generalize hm : r.length = m at *
  have HM := Lib.hid hm
  clear hm
  go_wp2_with fail
  refine (same_yes2 HO1.out.sees HS2.out).mono ?_
  rintro e w3 ⟨rfl, q3, hw3⟩
  have hb23 : Below w2.heap.size w2 w3 := by rw [hw3]; exact below_draws (Below.refl _ _) q3
  have hb3 : Below w.heap.size w w3 := hb2.trans (hb23.mono hb2.size)
  have HO3 := Lib.hid (HO1.out.below hb23)
  clear hw3 hb23 hb2 HO1 HS2
  go_wp2_with fail
  refine (J.out w3 hb3).mono ?_
  rintro e w4 ⟨v4, rfl, ho4, hb34⟩
  have hb4 : Below w.heap.size w w4 := hb3.trans (hb34.mono hb3.size)
  have HO34 := Lib.hid (HO3.out.below hb34)
  obtain ⟨A4, c4, rfl, hc4, hc4m⟩ := own_slice ho4
  have HOV : Hid (Over w w3.heap.size (.slice A4 bs.length c4) bs A1 m c1 w4) :=
    ⟨hb4, ho4, fun k hk e => by
      have h1 := (ho4.block k hk).1
      have h2 := (HO3.out.block k e).2
      omega, r, HM.out, HO34.out⟩
  rw [← HL.out] at HOV ⊢
  clear ho4 hb34 hb3 HO3 hb4 HO34
  go_wp2_with fail
  go_loopw [36] (fun s36 wr => ∃ k : Nat, k ≤ m ∧ s36 = .int .i64 k ∧ Hid (Over w w3.heap.size (.slice A4 n c4) bs A1 m c1 wr)) (fun s36 _ => m - (intOf s36).toNat)
  case atStart => exact ⟨0, Nat.zero_le _, rfl, HOV.out⟩
  case round =>
    obtain ⟨k, hk, rfl, hov⟩ := hrel
    by_cases hlt : k < m
    · obtain ⟨g, z, rfl, hz, hc, hf, hnx⟩ := hov.out.cell hlt
      have HNX := Lib.hid hnx
      clear hnx hov
      go_wp2_with fail
      go_roundw
      case rel => exact ⟨k + 1, by omega, by go_num, HNX.out⟩
      case measure => simp [intOf]; omega
    · obtain ⟨hb, h4, _, _⟩ := hov.out
      have SB := Lib.hid (same_yes2 (HS.out wr hb) h4.sees)
      clear h4 hov
      go_wp2_with fail
      refine SB.out.mono ?_
      rintro e w5 ⟨rfl, q5, hw5⟩
      have hb5 : Below w.heap.size w w5 := by rw [hw5]; exact below_draws hb q5
      clear hw5
      go_wp2_with fail
      refine (example_any w5).mono ?_
      rintro e w6 ⟨rfl, hx⟩
      go_wp2_with fail
      go_ret
      exact ⟨rfl, hb5.trans (hx.mono hb5.size)⟩

set_option maxRecDepth 100000 in
theorem wver_lifted (os : Os) (started : os.Started) (H : Type) (enc : TypeId × Value → H) :
    ReturnsInHanded {} Try.checked os 11 .any (Rows.checksumVerifySpec.pre6 enc Try.prog Try.f11 Rows.checksumVerifyRow.domain false) (Rows.checksumVerifySpec.post enc Try.prog Try.f11 false true false false) := by
  refine returnsInHanded_of_change (C := Try.checked) own started (by kernel_rfl) Try.func11
    (ChangeSpec.witness6 (enc := enc) (C := Try.checked) false ⟨#[], #[.slice none 0 0], []⟩ 8 (by kernel_rfl) (by kernel_rfl) (by kernel_rfl) (by kernel_rfl)) ?_
  intro W base args ds gs before hval0 hW _ _
  have hval : ∀ (j : Nat) t v, Try.f11.params[j]? = some t → args[j]? = some v → Value.okWide Try.prog W .any base t v := hval0
  have hW' := hW
  obtain ⟨p, q, hA0, hV, rfl, _, _⟩ := hW
  have hA : DataW.TrodAll enc Try.prog W 0 (fun _ => true) true Try.f11.params.toList args.toList ds p := hA0
  rw [Try.params11] at hA hval
  obtain ⟨v0, vs0, d0, ds0, p0, q0, hargs, rfl, rfl, h0, r0⟩ := trodAll_cons hA
  obtain ⟨rfl, rfl, rfl⟩ := trodAll_nil r0
  obtain rfl : args = #[v0] := by cases args; simp_all
  obtain ⟨rfl, rfl⟩ := trodVars_none hV
  clear hA0 hval0
  simp only [List.append_nil] at hW'
  have hlt0 : ∀ x ∈ p0, x.block < W.heap.size := fun x hx => hW'.lt x (by simp [hx])
  have k0 := h0
  obtain ⟨A0, n0, c0, rfl⟩ := okWide_slice Try.underlying23 (hval 0 23 v0 rfl rfl)
  obtain ⟨fuel0, hf0⟩ := h0
  obtain ⟨bs0, hs0⟩ := open_bytes (by simpa [Value.cells] using hf0)
  refine (wver_walk hs0).mono fun e W' ⟨he, hg⟩ => ?_
  subst he
  exact ⟨_, rfl, _, _, _, [], _, [], hW', trodAll_cons_mk (shut_bool Try.underlying4 _) trodAll_mk0,
    (trodAll_cons_mk (Below.trod laidOut (by kernel_rfl) (of_decide_eq_true (by kernel_rfl)) k0 hg hlt0) trodAll_mk0), rfl, hg.frame _, fun h => by cases h⟩

theorem wver_holds : Rows.ChecksumVerifySaid :=
  OpenClaim.holds_of_wide 11 Try.f11 rfl rfl rfl rfl rfl rfl rfl ⟨rfl, rfl, rfl, rfl, rfl⟩ rfl rfl rfl rfl rfl (by kernel_rfl) Try.func11 (by kernel_rfl)
    (of_decide_eq_true (by kernel_rfl)) (by unfold Func.isWrapper; first | (rw [if_pos (by decide +kernel)]; kernel_rfl) | (rw [if_neg (by decide +kernel)]; exact ⟨rfl, rfl⟩))
    (fun os started H enc _ => wver_lifted os started H enc)

end Go.Proofs.Ytllmdgbokmldnaa
