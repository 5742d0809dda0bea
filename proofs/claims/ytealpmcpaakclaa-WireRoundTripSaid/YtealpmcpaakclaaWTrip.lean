/-
  WireRoundTrip: for every list of items (asked of at most 12 of at most 300 bytes each, strings without a zero byte), the values that were written one after the other are read back in order and nothing is left: the law returns true and leaves its argument as it was. No condition.
-/
import Derived.Test.YtealpmcpaakclaaBack
namespace Go.Proofs.Ytealpmcpaakclaa
open Go.ChangeShapes Go.WideShapes Go.ChangeAt Go.RowKit Mem Wire

set_option maxHeartbeats 1000000 in
theorem trip_walk {w : World} {v : Value} {l : List It} (h : Items w v l) : Calls Try.prog 5 #[v] w (Says true w) := by
  have HI := Lib.hid h
  have HLA := Lib.hid (light_any h)
  by_cases hl : lightB l = true
  · rw [hl] at HLA
    obtain ⟨hl12, hsm⟩ := light_small hl
    have HALL := Lib.hid (fun (w1 : World) (hb : Below w.heap.size w w1) => all_any (h.below hb) hl)
    have HSM := Lib.hid hsm
    have HLL := Lib.hid hl
    obtain ⟨A, cap, rfl, h1, h2, h3, h4⟩ := h
    have hm2 : cap ≤ 9223372036854775807 := by simpa [maxLen] using h2
    have HOK := Lib.hid h3
    have HC : Hid (0 < l.length → ∃ b off, A = some ⟨b, off, none⟩ ∧ b < w.heap.size ∧ ∀ (j : Nat) (t : It), l[j]? = some t →
      w.cell? ⟨b, off + j * 3, none⟩ = some (.int .i64 t.k) ∧ w.cell? ⟨b, off + j * 3 + 1, none⟩ = some (.int .u32 (t.n : Int)) ∧ w.cell? ⟨b, off + j * 3 + 2, none⟩ = some t.v) := h4
    clear h2 h3 h4 hsm hl h1
    obtain ⟨n, hn⟩ : ∃ n, l.length = n := ⟨_, rfl⟩
    rw [hn] at HC HALL HLA ⊢
    have HN := Lib.hid hn
    rw [hn] at hl12
    clear hn
    have hcap : n ≤ cap := by
      obtain ⟨_, _, hv, h1, _⟩ := HI.out
      have := HN.out
      injection hv with _ e1 e2
      omega
    rcases Nat.eq_zero_or_pos n with h0 | h0
    · subst h0
      have hl0 : l = [] := List.eq_nil_of_length_eq_zero HN.out
      subst hl0
      have HA2 : Hid (Calls Try.prog 32 #[.slice A 0 cap] w (Fresh w [])) := HALL.out w (Below.refl _ _)
      go_enter Try.func5, Try.ntmps5
      go_wp2_with fail
      refine HLA.out.mono ?_
      rintro e w1 ⟨rfl, rfl⟩
      go_wp2_with fail
      refine wp_loop_rounds 1 ?_
      rw [rounds_succ]
      go_wp2_with fail
      refine HA2.out.mono ?_
      rintro e w2 ⟨v2, rfl, hs2, h2⟩
      obtain ⟨A2, c2, rfl, _, _⟩ := hs2.shape
      have HF : Hid (Calls Try.prog 15 #[.slice A2 0 c2] w2 (Made w2 [])) := from_any hs2 (by simp)
      clear hs2
      go_wp2_with fail
      refine HF.out.mono ?_
      rintro e w3 ⟨g, rfl, hg3, hr3, h3⟩
      have hbw3 := h2.trans (h3.mono h2.size)
      have HLF := Lib.hid (left_any hr3)
      have HEN := Lib.hid (end_any hr3)
      dsimp only [List.length_nil] at HLF
      rw [show endS ([], 0) = 0 by decide] at HEN
      clear hr3
      go_wp2_with fail
      refine wp_loop_rounds 1 ?_
      rw [rounds_succ]
      go_wp2_with fail
      refine HLF.out.mono ?_
      rintro e w4 ⟨rfl, rfl⟩
      go_wp2_with fail
      refine HEN.out.mono ?_
      rintro e w4 ⟨rfl, rfl⟩
      go_wp2_with fail
      refine (example_any _).mono ?_
      rintro e w4 ⟨rfl, h4⟩
      go_wp2_with fail
      go_ret
      exact ⟨rfl, hbw3.trans (h4.mono hbw3.size)⟩
    · obtain ⟨b, off, rfl, hb, hc⟩ := HC.out h0
      have HCC := Lib.hid hc
      clear hc
      go_enter Try.func5, Try.ntmps5
      go_wp2_with fail
      refine HLA.out.mono ?_
      rintro e w1 ⟨rfl, rfl⟩
      go_wp2_with fail
      go_loopw [3] (fun i wr => ∃ j : Nat, j ≤ n ∧ i = .int .i64 j ∧ Below w.heap.size w wr ∧ Hid (AllReadable l j)) (fun i _ => n - (intOf i).toNat)
      case atStart => exact ⟨0, Nat.zero_le _, rfl, Below.refl _ _, fun i hi => by omega⟩
      case round =>
        obtain ⟨j, hj, rfl, hbw, hz⟩ := hrel
        by_cases hlt : j < n
        · obtain ⟨t, ht⟩ : ∃ t, l[j]? = some t := ⟨_, List.getElem?_eq_getElem (by rw [HN.out]; exact hlt)⟩
          obtain ⟨g0, g1, g2⟩ := HCC.out j t ht
          rw [← hbw.cell (p := ⟨b, off + j * 3, none⟩) hb] at g0
          rw [← hbw.cell (p := ⟨b, off + j * 3 + 1, none⟩) hb] at g1
          rw [← hbw.cell (p := ⟨b, off + j * 3 + 2, none⟩) hb] at g2
          have hok := (HOK.out t (List.mem_of_getElem? ht)).below hbw
          have HT := Lib.hid ht
          have HR := Lib.hid (readable_any hok)
          clear hok ht
          by_cases hrd : t.readable = true
          · rw [hrd] at HR
            have HRD := Lib.hid hrd
            clear hrd
            obtain ⟨k, N, vv, xs⟩ := t
            dsimp only at g0 g1 g2
            unfold It.val at HR
            dsimp only at HR
            go_wp2_with fail
            refine HR.out.mono ?_
            rintro e w2 ⟨rfl, h5⟩
            go_wp2_with fail
            go_roundw
            case rel => exact ⟨j + 1, by omega, by go_num, hbw.trans (h5.mono hbw.size), fun i hi u hu => by
              by_cases h : i = j
              · subst h
                have e : some u = some _ := hu.symm.trans HT.out
                injection e with e
                rw [e]; exact HRD.out
              · exact hz.out i (by omega) u hu⟩
            case measure => simp [intOf]; omega
          · have hrf : t.readable = false := by simpa using hrd
            rw [hrf] at HR
            clear hrd hrf
            obtain ⟨k, N, vv, xs⟩ := t
            dsimp only at g0 g1 g2
            unfold It.val at HR
            dsimp only at HR
            go_wp2_with fail
            refine HR.out.mono ?_
            rintro e w2 ⟨rfl, h5⟩
            go_wp2_with fail
            refine (example_any _).mono ?_
            rintro e w3 ⟨rfl, h6⟩
            have hb5 := hbw.trans (h5.mono hbw.size)
            go_wp2_with fail
            go_ret
            exact ⟨rfl, hb5.trans (h6.mono hb5.size)⟩
        · have hjn : n = j := by omega
          subst hjn
          have hAR := hz.out
          have HAR : Hid (AllReadable l n) := hz
          have hle := encAll_le l HSM.out
          have hln := HN.out
          have hlen : (encAll l).length ≤ 100000 := by omega
          have hmod := encAll_mod l
          clear hAR hle hln hz
          have HA2 := Lib.hid (HALL.out wr hbw)
          go_wp2_with fail
          refine HA2.out.mono ?_
          rintro e w2 ⟨v2, rfl, hs2, h2⟩
          obtain ⟨A2, c2, rfl, hc2, hm2'⟩ := hs2.shape
          have hbw2 := hbw.trans (h2.mono hbw.size)
          have HF := Lib.hid (from_any hs2 (by omega))
          have HLEN : Hid ((encAll l).length ≤ 100000) := hlen
          have HMOD := Lib.hid hmod
          clear hs2 HA2 hmod
          generalize hE : (encAll l).length = el at HF hc2 hlen
          have HE := Lib.hid hE
          rw [hE] at HMOD
          clear hE
          go_wp2_with fail
          refine HF.out.mono ?_
          rintro e w3 ⟨g, rfl, hg3, hr3, h3⟩
          have hbw3 := hbw2.trans (h3.mono hbw2.size)
          have hgw : w.heap.size ≤ g := Nat.le_trans hbw2.size hg3
          have HR3 := Lib.hid hr3
          clear hr3 hg3 h2 h3
          go_wp2_with fail
          go_loopw [6] (fun i wr => ∃ j : Nat, j ≤ n ∧ i = .int .i64 j ∧ Back w g l j wr) (fun i _ => n - (intOf i).toNat)
          case atStart => exact ⟨0, Nat.zero_le _, rfl, by rw [List.drop_zero]; exact HR3.out, hbw3⟩
          case round =>
            obtain ⟨j, hj, rfl, hr, hbr⟩ := hrel
            have HR := Lib.hid hr
            clear hr
            by_cases hlt : j < n
            · obtain ⟨t, ht⟩ : ∃ t, l[j]? = some t := ⟨_, List.getElem?_eq_getElem (by rw [HN.out]; exact hlt)⟩
              obtain ⟨g0, g1, g2⟩ := HCC.out j t ht
              rw [← hbr.cell (p := ⟨b, off + j * 3, none⟩) hb] at g0
              rw [← hbr.cell (p := ⟨b, off + j * 3 + 1, none⟩) hb] at g1
              rw [← hbr.cell (p := ⟨b, off + j * 3 + 2, none⟩) hb] at g2
              have hok := (HOK.out t (List.mem_of_getElem? ht)).below hbr
              have hs3 := HSM.out t (List.mem_of_getElem? ht)
              have hrd := HAR.out j hlt t ht
              obtain ⟨k, N, vv, xs⟩ := t
              dsimp only at g0 g1 g2 hs3
              obtain ⟨A', c', hv, hc3, hc4⟩ := hok.1.shape
              dsimp only at hv hc3
              subst hv
              have hc5 : c' ≤ 9223372036854775807 := by simpa [maxLen] using hc4
              have hrr := HR.out
              rw [encAll_drop ht] at hrr
              have hdl : (It.enc ⟨k, N, .slice A' xs.length c', xs⟩ ++ encAll (l.drop (j + 1))).length ≤ 1000000 := by
                rw [← encAll_drop ht]
                have h1 := encAll_le (l.drop j) (fun u hu => HSM.out u (List.mem_of_mem_drop hu))
                have h2 : (l.drop j).length ≤ 12 := by rw [List.length_drop]; have := HN.out; omega
                omega
              have HRB := Lib.hid (read_back (w := wr.drew) hrr hdl hok.2 hs3 hrd)
              dsimp only at HRB
              have hbg : b ≠ g := by omega
              have hlb : b < wr.heap.size := Nat.lt_of_lt_of_le hb hbr.size
              have HT := Lib.hid ht
              have HOKR := Lib.hid hok
              have HRR := Lib.hid hrr
              clear hok hrd ht hrr hdl hc4
              have q0 : (0 : Int) ≤ (j : Int) := Int.natCast_nonneg _
              have q1 : (j : Int) < (n : Int) := by omega
              generalize xs.length = m at *
              go_wp2_with fail
              go_region_held3 (fun W => W.cell? ⟨b, off + j * 3, none⟩ = some (.int .i64 k) ∧ W.cell? ⟨b, off + j * 3 + 1, none⟩ = some (.int .u32 (N : Int)) ∧ W.cell? ⟨b, off + j * 3 + 2, none⟩ = some (.slice A' m c'))
                (first
                  | go_keep
                  | exact s4
                  | exact s5)
                (first
                  | (go_at_call 34; refine HRB.out.mono ?_; rintro e w4 ⟨u, rfl, hu, he, hr4, hg4⟩; have s4 := cells_grown (W := wr.drew) hlb hg4 hbg ⟨g0, g1, g2⟩; have hl4 := Nat.lt_of_lt_of_le hlb hg4.size; have b4 : Below w.heap.size w w4 := hbr.drew.grown hg4 hbr.drew.size (fun x hx => by injection hx with hx; omega); have HU := Lib.hid hu; have HE := Lib.hid he; have HR4 := Lib.hid hr4; have HOK4 := Lib.hid (HOKR.out.drew.grown hg4 HR.out); clear hu he hr4)
                  | (go_at_call 33; refine (equal_back HU.out HOK4.out HE.out).mono ?_; rintro e w5 ⟨rfl, h5⟩; have s5 := cells_below hl4 h5 s4; have R5 := Lib.hid (HR4.out.below h5); have b5 : Below w.heap.size w w5 := b4.trans (h5.mono b4.size))
                  | (go_at_call 27; refine (err_zero R5.out).mono ?_; rintro e w6 ⟨rfl, rfl⟩))
              all_goals
                clear q0 q1
                go_wp2_with fail
                go_roundw
                case rel => exact ⟨j + 1, by omega, by go_num, R5.out, b5⟩
                case measure => simp [intOf]; omega
            · have hjn : n = j := by omega
              subst hjn
              have hrn := HR.out
              have hdn : encAll (l.drop n) = [] := by rw [← HN.out, List.drop_length]; rfl
              rw [hdn] at hrn
              have HLF := Lib.hid (left_any hrn)
              have HEN := Lib.hid (end_any hrn)
              dsimp only [List.length_nil] at HLF
              rw [show endS ([], 0) = 0 by decide] at HEN
              have hm4 : ((el : Int) % 4 == 0) = true := by have := HMOD.out; rw [beq_iff_eq]; omega
              clear hrn hdn
              go_wp2_with fail
              refine HLF.out.mono ?_
              rintro e w4 ⟨rfl, rfl⟩
              go_wp2_with fail
              refine HEN.out.mono ?_
              rintro e w4 ⟨rfl, rfl⟩
              go_wp2_with fail
              refine (example_any _).mono ?_
              rintro e w4 ⟨rfl, h4⟩
              go_wp2_with fail
              go_ret
              exact ⟨rfl, hbr.trans (h4.mono hbr.size)⟩
  · have hlf : lightB l = false := by simpa using hl
    rw [hlf] at HLA
    obtain ⟨A, cap, rfl, _⟩ := h
    clear hl hlf
    generalize l.length = n at *
    go_enter Try.func5, Try.ntmps5
    go_wp2_with fail
    refine HLA.out.mono ?_
    rintro e w1 ⟨rfl, rfl⟩
    go_wp2_with fail
    refine (example_any _).mono ?_
    rintro e w1 ⟨rfl, h3⟩
    go_wp2_with fail
    go_ret
    exact ⟨rfl, h3⟩


set_option maxRecDepth 100000 in
theorem trip_lifted (os : Os) (started : os.Started) (H : Type) (enc : TypeId × Value → H) :
    ReturnsInHanded {} Try.checked os 5 .any (Rows.wireRoundTripSpec.pre6 enc Try.prog Try.f5 Rows.wireRoundTripRow.domain false) (Rows.wireRoundTripSpec.post enc Try.prog Try.f5 false true false false) := by
  refine returnsInHanded_of_change (C := Try.checked) own started (by kernel_rfl) Try.func5
    (ChangeSpec.witness6 (enc := enc) (C := Try.checked) false ⟨#[], #[.slice none 0 0], []⟩ 8 (by kernel_rfl) (by kernel_rfl) (by kernel_rfl) (by kernel_rfl)) ?_
  intro W base args ds gs before hval0 hW _ _
  have hval : ∀ (j : Nat) t v, Try.f5.params[j]? = some t → args[j]? = some v → Value.okWide Try.prog W .any base t v := hval0
  have hW' := hW
  obtain ⟨p, q, hA0, hV, rfl, _, _⟩ := hW
  have hA : DataW.TrodAll enc Try.prog W 0 (fun _ => true) true Try.f5.params.toList args.toList ds p := hA0
  rw [Try.params5] at hA hval
  obtain ⟨v0, vs0, d0, ds0, p0, q0, hargs, rfl, rfl, h0, r0⟩ := trodAll_cons hA
  obtain ⟨rfl, rfl, rfl⟩ := trodAll_nil r0
  obtain rfl : args = #[v0] := by cases args; simp_all
  obtain ⟨rfl, rfl⟩ := trodVars_none hV
  clear hA0 hval0
  simp only [List.append_nil] at hW'
  have hlt0 : ∀ x ∈ p0, x.block < W.heap.size := fun x hx => hW'.lt x (by simpa using hx)
  obtain ⟨l, hl⟩ := open_items h0 (by obtain ⟨A, n, c, h⟩ := okWide_slice Try.underlying27 (hval 0 27 v0 rfl rfl); exact ⟨A, n, c, h⟩)
  refine (trip_walk hl).mono fun e W' ⟨he, hg⟩ => ?_
  subst he
  exact ⟨_, rfl, _, _, _, [], _, [], hW', trodAll_cons_mk (shut_bool Try.underlying4 _) trodAll_mk0,
    trodAll_cons_mk (Below.trod laidOut (by kernel_rfl) (of_decide_eq_true (by kernel_rfl)) h0 hg hlt0) trodAll_mk0, rfl, hg.frame _, fun h => by cases h⟩

theorem trip_holds : Rows.WireRoundTripSaid :=
  OpenClaim.holds_of_wide 5 Try.f5 rfl rfl rfl rfl rfl rfl rfl ⟨rfl, rfl, rfl, rfl, rfl⟩ rfl rfl rfl rfl rfl (by kernel_rfl) Try.func5 (by kernel_rfl)
    (of_decide_eq_true (by kernel_rfl)) (by unfold Func.isWrapper; first | (rw [if_pos (by decide +kernel)]; kernel_rfl) | (rw [if_neg (by decide +kernel)]; exact ⟨rfl, rfl⟩))
    (fun os started H enc _ => trip_lifted os started H enc)

end Go.Proofs.Ytealpmcpaakclaa
