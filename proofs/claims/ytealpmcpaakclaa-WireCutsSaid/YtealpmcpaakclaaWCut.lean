/-
  WireCuts: for every list of items (asked of at most 12 of at most 300 bytes each) and every cut, the encoding without some of its last bytes can't be read as values of the same kinds: the error is ErrTruncated and stays, or a string with a zero byte is refused: the law returns true and leaves its arguments as they were. No condition.
-/
import Derived.Test.YtealpmcpaakclaaCutp
import Derived.Test.YtealpmcpaakclaaBack
namespace Go.Proofs.Ytealpmcpaakclaa
open Go.ChangeShapes Go.WideShapes Go.ChangeAt Go.RowKit Mem Wire

/-- the relation of the loop -/
def CutRel (w : World) (g : Nat) (l : List It) (j : Nat) (wr : World) : Prop := ∃ s, Rdr wr g s ∧ s.1.length ≤ 100000 ∧ Cutting l j s ∧ Below w.heap.size w wr

set_option maxHeartbeats 1000000 in
theorem cuts_walk {w : World} {v : Value} {l : List It} (h : Items w v l) (cut : Int) (hC0 : -9223372036854775808 ≤ cut) (hC : cut ≤ 9223372036854775807) : Calls Try.prog 6 #[v, .int .i64 cut] w (Says true w) := by
  have HI := Lib.hid h
  obtain ⟨w1, hw1⟩ : ∃ w1, w1 = w.alloc (.cells #[] 5) := ⟨_, rfl⟩
  have hb1 : Below w.heap.size w w1 := by rw [hw1]; exact (Below.refl _ _).alloc (Nat.le_refl _) _
  have h' := h.below hb1
  have HLA := Lib.hid (light_any h')
  have HW1 := Lib.hid hw1
  clear hw1
  by_cases hl : lightB l = true
  · rw [hl] at HLA
    obtain ⟨hl12, hsm⟩ := light_small hl
    have HALL := Lib.hid (all_any h' hl)
    have HSM := Lib.hid hsm
    obtain ⟨A, cap, rfl, h1, h2, h3, h4⟩ := h
    have hm2 : cap ≤ 9223372036854775807 := by simpa [maxLen] using h2
    have HOK := Lib.hid h3
    have HC : Hid (0 < l.length → ∃ b off, A = some ⟨b, off, none⟩ ∧ b < w.heap.size ∧ ∀ (j : Nat) (t : It), l[j]? = some t →
      w.cell? ⟨b, off + j * 3, none⟩ = some (.int .i64 t.k) ∧ w.cell? ⟨b, off + j * 3 + 1, none⟩ = some (.int .u32 (t.n : Int)) ∧ w.cell? ⟨b, off + j * 3 + 2, none⟩ = some t.v) := h4
    have hle := encAll_le l hsm
    have hlen : (encAll l).length ≤ 100000 := by omega
    have hnil : l = [] → (encAll l).length = 0 := fun e => by rw [e]; rfl
    have HNIL := Lib.hid hnil
    clear h2 h3 h4 hsm hl h1 h' hle hnil
    obtain ⟨n, hn⟩ : ∃ n, l.length = n := ⟨_, rfl⟩
    rw [hn] at HC HALL HLA ⊢
    have HN := Lib.hid hn
    rw [hn] at hl12
    clear hn
    have hcap : n ≤ cap := by
      obtain ⟨_, _, hv, h1, _⟩ := HI.out
      have := HN.out
      injection hv with _ e1 e2
      omega
    by_cases hc1 : cut < 1
    · go_enter Try.func6, Try.ntmps6
      go_wp2_with fail
      rw [← HW1.out]
      refine HLA.out.mono ?_
      rintro e w2 ⟨rfl, rfl⟩
      go_wp2_with fail
      refine HALL.out.mono ?_
      rintro e w2 ⟨v2, rfl, hs2, h2⟩
      have hb2 := hb1.trans (h2.mono hb1.size)
      go_wp2_with fail
      refine (example_any _).mono ?_
      rintro e w3 ⟨rfl, h3⟩
      go_wp2_with fail
      go_ret
      exact ⟨rfl, hb2.trans (h3.mono hb2.size)⟩
    · obtain ⟨c, rfl⟩ : ∃ c : Nat, cut = (c : Int) := ⟨cut.toNat, by omega⟩
      by_cases hc2 : (encAll l).length < c
      · go_enter Try.func6, Try.ntmps6
        go_wp2_with fail
        rw [← HW1.out]
        refine HLA.out.mono ?_
        rintro e w2 ⟨rfl, rfl⟩
        go_wp2_with fail
        refine HALL.out.mono ?_
        rintro e w2 ⟨v2, rfl, hs2, h2⟩
        obtain ⟨A2, c2, rfl, _, _⟩ := hs2.shape
        have hb2 := hb1.trans (h2.mono hb1.size)
        generalize (encAll l).length = el at *
        go_wp2_with fail
        refine (example_any _).mono ?_
        rintro e w3 ⟨rfl, h3⟩
        go_wp2_with fail
        go_ret
        exact ⟨rfl, hb2.trans (h3.mono hb2.size)⟩
      · have hpos : 0 < n := by
          rcases Nat.eq_zero_or_pos n with h0 | h0
          · have := HNIL.out (List.eq_nil_of_length_eq_zero (HN.out.trans h0))
            omega
          · exact h0
        obtain ⟨b, off, rfl, hb, hc⟩ := HC.out hpos
        have HCC := Lib.hid hc
        clear hc
        go_enter Try.func6, Try.ntmps6
        go_wp2_with fail
        rw [← HW1.out]
        refine HLA.out.mono ?_
        rintro e w2 ⟨rfl, rfl⟩
        go_wp2_with fail
        refine HALL.out.mono ?_
        rintro e w2 ⟨v2, rfl, hs2, h2⟩
        obtain ⟨A2, c2, rfl, hcc2, hm2'⟩ := hs2.shape
        have hcc3 : c2 ≤ 9223372036854775807 := by simpa [maxLen] using hm2'
        have hb2 := hb1.trans (h2.mono hb1.size)
        have hs2t := hs2.take (k := (encAll l).length - c) (by omega)
        have HF := Lib.hid (from_any hs2t (by rw [List.length_take]; omega))
        have hcut0 : Cutting l 0 ((encAll l).take ((encAll l).length - c), 0) := .inl ⟨c, by omega, by rw [List.drop_zero]; omega, by rw [List.drop_zero]⟩
        have HCUT := Lib.hid hcut0
        have hql : ((encAll l).take ((encAll l).length - c)).length ≤ 100000 := by rw [List.length_take]; omega
        have HQL := Lib.hid hql
        clear hs2 hs2t hcut0 hql hm2'
        generalize (encAll l).take ((encAll l).length - c) = Q at *
        generalize (encAll l).length = el at *
        go_wp2_with fail
        refine HF.out.mono ?_
        rintro e w3 ⟨g, rfl, hg3, hr3, h3⟩
        have hbw3 := hb2.trans (h3.mono hb2.size)
        have hgw : w.heap.size ≤ g := Nat.le_trans hb2.size hg3
        have HR3 := Lib.hid hr3
        clear hr3 hg3 h2 h3
        go_wp2_with fail
        go_loopw [7] (fun i wr => ∃ j : Nat, j ≤ n ∧ i = .int .i64 j ∧ CutRel w g l j wr) (fun i _ => n - (intOf i).toNat)
        case atStart => exact ⟨0, Nat.zero_le _, rfl, _, HR3.out, HQL.out, HCUT.out, hbw3⟩
        case round =>
          obtain ⟨j, hj, rfl, s, hr, hsl, hcut, hbr⟩ := hrel
          have HR := Lib.hid hr
          clear hr
          have hbg : b ≠ g := by omega
          have hlb : b < wr.heap.size := Nat.lt_of_lt_of_le hb hbr.size
          by_cases hlt : j < n
          · obtain ⟨t, ht⟩ : ∃ t, l[j]? = some t := ⟨_, List.getElem?_eq_getElem (by rw [HN.out]; exact hlt)⟩
            obtain ⟨g0, g1, g2⟩ := HCC.out j t ht
            rw [← hbr.cell (p := ⟨b, off + j * 3, none⟩) hb] at g0
            rw [← hbr.cell (p := ⟨b, off + j * 3 + 1, none⟩) hb] at g1
            rw [← hbr.cell (p := ⟨b, off + j * 3 + 2, none⟩) hb] at g2
            have hok := (HOK.out t (List.mem_of_getElem? ht)).below hbr
            have hs3 := HSM.out t (List.mem_of_getElem? ht)
            have hstep := cutting_step ht hok.2 hs3 hcut
            have HRD := Lib.hid (read_any t.k 300 HR.out (by omega) (by omega))
            have HOKR := Lib.hid hok
            have hcells := And.intro g0 (And.intro g1 g2)
            clear hok hs3 ht hcut
            obtain ⟨k, N, vv, xs⟩ := t
            dsimp only at g0 g1 g2 hcells HRD hstep
            rcases hstep with ⟨hrd, hval⟩ | ⟨s', n', b', hval, hcut'⟩ | ⟨hval, hcut'⟩
            · rw [hval] at HRD
              have HNR := Lib.hid hrd
              clear hval hrd
              go_wp2_with fail
              refine HRD.out.mono ?_
              rintro e w4 ⟨v4, rfl, hs4, hr4, hg4⟩
              dsimp only at hs4 hr4
              obtain ⟨A4, c4, rfl, _, _⟩ := hs4.shape
              obtain ⟨f0, f1, f2⟩ := cells_grown hlb hg4 hbg hcells
              have hl4 : b < w4.heap.size := Nat.lt_of_lt_of_le hlb hg4.size
              have b4 : Below w.heap.size w w4 := hbr.grown hg4 hbr.size (fun x hx => by injection hx with hx; omega)
              have hb5 : Below w4.heap.size w4 (w4.alloc (.cells #[.int .i64 k, .int .u32 0, .slice A4 0 c4] 25)) := (Below.refl _ _).alloc (Nat.le_refl _) _
              have hER := Lib.hid (err_any (hr4.below hb5))
              have hRDB := Lib.hid (readable_any ((HOKR.out.grown hg4 HR.out).below hb5))
              rw [HNR.out] at hRDB
              dsimp only at hER
              clear hs4 hr4 hg4
              go_wp2_with fail
              refine hER.out.mono ?_
              rintro e w5 ⟨rfl, rfl⟩
              go_wp2_with fail
              refine hRDB.out.mono ?_
              rintro e w6 ⟨rfl, h6⟩
              have b6 := (b4.trans (hb5.mono b4.size)).trans (h6.mono (b4.trans (hb5.mono b4.size)).size)
              go_wp2_with fail
              refine (example_any _).mono ?_
              rintro e w7 ⟨rfl, h7⟩
              go_wp2_with fail
              go_ret
              exact ⟨rfl, b6.trans (h7.mono b6.size)⟩
            · rw [hval] at HRD
              clear hval
              go_wp2_with fail
              refine HRD.out.mono ?_
              rintro e w4 ⟨v4, rfl, hs4, hr4, hg4⟩
              dsimp only at hs4 hr4
              obtain ⟨A4, c4, rfl, _, _⟩ := hs4.shape
              have hl4 : b < w4.heap.size := Nat.lt_of_lt_of_le hlb hg4.size
              have b4 : Below w.heap.size w w4 := hbr.grown hg4 hbr.size (fun x hx => by injection hx with hx; omega)
              generalize b'.length = m' at *
              have hb5 : Below w4.heap.size w4 (w4.alloc (.cells #[.int .i64 k, .int .u32 (n' : Int), .slice A4 m' c4] 25)) := (Below.refl _ _).alloc (Nat.le_refl _) _
              have hER := Lib.hid (err_any (hr4.below hb5))
              dsimp only at hER
              have R5 := Lib.hid (hr4.below hb5)
              have b5 := b4.trans (hb5.mono b4.size)
              have hfin : Hid (s'.length ≤ 100000) := by
                rcases hcut' with ⟨cc, _, _, e⟩ | e
                · have e1 := congrArg Prod.fst e
                  dsimp only at e1
                  rw [e1, List.length_take]
                  have h1 := encAll_le (l.drop (j + 1)) (fun u hu => HSM.out u (List.mem_of_mem_drop hu))
                  have h2 : (l.drop (j + 1)).length ≤ 12 := by rw [List.length_drop]; have := HN.out; omega
                  show _ ≤ _
                  omega
                · have e1 := congrArg Prod.snd e
                  cases e1
              have HCT := Lib.hid hcut'
              clear hs4 hr4 hg4 hcut'
              go_wp2_with fail
              refine hER.out.mono ?_
              rintro e w5 ⟨rfl, rfl⟩
              go_wp2_with fail
              refine hER.out.mono ?_
              rintro e w5 ⟨rfl, rfl⟩
              go_wp2_with fail
              go_roundw
              case rel => exact ⟨j + 1, by omega, by go_num, _, R5.out, hfin.out, HCT.out, b5⟩
              case measure => simp [intOf]; omega
            · rw [hval] at HRD
              clear hval
              go_wp2_with fail
              refine HRD.out.mono ?_
              rintro e w4 ⟨v4, rfl, hs4, hr4, hg4⟩
              dsimp only at hs4 hr4
              obtain ⟨A4, c4, rfl, _, _⟩ := hs4.shape
              have hl4 : b < w4.heap.size := Nat.lt_of_lt_of_le hlb hg4.size
              have b4 : Below w.heap.size w w4 := hbr.grown hg4 hbr.size (fun x hx => by injection hx with hx; omega)
              have hb5 : Below w4.heap.size w4 (w4.alloc (.cells #[.int .i64 k, .int .u32 0, .slice A4 0 c4] 25)) := (Below.refl _ _).alloc (Nat.le_refl _) _
              have hER := Lib.hid (err_any (hr4.below hb5))
              dsimp only at hER
              have R5 := Lib.hid (hr4.below hb5)
              have b5 := b4.trans (hb5.mono b4.size)
              have HCT := Lib.hid hcut'
              clear hs4 hr4 hg4 hcut'
              go_wp2_with fail
              refine hER.out.mono ?_
              rintro e w5 ⟨rfl, rfl⟩
              go_wp2_with fail
              refine hER.out.mono ?_
              rintro e w5 ⟨rfl, rfl⟩
              go_wp2_with fail
              go_roundw
              case rel => exact ⟨j + 1, by omega, by go_num, _, R5.out, by simp, HCT.out, b5⟩
              case measure => simp [intOf]; omega
          · have hjn : n = j := by omega
            subst hjn
            have hs : s = ([], 4) := by rw [← HN.out] at hcut; exact cutting_end hcut
            subst hs
            have hrr := HR.out
            have hER := Lib.hid (err_any hrr)
            have hEN := Lib.hid (end_any hrr)
            have hLF := Lib.hid (left_any hrr)
            have hUI := Lib.hid (uint_any hrr)
            dsimp only [List.length_nil] at hER hLF
            rw [show endS ([], 4) = 4 by decide] at hEN
            rw [num_stuck] at hUI
            clear hrr hcut
            go_wp2_with fail
            refine hER.out.mono ?_
            rintro e w4 ⟨rfl, rfl⟩
            go_wp2_with fail
            refine hEN.out.mono ?_
            rintro e w4 ⟨rfl, rfl⟩
            go_wp2_with fail
            refine hLF.out.mono ?_
            rintro e w4 ⟨rfl, rfl⟩
            go_wp2_with fail
            refine hUI.out.mono ?_
            rintro e w4 ⟨rfl, _, hg4⟩
            have b4 : Below w.heap.size w w4 := hbr.grown hg4 hbr.size (fun x hx => by injection hx with hx; omega)
            go_wp2_with fail
            refine (example_any _).mono ?_
            rintro e w5 ⟨rfl, h5⟩
            go_wp2_with fail
            go_ret
            exact ⟨rfl, b4.trans (h5.mono b4.size)⟩
  · have hlf : lightB l = false := by simpa using hl
    rw [hlf] at HLA
    obtain ⟨A, cap, rfl, _⟩ := h
    clear hl hlf h'
    generalize l.length = n at *
    by_cases hc1 : cut < 1
    · go_enter Try.func6, Try.ntmps6
      go_wp2_with fail
      rw [← HW1.out]
      refine HLA.out.mono ?_
      rintro e w2 ⟨rfl, rfl⟩
      go_wp2_with fail
      refine (example_any _).mono ?_
      rintro e w2 ⟨rfl, h3⟩
      go_wp2_with fail
      go_ret
      exact ⟨rfl, hb1.trans (h3.mono hb1.size)⟩
    · have hc2 : 0 < cut := by omega
      go_enter Try.func6, Try.ntmps6
      go_wp2_with fail
      rw [← HW1.out]
      refine HLA.out.mono ?_
      rintro e w2 ⟨rfl, rfl⟩
      go_wp2_with fail
      refine (example_any _).mono ?_
      rintro e w2 ⟨rfl, h3⟩
      go_wp2_with fail
      go_ret
      exact ⟨rfl, hb1.trans (h3.mono hb1.size)⟩

set_option maxRecDepth 100000 in
theorem cuts_lifted (os : Os) (started : os.Started) (H : Type) (enc : TypeId × Value → H) :
    ReturnsInHanded {} Try.checked os 6 .any (Rows.wireCutsSpec.pre6 enc Try.prog Try.f6 Rows.wireCutsRow.domain false) (Rows.wireCutsSpec.post enc Try.prog Try.f6 false true false false) := by
  refine returnsInHanded_of_change (C := Try.checked) own started (by kernel_rfl) Try.func6
    (ChangeSpec.witness6 (enc := enc) (C := Try.checked) false ⟨#[], #[.slice none 0 0, .int .i64 0], []⟩ 8 (by kernel_rfl) (by kernel_rfl) (by kernel_rfl) (by kernel_rfl)) ?_
  intro W base args ds gs before hval0 hW _ _
  have hval : ∀ (j : Nat) t v, Try.f6.params[j]? = some t → args[j]? = some v → Value.okWide Try.prog W .any base t v := hval0
  have hW' := hW
  obtain ⟨p, q, hA0, hV, rfl, _, _⟩ := hW
  have hA : DataW.TrodAll enc Try.prog W 0 (fun _ => true) true Try.f6.params.toList args.toList ds p := hA0
  rw [Try.params6] at hA hval
  obtain ⟨v0, v1, d0, d1, p0, p1, rfl, rfl, rfl, h0, h1⟩ := trodAll_two hA
  obtain ⟨rfl, rfl⟩ := trodVars_none hV
  clear hA0 hval0
  simp only [List.append_nil] at hW'
  have hlt0 : ∀ x ∈ p0, x.block < W.heap.size := fun x hx => hW'.lt x (by simp [hx])
  have hlt1 : ∀ x ∈ p1, x.block < W.heap.size := fun x hx => hW'.lt x (by simp [hx])
  obtain ⟨l, hl⟩ := open_items h0 (by obtain ⟨A, n, c, h⟩ := okWide_slice Try.underlying27 (hval 0 27 v0 rfl rfl); exact ⟨A, n, c, h⟩)
  have k1 := h1
  obtain ⟨m, rfl, _, _, wm⟩ := open_int Try.underlying3 (hval 1 3 v1 rfl rfl) h1
  have hM : -9223372036854775808 ≤ m ∧ m ≤ 9223372036854775807 := by
    have g1 : IntKind.i64.min = -9223372036854775808 := rfl
    have g2 : IntKind.i64.max = 9223372036854775807 := rfl
    simp only [Lit.wf, Bool.and_eq_true, decide_eq_true_eq, g1, g2] at wm
    exact wm
  refine (cuts_walk hl m hM.1 hM.2).mono fun e W' ⟨he, hg⟩ => ?_
  subst he
  exact ⟨_, rfl, _, _, _, [], _, [], hW', trodAll_cons_mk (shut_bool Try.underlying4 _) trodAll_mk0,
    trodAll_mk2 (Below.trod laidOut (by kernel_rfl) (of_decide_eq_true (by kernel_rfl)) h0 hg hlt0) (Below.trod laidOut (by kernel_rfl) (of_decide_eq_true (by kernel_rfl)) k1 hg hlt1), rfl, hg.frame _, fun h => by cases h⟩

theorem cuts_holds : Rows.WireCutsSaid :=
  OpenClaim.holds_of_wide 6 Try.f6 rfl rfl rfl rfl rfl rfl rfl ⟨rfl, rfl, rfl, rfl, rfl⟩ rfl rfl rfl rfl rfl (by kernel_rfl) Try.func6 (by kernel_rfl)
    (of_decide_eq_true (by kernel_rfl)) (by unfold Func.isWrapper; first | (rw [if_pos (by decide +kernel)]; kernel_rfl) | (rw [if_neg (by decide +kernel)]; exact ⟨rfl, rfl⟩))
    (fun os started H enc _ => cuts_lifted os started H enc)

end Go.Proofs.Ytealpmcpaakclaa
