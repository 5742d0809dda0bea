/-
  FrameStreaming: for every sequence of pieces, the frames and the error are those of Split of the whole stream, and after an error every Feed returns ErrClosed (asked of at most 40 pieces with at most 20,000 bytes): the law returns true and leaves its argument as it was. No condition.
-/
import Derived.Test.YtfmknjfhalkfhaaStream
namespace Go.Proofs.Ytfmknjfhalkfhaa
open Go.ChangeShapes Go.WideShapes Go.ChangeAt Go.RowKit Mem Wire

theorem feed_any {w : World} {base g : Nat} {bv : Value} {closed : Bool} {A : Option Addr} {n c : Nat} {buf p : List UInt8} (hd : Dec w base g bv buf closed) (hp : Sees w (.slice A n c) p) (hlen : buf.length + p.length ≤ 1000000) (hbase : base ≤ w.heap.size) :
    Calls Try.prog 19 #[.pointer (some ⟨g, 0, none⟩), .slice A n c] w (FeedP w base g bv (feedS buf closed p)) := by
  cases closed with
  | false => exact feed_open hd hp hlen hbase
  | true => exact feed_closed hd

theorem taken_ge : ∀ (l : List Fr), l.length ≤ taken l
  | [] => Nat.le_refl _
  | f :: l => by have := taken_ge l; simp only [List.length_cons, taken]; omega

theorem SF.err {tot buf : List UInt8} {got : List Fr} {last : Int} (h : SF tot buf got last) : (splitS tot).2.2 = last := by
  by_cases h0 : last = 0
  · rw [h.ok h0, h0]
  · exact (h.bad h0).2.1

theorem SF.got {tot buf : List UInt8} {got : List Fr} {last : Int} (h : SF tot buf got last) : (splitS tot).1 = got := by
  by_cases h0 : last = 0
  · rw [h.ok h0]
  · exact (h.bad h0).1

theorem SF.small {tot buf : List UInt8} {got : List Fr} {last : Int} (h : SF tot buf got last) : got.length ≤ tot.length ∧ buf.length ≤ tot.length := by
  have h1 := split_length tot
  have h2 := taken_ge got
  rw [h.got] at h1
  refine ⟨by omega, ?_⟩
  by_cases h0 : last = 0
  · rw [h.ok h0] at h1
    dsimp only at h1
    omega
  · rw [(h.bad h0).2.2]
    simp

/-- in the loop, behind k pieces -/
structure SL (w : World) (l : List (List UInt8 × Value)) (g k : Nat) (s4 s5 bv : Value) (tot buf : List UInt8) (got : List (Fr × Value)) (last : Int) (wr : World) : Prop where
  mem : SM wr w.heap.size g s4 s5 bv tot buf got (decide (last ≠ 0))
  plain : SF tot buf (fst got) last
  below : Below w.heap.size w wr
  count : tot.length = total (l.take k)

def SLP (w : World) (l : List (List UInt8 × Value)) (g k : Nat) (s4 s5 : Value) (last : Int) (wr : World) : Prop :=
  ∃ bv tot buf got A4 c4 A5 c5, s4 = .slice A4 (List.length tot) c4 ∧ s5 = .slice A5 (List.length got) c5 ∧ SL w l g k s4 s5 bv tot buf got last wr

set_option maxRecDepth 40000 in
set_option maxHeartbeats 2000000 in
theorem stream_walk {w : World} {v : Value} {l : List (List UInt8 × Value)} (h : Pieces w v l) (hl : ∀ t ∈ l, t.1.length ≤ 140737488351232) : Calls Try.prog 6 #[v] w (Says true w) := by
  have HL := Lib.hid (long_any h hl)
  have HP := Lib.hid h
  obtain ⟨A, cap, rfl, h1, h2, h3, h4⟩ := h
  simp only [maxLen] at h2
  by_cases hlong : longB l = true
  · rw [hlong] at HL
    clear h3 h4 hlong hl
    generalize l.length = n at *
    go_enter Try.func6, Try.ntmps6
    go_wp2_with fail
    refine HL.out.mono ?_
    rintro e w1 ⟨rfl, rfl⟩
    go_wp2_with fail
    refine (example_any w).mono ?_
    rintro e w2 ⟨rfl, hx⟩
    go_wp2_with fail
    go_ret
    exact ⟨rfl, hx⟩
  · have hlf : longB l = false := by simpa using hlong
    rw [hlf] at HL
    obtain ⟨hl40, htot⟩ := long_no hlf
    have HS := Lib.hid h3
    have HC4 := Lib.hid h4
    clear hlong hlf h3 h4 hl
    generalize hln : l.length = n at *
    have HN := Lib.hid hln
    clear hln
    go_enter Try.func6, Try.ntmps6
    go_wp2_with fail
    refine HL.out.mono ?_
    rintro e w1 ⟨rfl, rfl⟩
    go_wp2_with fail
    refine (new_any w).mono ?_
    rintro e w1 ⟨g, rfl, hd, hb1⟩
    have HST : Hid (SLP w l g 0 (.slice none 0 0) (.slice none 0 0) 0 w1) := ⟨.slice none 0 0, [], [], [], none, 0, none, 0, rfl, rfl, ⟨own_nil _ _, World.ownsRow_nil _ _ 25 3, by simp, hd, .inl rfl, by simp, by simp⟩, ⟨fun _ => by rw [split_short (bs := []) (by simp)]; rfl, fun n => absurd rfl n⟩, hb1, by simp [total]⟩
    clear hd hb1
    go_wp2_with fail
    go_loopw [4, 5, 6, 19] (fun s4 s5 s6 s19 wr => ∃ (k : Nat) (last : Int), k ≤ n ∧ s19 = .int .i64 k ∧ s6 = .int .i64 last ∧ Hid (SLP w l g k s4 s5 last wr)) (fun _ _ _ s19 _ => n - (intOf s19).toNat)
    case atStart => exact ⟨0, 0, Nat.zero_le _, rfl, rfl, HST.out⟩
    case round =>
      obtain ⟨k, last, hk, rfl, rfl, hsl⟩ := hrel
      obtain ⟨bv, tot, buf, got, A4, c4, A5, c5, rfl, rfl, hsl⟩ := hsl.out
      have HSL := Lib.hid hsl
      clear hsl HST
      by_cases hlt : k < n
      · obtain ⟨t, ht⟩ : ∃ t, l[k]? = some t := ⟨_, List.getElem?_eq_getElem (by rw [HN.out]; exact hlt)⟩
        obtain ⟨b, off, rfl, hb, hc⟩ := HC4.out (by omega)
        have c0 := hc k t ht
        have HT := Lib.hid ht
        have hsee := Lib.hid (HS.out t (List.mem_of_getElem? ht))
        have hcnt : Hid ((tot ++ t.1).length = total (l.take (k + 1))) := by show _ = _; rw [List.length_append, total_take ht, HSL.out.count]
        have hle : tot.length + t.1.length ≤ 20000 := by
          have h1 := hcnt.out
          have h2 := total_take_le l (k + 1)
          rw [List.length_append] at h1
          omega
        clear hc ht
        obtain ⟨p, sv⟩ := t
        dsimp only at *
        obtain ⟨A6, c6, rfl, _, _⟩ := hsee.out.shape
        obtain ⟨r, hr, hsf, hcl, hbad⟩ := HSL.out.plain.step (p := p)
        obtain ⟨tot2, htot2⟩ : ∃ x, x = tot ++ p := ⟨_, rfl⟩
        rw [← htot2] at hsf hcnt
        have HT2 := Lib.hid htot2
        clear htot2
        have hsm2 := hsf.small
        rw [List.length_append, fst_length] at hsm2
        have htl2 : tot2.length ≤ 20000 := by rw [HT2.out, List.length_append]; exact hle
        have hsm := HSL.out.plain.small
        rw [fst_length] at hsm
        rw [← HSL.out.below.cell (p := ⟨b, off + k, none⟩) hb] at c0
        have HR := Lib.hid hr
        have HSF := Lib.hid hsf
        have HCL := Lib.hid hcl
        have hz : w.heap.size ≤ wr.heap.size := HSL.out.below.size
        clear hr hsf hcl
        go_wp2_with (at_builtin; refine wpList_app rfl (.tmp 22) (.tmp 26) rfl (v := .slice A4 tot.length c4) rfl HSL.out.mem.all rfl (hsee.out.below HSL.out.below) (by omega) hz ?_; intro v1 w1 ho1 hg1 hat1; rw [← HT2.out] at ho1; have HM1 := Lib.hid (HSL.out.mem.addAll ho1 hg1 hat1); have hb1 : Below w.heap.size w w1 := HSL.out.below.grown hg1 hz (fun j hj => (HSL.out.mem.all.block j hj).1); have c1 := c0; rw [HSL.out.below.cell (p := ⟨b, off + k, none⟩) hb, ← hb1.cell (p := ⟨b, off + k, none⟩) hb] at c1; obtain ⟨A8, c8, rfl, _, _⟩ := ho1.sees.shape; clear ho1 hg1 hat1)
        have hz1 : w.heap.size ≤ w1.heap.size := hb1.size
        have FEED := Lib.hid (feed_any HM1.out.dec (hsee.out.below hb1) (by omega) hz1)
        rw [← HR.out] at FEED
        clear HR
        obtain ⟨r1, r2, r3, r4⟩ := r
        unfold FeedP at FEED
        dsimp only at *
        refine FEED.out.mono ?_
        rintro e w2 ⟨fv, m, bv', rfl, hof, hsep, hfst, hdec, hne, hor, hk⟩
        have hb2 : Below w.heap.size w w2 := hb1.trans (hk.to_below hz1 HM1.out.dec.2.1 (fun j hj => (HM1.out.dec.2.2.block j hj).1))
        have hmn := HM1.out.feed hz1 hsep hdec hne hor hk
        have HM2 := Lib.hid hmn.1
        have HN2 := Lib.hid hmn.2
        have hfr := hof.frs
        have hz2 : w.heap.size ≤ w2.heap.size := hb2.size
        have hml : m.length = r1.length := by rw [← hfst, fst_length]
        have hgm : got.length + m.length ≤ 20000 := by omega
        have HML := Lib.hid hml
        have HFR := Lib.hid hfr
        obtain ⟨A7, c7, rfl, _, _⟩ := hfr.shape
        have HFST := Lib.hid hfst
        clear hof hsep hdec hne hor hk hmn hfr hfst hml
        by_cases h0 : last = 0
        · subst h0
          rw [if_pos rfl] at HSF HCL
          go_wp2_with (at_builtin; refine wpList_appF rfl (.tmp 37) (.tmp 38) rfl (v := .slice A5 got.length c5) (l := got) (m := m) rfl HM2.out.ownF rfl HFR.out (fun q hq => .inl (HN2.out.bod q hq)) (by omega) hz2 ?_; intro v5 w3 ho5 hg5 _; have hb3 : Below w.heap.size w w3 := hb2.grown hg5 hz2 (fun j hj => (HM2.out.ownF.block j hj).1); have HM3 := HM2.out.addGot HN2.out ho5 hg5; obtain ⟨got2, hgot2⟩ : ∃ x, x = got ++ m := ⟨_, rfl⟩; rw [← hgot2] at HM3 ho5; have HG2 := Lib.hid hgot2; obtain ⟨A9, c9, hv9, _, _⟩ := ho5.frs.shape; clear hgot2 ho5 hg5; subst hv9; have HM3 := Lib.hid HM3)
          go_roundw
          case rel => exact ⟨k + 1, r2, by omega, by go_num, rfl, bv', tot2, r3, got2, A8, c8, A9, c9, rfl, rfl, ⟨by have h := HM3.out; rw [HCL.out] at h; exact h, by rw [HG2.out, fst_append, HFST.out]; exact HSF.out, hb3, hcnt.out⟩⟩
          case measure => simp [intOf]; omega
        · obtain ⟨e1, e2⟩ := hbad h0
          have hlb : (last == 0) = false := by rw [beq_eq_false_iff_ne]; exact h0
          have hlb2 : (last != 0) = true := by rw [bne, hlb]; rfl
          rw [if_neg h0] at HSF HCL
          have hm0 : m = [] := List.eq_nil_of_length_eq_zero (by rw [HML.out, e1]; rfl)
          subst hm0 e2
          dsimp only [List.length_nil] at *
          go_wp2_with (at_builtin; refine wpList_appF rfl (.tmp 37) (.tmp 38) rfl (v := .slice A5 got.length c5) (l := got) (m := []) rfl HM2.out.ownF rfl HFR.out (fun q hq => .inl (HN2.out.bod q hq)) (by rw [List.length_nil]; omega) hz2 ?_; intro v5 w3 ho5 hg5 _; have hb3 : Below w.heap.size w w3 := hb2.grown hg5 hz2 (fun j hj => (HM2.out.ownF.block j hj).1); have HM3 := HM2.out.addGot HN2.out ho5 hg5; obtain ⟨got2, hgot2⟩ : ∃ x, x = got ++ [] := ⟨_, rfl⟩; rw [← hgot2] at HM3 ho5; have HG2 := Lib.hid hgot2; obtain ⟨A9, c9, hv9, _, _⟩ := ho5.frs.shape; clear hgot2 ho5 hg5; subst hv9; have HM3 := Lib.hid HM3)
          go_roundw
          case rel => exact ⟨k + 1, last, by omega, by go_num, rfl, bv', tot2, r3, got2, A8, c8, A9, c9, rfl, rfl, ⟨by have h := HM3.out; rw [HCL.out] at h; exact h, by rw [HG2.out, fst_append, HFST.out]; exact HSF.out, hb3, hcnt.out⟩⟩
          case measure => simp [intOf]; omega
      · have hkn : k = n := by omega
        have PS := Lib.hid (split_any HSL.out.mem.all.sees (by have h1 := HSL.out.count; have h2 := total_take_le l k; omega))
        unfold SplitP at PS
        rw [HSL.out.plain.err, HSL.out.plain.got] at PS
        have hfinal : Hid (taken (fst got) ≤ tot.length ∧ (last = 0 → buf.length = tot.length - taken (fst got)) ∧ (last ≠ 0 → buf.length = 0)) := by
          have h1 := split_length tot
          rw [HSL.out.plain.got] at h1
          refine ⟨by omega, fun h0 => ?_, fun h0 => ?_⟩
          · rw [HSL.out.plain.ok h0] at h1
            dsimp only at h1
            omega
          · rw [(HSL.out.plain.bad h0).2.2]; rfl
        clear hk hlt
        go_wp2_with fail
        refine PS.out.mono ?_
        rintro e w2 ⟨fv, m, rfl, hof, hfm, hb2⟩
        have SAME := Lib.hid (same_true (HSL.out.mem.ownF.frs.below hb2) hof.frs hfm.symm)
        have DEC := Lib.hid (fun q => buffered_any (w := w2.drewN q) (HSL.out.mem.dec.below (below_draws hb2 q)))
        have hb3 := Lib.hid (HSL.out.below.trans (hb2.mono HSL.out.below.size))
        clear hof hfm hb2 PS
        obtain ⟨f1, f2, f3⟩ := hfinal.out
        have HTL : Hid (tot.length ≤ 20000) := by have h1 := HSL.out.count; have h2 := total_take_le l k; show _ ≤ _; omega
        generalize taken (fst got) = tk at *
        generalize buf.length = bl at *
        generalize got.length = gl at *
        generalize tot.length = tl at *
        by_cases h0 : last = 0
        · subst h0
          have f4 := f2 rfl
          obtain ⟨z, hz⟩ : ∃ z, tl = tk + z := ⟨bl, by omega⟩
          have hzb : z = bl := by omega
          have hzl : tk + z ≤ 20000 := by have h1 := HTL.out; omega
          subst hzb hz
          have hbz : ((z : Int) == (tk : Int) + z - tk) = true := by rw [beq_iff_eq]; omega
          clear f1 f2 f3 f4 HTL
          go_wp2_with fail
          refine SAME.out.mono ?_
          rintro e w3 ⟨rfl, q, rfl⟩
          go_wp2_with fail
          refine (DEC.out q).mono ?_
          rintro e w3 ⟨rfl, rfl⟩
          go_wp2_with fail
          refine (example_any _).mono ?_
          rintro e w4 ⟨rfl, hx⟩
          go_wp2_with fail
          go_ret
          exact ⟨rfl, (below_draws hb3.out q).trans (hx.mono (below_draws hb3.out q).size)⟩
        · have f4 := f3 h0
          subst f4
          have hlb : (last == 0) = false := by rw [beq_eq_false_iff_ne]; exact h0
          have hlb2 : (last != 0) = true := by rw [bne, hlb]; rfl
          clear f1 f2 f3
          go_wp2_with fail
          refine SAME.out.mono ?_
          rintro e w3 ⟨rfl, q, rfl⟩
          go_wp2_with fail
          refine (DEC.out q).mono ?_
          rintro e w3 ⟨rfl, rfl⟩
          go_wp2_with fail
          refine (example_any _).mono ?_
          rintro e w4 ⟨rfl, hx⟩
          go_wp2_with fail
          go_ret
          exact ⟨rfl, (below_draws hb3.out q).trans (hx.mono (below_draws hb3.out q).size)⟩

set_option maxRecDepth 100000 in
theorem stream_lifted (os : Os) (started : os.Started) (H : Type) (enc : TypeId × Value → H) :
    ReturnsInHanded {} Try.checked os 6 .any (Rows.frameStreamingSpec.pre6 enc Try.prog Try.f6 Rows.frameStreamingRow.domain false) (Rows.frameStreamingSpec.post enc Try.prog Try.f6 false true false false) := by
  refine returnsInHanded_of_change_sized (C := Try.checked) own started (by kernel_rfl) Try.func6
    (ChangeSpec.witness6 (enc := enc) (C := Try.checked) false ⟨#[], #[.slice none 0 0], []⟩ 8 (by kernel_rfl) (by kernel_rfl) (by kernel_rfl) (by kernel_rfl)) ?_
  intro W base args ds gs before hval0 hW _ hsz0 _
  have hsz : (DataW.weightsEach Try.prog (Try.f6.params.toList ++ Rows.frameStreamingSpec.plain.varTypes Try.prog) (ds ++ gs)).all (· ≤ reachBytes) = true := hsz0
  have hval : ∀ (j : Nat) t v, Try.f6.params[j]? = some t → args[j]? = some v → Value.okWide Try.prog W .any base t v := hval0
  have hW' := hW
  obtain ⟨p, q, hA0, hV, rfl, _, _⟩ := hW
  have hA : DataW.TrodAll enc Try.prog W 0 (fun _ => true) true Try.f6.params.toList args.toList ds p := hA0
  rw [Try.params6] at hA hval hsz
  obtain ⟨v0, vs0, d0, ds0, p0, q0, hargs, rfl, rfl, h0, r0⟩ := trodAll_cons hA
  obtain ⟨rfl, rfl, rfl⟩ := trodAll_nil r0
  obtain rfl : args = #[v0] := by cases args; simp_all
  obtain ⟨rfl, rfl⟩ := trodVars_none hV
  clear hA0 hval0
  simp only [List.append_nil] at hW'
  have hlt0 : ∀ x ∈ p0, x.block < W.heap.size := fun x hx => hW'.lt x (by simp [hx])
  have k0 := h0
  have hw : ∀ n ∈ d0.weights Try.prog 36, n ≤ reachBytes := fun n hn => by
    have := List.all_eq_true.1 hsz n (DataW.weights_mem_each (j := 0) (t := 36) (d := d0) rfl rfl n hn)
    simpa using this
  obtain ⟨l, hl, hsmall⟩ := open_pieces h0 (okWide_slice Try.underlying36 (hval 0 36 v0 rfl rfl)) hw
  refine (stream_walk hl hsmall).mono fun e W' ⟨he, hg⟩ => ?_
  subst he
  exact ⟨_, rfl, _, _, _, [], _, [], hW', trodAll_cons_mk (shut_bool Try.underlying4 _) trodAll_mk0,
    trodAll_cons_mk (Below.trod laidOut (by kernel_rfl) (of_decide_eq_true (by kernel_rfl)) k0 hg hlt0) trodAll_mk0, rfl, hg.frame _, fun h => by cases h⟩

theorem stream_holds : Rows.FrameStreamingSaid :=
  OpenClaim.holds_of_wide 6 Try.f6 rfl rfl rfl rfl rfl rfl rfl ⟨rfl, rfl, rfl, rfl, rfl⟩ rfl rfl rfl rfl rfl (by kernel_rfl) Try.func6 (by kernel_rfl)
    (of_decide_eq_true (by kernel_rfl)) (by unfold Func.isWrapper; first | (rw [if_pos (by decide +kernel)]; kernel_rfl) | (rw [if_neg (by decide +kernel)]; exact ⟨rfl, rfl⟩))
    (fun os started H enc _ => stream_lifted os started H enc)

end Go.Proofs.Ytfmknjfhalkfhaa
