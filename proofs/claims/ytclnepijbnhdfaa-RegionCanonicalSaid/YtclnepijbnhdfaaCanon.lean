/-
  canonical: the canonical region of two lists, of at most 256 rectangles.
-/
import Derived.Test.YtclnepijbnhdfaaRnd
namespace Go.Proofs.Ytclnepijbnhdfaa
open Go.RowKit Go.Shelf
attribute [local go_sem] Oper.semAt_some

theorem noOut_normal {Q : Exit → Act → World → Prop} {a : Act} {w : World} (h : Q .normal a w) : NoOut Q .normal a w := h

theorem wpListIn_appR {F : Fence} {nF : Nat} {w : World} {ops : Array Oper} {rest : List Oper} {o : Oper} {a : Act} {Q : Exit → Act → World → Prop} (hgd : o.guard = none) (s x : Operand)
    (ho : o.op = .call { callee := .builtin .append, args := #[s, x], argTypes := #[22, 22] })
    {base : Nat} {v : Value} {l m : List R} (hs : a.eval s = v) (hown : OwnR w base v l) {A : Option Addr} {k c : Nat} (hx : a.eval x = .slice A k c) (hsee : Rs w (.slice A k c) m)
    (hb : l.length + m.length ≤ 4000000) (hbase : base ≤ w.heap.size)
    (h : ∀ v' w', OwnR w' base v' (l ++ m) → w.grownBy w' v.ownBlock → (v'.ownBlock = v.ownBlock ∨ v'.ownBlock = some w.heap.size) → (v' = .slice none 0 0 ↔ v = .slice none 0 0 ∧ m.length = 0) → wpListIn F nF Try.prog ops Q rest (a.put o.dst v') w') : wpListIn F nF Try.prog ops Q (o :: rest) a w := by
  refine wpListIn_plain hgd fun K hK => ?_
  obtain ⟨v', w', hrun, h2, h3, h4, h5⟩ := appendR_run hown hsee hb hbase o.type
  unfold Oper.wpIn
  refine ⟨by simp [Oper.about, ho, resolve, Target.leads, Sem.run_pure], ?_⟩
  rw [Oper.semAt_plain F _ _ (by rw [ho]; intro c hc'; cases hc')]
  simp [execOp, ho, resolve, invoke, builtin, hs, hx, hrun, Result.andThen]
  exact hK _ _ (h v' w' h2 h3 h4 h5)

set_option maxRecDepth 100000 in
set_option maxHeartbeats 8000000 in
theorem canonical_any {k : Nat} {op : Op2} (hop : KeepsOp k op) (h00 : op false false = false) {w : World} {va vb : Value} {a b : List R} (ha : Rs w va a) (hb : Rs w vb b) (hl : a.length + b.length ≤ 1000) :
    Calls Try.prog 33 #[va, vb, .func (.func k) #[] #[]] w (Lim (combP op a b) w) := by
  obtain ⟨Aa, ca, ea, hca, hma, jk1⟩ := id ha
  obtain ⟨Ab, cb, eb, hcb, hmb, jk2⟩ := id hb
  obtain ⟨C, hC⟩ : ∃ C, combP op a b = C := ⟨_, rfl⟩
  have HC := Lib.hid hC
  have HOP := Lib.hid hop
  have HA := Lib.hid ha
  have HB := Lib.hid hb
  have HEA := Lib.hid ea
  have HEB := Lib.hid eb
  rw [hC]
  clear hC hop ha hb ea eb jk1 jk2
  refine (callsIn_wide (n := 9)).1 ?_
  refine callsIn_of_wp_marks Try.func33 rfl trivial ?_ rfl
  simp only [Try.ntmps33, List.size_toArray, List.length_cons, List.length_nil, Nat.reduceAdd, Nat.reduceSub, Array.replicate_succ, Array.replicate_zero, List.push_toArray, List.append_toArray, List.nil_append, List.cons_append]
  gi_wp2
  refine ⟨trivial, ?_⟩
  refine (callsIn_wide.2 (strips_any _ HEA.out HEB.out k)).mono ?_
  rintro e w1 ⟨rfl, hb1, hz1, hA1, hB1, hK1⟩
  obtain ⟨B, hB⟩ : ∃ B, w.heap.size = B := ⟨_, rfl⟩
  have hz0 : ((((w.alloc (.cells #[.slice none 0 0] 22)).alloc (.cells #[.int .i64 0] 24)).alloc (.cells #[.slice none 0 0] 22)).alloc (.cells #[.slice none 0 0] 22)).heap.size = B + 4 := by simp [hB]
  have g0 : GrownIn (fun _ => False) w ((((w.alloc (.cells #[.slice none 0 0] 22)).alloc (.cells #[.int .i64 0] 24)).alloc (.cells #[.slice none 0 0] 22)).alloc (.cells #[.slice none 0 0] 22)) := ((((GrownIn.refl _ w).alloc _).alloc _).alloc _).alloc _
  have x6 : Bx ((((w.alloc (.cells #[.slice none 0 0] 22)).alloc (.cells #[.int .i64 0] 24)).alloc (.cells #[.slice none 0 0] 22)).alloc (.cells #[.slice none 0 0] 22)) B #[.slice none 0 0] 22 := by
    rw [← hB]
    exact (Bx.new w _ _).kept (X := fun _ => False) ((((GrownIn.refl _ _).alloc _).alloc _).alloc _) (fun h => h)
  have x7 : Bx ((((w.alloc (.cells #[.slice none 0 0] 22)).alloc (.cells #[.int .i64 0] 24)).alloc (.cells #[.slice none 0 0] 22)).alloc (.cells #[.slice none 0 0] 22)) (B + 1) #[.int .i64 0] 24 := by
    have h := Bx.new (w.alloc (.cells #[.slice none 0 0] 22)) #[.int .i64 0] 24
    rw [World.size_alloc, hB] at h
    exact h.kept (X := fun _ => False) (((GrownIn.refl _ _).alloc _).alloc _) (fun h => h)
  have x8 : Bx ((((w.alloc (.cells #[.slice none 0 0] 22)).alloc (.cells #[.int .i64 0] 24)).alloc (.cells #[.slice none 0 0] 22)).alloc (.cells #[.slice none 0 0] 22)) (B + 2) #[.slice none 0 0] 22 := by
    have h := Bx.new ((w.alloc (.cells #[.slice none 0 0] 22)).alloc (.cells #[.int .i64 0] 24)) #[.slice none 0 0] 22
    rw [World.size_alloc, World.size_alloc, hB] at h
    exact h.kept (X := fun _ => False) ((GrownIn.refl _ _).alloc _) (fun h => h)
  have x9 : Bx ((((w.alloc (.cells #[.slice none 0 0] 22)).alloc (.cells #[.int .i64 0] 24)).alloc (.cells #[.slice none 0 0] 22)).alloc (.cells #[.slice none 0 0] 22)) (B + 3) #[.slice none 0 0] 22 := by
    have h := Bx.new (((w.alloc (.cells #[.slice none 0 0] 22)).alloc (.cells #[.int .i64 0] 24)).alloc (.cells #[.slice none 0 0] 22)) #[.slice none 0 0] 22
    rw [World.size_alloc, World.size_alloc, World.size_alloc, hB] at h
    exact h
  generalize (((w.alloc (.cells #[.slice none 0 0] 22)).alloc (.cells #[.int .i64 0] 24)).alloc (.cells #[.slice none 0 0] 22)).alloc (.cells #[.slice none 0 0] 22) = w0 at *
  have g01 : GrownIn (fun _ => False) w0 w1 := GrownIn.of_below hb1
  have gw : Below w.heap.size w w1 := (g0.trans g01).below (Nat.le_refl _) (fun _ h => h.elim)
  have HI0 : Hid (CanI w B C (stripsL op a b) (fun j => j = B + 6) [] w1) := Lib.hid ⟨[], (0, 0, []), stripsL op a b, .slice none 0 0, .slice none 0 0, rfl, by rw [← HC.out]; exact comb_start op a b, by simp [bandR], ⟨x6.kept g01 (fun h => h), x7.kept g01 (fun h => h), x8.kept g01 (fun h => h), x9.kept g01 (fun h => h), ownR_nil _ _, .inl ⟨rfl, rfl⟩, gw⟩, fun k hk => by simp [blk, Value.ownBlock] at hk, fun k hk => by omega⟩
  rw [hz0] at hz1 hA1 hB1 hK1
  simp only [hz0, hB, Nat.add_assoc, Nat.reduceAdd]
  simp only [Nat.add_assoc, Nat.reduceAdd] at hA1 hB1 hK1
  have HSQ := Lib.hid (strips_seq 8 (by omega) (B + 4) (B + 5) (B + 6) k HOP.out h00 w1 hA1 hB1 hK1 (HA.out.below gw) (HB.out.below gw) hl)
  have hw1 : w1.heap.size = B + 4 + 3 := hz1
  clear x6 x7 x8 x9 g0 g01 hb1 hA1 hB1 hK1 hz1
  gi_wp2
  refine wpIn_rangeX (by omega) (gf := 57) (lb := #[.pointer (some ⟨B + 4, 0, none⟩), .pointer (some ⟨B + 5, 0, none⟩), .pointer (some ⟨B + 6, 0, none⟩)]) rfl (enters_of Try.func57 (by kernel_rfl) rfl) HSQ.out (Below.refl _ _) rfl (fun j hj => by omega)
    (CanI w B C (stripsL op a b)) (CanX w B C) (canI_own (by omega) (by omega)) (canX_own (by omega)) HI0.out
    (fun v => { tmps := #[va, vb, .func (.func k) #[] #[], undef, undef, undef, .pointer (some ⟨B, 0, none⟩), .pointer (some ⟨B + 1, 0, none⟩), .pointer (some ⟨B + 2, 0, none⟩), .pointer (some ⟨B + 3, 0, none⟩), v, undef, va, vb, .func (.func k) #[] #[], .func (.func 57) #[] #[.pointer (some ⟨B + 4, 0, none⟩), .pointer (some ⟨B + 5, 0, none⟩), .pointer (some ⟨B + 6, 0, none⟩)], v, undef, undef, undef, undef, undef, undef, undef, undef, undef, undef, undef, undef, undef, undef, undef, undef, undef, undef, undef, undef, undef, undef, undef, undef, undef, undef, undef, undef, undef, undef, undef, undef, undef, undef, undef], defers := [] }) ?assign ?body ?done ?stop
  case assign =>
    intro l v W K hK
    gi_wp2
    exact hK
  case body =>
    rintro l X pre bd v W ⟨D, cur, rest, vo, vq, hL, hCC, hlen, hW, hvo, hX⟩ hpre hrs hvX hXs
    obtain ⟨rest', rfl⟩ : ∃ r, rest = bd :: r := by
      obtain ⟨r, hr⟩ := hpre
      rw [hL, List.append_assoc] at hr
      exact ⟨r, (List.append_cancel_left hr).symm⟩
    have hbm : bd ∈ stripsL op a b := by rw [hL]; simp
    have hne := stripsL_ne bd hbm
    have hul := stripsL_len bd hbm
    obtain ⟨y, y', u⟩ := bd
    simp only at hne hul
    have HL := Lib.hid hL
    have HCC := Lib.hid hCC
    have HW := Lib.hid hW
    have HVO := Lib.hid hvo
    have HX := Lib.hid hX
    have HRS := Lib.hid hrs
    have HVX := Lib.hid hvX
    have HNE := Lib.hid hne
    have HXS := Lib.hid hXs
    obtain ⟨As, cs, rfl, hcs, hms, jk⟩ := id hrs
    obtain ⟨nu, hnu⟩ : ∃ nu, (bandR (y, y', u)).length = nu := ⟨_, rfl⟩
    have HNU := Lib.hid hnu
    have hnul : nu ≤ 2000 := by rw [← hnu, bandR_len]; simp only; omega
    have hnup : 0 < nu := by rw [← hnu, bandR_len]; exact List.length_pos_iff.2 hne
    rw [hnu] at hcs HRS HVX
    rw [hnu]
    simp only [maxLen] at hms
    have C5 := Lib.hid (continues_any (hW.val.rs hW.own) (by have h := HRS.out; exact h))
    have x9 := hW.band.cell 0
    simp only [List.getElem?_toArray, List.getElem?_cons_zero] at x9
    have hsz := hW.band.lt
    have hd7 : 1 ≤ 9 - 1 - 1 := by omega
    clear hL hCC hW hvo hX hrs hvX hnu jk hbm hpre hul hXs
    gi_wp2
    refine ⟨trivial, ?_⟩
    refine (CallsIn.inRound l (callsIn_wide.2 C5.out)).mono ?_
    rintro e w5 ⟨rfl, hb5⟩
    have g5 : Hid (GrownIn (fun _ => False) W w5) := Lib.hid (GrownIn.of_below hb5)
    have HW5 : Hid (CanW w B D cur vo vq w5) := Lib.hid (HW.out.kept g5.out (fun _ _ _ h => h) (fun _ _ h => h) (fun _ h => h.elim))
    have HRS5 : Hid (Rs w5 (.slice As nu cs) (bandR (y, y', u))) := Lib.hid (HRS.out.below hb5)
    have hsz5 : B + 3 < w5.heap.size := Nat.lt_of_lt_of_le hsz hb5.size
    clear hb5 C5 x9 HW HRS
    cases hct : contL (bandR cur) (bandR (y, y', u))
    · have HNC : Hid (¬ (cur.2.1 = y ∧ cur.2.2 = u)) := Lib.hid (fun h => by
        obtain ⟨lo, hi, uc⟩ := cur
        have h2 := (contL_band (u := uc) (lo := lo) (hi := hi) (y' := y') HNE.out).2 h
        rw [hct] at h2
        cases h2)
      have HTN : Hid (flatB (tailC cur ((y, y', u) :: rest')) = bandR cur ++ flatB (tailC (y, y', u) rest')) := Lib.hid (tailC_new HNE.out HNC.out)
      have HTL : Hid (nu ≤ (flatB (tailC (y, y', u) rest')).length) := Lib.hid (by have h := tailC_len HNE.out y y' rest'; rw [← HNU.out, bandR_len]; exact h)
      clear hct HNC
      obtain ⟨A8, c8, rfl, hc8, hm8, jk⟩ := id HW5.out.own.rs
      obtain ⟨n8, hn8⟩ : ∃ n8, (D ++ bandR cur).length = n8 := ⟨_, rfl⟩
      have HN8 := Lib.hid hn8
      have HO5 : Hid (w5.ownsRow w.heap.size 32 4 (.slice A8 n8 c8) n8 (flat (D ++ bandR cur))) := Lib.hid (by rw [← hn8]; exact HW5.out.own)
      rw [hn8] at hc8 hlen HVO HW5
      simp only [maxLen] at hm8
      have x8 := HW5.out.out.cell 0
      have f8 := HW5.out.out.frozen 0
      have x6 := HW5.out.res.cell 0
      have f6 := HW5.out.res.frozen 0
      have x7 := HW5.out.err.cell 0
      have f7 := HW5.out.err.frozen 0
      simp only [List.getElem?_toArray, List.getElem?_cons_zero] at x8 x6 x7
      clear jk hn8
      by_cases hov : 256 < n8 + nu
      · have hov' : (256 : Int) < (n8 : Int) + nu := by omega
        have hCl : Hid (256 < C.length) := Lib.hid (by rw [← HCC.out, HTN.out, ← List.append_assoc, List.length_append]; have := HTL.out; have := HN8.out; omega)
        gi_wp2
        exact ⟨(keeps_same g5.out).trans (((KeepsOthers.setCell _ _ _).trans (KeepsOthers.setCell _ _ _)).from _), hCl.out, (HW5.out.res.set _).other (by omega) _, (HW5.out.err.other (by omega) _).set _, (HW5.out.below.setCell (p := ⟨B, 0, none⟩) (show w.heap.size ≤ B by omega) _).setCell (p := ⟨B + 1, 0, none⟩) (show w.heap.size ≤ B + 1 by omega) _⟩
      · have hov' : ¬ (256 : Int) < (n8 : Int) + nu := by omega
        obtain ⟨n9, hn9⟩ : ∃ n9, n9 = n8 + nu := ⟨_, rfl⟩
        have HN9 : Hid (((D ++ bandR cur) ++ bandR (y, y', u)).length = n9) := Lib.hid (by rw [List.length_append, HN8.out, HNU.out, hn9])
        have hOc : OwnR w5 w.heap.size (.slice A8 n8 c8) (D ++ bandR cur) := by unfold OwnR; rw [HN8.out]; exact HO5.out
        have hbb : (D ++ bandR cur).length + (bandR (y, y', u)).length ≤ 4000000 := by rw [HN8.out, HNU.out]; omega
        have x9 := HW5.out.band.cell 0
        have f9 := HW5.out.band.frozen 0
        simp only [List.getElem?_toArray, List.getElem?_cons_zero] at x9
        have f1 : IntKind.i64.wrap ((n9 : Int) - nu) = (n8 : Int) := by rw [show (n9 : Int) - nu = n8 by omega]; exact IntWalk.i64_in _ (by omega)
        have f2 : (0 : Int) ≤ n8 := by omega
        have f3 : ((n8 : Int)).toNat = n8 := by omega
        have f4 : (n8 : Int) ≤ n9 := by omega
        clear hov
        gi_wp2_with (gi_at_builtin; refine wpListIn_appR rfl _ _ rfl (base := w.heap.size) (l := D ++ bandR cur) (m := bandR (y, y', u)) rfl hOc rfl HRS5.out hbb (by omega) ?_; intro v9 w9 ho9 hg9' hl9' _; have hg9 : w5.grownBy w9 (Value.slice A8 n8 c8).ownBlock := hg9'; have hl9 : v9.ownBlock = (Value.slice A8 n8 c8).ownBlock ∨ v9.ownBlock = some w5.heap.size := hl9'; clear hg9' hl9'; have ho9' : w9.ownsRow w.heap.size 32 4 v9 n9 (flat ((D ++ bandR cur) ++ bandR (y, y', u))) := (by have h := ho9; unfold OwnR at h; rw [HN9.out] at h; exact h); obtain ⟨g9, c9, rfl, hgb, hgs, hnc, hcm⟩ := owns_shape ho9' (by omega); have b8 := HW5.out.out.kept (GrownIn.of_own hg9) (HW5.out.out.far hOc (by decide)); have b9 := HW5.out.band.kept (GrownIn.of_own hg9) (HW5.out.band.far hOc (by decide)); have y8 := b8.cell 0; have g8 := b8.frozen 0; have y9 := b9.cell 0; have g9' := b9.frozen 0; simp only [List.getElem?_toArray, List.getElem?_cons_zero] at y8 y9; have hcm2 : c9 ≤ 2 ^ 63 - 1 := hcm)
        subst hn9
        have nb8 : ¬ blk (.slice (some ⟨g9, 0, none⟩) (n8 + nu) c9) (B + 2) := b8.far ho9' (by decide)
        have nb9 : ¬ blk (.slice (some ⟨g9, 0, none⟩) (n8 + nu) c9) (B + 3) := b9.far ho9' (by decide)
        have b6 := HW5.out.res.kept (GrownIn.of_own hg9) (HW5.out.res.far hOc (by decide))
        have b7 := HW5.out.err.kept (GrownIn.of_own hg9) (HW5.out.err.far hOc (by decide))
        have gg : GrownIn (fun k => k = B + 2 ∨ k = B + 3) w9 ((w9.setCell ⟨B + 2, 0, none⟩ (.slice (some ⟨g9, 0, none⟩) (n8 + nu) c9)).setCell ⟨B + 3, 0, none⟩ (.slice (some ⟨g9, n8 * 4, none⟩) nu (c9 - n8))) :=
          ((GrownIn.of_grown (grown_set w9 (B + 2) 0 _)).mono (fun k _ e => .inl (Option.some.inj e).symm)).trans ((GrownIn.of_grown (grown_set _ (B + 3) 0 _)).mono (fun k _ e => .inr (Option.some.inj e).symm))
        have hown9 := gg.own ho9' (fun k hk h => by
          rcases h with rfl | rfl
          · exact nb8 hk
          · exact nb9 hk)
        have g59 := GrownIn.of_own hg9
        have hul2 : u.length = nu := by have h := HNU.out; rw [bandR_len] at h; exact h
        refine ⟨((keeps_same g5.out).trans (keeps_grown hOc g59)).trans (((KeepsOthers.setCell _ _ _).trans (KeepsOthers.setCell _ _ _)).from _), ?_, D ++ bandR cur, (y, y', u), rest', (.slice (some ⟨g9, 0, none⟩) (n8 + nu) c9), (.slice (some ⟨g9, n8 * 4, none⟩) nu (c9 - n8)), by rw [HL.out]; simp, by rw [← HCC.out, HTN.out, List.append_assoc], by rw [HN9.out]; omega, ⟨?_, ?_, ?_, ?_, ?_, ?_, ?_⟩, ?_, HX.out⟩
        · exact ((g5.out.mono (fun _ _ h => h.elim)).trans (g59.mono (fun k _ h => HVO.out k h))).trans (gg.mono (fun k _ h hk => by
            have := HX.out k hk
            rcases h with h | h <;> omega))
        · exact (b6.other (by omega) _).other (by omega) _
        · exact (b7.other (by omega) _).other (by omega) _
        · exact (b8.set _).other (by omega) _
        · exact (b9.other (by omega) _).set _
        · unfold OwnR
          rw [HN9.out]
          exact hown9
        · refine .inr ⟨HNE.out, g9, c9, ?_, ?_, ?_⟩
          · rw [HN8.out]; simp only; rw [hul2]
          · rw [HN8.out]; simp only; rw [hul2]; exact hnc
          · rw [HN8.out]; simp only; rw [hul2]
        · exact ((HW5.out.below.trans (g59.below HW5.out.below.size (fun k hk => (own_blk hOc k hk).1))).setCell (p := ⟨B + 2, 0, none⟩) (show w.heap.size ≤ B + 2 by omega) _).setCell (p := ⟨B + 3, 0, none⟩) (show w.heap.size ≤ B + 3 by omega) _
        · intro k hk hk'
          have h1 := HXS.out k hk'
          rcases hl9 with h | h
          · exact HVO.out k (h.symm.trans hk) hk'
          · have h2 : some k = some w5.heap.size := hk.symm.trans h
            have := Option.some.inj h2
            have := g5.out.size
            omega
    · obtain ⟨lo, hi, uc⟩ := cur
      obtain ⟨rfl, rfl⟩ := (contL_band (u := uc) (lo := lo) (hi := hi) (y' := y') HNE.out).1 hct
      obtain ⟨g, c, rfl, hcd, rfl⟩ : ∃ g c, vo = .slice (some ⟨g, 0, none⟩) (D.length + uc.length) c ∧ D.length + uc.length ≤ c ∧ vq = .slice (some ⟨g, D.length * 4, none⟩) uc.length (c - D.length) := by
        rcases HW5.out.val with h | h
        · exact absurd h.1 HNE.out
        · exact h.2
      have HTM : Hid (D ++ flatB (tailC (lo, y', uc) rest') = C) := Lib.hid (by rw [← HCC.out, tailC_merge HNE.out])
      have hul2 : uc.length = nu := by have h := HNU.out; rw [bandR_len] at h; exact h
      have HUL := Lib.hid hul2
      obtain ⟨d, hd⟩ : ∃ d, D.length = d := ⟨_, rfl⟩
      have HD := Lib.hid hd
      have hcm : c ≤ 2 ^ 63 - 1 := by
        obtain ⟨A', c', e, _, h2, _⟩ := HW5.out.own.rs
        injection e with _ _ e3
        rw [e3]
        exact h2
      have HO5 : Hid (w5.ownsRow w.heap.size 32 4 (.slice (some ⟨g, 0, none⟩) (d + nu) c) (d + nu) (flat (mixB D lo hi y' uc 0))) := Lib.hid (by
        have h := HW5.out.own
        unfold OwnR at h
        rw [List.length_append, bandR_len] at h
        simp only at h
        rw [hd, hul2] at h
        rw [mixB_start]
        exact h)
      rw [hd, hul2] at hcd HVO HW5
      have hgw := own_blk HO5.out g rfl
      have hg9 : g ≠ B + 3 := fun e => HW5.out.band.far HO5.out (by decide) (congrArg some e)
      have hg8 : g ≠ B + 2 := fun e => HW5.out.out.far HO5.out (by decide) (congrArg some e)
      have hg7 : g ≠ B + 1 := fun e => HW5.out.err.far HO5.out (by decide) (congrArg some e)
      have hg6 : g ≠ B := fun e => HW5.out.res.far HO5.out (by decide) (congrArg some e)
      have hgX : Hid (¬ X g) := Lib.hid (HVO.out g rfl)
      have x9 := HW5.out.band.cell 0
      simp only [List.getElem?_toArray, List.getElem?_cons_zero] at x9
      obtain ⟨A', c', e', hq1, hq2, hq3⟩ := id HRS5.out
      rw [HNU.out] at e' hq3
      injection e' with e1 _ e3
      obtain ⟨bs, os, e4, hbs, hq4⟩ := hq3 hnup
      rw [← e1] at e4
      subst e4
      have hbg : bs ≠ g := fun e => hgX.out (e ▸ HVX.out bs rfl)
      have HQ := Lib.hid hq4
      clear hct hul2 hd hq1 hq2 hq3 hq4 e1 e3
      gi_wp2
      gi_loopw [22] (fun k wr => ∃ i, i ≤ nu ∧ k = .int .i64 (i : Int) ∧ Hid (wr.ownsRow w.heap.size 32 4 (.slice (some ⟨g, 0, none⟩) (d + nu) c) (d + nu) (flat (mixB D lo hi y' uc i)) ∧ GrownIn (fun k => k = g) w5 wr)) (fun k _ => nu - (RowKit.intOf k).toNat)
      case atStart => exact ⟨0, by omega, rfl, HO5.out, GrownIn.refl _ _⟩
      case round =>
        obtain ⟨i, hi', rfl, hrel⟩ := hrel
        have HG := Lib.hid hrel.out.2
        by_cases hlt : i < nu
        · obtain ⟨p, hp⟩ : ∃ p, uc[i]? = some p := ⟨_, List.getElem?_eq_getElem (by rw [HUL.out]; exact hlt)⟩
          have hmx := mixB_at (D := D) (lo := lo) (y := hi) (y' := y') hp
          rw [HD.out] at hmx
          obtain ⟨⟨c0, c1, c2, c3⟩, cf⟩ := OwnR.cells hrel.out.1 hmx.1
          have hsz := HG.out.size
          have x9' := (HG.out.cell (a := ⟨B + 3, 0, none⟩) (show B + 3 < w5.heap.size by omega) (fun e => hg9 e.symm)).trans x9
          obtain ⟨s0, s1, s2, s3⟩ := HQ.out i _ (bandR_at hp)
          (try simp only at c3); (try simp only at s3)
          have t3 := (HG.out.cell (a := ⟨bs, os + i * 4 + 3, none⟩) hbs (fun e => hbg e)).trans s3
          have e3 : (d + i) * 4 + 3 = d * 4 + i * 4 + 3 := by omega
          rw [e3] at c3
          have cf3 := cf (d * 4 + i * 4 + 3)
          have q0 : (i : Int) < nu := by omega
          have q1 : (0 : Int) ≤ i := by omega
          have hN := OwnR.set_y1 hrel.out.1 hmx.1 y'
          have hm2 := hmx.2
          (try simp only at hm2)
          (try simp only at hN)
          rw [hm2, e3] at hN
          have HN := Lib.hid hN
          have hrow := hrel.out.1.lt g rfl
          clear hrel c0 c1 c2 s0 s1 s2 s3 cf hmx hm2 hN hp x9
          have s0 : wr.drew.cell? ⟨B + 3, 0, none⟩ = some (.slice (some ⟨g, d * 4, none⟩) nu (c - d)) ∧ wr.drew.cell? ⟨bs, os + i * 4 + 3, none⟩ = some (.int .i64 y') := ⟨x9', t3⟩
          have sk : (wr.drew.setCell ⟨g, d * 4 + i * 4 + 3, none⟩ (.int .i64 y')).cell? ⟨B + 3, 0, none⟩ = some (.slice (some ⟨g, d * 4, none⟩) nu (c - d)) ∧ (wr.drew.setCell ⟨g, d * 4 + i * 4 + 3, none⟩ (.int .i64 y')).cell? ⟨bs, os + i * 4 + 3, none⟩ = some (.int .i64 y') := ⟨(World.cell?_setCell_far _ _ _ _ (by simpa using hg9)).trans x9', (World.cell?_setCell_far _ _ _ _ (by simpa using fun e => hbg e.symm)).trans t3⟩
          gi_wp2
          refine region_round (S := (fun U => U.cell? ⟨B + 3, 0, none⟩ = some (.slice (some ⟨g, d * 4, none⟩) nu (c - d)) ∧ U.cell? ⟨bs, os + i * 4 + 3, none⟩ = some (.int .i64 y'))) (by kernel_rfl) (by kernel_rfl) s0 (fun hHeld => ?_)
          refine wpAnyH_take (i := 0) (oi := ({ dst := some 25, op := Op.load 22 (Operand.tmp 9), type := 22, pos := "region.go:85", after := #[], guard := none } : Oper)) (v := ?_) rfl (by kernel_rfl) (by kernel_rfl) (by kernel_rfl) (fun _ _ _ h => h) (Or.inl ⟨by rfl, ?_⟩) hHeld ?_
          rotate_left 1
          · (intro W hSw; (try dsimp only at hSw); go_simp; try with_reducible rfl)
          try simp only [Act.put, List.setIfInBounds_toArray, List.set_cons_zero, List.set_cons_succ]
          refine wpAnyH_take (i := 1) (oi := ({ dst := some 26, op := Op.move (Operand.tmp 11), type := 3, pos := "region.go:85", after := #[], guard := none } : Oper)) (v := ?_) rfl (by kernel_rfl) (by kernel_rfl) (by kernel_rfl) (fun _ _ _ h => h) (Or.inl ⟨by rfl, ?_⟩) hHeld ?_
          rotate_left 1
          · (intro W hSw; (try dsimp only at hSw); go_simp; try with_reducible rfl)
          try simp only [Act.put, List.setIfInBounds_toArray, List.set_cons_zero, List.set_cons_succ]
          refine wpAnyH_take (i := 2) (oi := ({ dst := some 27, op := Op.move (Operand.tmp 10), type := 22, pos := "region.go:85", after := #[], guard := none } : Oper)) (v := ?_) rfl (by kernel_rfl) (by kernel_rfl) (by kernel_rfl) (fun _ _ _ h => h) (Or.inl ⟨by rfl, ?_⟩) hHeld ?_
          rotate_left 1
          · (intro W hSw; (try dsimp only at hSw); go_simp; try with_reducible rfl)
          try simp only [Act.put, List.setIfInBounds_toArray, List.set_cons_zero, List.set_cons_succ]
          refine wpAnyH_take (i := 3) (oi := ({ dst := some 28, op := Op.move (Operand.tmp 11), type := 3, pos := "region.go:85", after := #[], guard := none } : Oper)) (v := ?_) rfl (by kernel_rfl) (by kernel_rfl) (by kernel_rfl) (fun _ _ _ h => h) (Or.inl ⟨by rfl, ?_⟩) hHeld ?_
          rotate_left 1
          · (intro W hSw; (try dsimp only at hSw); go_simp; try with_reducible rfl)
          try simp only [Act.put, List.setIfInBounds_toArray, List.set_cons_zero, List.set_cons_succ]
          refine wpAnyH_take (i := 4) (oi := ({ dst := some 29, op := Op.indexAddr 22 (Operand.tmp 27) (Operand.tmp 28), type := 0, pos := "region.go:85", after := #[{ on := 2, ground := Ground.data }, { on := 3, ground := Ground.data }], guard := none } : Oper)) (v := ?_) rfl (by kernel_rfl) (by kernel_rfl) (by kernel_rfl) (fun _ _ _ h => h) (Or.inl ⟨by rfl, ?_⟩) hHeld ?_
          rotate_left 1
          · (intro W hSw; (try dsimp only at hSw); go_simp; try with_reducible rfl)
          try simp only [Act.put, List.setIfInBounds_toArray, List.set_cons_zero, List.set_cons_succ]
          refine wpAnyH_take (i := 5) (oi := ({ dst := some 30, op := Op.fieldAddr 32 (Operand.tmp 29) 3, type := 0, pos := "region.go:85", after := #[{ on := 4, ground := Ground.data }], guard := none } : Oper)) (v := ?_) rfl (by kernel_rfl) (by kernel_rfl) (by kernel_rfl) (fun _ _ _ h => h) (Or.inl ⟨by rfl, ?_⟩) hHeld ?_
          rotate_left 1
          · (intro W hSw; (try dsimp only at hSw); go_simp; try with_reducible rfl)
          try simp only [Act.put, List.setIfInBounds_toArray, List.set_cons_zero, List.set_cons_succ]
          refine wpAnyH_take (i := 6) (oi := ({ dst := some 31, op := Op.load 3 (Operand.tmp 30), type := 3, pos := "region.go:85", after := #[{ on := 5, ground := Ground.data }], guard := none } : Oper)) (v := ?_) rfl (by kernel_rfl) (by kernel_rfl) (by kernel_rfl) (fun _ _ _ h => h) (Or.inl ⟨by rfl, ?_⟩) hHeld ?_
          rotate_left 1
          · (intro W hSw; (try dsimp only at hSw); go_simp; try with_reducible rfl)
          try simp only [Act.put, List.setIfInBounds_toArray, List.set_cons_zero, List.set_cons_succ]
          refine wpAnyH_take (i := 7) (oi := ({ dst := some 32, op := Op.indexAddr 22 (Operand.tmp 25) (Operand.tmp 26), type := 0, pos := "region.go:85", after := #[{ on := 0, ground := Ground.data }, { on := 1, ground := Ground.data }, { on := 0, ground := Ground.phase }, { on := 1, ground := Ground.phase }, { on := 2, ground := Ground.phase }, { on := 3, ground := Ground.phase }, { on := 4, ground := Ground.phase }, { on := 5, ground := Ground.phase }, { on := 6, ground := Ground.phase }], guard := none } : Oper)) (v := ?_) rfl (by kernel_rfl) (by kernel_rfl) (by kernel_rfl) (fun _ _ _ h => h) (Or.inl ⟨by rfl, ?_⟩) hHeld ?_
          rotate_left 1
          · (intro W hSw; (try dsimp only at hSw); go_simp; try with_reducible rfl)
          try simp only [Act.put, List.setIfInBounds_toArray, List.set_cons_zero, List.set_cons_succ]
          refine wpAnyH_take (i := 8) (oi := ({ dst := some 33, op := Op.fieldAddr 32 (Operand.tmp 32) 3, type := 0, pos := "region.go:85", after := #[{ on := 7, ground := Ground.data }, { on := 0, ground := Ground.phase }, { on := 1, ground := Ground.phase }, { on := 2, ground := Ground.phase }, { on := 3, ground := Ground.phase }, { on := 4, ground := Ground.phase }, { on := 5, ground := Ground.phase }, { on := 6, ground := Ground.phase }], guard := none } : Oper)) (v := ?_) rfl (by kernel_rfl) (by kernel_rfl) (by kernel_rfl) (fun _ _ _ h => h) (Or.inl ⟨by rfl, ?_⟩) hHeld ?_
          rotate_left 1
          · (intro W hSw; (try dsimp only at hSw); go_simp; try with_reducible rfl)
          try simp only [Act.put, List.setIfInBounds_toArray, List.set_cons_zero, List.set_cons_succ]
          refine wpAnyH_ready (rs := [9]) (by kernel_rfl) (by simp) (AllReadyH.cons (o := ({ dst := none, op := Op.store 3 (Operand.tmp 33) (Operand.tmp 31), type := 0, pos := "region.go:85", after := #[{ on := 8, ground := Ground.data }, { on := 6, ground := Ground.data }, { on := 0, ground := Ground.phase }, { on := 1, ground := Ground.phase }, { on := 2, ground := Ground.phase }, { on := 3, ground := Ground.phase }, { on := 4, ground := Ground.phase }, { on := 5, ground := Ground.phase }, { on := 6, ground := Ground.phase }], guard := none } : Oper)) rfl (fun K hK => ?_) AllReadyH.nil)
          go_simp
          refine hK.out _ _ sk (fun hHeld2 => ?_)
          clear hK K hHeld hHeld2
          try simp only [Act.put, List.setIfInBounds_toArray, List.set_cons_zero, List.set_cons_succ]
          refine wpAnyH_done (by kernel_rfl) ?_ _
          refine noOut_normal ?_
          have HG2 : Hid (GrownIn (fun k => k = g) w5 (wr.setCell ⟨g, d * 4 + i * 4 + 3, none⟩ (.int .i64 y')).drew) := Lib.hid ((HG.out.trans ((GrownIn.of_grown (grown_set wr g _ _)).mono (fun k _ e => (Option.some.inj e).symm))).drew)
          have HN2 : Hid ((wr.setCell ⟨g, d * 4 + i * 4 + 3, none⟩ (.int .i64 y')).drew.ownsRow w.heap.size 32 4 (.slice (some ⟨g, 0, none⟩) (d + nu) c) (d + nu) (flat (mixB D lo hi y' uc (i + 1)))) := Lib.hid (World.ownsRow.drew HN.out)
          have hww : (wr.drew.setCell ⟨g, d * 4 + i * 4 + 3, none⟩ (.int .i64 y')) = (wr.setCell ⟨g, d * 4 + i * 4 + 3, none⟩ (.int .i64 y')).drew := rfl
          clear sk s0 x9' t3 c3 cf3 HN HG
          try rw [hww]
          clear hww
          generalize (wr.setCell ⟨g, d * 4 + i * 4 + 3, none⟩ (.int .i64 y')).drew = wz at *
          gi_wp2
          go_roundw
          case rel => exact ⟨i + 1, by omega, by go_num, HN2.out, HG2.out⟩
          case measure => simp [RowKit.intOf]; omega
        · have q0 : (nu : Int) ≤ (i : Int) := by omega
          have HN := Lib.hid hrel.out.1
          have x9' := (HG.out.cell (a := ⟨B + 3, 0, none⟩) (show B + 3 < w5.heap.size by omega) (fun e => hg9 e.symm)).trans x9
          clear hrel x9
          gi_wp2
          have hme : mixB D lo hi y' uc i = D ++ bandR (lo, y', uc) := mixB_end D lo hi y' uc (by rw [HUL.out]; omega)
          have gx : GrownIn (blk (.slice (some ⟨g, 0, none⟩) (d + nu) c)) w5 wr := HG.out.mono (fun k _ e => by rw [e]; rfl)
          refine ⟨(keeps_same g5.out).trans (keeps_grown HO5.out gx), (g5.out.mono (fun _ _ h => h.elim)).trans (HG.out.mono (fun k _ e => by rw [e]; exact hgX.out)), D, (lo, y', uc), rest', _, _, by rw [HL.out]; simp, HTM.out, ?_,
            ⟨HW5.out.res.kept HG.out (fun e => hg6 e.symm), HW5.out.err.kept HG.out (fun e => hg7 e.symm), HW5.out.out.kept HG.out (fun e => hg8 e.symm), HW5.out.band.kept HG.out (fun e => hg9 e.symm), ?_, ?_, ?_⟩, HVO.out, HX.out⟩
          · rw [List.length_append, bandR_len] at hlen ⊢
            exact hlen
          · have h := HN.out
            rw [hme] at h
            unfold OwnR
            rw [List.length_append, bandR_len]
            simp only
            rw [HD.out, HUL.out]
            exact h
          · exact .inr ⟨HNE.out, g, c, by simp only; rw [HD.out, HUL.out], by simp only; rw [HD.out, HUL.out]; exact hcd, by simp only; rw [HD.out, HUL.out]⟩
          · exact HW5.out.below.trans (HG.out.below HW5.out.below.size (fun k e => by rw [e]; exact hgw.1))
  case done =>
    rintro D X W hD ⟨D', cur, rest, vo, vq, hL, hCC, hlen, hW, hvo, hX⟩ hK
    have hr : rest = [] := by
      have := congrArg List.length hL
      rw [List.length_append] at this
      exact List.eq_nil_of_length_eq_zero (by omega)
    subst hr
    rw [tailC_end] at hCC
    obtain ⟨A8, c8, rfl, _, _, _⟩ := id hW.own.rs
    obtain ⟨n8, hn8⟩ : ∃ n8, (D' ++ bandR cur).length = n8 := ⟨_, rfl⟩
    rw [hn8] at hW
    have HW := Lib.hid hW
    have HCC := Lib.hid hCC
    have x8 := hW.out.cell 0
    have x6 := hW.res.cell 0
    have f6 := hW.res.frozen 0
    have x7 := hW.err.cell 0
    have f7 := hW.err.frozen 0
    simp only [List.getElem?_toArray, List.getElem?_cons_zero] at x8 x6 x7
    have hHK := Lib.hid hK
    have hlen' : C.length ≤ 256 := by rw [← hCC]; exact hlen
    clear hL hCC hlen hW hvo hX hK hn8
    gi_wp2
    have hBD : B ≠ D := by omega
    have hBD1 : B + 1 ≠ D := by omega
    have hk2 := ((KeepsOthers.setCell W ⟨B, 0, none⟩ (.slice A8 n8 c8)).trans (KeepsOthers.setCell _ ⟨B + 1, 0, none⟩ (.int .i64 0))).same D _ hHK.out rfl
    refine ⟨by simp, .inl ⟨_, _, rfl, run_takeDeferred hk2, ?_⟩⟩
    have gp := GrownIn.of_grown (grownBy_putObj' ((W.setCell ⟨B, 0, none⟩ (.slice A8 n8 c8)).setCell ⟨B + 1, 0, none⟩ (.int .i64 0)) D (.deferred none))
    have b6 := ((HW.out.res.set (.slice A8 n8 c8)).other (by omega : B + 1 ≠ B) (.int .i64 0)).kept gp (fun e => hBD (Option.some.inj e).symm)
    have b7 := ((HW.out.err.other (by omega : B ≠ B + 1) (.slice A8 n8 c8)).set (.int .i64 0)).kept gp (fun e => hBD1 (Option.some.inj e).symm)
    have r6 := b6.cell 0
    have r7 := b7.cell 0
    simp only [List.getElem?_toArray, List.getElem?_cons_zero] at r6 r7
    have go1 : GrownIn (fun k => k = B ∨ k = B + 1 ∨ k = D) W (((W.setCell ⟨B, 0, none⟩ (.slice A8 n8 c8)).setCell ⟨B + 1, 0, none⟩ (.int .i64 0)).putObj D (.deferred none)) :=
      (((GrownIn.of_grown (grown_set W B 0 _)).mono (fun k _ e => .inl (Option.some.inj e).symm)).trans ((GrownIn.of_grown (grown_set _ (B + 1) 0 _)).mono (fun k _ e => .inr (.inl (Option.some.inj e).symm)))).trans (gp.mono (fun k _ e => .inr (.inr (Option.some.inj e).symm)))
    have hown := go1.own HW.out.own (fun k hk h => by
      rcases h with rfl | rfl | rfl
      · exact HW.out.res.far HW.out.own (by decide) hk
      · exact HW.out.err.far HW.out.own (by decide) hk
      · exact own_cells (B := 0) HW.out.own hk ⟨Nat.zero_le _, _, hHK.out, rfl⟩)
    have hbel := HW.out.below.trans (go1.below HW.out.below.size (fun k h => by omega))
    refine ⟨.tuple #[.slice A8 n8 c8, .int .i64 0], ?_, ?_⟩
    · simp [results, Try.f33, go_sem, r6, r7]
    · exact ⟨_, by rw [if_pos hlen'], by rw [if_pos hlen', ← HCC.out]; exact hown, hbel⟩
  case stop =>
    rintro D pre W hD _ ⟨hC, b6, b7, hb⟩ hK
    gi_wp2
    have hBD : B ≠ D := by omega
    have hBD1 : B + 1 ≠ D := by omega
    refine ⟨by simp, .inl ⟨_, _, rfl, run_takeDeferred hK, ?_⟩⟩
    have gp := GrownIn.of_grown (grownBy_putObj' W D (.deferred none))
    have r6 := (b6.kept gp (fun e => hBD (Option.some.inj e).symm)).cell 0
    have r7 := (b7.kept gp (fun e => hBD1 (Option.some.inj e).symm)).cell 0
    simp only [List.getElem?_toArray, List.getElem?_cons_zero] at r6 r7
    refine ⟨.tuple #[.slice none 0 0, .int .i64 5], ?_, ?_⟩
    · simp [results, Try.f33, go_sem, r6, r7]
    · exact ⟨_, by rw [if_neg (by omega)], by rw [if_neg (by omega)]; exact ownR_nil _ _, hb.trans (gp.below hb.size (fun k h => by have := Option.some.inj h; omega))⟩

end Go.Proofs.Ytclnepijbnhdfaa
