/-
  A region that draws its order within a round of a loop over an iterator: what holds of it elsewhere holds of it there.
-/
import Derived.Test.YthedglfocjljjaaGreatDoorRoh
import Derived.Deep.RegionHeld3
import Derived.Test.YthedglfocjljjaaGreatDoorRoe
import Derived.Test.YthedglfocjljjaaGreatDoorRob
import Derived.StillTailTactics
import Derived.IntWalk
import Derived.Deep.QuietTactic
import Derived.BigQuiet
namespace Go.Proofs.YthedglfocjljjaaGreatDoor.Rgn
open Go.RowKit

def NoOut (Q : Exit → Act → World → Prop) : Exit → Act → World → Prop
  | .outgrown, _, _ => False
  | e, a, w => Q e a w

theorem noOut_lets {Q : Exit → Act → World → Prop} : ¬ LetsOut (NoOut Q) := fun ⟨_, _, h⟩ => h

def noDefer (o : Oper) : Bool := match o.op with
  | .defer _ => false
  | _ => true

theorem noDefer_ne {o : Oper} (h : noDefer o = true) : ∀ c, o.op ≠ .defer c := fun c e => by simp [noDefer, e] at h

section
variable {l n : Nat} {Q : Exit → Act → World → Prop} {ops : Array Oper} {md : Region.Mode}

set_option maxRecDepth 100000 in
theorem opIn_round {o : Oper} (ho : ∀ c, o.op ≠ .defer c) {a : Act} {w : World} {K K' : Act → World → Prop} (hK : ∀ a w, K a w → K' a w)
    (h : o.wp Tryz.prog a w K (NoOut Q)) : o.wpIn (Fence.wide.inRound l) n Tryz.prog a w K' Q := by
  refine ⟨fun _ _ => trivial, ?_⟩
  rw [Oper.semAt_plain _ _ _ ho]
  unfold Oper.wp at h
  generalize hr : (execOp a.eval o).run Tryz.prog w = r at h
  cases r with
  | ok x w' =>
    cases x with
    | value v => exact hK _ _ h
    | skip => exact hK _ _ h
    | defer d => exact hK _ _ h
    | enter f args =>
      refine ⟨fun h => by simp [Fence.inRound, Fence.wide] at h, ?_⟩
      refine CallsIn.inRound l (callsIn_wide.2 (Calls.mono h ?_))
      intro e w'' he
      cases e with
      | returned v => exact hK _ _ he
      | panicked c => exact he
      | outgrown => exact (noOut_lets he).elim
    | row row args =>
      refine ⟨fun h => by simp [Fence.inRound, Fence.wide] at h, fun c cs _ => ?_⟩
      obtain ⟨v, w'', r, s⟩ := h c cs
      exact ⟨v, w'', hK _ _ r, stepsIn_wide.2 s⟩
    | _ => exact h.elim
  | halt x w' => cases x <;> exact h

set_option maxRecDepth 100000 in
theorem any_round (hd : ∀ (i : Nat) (o : Oper), ops[i]? = some o → ∀ c, o.op ≠ .defer c) : ∀ (fuel : Nat) (listed : Array Bool) (a : Act) (w : World), wpAny Tryz.prog md ops (NoOut Q) fuel listed a w → wpAnyIn (Fence.wide.inRound l) n Tryz.prog md ops Q fuel listed a w
  | 0, _, _, _, h => h
  | fuel + 1, _, _, _, h => ⟨h.1, fun i hi => by
    have h2 := h.2 i hi
    unfold wpOp at h2
    unfold wpOpIn
    cases e : ops[i]? with
    | none => rw [e] at h2; exact any_round hd fuel _ _ _ h2
    | some o =>
      rw [e] at h2
      simp only at h2 ⊢
      split
      · rename_i hw
        rw [if_pos hw] at h2
        rcases h2 with h2 | ⟨_, h2⟩
        · exact opIn_round (hd i o e) (any_round hd fuel _) h2
        · exact (noOut_lets h2).elim
      · rename_i hw
        rw [if_neg hw] at h2
        exact ⟨fun _ _ => trivial, any_round hd fuel _ _ _ h2⟩⟩

set_option maxRecDepth 100000 in
theorem region_round {id : Nat} {a : Act} {w : World} {S : World → Prop} (hm : Tryz.prog.follows .mixedOrders = true) (hd : ops.all noDefer = true) (hS : S w.drew)
    (h : S w.drew → wpAnyH Tryz.prog .any ops (NoOut Q) S ops.size (Array.replicate ops.size false) a w.drew) : (Code.region id ops true).wpIn (Fence.wide.inRound l) n Tryz.prog Q a w :=
  wpIn_region_any hm (any_round (fun i o e => noDefer_ne (by
    have h1 := Array.all_eq_true_iff_forall_mem.1 hd o (Array.mem_of_getElem? e)
    exact h1)) _ _ _ _ (wpAny_of_held _ _ _ _ (h hS)))
end

end Go.Proofs.YthedglfocjljjaaGreatDoor.Rgn
namespace Go.Proofs.YthedglfocjljjaaGreatDoor.Rgn
open Go.RowKit Go.Shelf
attribute [local go_sem] Oper.semAt_some

theorem noOut_normal {Q : Exit → Act → World → Prop} {a : Act} {w : World} (h : Q .normal a w) : NoOut Q .normal a w := h

set_option maxRecDepth 100000 in
theorem wpListIn_appR {F : Fence} {nF : Nat} {w : World} {ops : Array Oper} {rest : List Oper} {o : Oper} {a : Act} {Q : Exit → Act → World → Prop} (hgd : o.guard = none) (s x : Operand)
    (ho : o.op = .call { callee := .builtin .append, args := #[s, x], argTypes := #[23, 23] })
    {base : Nat} {v : Value} {l m : List R} (hs : a.eval s = v) (hown : OwnR w base v l) {A : Option Addr} {k c : Nat} (hx : a.eval x = .slice A k c) (hsee : Rs w (.slice A k c) m)
    (hb : l.length + m.length ≤ 4000000) (hbase : base ≤ w.heap.size)
    (h : ∀ v' w', OwnR w' base v' (l ++ m) → w.grownBy w' v.ownBlock → (v'.ownBlock = v.ownBlock ∨ v'.ownBlock = some w.heap.size) → (v' = .slice none 0 0 ↔ v = .slice none 0 0 ∧ m.length = 0) → wpListIn F nF Tryz.prog ops Q rest (a.put o.dst v') w') : wpListIn F nF Tryz.prog ops Q (o :: rest) a w := by
  refine wpListIn_plain hgd fun K hK => ?_
  obtain ⟨v', w', hrun, h2, h3, h4, h5⟩ := appendR_run hown hsee hb hbase o.type
  unfold Oper.wpIn
  refine ⟨by simp [Oper.about, ho, resolve, Target.leads, Sem.run_pure], ?_⟩
  rw [Oper.semAt_plain F _ _ (by rw [ho]; intro c hc'; cases hc')]
  simp [execOp, ho, resolve, invoke, builtin, hs, hx, hrun, Result.andThen]
  exact hK _ _ (h v' w' h2 h3 h4 h5)

set_option maxRecDepth 100000 in
set_option maxHeartbeats 8000000 in
theorem canonical_any {k : Nat} {op : Op2} (hop : KeepsOp k op) (h00 : op false false = false) {w : World} {va vb : Value} {a b : List R} (ha : Rs w va a) (hb : Rs w vb b) (hl : a.length + b.length ≤ 1000) :
    Calls Tryz.prog 91 #[va, vb, .func (.func k) #[] #[]] w (Lim (combP op a b) w) := by
  obtain ⟨Aa, ca, ea, hca, hma, jk1⟩ := id ha
  obtain ⟨Ab, cb, eb, hcb, hmb, jk2⟩ := id hb
  obtain ⟨C, hC⟩ : ∃ C, combP op a b = C := ⟨_, rfl⟩
  have HC := Lib.hid hC
  have HOP := Lib.hid hop
  have HA := Lib.hid ha
  have HB := Lib.hid hb
  have HEA := Lib.hid ea
  have HEB := Lib.hid eb
  rw [hC]
  clear hC hop ha hb ea eb jk1 jk2
  refine (callsIn_wide (n := 9)).1 ?_
  refine callsIn_of_wp_marks Tryz.func91 rfl trivial ?_ rfl
  simp only [Tryz.ntmps91, List.size_toArray, List.length_cons, List.length_nil, Nat.reduceAdd, Nat.reduceSub, Array.replicate_succ, Array.replicate_zero, List.push_toArray, List.append_toArray, List.nil_append, List.cons_append]
  gi_wp2
  refine ⟨trivial, ?_⟩
  refine (callsIn_wide.2 (strips_any _ HEA.out HEB.out k)).mono ?_
  rintro e w1 ⟨rfl, hb1, hz1, hA1, hB1, hK1⟩
  obtain ⟨B, hB⟩ : ∃ B, w.heap.size = B := ⟨_, rfl⟩
  have hz0 : ((((w.alloc (.cells #[.slice none 0 0] 23)).alloc (.cells #[.int .i64 0] 31)).alloc (.cells #[.slice none 0 0] 23)).alloc (.cells #[.slice none 0 0] 23)).heap.size = B + 4 := by simp [hB]
  have g0 : GrownIn (fun _ => False) w ((((w.alloc (.cells #[.slice none 0 0] 23)).alloc (.cells #[.int .i64 0] 31)).alloc (.cells #[.slice none 0 0] 23)).alloc (.cells #[.slice none 0 0] 23)) := ((((GrownIn.refl _ w).alloc _).alloc _).alloc _).alloc _
  have x6 : Bx ((((w.alloc (.cells #[.slice none 0 0] 23)).alloc (.cells #[.int .i64 0] 31)).alloc (.cells #[.slice none 0 0] 23)).alloc (.cells #[.slice none 0 0] 23)) B #[.slice none 0 0] 23 := by
    rw [← hB]
    exact (Bx.new w _ _).kept (X := fun _ => False) ((((GrownIn.refl _ _).alloc _).alloc _).alloc _) (fun h => h)
  have x7 : Bx ((((w.alloc (.cells #[.slice none 0 0] 23)).alloc (.cells #[.int .i64 0] 31)).alloc (.cells #[.slice none 0 0] 23)).alloc (.cells #[.slice none 0 0] 23)) (B + 1) #[.int .i64 0] 31 := by
    have h := Bx.new (w.alloc (.cells #[.slice none 0 0] 23)) #[.int .i64 0] 31
    rw [World.size_alloc, hB] at h
    exact h.kept (X := fun _ => False) (((GrownIn.refl _ _).alloc _).alloc _) (fun h => h)
  have x8 : Bx ((((w.alloc (.cells #[.slice none 0 0] 23)).alloc (.cells #[.int .i64 0] 31)).alloc (.cells #[.slice none 0 0] 23)).alloc (.cells #[.slice none 0 0] 23)) (B + 2) #[.slice none 0 0] 23 := by
    have h := Bx.new ((w.alloc (.cells #[.slice none 0 0] 23)).alloc (.cells #[.int .i64 0] 31)) #[.slice none 0 0] 23
    rw [World.size_alloc, World.size_alloc, hB] at h
    exact h.kept (X := fun _ => False) ((GrownIn.refl _ _).alloc _) (fun h => h)
  have x9 : Bx ((((w.alloc (.cells #[.slice none 0 0] 23)).alloc (.cells #[.int .i64 0] 31)).alloc (.cells #[.slice none 0 0] 23)).alloc (.cells #[.slice none 0 0] 23)) (B + 3) #[.slice none 0 0] 23 := by
    have h := Bx.new (((w.alloc (.cells #[.slice none 0 0] 23)).alloc (.cells #[.int .i64 0] 31)).alloc (.cells #[.slice none 0 0] 23)) #[.slice none 0 0] 23
    rw [World.size_alloc, World.size_alloc, World.size_alloc, hB] at h
    exact h
  generalize (((w.alloc (.cells #[.slice none 0 0] 23)).alloc (.cells #[.int .i64 0] 31)).alloc (.cells #[.slice none 0 0] 23)).alloc (.cells #[.slice none 0 0] 23) = w0 at *
  have g01 : GrownIn (fun _ => False) w0 w1 := GrownIn.of_below hb1
  have gw : Below w.heap.size w w1 := (g0.trans g01).below (Nat.le_refl _) (fun _ h => h.elim)
  have HI0 : Hid (CanI w B C (stripsL op a b) (fun j => j = B + 6) [] w1) := Lib.hid ⟨[], (0, 0, []), stripsL op a b, .slice none 0 0, .slice none 0 0, rfl, by rw [← HC.out]; exact comb_start op a b, by simp [bandR], ⟨x6.kept g01 (fun h => h), x7.kept g01 (fun h => h), x8.kept g01 (fun h => h), x9.kept g01 (fun h => h), ownR_nil _ _, .inl ⟨rfl, rfl⟩, gw⟩, fun k hk => by simp [blk, Value.ownBlock] at hk, fun k hk => by omega⟩
  rw [hz0] at hz1 hA1 hB1 hK1
  simp only [hz0, hB, Nat.add_assoc, Nat.reduceAdd]
  simp only [Nat.add_assoc, Nat.reduceAdd] at hA1 hB1 hK1
  have HSQ := Lib.hid (strips_seq 8 (by omega) (B + 4) (B + 5) (B + 6) k HOP.out h00 w1 hA1 hB1 hK1 (HA.out.below gw) (HB.out.below gw) hl)
  have hw1 : w1.heap.size = B + 4 + 3 := hz1
  clear x6 x7 x8 x9 g0 g01 hb1 hA1 hB1 hK1 hz1
  gi_wp2
  refine wpIn_rangeX (by omega) (gf := 114) (lb := #[.pointer (some ⟨B + 4, 0, none⟩), .pointer (some ⟨B + 5, 0, none⟩), .pointer (some ⟨B + 6, 0, none⟩)]) rfl (enters_of Tryz.func114 (by kernel_rfl) rfl) HSQ.out (Below.refl _ _) rfl (fun j hj => by omega)
    (CanI w B C (stripsL op a b)) (CanX w B C) (canI_own (by omega) (by omega)) (canX_own (by omega)) HI0.out
    (fun v => { tmps := #[va, vb, .func (.func k) #[] #[], undef, undef, undef, .pointer (some ⟨B, 0, none⟩), .pointer (some ⟨B + 1, 0, none⟩), .pointer (some ⟨B + 2, 0, none⟩), .pointer (some ⟨B + 3, 0, none⟩), v, undef, va, vb, .func (.func k) #[] #[], .func (.func 114) #[] #[.pointer (some ⟨B + 4, 0, none⟩), .pointer (some ⟨B + 5, 0, none⟩), .pointer (some ⟨B + 6, 0, none⟩)], v, undef, undef, undef, undef, undef, undef, undef, undef, undef, undef, undef, undef, undef, undef, undef, undef, undef, undef, undef, undef, undef, undef, undef, undef, undef, undef, undef, undef, undef, undef, undef, undef, undef, undef, undef], defers := [] }) ?assign ?body ?done ?stop
  case assign =>
    intro l v W K hK
    gi_wp2
    exact hK
  case body =>
    rintro l X pre bd v W ⟨D, cur, rest, vo, vq, hL, hCC, hlen, hW, hvo, hX⟩ hpre hrs hvX hXs
    obtain ⟨rest', rfl⟩ : ∃ r, rest = bd :: r := by
      obtain ⟨r, hr⟩ := hpre
      rw [hL, List.append_assoc] at hr
      exact ⟨r, (List.append_cancel_left hr).symm⟩
    have hbm : bd ∈ stripsL op a b := by rw [hL]; simp
    have hne := stripsL_ne bd hbm
    have hul := stripsL_len bd hbm
    obtain ⟨y, y', u⟩ := bd
    simp only at hne hul
    have HL := Lib.hid hL
    have HCC := Lib.hid hCC
    have HW := Lib.hid hW
    have HVO := Lib.hid hvo
    have HX := Lib.hid hX
    have HRS := Lib.hid hrs
    have HVX := Lib.hid hvX
    have HNE := Lib.hid hne
    have HXS := Lib.hid hXs
    obtain ⟨As, cs, rfl, hcs, hms, jk⟩ := id hrs
    obtain ⟨nu, hnu⟩ : ∃ nu, (bandR (y, y', u)).length = nu := ⟨_, rfl⟩
    have HNU := Lib.hid hnu
    have hnul : nu ≤ 2000 := by rw [← hnu, bandR_len]; simp only; omega
    have hnup : 0 < nu := by rw [← hnu, bandR_len]; exact List.length_pos_iff.2 hne
    rw [hnu] at hcs HRS HVX
    rw [hnu]
    simp only [maxLen] at hms
    have C5 := Lib.hid (continues_any (hW.val.rs hW.own) (by have h := HRS.out; exact h))
    have x9 := hW.band.cell 0
    simp only [List.getElem?_toArray, List.getElem?_cons_zero] at x9
    have hsz := hW.band.lt
    have hd7 : 1 ≤ 9 - 1 - 1 := by omega
    clear hL hCC hW hvo hX hrs hvX hnu jk hbm hpre hul hXs
    gi_wp2
    refine ⟨trivial, ?_⟩
    refine (CallsIn.inRound l (callsIn_wide.2 C5.out)).mono ?_
    rintro e w5 ⟨rfl, hb5⟩
    have g5 : Hid (GrownIn (fun _ => False) W w5) := Lib.hid (GrownIn.of_below hb5)
    have HW5 : Hid (CanW w B D cur vo vq w5) := Lib.hid (HW.out.kept g5.out (fun _ _ _ h => h) (fun _ _ h => h) (fun _ h => h.elim))
    have HRS5 : Hid (Rs w5 (.slice As nu cs) (bandR (y, y', u))) := Lib.hid (HRS.out.below hb5)
    have hsz5 : B + 3 < w5.heap.size := Nat.lt_of_lt_of_le hsz hb5.size
    clear hb5 C5 x9 HW HRS
    cases hct : contL (bandR cur) (bandR (y, y', u))
    · have HNC : Hid (¬ (cur.2.1 = y ∧ cur.2.2 = u)) := Lib.hid (fun h => by
        obtain ⟨lo, hi, uc⟩ := cur
        have h2 := (contL_band (u := uc) (lo := lo) (hi := hi) (y' := y') HNE.out).2 h
        rw [hct] at h2
        cases h2)
      have HTN : Hid (flatB (tailC cur ((y, y', u) :: rest')) = bandR cur ++ flatB (tailC (y, y', u) rest')) := Lib.hid (tailC_new HNE.out HNC.out)
      have HTL : Hid (nu ≤ (flatB (tailC (y, y', u) rest')).length) := Lib.hid (by have h := tailC_len HNE.out y y' rest'; rw [← HNU.out, bandR_len]; exact h)
      clear hct HNC
      obtain ⟨A8, c8, rfl, hc8, hm8, jk⟩ := id HW5.out.own.rs
      obtain ⟨n8, hn8⟩ : ∃ n8, (D ++ bandR cur).length = n8 := ⟨_, rfl⟩
      have HN8 := Lib.hid hn8
      have HO5 : Hid (w5.ownsRow w.heap.size 53 4 (.slice A8 n8 c8) n8 (flat (D ++ bandR cur))) := Lib.hid (by rw [← hn8]; exact HW5.out.own)
      rw [hn8] at hc8 hlen HVO HW5
      simp only [maxLen] at hm8
      have x8 := HW5.out.out.cell 0
      have f8 := HW5.out.out.frozen 0
      have x6 := HW5.out.res.cell 0
      have f6 := HW5.out.res.frozen 0
      have x7 := HW5.out.err.cell 0
      have f7 := HW5.out.err.frozen 0
      simp only [List.getElem?_toArray, List.getElem?_cons_zero] at x8 x6 x7
      clear jk hn8
      by_cases hov : 256 < n8 + nu
      · have hov' : (256 : Int) < (n8 : Int) + nu := by omega
        have hCl : Hid (256 < C.length) := Lib.hid (by rw [← HCC.out, HTN.out, ← List.append_assoc, List.length_append]; have := HTL.out; have := HN8.out; omega)
        gi_wp2
        exact ⟨(keeps_same g5.out).trans (((KeepsOthers.setCell _ _ _).trans (KeepsOthers.setCell _ _ _)).from _), hCl.out, (HW5.out.res.set _).other (by omega) _, (HW5.out.err.other (by omega) _).set _, (HW5.out.below.setCell (p := ⟨B, 0, none⟩) (show w.heap.size ≤ B by omega) _).setCell (p := ⟨B + 1, 0, none⟩) (show w.heap.size ≤ B + 1 by omega) _⟩
      · have hov' : ¬ (256 : Int) < (n8 : Int) + nu := by omega
        obtain ⟨n9, hn9⟩ : ∃ n9, n9 = n8 + nu := ⟨_, rfl⟩
        have HN9 : Hid (((D ++ bandR cur) ++ bandR (y, y', u)).length = n9) := Lib.hid (by rw [List.length_append, HN8.out, HNU.out, hn9])
        have hOc : OwnR w5 w.heap.size (.slice A8 n8 c8) (D ++ bandR cur) := by unfold OwnR; rw [HN8.out]; exact HO5.out
        have hbb : (D ++ bandR cur).length + (bandR (y, y', u)).length ≤ 4000000 := by rw [HN8.out, HNU.out]; omega
        have x9 := HW5.out.band.cell 0
        have f9 := HW5.out.band.frozen 0
        simp only [List.getElem?_toArray, List.getElem?_cons_zero] at x9
        have f1 : IntKind.i64.wrap ((n9 : Int) - nu) = (n8 : Int) := by rw [show (n9 : Int) - nu = n8 by omega]; exact IntWalk.i64_in _ (by omega)
        have f2 : (0 : Int) ≤ n8 := by omega
        have f3 : ((n8 : Int)).toNat = n8 := by omega
        have f4 : (n8 : Int) ≤ n9 := by omega
        clear hov
        gi_wp2_with (gi_at_builtin; refine wpListIn_appR rfl _ _ rfl (base := w.heap.size) (l := D ++ bandR cur) (m := bandR (y, y', u)) rfl hOc rfl HRS5.out hbb (by omega) ?_; intro v9 w9 ho9 hg9' hl9' _; have hg9 : w5.grownBy w9 (Value.slice A8 n8 c8).ownBlock := hg9'; have hl9 : v9.ownBlock = (Value.slice A8 n8 c8).ownBlock ∨ v9.ownBlock = some w5.heap.size := hl9'; clear hg9' hl9'; have ho9' : w9.ownsRow w.heap.size 53 4 v9 n9 (flat ((D ++ bandR cur) ++ bandR (y, y', u))) := (by have h := ho9; unfold OwnR at h; rw [HN9.out] at h; exact h); obtain ⟨g9, c9, rfl, hgb, hgs, hnc, hcm⟩ := owns_shape ho9' (by omega); have b8 := HW5.out.out.kept (GrownIn.of_own hg9) (HW5.out.out.far hOc (by decide)); have b9 := HW5.out.band.kept (GrownIn.of_own hg9) (HW5.out.band.far hOc (by decide)); have y8 := b8.cell 0; have g8 := b8.frozen 0; have y9 := b9.cell 0; have g9' := b9.frozen 0; simp only [List.getElem?_toArray, List.getElem?_cons_zero] at y8 y9; have hcm2 : c9 ≤ 2 ^ 63 - 1 := hcm)
        subst hn9
        have nb8 : ¬ blk (.slice (some ⟨g9, 0, none⟩) (n8 + nu) c9) (B + 2) := b8.far ho9' (by decide)
        have nb9 : ¬ blk (.slice (some ⟨g9, 0, none⟩) (n8 + nu) c9) (B + 3) := b9.far ho9' (by decide)
        have b6 := HW5.out.res.kept (GrownIn.of_own hg9) (HW5.out.res.far hOc (by decide))
        have b7 := HW5.out.err.kept (GrownIn.of_own hg9) (HW5.out.err.far hOc (by decide))
        have gg : GrownIn (fun k => k = B + 2 ∨ k = B + 3) w9 ((w9.setCell ⟨B + 2, 0, none⟩ (.slice (some ⟨g9, 0, none⟩) (n8 + nu) c9)).setCell ⟨B + 3, 0, none⟩ (.slice (some ⟨g9, n8 * 4, none⟩) nu (c9 - n8))) :=
          ((GrownIn.of_grown (grown_set w9 (B + 2) 0 _)).mono (fun k _ e => .inl (Option.some.inj e).symm)).trans ((GrownIn.of_grown (grown_set _ (B + 3) 0 _)).mono (fun k _ e => .inr (Option.some.inj e).symm))
        have hown9 := gg.own ho9' (fun k hk h => by
          rcases h with rfl | rfl
          · exact nb8 hk
          · exact nb9 hk)
        have g59 := GrownIn.of_own hg9
        have hul2 : u.length = nu := by have h := HNU.out; rw [bandR_len] at h; exact h
        refine ⟨((keeps_same g5.out).trans (keeps_grown hOc g59)).trans (((KeepsOthers.setCell _ _ _).trans (KeepsOthers.setCell _ _ _)).from _), ?_, D ++ bandR cur, (y, y', u), rest', (.slice (some ⟨g9, 0, none⟩) (n8 + nu) c9), (.slice (some ⟨g9, n8 * 4, none⟩) nu (c9 - n8)), by rw [HL.out]; simp, by rw [← HCC.out, HTN.out, List.append_assoc], by rw [HN9.out]; omega, ⟨?_, ?_, ?_, ?_, ?_, ?_, ?_⟩, ?_, HX.out⟩
        · exact ((g5.out.mono (fun _ _ h => h.elim)).trans (g59.mono (fun k _ h => HVO.out k h))).trans (gg.mono (fun k _ h hk => by
            have := HX.out k hk
            rcases h with h | h <;> omega))
        · exact (b6.other (by omega) _).other (by omega) _
        · exact (b7.other (by omega) _).other (by omega) _
        · exact (b8.set _).other (by omega) _
        · exact (b9.other (by omega) _).set _
        · unfold OwnR
          rw [HN9.out]
          exact hown9
        · refine .inr ⟨HNE.out, g9, c9, ?_, ?_, ?_⟩
          · rw [HN8.out]; simp only; rw [hul2]
          · rw [HN8.out]; simp only; rw [hul2]; exact hnc
          · rw [HN8.out]; simp only; rw [hul2]
        · exact ((HW5.out.below.trans (g59.below HW5.out.below.size (fun k hk => (own_blk hOc k hk).1))).setCell (p := ⟨B + 2, 0, none⟩) (show w.heap.size ≤ B + 2 by omega) _).setCell (p := ⟨B + 3, 0, none⟩) (show w.heap.size ≤ B + 3 by omega) _
        · intro k hk hk'
          have h1 := HXS.out k hk'
          rcases hl9 with h | h
          · exact HVO.out k (h.symm.trans hk) hk'
          · have h2 : some k = some w5.heap.size := hk.symm.trans h
            have := Option.some.inj h2
            have := g5.out.size
            omega
    · obtain ⟨lo, hi, uc⟩ := cur
      obtain ⟨rfl, rfl⟩ := (contL_band (u := uc) (lo := lo) (hi := hi) (y' := y') HNE.out).1 hct
      obtain ⟨g, c, rfl, hcd, rfl⟩ : ∃ g c, vo = .slice (some ⟨g, 0, none⟩) (D.length + uc.length) c ∧ D.length + uc.length ≤ c ∧ vq = .slice (some ⟨g, D.length * 4, none⟩) uc.length (c - D.length) := by
        rcases HW5.out.val with h | h
        · exact absurd h.1 HNE.out
        · exact h.2
      have HTM : Hid (D ++ flatB (tailC (lo, y', uc) rest') = C) := Lib.hid (by rw [← HCC.out, tailC_merge HNE.out])
      have hul2 : uc.length = nu := by have h := HNU.out; rw [bandR_len] at h; exact h
      have HUL := Lib.hid hul2
      obtain ⟨d, hd⟩ : ∃ d, D.length = d := ⟨_, rfl⟩
      have HD := Lib.hid hd
      have hcm : c ≤ 2 ^ 63 - 1 := by
        obtain ⟨A', c', e, _, h2, _⟩ := HW5.out.own.rs
        injection e with _ _ e3
        rw [e3]
        exact h2
      have HO5 : Hid (w5.ownsRow w.heap.size 53 4 (.slice (some ⟨g, 0, none⟩) (d + nu) c) (d + nu) (flat (mixB D lo hi y' uc 0))) := Lib.hid (by
        have h := HW5.out.own
        unfold OwnR at h
        rw [List.length_append, bandR_len] at h
        simp only at h
        rw [hd, hul2] at h
        rw [mixB_start]
        exact h)
      rw [hd, hul2] at hcd HVO HW5
      have hgw := own_blk HO5.out g rfl
      have hg9 : g ≠ B + 3 := fun e => HW5.out.band.far HO5.out (by decide) (congrArg some e)
      have hg8 : g ≠ B + 2 := fun e => HW5.out.out.far HO5.out (by decide) (congrArg some e)
      have hg7 : g ≠ B + 1 := fun e => HW5.out.err.far HO5.out (by decide) (congrArg some e)
      have hg6 : g ≠ B := fun e => HW5.out.res.far HO5.out (by decide) (congrArg some e)
      have hgX : Hid (¬ X g) := Lib.hid (HVO.out g rfl)
      have x9 := HW5.out.band.cell 0
      simp only [List.getElem?_toArray, List.getElem?_cons_zero] at x9
      obtain ⟨A', c', e', hq1, hq2, hq3⟩ := id HRS5.out
      rw [HNU.out] at e' hq3
      injection e' with e1 _ e3
      obtain ⟨bs, os, e4, hbs, hq4⟩ := hq3 hnup
      rw [← e1] at e4
      subst e4
      have hbg : bs ≠ g := fun e => hgX.out (e ▸ HVX.out bs rfl)
      have HQ := Lib.hid hq4
      clear hct hul2 hd hq1 hq2 hq3 hq4 e1 e3
      gi_wp2
      gi_loopw [22] (fun k wr => ∃ i, i ≤ nu ∧ k = .int .i64 (i : Int) ∧ Hid (wr.ownsRow w.heap.size 53 4 (.slice (some ⟨g, 0, none⟩) (d + nu) c) (d + nu) (flat (mixB D lo hi y' uc i)) ∧ GrownIn (fun k => k = g) w5 wr)) (fun k _ => nu - (RowKit.intOf k).toNat)
      case atStart => exact ⟨0, by omega, rfl, HO5.out, GrownIn.refl _ _⟩
      case round =>
        obtain ⟨i, hi', rfl, hrel⟩ := hrel
        have HG := Lib.hid hrel.out.2
        by_cases hlt : i < nu
        · obtain ⟨p, hp⟩ : ∃ p, uc[i]? = some p := ⟨_, List.getElem?_eq_getElem (by rw [HUL.out]; exact hlt)⟩
          have hmx := mixB_at (D := D) (lo := lo) (y := hi) (y' := y') hp
          rw [HD.out] at hmx
          obtain ⟨⟨c0, c1, c2, c3⟩, cf⟩ := OwnR.cells hrel.out.1 hmx.1
          have hsz := HG.out.size
          have x9' := (HG.out.cell (a := ⟨B + 3, 0, none⟩) (show B + 3 < w5.heap.size by omega) (fun e => hg9 e.symm)).trans x9
          obtain ⟨s0, s1, s2, s3⟩ := HQ.out i _ (bandR_at hp)
          (try simp only at c3); (try simp only at s3)
          have t3 := (HG.out.cell (a := ⟨bs, os + i * 4 + 3, none⟩) hbs (fun e => hbg e)).trans s3
          have e3 : (d + i) * 4 + 3 = d * 4 + i * 4 + 3 := by omega
          rw [e3] at c3
          have cf3 := cf (d * 4 + i * 4 + 3)
          have q0 : (i : Int) < nu := by omega
          have q1 : (0 : Int) ≤ i := by omega
          have hN := OwnR.set_y1 hrel.out.1 hmx.1 y'
          have hm2 := hmx.2
          (try simp only at hm2)
          (try simp only at hN)
          rw [hm2, e3] at hN
          have HN := Lib.hid hN
          have hrow := hrel.out.1.lt g rfl
          clear hrel c0 c1 c2 s0 s1 s2 s3 cf hmx hm2 hN hp x9
          have s0 : wr.drew.cell? ⟨B + 3, 0, none⟩ = some (.slice (some ⟨g, d * 4, none⟩) nu (c - d)) ∧ wr.drew.cell? ⟨bs, os + i * 4 + 3, none⟩ = some (.int .i64 y') := ⟨x9', t3⟩
          have sk : (wr.drew.setCell ⟨g, d * 4 + i * 4 + 3, none⟩ (.int .i64 y')).cell? ⟨B + 3, 0, none⟩ = some (.slice (some ⟨g, d * 4, none⟩) nu (c - d)) ∧ (wr.drew.setCell ⟨g, d * 4 + i * 4 + 3, none⟩ (.int .i64 y')).cell? ⟨bs, os + i * 4 + 3, none⟩ = some (.int .i64 y') := ⟨(World.cell?_setCell_far _ _ _ _ (by simpa using hg9)).trans x9', (World.cell?_setCell_far _ _ _ _ (by simpa using fun e => hbg e.symm)).trans t3⟩
          gi_wp2
          refine region_round (S := (fun U => U.cell? ⟨B + 3, 0, none⟩ = some (.slice (some ⟨g, d * 4, none⟩) nu (c - d)) ∧ U.cell? ⟨bs, os + i * 4 + 3, none⟩ = some (.int .i64 y'))) (by kernel_rfl) (by kernel_rfl) s0 (fun hHeld => ?_)
          refine wpAnyH_take (i := 0) (oi := ({ dst := some 25, op := Op.load 23 (Operand.tmp 9), type := 23, pos := "region.go:85", after := #[], guard := none } : Oper)) (v := ?_) rfl (by kernel_rfl) (by kernel_rfl) (by kernel_rfl) (fun _ _ _ h => h) (Or.inl ⟨by rfl, ?_⟩) hHeld ?_
          rotate_left 1
          · (intro W hSw; (try dsimp only at hSw); go_simp; try with_reducible rfl)
          try simp only [Act.put, List.setIfInBounds_toArray, List.set_cons_zero, List.set_cons_succ]
          refine wpAnyH_take (i := 1) (oi := ({ dst := some 26, op := Op.move (Operand.tmp 11), type := 3, pos := "region.go:85", after := #[], guard := none } : Oper)) (v := ?_) rfl (by kernel_rfl) (by kernel_rfl) (by kernel_rfl) (fun _ _ _ h => h) (Or.inl ⟨by rfl, ?_⟩) hHeld ?_
          rotate_left 1
          · (intro W hSw; (try dsimp only at hSw); go_simp; try with_reducible rfl)
          try simp only [Act.put, List.setIfInBounds_toArray, List.set_cons_zero, List.set_cons_succ]
          refine wpAnyH_take (i := 2) (oi := ({ dst := some 27, op := Op.move (Operand.tmp 10), type := 23, pos := "region.go:85", after := #[], guard := none } : Oper)) (v := ?_) rfl (by kernel_rfl) (by kernel_rfl) (by kernel_rfl) (fun _ _ _ h => h) (Or.inl ⟨by rfl, ?_⟩) hHeld ?_
          rotate_left 1
          · (intro W hSw; (try dsimp only at hSw); go_simp; try with_reducible rfl)
          try simp only [Act.put, List.setIfInBounds_toArray, List.set_cons_zero, List.set_cons_succ]
          refine wpAnyH_take (i := 3) (oi := ({ dst := some 28, op := Op.move (Operand.tmp 11), type := 3, pos := "region.go:85", after := #[], guard := none } : Oper)) (v := ?_) rfl (by kernel_rfl) (by kernel_rfl) (by kernel_rfl) (fun _ _ _ h => h) (Or.inl ⟨by rfl, ?_⟩) hHeld ?_
          rotate_left 1
          · (intro W hSw; (try dsimp only at hSw); go_simp; try with_reducible rfl)
          try simp only [Act.put, List.setIfInBounds_toArray, List.set_cons_zero, List.set_cons_succ]
          refine wpAnyH_take (i := 4) (oi := ({ dst := some 29, op := Op.indexAddr 23 (Operand.tmp 27) (Operand.tmp 28), type := 0, pos := "region.go:85", after := #[{ on := 2, ground := Ground.data }, { on := 3, ground := Ground.data }], guard := none } : Oper)) (v := ?_) rfl (by kernel_rfl) (by kernel_rfl) (by kernel_rfl) (fun _ _ _ h => h) (Or.inl ⟨by rfl, ?_⟩) hHeld ?_
          rotate_left 1
          · (intro W hSw; (try dsimp only at hSw); go_simp; try with_reducible rfl)
          try simp only [Act.put, List.setIfInBounds_toArray, List.set_cons_zero, List.set_cons_succ]
          refine wpAnyH_take (i := 5) (oi := ({ dst := some 30, op := Op.fieldAddr 53 (Operand.tmp 29) 3, type := 0, pos := "region.go:85", after := #[{ on := 4, ground := Ground.data }], guard := none } : Oper)) (v := ?_) rfl (by kernel_rfl) (by kernel_rfl) (by kernel_rfl) (fun _ _ _ h => h) (Or.inl ⟨by rfl, ?_⟩) hHeld ?_
          rotate_left 1
          · (intro W hSw; (try dsimp only at hSw); go_simp; try with_reducible rfl)
          try simp only [Act.put, List.setIfInBounds_toArray, List.set_cons_zero, List.set_cons_succ]
          refine wpAnyH_take (i := 6) (oi := ({ dst := some 31, op := Op.load 3 (Operand.tmp 30), type := 3, pos := "region.go:85", after := #[{ on := 5, ground := Ground.data }], guard := none } : Oper)) (v := ?_) rfl (by kernel_rfl) (by kernel_rfl) (by kernel_rfl) (fun _ _ _ h => h) (Or.inl ⟨by rfl, ?_⟩) hHeld ?_
          rotate_left 1
          · (intro W hSw; (try dsimp only at hSw); go_simp; try with_reducible rfl)
          try simp only [Act.put, List.setIfInBounds_toArray, List.set_cons_zero, List.set_cons_succ]
          refine wpAnyH_take (i := 7) (oi := ({ dst := some 32, op := Op.indexAddr 23 (Operand.tmp 25) (Operand.tmp 26), type := 0, pos := "region.go:85", after := #[{ on := 0, ground := Ground.data }, { on := 1, ground := Ground.data }, { on := 0, ground := Ground.phase }, { on := 1, ground := Ground.phase }, { on := 2, ground := Ground.phase }, { on := 3, ground := Ground.phase }, { on := 4, ground := Ground.phase }, { on := 5, ground := Ground.phase }, { on := 6, ground := Ground.phase }], guard := none } : Oper)) (v := ?_) rfl (by kernel_rfl) (by kernel_rfl) (by kernel_rfl) (fun _ _ _ h => h) (Or.inl ⟨by rfl, ?_⟩) hHeld ?_
          rotate_left 1
          · (intro W hSw; (try dsimp only at hSw); go_simp; try with_reducible rfl)
          try simp only [Act.put, List.setIfInBounds_toArray, List.set_cons_zero, List.set_cons_succ]
          refine wpAnyH_take (i := 8) (oi := ({ dst := some 33, op := Op.fieldAddr 53 (Operand.tmp 32) 3, type := 0, pos := "region.go:85", after := #[{ on := 7, ground := Ground.data }, { on := 0, ground := Ground.phase }, { on := 1, ground := Ground.phase }, { on := 2, ground := Ground.phase }, { on := 3, ground := Ground.phase }, { on := 4, ground := Ground.phase }, { on := 5, ground := Ground.phase }, { on := 6, ground := Ground.phase }], guard := none } : Oper)) (v := ?_) rfl (by kernel_rfl) (by kernel_rfl) (by kernel_rfl) (fun _ _ _ h => h) (Or.inl ⟨by rfl, ?_⟩) hHeld ?_
          rotate_left 1
          · (intro W hSw; (try dsimp only at hSw); go_simp; try with_reducible rfl)
          try simp only [Act.put, List.setIfInBounds_toArray, List.set_cons_zero, List.set_cons_succ]
          refine wpAnyH_ready (rs := [9]) (by kernel_rfl) (by simp) (AllReadyH.cons (o := ({ dst := none, op := Op.store 3 (Operand.tmp 33) (Operand.tmp 31), type := 0, pos := "region.go:85", after := #[{ on := 8, ground := Ground.data }, { on := 6, ground := Ground.data }, { on := 0, ground := Ground.phase }, { on := 1, ground := Ground.phase }, { on := 2, ground := Ground.phase }, { on := 3, ground := Ground.phase }, { on := 4, ground := Ground.phase }, { on := 5, ground := Ground.phase }, { on := 6, ground := Ground.phase }], guard := none } : Oper)) rfl (fun K hK => ?_) AllReadyH.nil)
          go_simp
          refine hK.out _ _ sk (fun hHeld2 => ?_)
          clear hK K hHeld hHeld2
          try simp only [Act.put, List.setIfInBounds_toArray, List.set_cons_zero, List.set_cons_succ]
          refine wpAnyH_done (by kernel_rfl) ?_ _
          refine noOut_normal ?_
          have HG2 : Hid (GrownIn (fun k => k = g) w5 (wr.setCell ⟨g, d * 4 + i * 4 + 3, none⟩ (.int .i64 y')).drew) := Lib.hid ((HG.out.trans ((GrownIn.of_grown (grown_set wr g _ _)).mono (fun k _ e => (Option.some.inj e).symm))).drew)
          have HN2 : Hid ((wr.setCell ⟨g, d * 4 + i * 4 + 3, none⟩ (.int .i64 y')).drew.ownsRow w.heap.size 53 4 (.slice (some ⟨g, 0, none⟩) (d + nu) c) (d + nu) (flat (mixB D lo hi y' uc (i + 1)))) := Lib.hid (World.ownsRow.drew HN.out)
          have hww : (wr.drew.setCell ⟨g, d * 4 + i * 4 + 3, none⟩ (.int .i64 y')) = (wr.setCell ⟨g, d * 4 + i * 4 + 3, none⟩ (.int .i64 y')).drew := rfl
          clear sk s0 x9' t3 c3 cf3 HN HG
          try rw [hww]
          clear hww
          generalize (wr.setCell ⟨g, d * 4 + i * 4 + 3, none⟩ (.int .i64 y')).drew = wz at *
          gi_wp2
          go_roundw
          case rel => exact ⟨i + 1, by omega, by go_num, HN2.out, HG2.out⟩
          case measure => simp [RowKit.intOf]; omega
        · have q0 : (nu : Int) ≤ (i : Int) := by omega
          have HN := Lib.hid hrel.out.1
          have x9' := (HG.out.cell (a := ⟨B + 3, 0, none⟩) (show B + 3 < w5.heap.size by omega) (fun e => hg9 e.symm)).trans x9
          clear hrel x9
          gi_wp2
          have hme : mixB D lo hi y' uc i = D ++ bandR (lo, y', uc) := mixB_end D lo hi y' uc (by rw [HUL.out]; omega)
          have gx : GrownIn (blk (.slice (some ⟨g, 0, none⟩) (d + nu) c)) w5 wr := HG.out.mono (fun k _ e => by rw [e]; rfl)
          refine ⟨(keeps_same g5.out).trans (keeps_grown HO5.out gx), (g5.out.mono (fun _ _ h => h.elim)).trans (HG.out.mono (fun k _ e => by rw [e]; exact hgX.out)), D, (lo, y', uc), rest', _, _, by rw [HL.out]; simp, HTM.out, ?_,
            ⟨HW5.out.res.kept HG.out (fun e => hg6 e.symm), HW5.out.err.kept HG.out (fun e => hg7 e.symm), HW5.out.out.kept HG.out (fun e => hg8 e.symm), HW5.out.band.kept HG.out (fun e => hg9 e.symm), ?_, ?_, ?_⟩, HVO.out, HX.out⟩
          · rw [List.length_append, bandR_len] at hlen ⊢
            exact hlen
          · have h := HN.out
            rw [hme] at h
            unfold OwnR
            rw [List.length_append, bandR_len]
            simp only
            rw [HD.out, HUL.out]
            exact h
          · exact .inr ⟨HNE.out, g, c, by simp only; rw [HD.out, HUL.out], by simp only; rw [HD.out, HUL.out]; exact hcd, by simp only; rw [HD.out, HUL.out]⟩
          · exact HW5.out.below.trans (HG.out.below HW5.out.below.size (fun k e => by rw [e]; exact hgw.1))
  case done =>
    rintro D X W hD ⟨D', cur, rest, vo, vq, hL, hCC, hlen, hW, hvo, hX⟩ hK
    have hr : rest = [] := by
      have := congrArg List.length hL
      rw [List.length_append] at this
      exact List.eq_nil_of_length_eq_zero (by omega)
    subst hr
    rw [tailC_end] at hCC
    obtain ⟨A8, c8, rfl, _, _, _⟩ := id hW.own.rs
    obtain ⟨n8, hn8⟩ : ∃ n8, (D' ++ bandR cur).length = n8 := ⟨_, rfl⟩
    rw [hn8] at hW
    have HW := Lib.hid hW
    have HCC := Lib.hid hCC
    have x8 := hW.out.cell 0
    have x6 := hW.res.cell 0
    have f6 := hW.res.frozen 0
    have x7 := hW.err.cell 0
    have f7 := hW.err.frozen 0
    simp only [List.getElem?_toArray, List.getElem?_cons_zero] at x8 x6 x7
    have hHK := Lib.hid hK
    have hlen' : C.length ≤ 256 := by rw [← hCC]; exact hlen
    clear hL hCC hlen hW hvo hX hK hn8
    gi_wp2
    have hBD : B ≠ D := by omega
    have hBD1 : B + 1 ≠ D := by omega
    have hk2 := ((KeepsOthers.setCell W ⟨B, 0, none⟩ (.slice A8 n8 c8)).trans (KeepsOthers.setCell _ ⟨B + 1, 0, none⟩ (.int .i64 0))).same D _ hHK.out rfl
    refine ⟨by simp, .inl ⟨_, _, rfl, run_takeDeferred hk2, ?_⟩⟩
    have gp := GrownIn.of_grown (grownBy_putObj' ((W.setCell ⟨B, 0, none⟩ (.slice A8 n8 c8)).setCell ⟨B + 1, 0, none⟩ (.int .i64 0)) D (.deferred none))
    have b6 := ((HW.out.res.set (.slice A8 n8 c8)).other (by omega : B + 1 ≠ B) (.int .i64 0)).kept gp (fun e => hBD (Option.some.inj e).symm)
    have b7 := ((HW.out.err.other (by omega : B ≠ B + 1) (.slice A8 n8 c8)).set (.int .i64 0)).kept gp (fun e => hBD1 (Option.some.inj e).symm)
    have r6 := b6.cell 0
    have r7 := b7.cell 0
    simp only [List.getElem?_toArray, List.getElem?_cons_zero] at r6 r7
    have go1 : GrownIn (fun k => k = B ∨ k = B + 1 ∨ k = D) W (((W.setCell ⟨B, 0, none⟩ (.slice A8 n8 c8)).setCell ⟨B + 1, 0, none⟩ (.int .i64 0)).putObj D (.deferred none)) :=
      (((GrownIn.of_grown (grown_set W B 0 _)).mono (fun k _ e => .inl (Option.some.inj e).symm)).trans ((GrownIn.of_grown (grown_set _ (B + 1) 0 _)).mono (fun k _ e => .inr (.inl (Option.some.inj e).symm)))).trans (gp.mono (fun k _ e => .inr (.inr (Option.some.inj e).symm)))
    have hown := go1.own HW.out.own (fun k hk h => by
      rcases h with rfl | rfl | rfl
      · exact HW.out.res.far HW.out.own (by decide) hk
      · exact HW.out.err.far HW.out.own (by decide) hk
      · exact own_cells (B := 0) HW.out.own hk ⟨Nat.zero_le _, _, hHK.out, rfl⟩)
    have hbel := HW.out.below.trans (go1.below HW.out.below.size (fun k h => by omega))
    refine ⟨.tuple #[.slice A8 n8 c8, .int .i64 0], ?_, ?_⟩
    · simp [results, Tryz.f91, go_sem, r6, r7]
    · exact ⟨_, by rw [if_pos hlen'], by rw [if_pos hlen', ← HCC.out]; exact hown, hbel⟩
  case stop =>
    rintro D pre W hD _ ⟨hC, b6, b7, hb⟩ hK
    gi_wp2
    have hBD : B ≠ D := by omega
    have hBD1 : B + 1 ≠ D := by omega
    refine ⟨by simp, .inl ⟨_, _, rfl, run_takeDeferred hK, ?_⟩⟩
    have gp := GrownIn.of_grown (grownBy_putObj' W D (.deferred none))
    have r6 := (b6.kept gp (fun e => hBD (Option.some.inj e).symm)).cell 0
    have r7 := (b7.kept gp (fun e => hBD1 (Option.some.inj e).symm)).cell 0
    simp only [List.getElem?_toArray, List.getElem?_cons_zero] at r6 r7
    refine ⟨.tuple #[.slice none 0 0, .int .i64 5], ?_, ?_⟩
    · simp [results, Tryz.f91, go_sem, r6, r7]
    · exact ⟨_, by rw [if_neg (by omega)], by rw [if_neg (by omega)]; exact ownR_nil _ _, hb.trans (gp.below hb.size (fun k h => by have := Option.some.inj h; omega))⟩

end Go.Proofs.YthedglfocjljjaaGreatDoor.Rgn
namespace Go.Proofs.YthedglfocjljjaaGreatDoor.Rgn
open Go.RowKit

abbrev orB : Op2 := fun x y => x || y

def isCanP (a : List R) : Bool := decide (a.length ≤ 256) && sameL a (combP orB a [])

set_option maxRecDepth 100000 in
set_option maxHeartbeats 2000000 in
theorem riscan_any {w : World} {va : Value} {a : List R} (h : Rs w va a) (hl : a.length ≤ 500) : Calls Tryz.prog 31 #[va] w fun e w' => e = .returned (.bool (isCanP a)) ∧ Below w.heap.size w w' := by
  have C := Lib.hid (combined_any h (rs_nil w) (mode := 1) (op := orB) (.inl ⟨rfl, rfl⟩) (by simpa using hl))
  have HA := Lib.hid h
  obtain ⟨A, c, rfl, hc, hm, _⟩ := h
  simp only [maxLen] at hm
  obtain ⟨n, hn⟩ : ∃ n, a.length = n := ⟨_, rfl⟩
  obtain ⟨r, hr⟩ : ∃ r, isCanP a = r := ⟨_, rfl⟩
  rw [hr]
  unfold isCanP at hr
  rw [hn] at hr C HA hc ⊢
  generalize combP orB a [] = L at *
  by_cases h1 : n ≤ 256
  · have q0 : (n : Int) ≤ 256 := by omega
    have e : sameL a L = r := by rw [← hr]; simp [h1]
    have HE := Lib.hid e
    clear hr hn e
    go_enter Tryz.func31, Tryz.ntmps31
    go_wp2_with fail
    refine C.out.mono ?_
    rintro e w1 ⟨t, rfl, ho, hb⟩
    have D : Hid (Calls Tryz.prog 29 #[.slice A n c, t] w1 fun e w' => e = .returned (.bool r) ∧ Below w1.heap.size w1 w') := Lib.hid (by rw [← HE.out]; exact same_any (HA.out.below hb) ho.rs)
    have HB := Lib.hid hb
    clear C ho hb
    go_wp2_with fail
    refine D.out.mono ?_
    rintro e w2 ⟨rfl, hb2⟩
    clear D
    cases r
    · go_wp2_with fail
      go_ret
      exact ⟨rfl, HB.out.trans (hb2.mono HB.out.size)⟩
    · go_wp2_with fail
      go_ret
      exact ⟨rfl, HB.out.trans (hb2.mono HB.out.size)⟩
  · have q0 : (256 : Int) < n := by omega
    have e : false = r := by rw [← hr]; simp [h1]
    subst e
    clear hr hn C
    go_enter Tryz.func31, Tryz.ntmps31
    go_wp2_with fail
    go_ret
    exact ⟨rfl, Below.refl _ _⟩

theorem areaP_bd {r : R} (h : empB r = false) : 1 ≤ areaP r ∧ areaP r ≤ 1073741824 := by
  have := (emp_no r).1 h
  unfold areaP
  have h1 : 1 * 1 ≤ (r.x1 - r.x0) * (r.y1 - r.y0) := Int.mul_le_mul (by omega) (by omega) (by omega) (by omega)
  have h2 : (r.x1 - r.x0) * (r.y1 - r.y0) ≤ 32768 * 32768 := Int.mul_le_mul (by omega) (by omega) (by omega) (by omega)
  omega

theorem sumP_nonneg : ∀ {l : List R}, (∀ r ∈ l, empB r = false) → 0 ≤ sumP l
  | [], _ => Int.le_refl _
  | r :: l, h => by
    have h1 := (areaP_bd (h r List.mem_cons_self)).1
    have h2 := sumP_nonneg (l := l) (fun q hq => h q (List.mem_cons_of_mem _ hq))
    simp only [sumP]
    omega

theorem sumP_take {l : List R} (h : ∀ r ∈ l, empB r = false) {j : Nat} {r : R} (hj : l[j]? = some r) : 0 ≤ sumP (l.take j) ∧ sumP (l.take j) + areaP r ≤ sumP l ∧ sumP (l.take (j + 1)) = sumP (l.take j) + areaP r := by
  have e : sumP l = sumP (l.take j) + (areaP r + sumP (l.drop (j + 1))) := by
    conv => lhs; rw [← List.take_append_drop j l, drop_at hj, sumP_append]
    rfl
  have h1 := sumP_nonneg (l := l.take j) (fun q hq => h q (List.mem_of_mem_take hq))
  have h2 := sumP_nonneg (l := l.drop (j + 1)) (fun q hq => h q (List.mem_of_mem_drop hq))
  refine ⟨h1, by omega, ?_⟩
  rw [List.take_add_one, hj, sumP_append]
  simp [sumP]

theorem region_area {S : Int → Int → Bool} {l : List R} (h : Region S l) (hi : Inside S) : sumP l = cnt 32768 (-16384) S ∧ sumP l ≤ 1073741824 := by
  obtain ⟨L, rfl, hL⟩ := h.strips
  have e := area_strips (n := 32768) (A := -16384) hL (fun x y hs => by have := hi x y hs; omega)
  have h2 := (cnt_le (n := 32768) (A := -16384) S).2
  refine ⟨e, ?_⟩
  rw [e]
  exact h2

set_option maxRecDepth 100000 in
set_option maxHeartbeats 4000000 in
theorem rarea_any {w : World} {va : Value} {a : List R} (h : Rs w va a) (hl : a.length ≤ 500) : Calls Tryz.prog 33 #[va] w fun e w' => e = .returned (.int .i64 (sumP (combP orB a []))) ∧ Below w.heap.size w w' := by
  have C := Lib.hid (combined_any h (rs_nil w) (mode := 1) (op := orB) (.inl ⟨rfl, rfl⟩) (by simpa using hl))
  have HReg := Lib.hid (combP_ok (op := orB) rfl a [])
  have HFull := Lib.hid (region_full HReg.out (setS_inside rfl a []))
  have HTot := Lib.hid (region_area HReg.out (setS_inside rfl a [])).2
  obtain ⟨A, c, rfl, _, _, _⟩ := h
  generalize combP orB a [] = L at *
  go_enter Tryz.func33, Tryz.ntmps33
  go_wp2_with fail
  refine C.out.mono ?_
  rintro e w1 ⟨t, rfl, ho, hb⟩
  obtain ⟨Ay, cy, rfl, hcy, hmy, hcell⟩ := ho.rs
  simp only [maxLen] at hmy
  have HC := Lib.hid hcell
  have HB := Lib.hid hb
  obtain ⟨n, hn⟩ : ∃ n, L.length = n := ⟨_, rfl⟩
  have HN := Lib.hid hn
  rw [hn] at hcy ⊢
  clear hcell hn C ho hb
  go_wp2_with fail
  go_loopw [4, 5] (fun s k wr => ∃ (j : Nat), j ≤ n ∧ k = .int .i64 (j : Int) ∧ s = .int .i64 (sumP (L.take j)) ∧ Hid (Below w1.heap.size w1 wr)) (fun _ k _ => n - (RowKit.intOf k).toNat)
  case atStart => exact ⟨0, by omega, rfl, rfl, Below.refl _ _⟩
  case round =>
    obtain ⟨j, hj, rfl, rfl, hrel⟩ := hrel
    by_cases hlt : j < n
    · obtain ⟨r, hr⟩ : ∃ r, L[j]? = some r := ⟨_, List.getElem?_eq_getElem (by rw [HN.out]; exact hlt)⟩
      obtain ⟨b, off, rfl, hb, hcs⟩ := HC.out (by rw [HN.out]; omega)
      obtain ⟨s0, s1, s2⟩ := sumP_take HFull.out hr
      have HS := Lib.hid s2
      have htot := HTot.out
      have hbd := (emp_no r).1 (HFull.out r (List.mem_of_getElem? hr))
      have had := areaP_bd (HFull.out r (List.mem_of_getElem? hr))
      unfold areaP at had s1
      have T := hcs j r hr
      have t0 := (hrel.out.cell (p := ⟨b, off + j * 4, none⟩) hb).trans T.1
      have t1 := (hrel.out.cell (p := ⟨b, off + j * 4 + 1, none⟩) hb).trans T.2.1
      have t2 := (hrel.out.cell (p := ⟨b, off + j * 4 + 2, none⟩) hb).trans T.2.2.1
      have t3 := (hrel.out.cell (p := ⟨b, off + j * 4 + 3, none⟩) hb).trans T.2.2.2
      have q0 : (j : Int) < n := by omega
      have q1 : (0 : Int) ≤ j := by omega
      have HE : Hid (sumP (L.take j) + (r.x1 - r.x0) * (r.y1 - r.y0) = sumP (L.take (j + 1))) := Lib.hid (by rw [HS.out]; rfl)
      have f1 : IntKind.i64.wrap (r.x1 - r.x0) = r.x1 - r.x0 := IntWalk.i64_in _ (by omega)
      have f2 : IntKind.i64.wrap (r.y1 - r.y0) = r.y1 - r.y0 := IntWalk.i64_in _ (by omega)
      have f3 : IntKind.i64.wrap ((r.x1 - r.x0) * (r.y1 - r.y0)) = (r.x1 - r.x0) * (r.y1 - r.y0) := IntWalk.i64_in _ (by omega)
      have f4 : IntKind.i64.wrap (sumP (L.take j) + (r.x1 - r.x0) * (r.y1 - r.y0)) = sumP (L.take j) + (r.x1 - r.x0) * (r.y1 - r.y0) := IntWalk.i64_in _ (by omega)
      clear hr hcs T s0 s1 s2 htot hbd had
      go_wp2_with fail
      go_quiet (fail)
      clear f1 f2 f3 f4
      go_wp2_with fail
      go_roundw
      case rel => exact ⟨j + 1, by omega, by go_num, by rw [← HE.out], below_draws hrel.out _⟩
      case measure => simp [RowKit.intOf]; omega
    · have q0 : (n : Int) ≤ (j : Int) := by omega
      have e : L.take j = L := List.take_of_length_le (by rw [HN.out]; omega)
      rw [e]
      clear e
      go_wp2_with fail
      go_ret
      exact ⟨rfl, HB.out.trans (hrel.out.mono HB.out.size)⟩

def refB : List R → Bool → R → R
  | [], _, out => out
  | r :: l, b, out => if empB r then refB l b out else refB l true (hullR (if b then out else r) r)

set_option maxRecDepth 100000 in
theorem turn {f : FuncId} {args : Array Value} {w : World} {x : Ending} (h : Calls Tryz.prog f args w fun e w' => e = x ∧ w = w') : Calls Tryz.prog f args w fun e w' => e = x ∧ w' = w := h.mono fun _ _ ⟨a, b⟩ => ⟨a, b.symm⟩

theorem below_drewN {B : Nat} {w w1 : World} (h : Below B w w1) : ∀ n, Below B w (w1.drewN n)
  | 0 => h
  | n + 1 => (below_drewN h n).drew

theorem lim_gen {L : List R} {w w' : World} {e : Ending} (h : Lim L w e w') : ∃ (t : Value) (c : Int), e = .returned (.tuple #[t, .int .i64 c]) ∧ Lim L w (.returned (.tuple #[t, .int .i64 c])) w' := by
  obtain ⟨t, rfl, h2⟩ := h
  exact ⟨t, _, rfl, t, rfl, h2⟩

set_option maxRecDepth 100000 in
set_option maxHeartbeats 2000000 in
theorem new_any {w : World} {va : Value} {a : List R} (h : Rs w va a) (hl : a.length ≤ 1000) : Calls Tryz.prog 61 #[va] w (Lim (combP orB a []) w) := by
  have C := Lib.hid (canonical_any keeps_either rfl h (rs_nil w) (by simpa using hl))
  obtain ⟨A, c, rfl, _, _, jk⟩ := h
  generalize combP orB a [] = L at *
  clear jk
  go_enter Tryz.func61, Tryz.ntmps61
  go_wp2_with fail
  refine C.out.mono ?_
  rintro e w1 hL
  obtain ⟨t, c2, rfl, hL⟩ := lim_gen hL
  have HO := Lib.hid hL
  clear C hL
  go_wp2_with fail
  go_ret2
  exact HO.out

set_option maxRecDepth 100000 in
set_option maxHeartbeats 2000000 in
theorem inter_any {w : World} {va vb : Value} {a b : List R} (h : Rs w va a) (hu : Rs w vb b) (hl : a.length + b.length ≤ 1000) : Calls Tryz.prog 58 #[va, vb] w (Lim (combP (fun x y => x && y) a b) w) := by
  have C := Lib.hid (canonical_any keeps_both rfl h hu hl)
  obtain ⟨A, c, rfl, _, _, jk⟩ := h
  obtain ⟨A', c', rfl, _, _, jk'⟩ := hu
  generalize combP (fun x y => x && y) a b = L at *
  clear jk jk'
  go_enter Tryz.func58, Tryz.ntmps58
  go_wp2_with fail
  refine C.out.mono ?_
  rintro e w1 hL
  obtain ⟨t, c2, rfl, hL⟩ := lim_gen hL
  have HO := Lib.hid hL
  clear C hL
  go_wp2_with fail
  go_ret2
  exact HO.out

end Go.Proofs.YthedglfocjljjaaGreatDoor.Rgn
