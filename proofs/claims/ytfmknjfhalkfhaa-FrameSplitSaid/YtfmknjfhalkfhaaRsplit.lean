/-
  The reference's Split.
-/
import Derived.Test.YtfmknjfhalkfhaaExam
namespace Go.Proofs.Ytfmknjfhalkfhaa
open Go.RowKit Mem Wire

/-- what the reference's round asks beside: y is the second number of the header -/
structure RHead (R : List UInt8) (f : Fr) (sz : Nat) (x : Int) (y : Nat) : Prop where
  lt : y < 4294967296
  second : at4 (R.drop 4) = y
  first : at4 R = f.o
  olt : f.o < 4294967296
  size : sz = y / 65536
  op : f.c = ((y % 65536 : Nat) : Int)
  x3 : sz < 8 ∨ sz % 4 ≠ 0 → x = 3
  x5 : ¬(sz < 8 ∨ sz % 4 ≠ 0) → 4096 < sz → x = 5
  x0 : ¬(sz < 8 ∨ sz % 4 ≠ 0) → ¬ 4096 < sz → x = 0

theorem rhead_x {n : Nat} : (n < 8 ∨ n % 4 ≠ 0 → sizeErr n = 3) ∧ (¬(n < 8 ∨ n % 4 ≠ 0) → 4096 < n → sizeErr n = 5) ∧ (¬(n < 8 ∨ n % 4 ≠ 0) → ¬ 4096 < n → sizeErr n = 0) := by
  unfold sizeErr
  refine ⟨fun h => by rw [if_pos h], fun h h' => by rw [if_neg h, if_pos h'], fun h h' => by rw [if_neg h, if_neg h']⟩

theorem rheadOf (R : List UInt8) (h8 : ¬ R.length < 8) : ∃ f sz x y, HeadOf R f sz x ∧ RHead R f sz x y :=
  ⟨frameAt R, sizeAt R, sizeErr (sizeAt R), at4 (R.drop 4), ⟨fun _ _ _ _ hs hn => header_f hs hn, fun W => checkSize_any (sizeAt R) W (Nat.le_of_lt (Nat.lt_of_lt_of_le (sizeAt_lt R) (by decide))), sizeAt_lt R,
    split_bad h8, split_cut h8, split_more h8, fun h => ⟨(sizeErr_zero h).1, (sizeErr_zero h).2.2⟩, rfl⟩,
    ⟨at4_lt _, rfl, rfl, at4_lt R, rfl, rfl, rhead_x.1, rhead_x.2.1, rhead_x.2.2⟩⟩

/-- the loop of the reference's Split: the frames l so far, which take 'at' bytes -/
structure RI (w : World) (p : List UInt8) (l : List (Fr × Value)) (at_ : Nat) (s5 : Value) (wr : World) : Prop where
  own : OwnF wr w.heap.size s5 l
  bod : ∀ p ∈ l, Owns wr w.heap.size p.2 p.1.b
  below : Below w.heap.size w wr
  split : splitS p = (fst l ++ (splitS (p.drop at_)).1, (splitS (p.drop at_)).2)
  took : taken (fst l) = at_
  count : l.length ≤ at_

theorem RI.later {w wr wh : World} {p : List UInt8} {l : List (Fr × Value)} {at_ : Nat} {s5 : Value} (h : RI w p l at_ s5 wr) (hb : Below wr.heap.size wr wh) : RI w p l at_ s5 wh :=
  ⟨h.own.below hb, fun p hp => (h.bod p hp).below hb, h.below.trans (hb.mono h.below.size), h.split, h.took, h.count⟩

/-- what the reference's Split leaves: the bodies are its own -/
def RSplitP (w : World) (tot : List UInt8) (e : Ending) (w' : World) : Prop :=
  ∃ fv l, e = .returned (.tuple #[fv, .int .i64 (taken (splitS tot).1 : Int), .int .i64 (splitS tot).2.2]) ∧ OwnF w' w.heap.size fv l ∧ (∀ p ∈ l, Owns w' w.heap.size p.2 p.1.b) ∧ fst l = (splitS tot).1 ∧ Below w.heap.size w w'

theorem ri_done {w wr : World} {p : List UInt8} {l : List (Fr × Value)} {at_ : Nat} {s5 : Value} {x : Int} {r : List UInt8} (h : RI w p l at_ s5 wr) (hs : splitS (p.drop at_) = ([], r, x)) :
    RSplitP w p (.returned (.tuple #[s5, .int .i64 (at_ : Int), .int .i64 x])) wr := by
  have hsp := h.split
  rw [hs] at hsp
  have e1 : (splitS p).1 = fst l := by rw [hsp]; simp
  have e3 : (splitS p).2.2 = x := by rw [hsp]
  exact ⟨s5, l, by rw [e1, e3, h.took], h.own, h.bod, e1.symm, h.below⟩

theorem ri_step {w w2 w3 : World} {p : List UInt8} {l : List (Fr × Value)} {at_ sz : Nat} {s5 v2 v3 : Value} {f : Fr} {o : Obj} (h : RI w p l at_ s5 w2) (h8 : 8 ≤ sz) (hl : ¬ (p.drop at_).length < sz)
    (hs : splitS (p.drop at_) = (f :: (splitS ((p.drop at_).drop sz)).1, (splitS ((p.drop at_).drop sz)).2)) (hb : f.b = ((p.drop at_).take sz).drop 8)
    (hq : Owns w2 w.heap.size v2 f.b) (hown3 : OwnF w3 w.heap.size v3 (l ++ [(f, v2)])) (hg3 : (w2.alloc o).grownBy w3 s5.ownBlock) : RI w p (l ++ [(f, v2)]) (at_ + sz) v3 w3 := by
  have h2 := h.later ((Below.refl _ _).alloc (Nat.le_refl _) o)
  refine ⟨hown3, fun q hq2 => ?_, h2.below.grown hg3 h2.below.size (fun k hk => (h2.own.block k hk).1), ?_, ?_, ?_⟩
  · rcases List.mem_append.1 hq2 with hq2 | hq2
    · exact (h2.bod q hq2).grownElse hg3 h2.own.else_
    · rw [List.mem_singleton.1 hq2]; exact (hq.alloc o).grownElse hg3 h2.own.else_
  · rw [h.split, hs, fst_append, List.drop_drop]
    simp [fst]
  · have e : f.b.length + 8 = sz := by rw [hb]; simp only [List.length_drop, List.length_take] at hl ⊢; omega
    rw [fst_append, taken_append, h.took]
    simp only [fst, List.map_cons, List.map_nil, taken]
    omega
  · have := h.count
    simp only [List.length_append, List.length_singleton]
    omega

theorem piece_eq (p : List UInt8) (i sz : Nat) : ((p.drop i).take sz).drop 8 = (p.take (i + sz)).drop (i + 8) := by
  rw [List.take_drop, List.drop_drop]

set_option maxHeartbeats 1000000 in
theorem rsplit_own {w : World} {A : Option Addr} {n c : Nat} {p : List UInt8} (hp : Sees w (.slice A n c) p) (hlen : p.length ≤ 1000000) : Calls Try.prog 14 #[.slice A n c] w (RSplitP w p) := by
  have hn : n = p.length := by
    obtain ⟨_, _, hv, _⟩ := hp.shape
    injection hv
  have hnc : n ≤ c ∧ c ≤ 9223372036854775807 := by
    obtain ⟨_, _, hv, h1, h2⟩ := hp.shape
    injection hv with _ _ e3
    simp only [maxLen] at h2
    omega
  obtain ⟨hnc, hcm⟩ := hnc
  have HP := Lib.hid hp
  have HN := Lib.hid hn
  rw [← hn] at hlen
  clear hp hn
  go_enter Try.func14, Try.ntmps14
  go_wp2_with fail
  go_loopw [5, 6] (fun s5 s6 wr => ∃ l at_ A3 c3, s5 = .slice A3 (List.length l) c3 ∧ s6 = .int .i64 (at_ : Nat) ∧ at_ ≤ n ∧ Hid (RI w p l at_ s5 wr)) (fun _ s6 _ => n - (intOf s6).toNat)
  case atStart => exact ⟨[], 0, none, 0, rfl, rfl, Nat.zero_le _, ownF_nil _ _, by simp, Below.refl _ _, by simp [fst], rfl, Nat.le_refl _⟩
  case round =>
    obtain ⟨l, at_, A3, c3, rfl, rfl, hat, hri⟩ := hrel
    by_cases h8 : n - at_ < 8
    · have hout := Lib.hid (ri_done hri.out (split_short (by rw [List.length_drop, ← HN.out]; omega)))
      generalize l.length = ln at *
      have hx : ¬ (8 : Int) ≤ (n : Int) - at_ := by omega
      go_wp2_with fail
      go_ret3
      exact hout.out
    · obtain ⟨f, sz, x, y, hd, hr⟩ := rheadOf (p.drop at_) (by rw [List.length_drop, ← HN.out]; omega)
      have hsee := HP.out.below hri.out.below
      have N4 := Lib.hid (ref_number hsee (at_ + 4) (by omega))
      have e4 := hr.second
      rw [List.drop_drop] at e4
      rw [e4] at N4
      rw [show ((at_ + 4 : Nat) : Int) = (at_ : Int) + 4 by omega] at N4
      have hq : (y : Int) / 65536 = (sz : Int) := by rw [hr.size]; omega
      have hylt := hr.lt
      have HD := Lib.hid hd
      have HR := Lib.hid hr
      have hsz := hd.small
      clear hd hr e4 hsee
      by_cases hc8 : sz < 8
      · have hout : Hid (∀ wh, Below wr.heap.size wr wh → RSplitP w p (.returned (.tuple #[.slice A3 l.length c3, .int .i64 (at_ : Int), .int .i64 3])) wh) := fun wh hb => by
          have hx := HR.out.x3 (.inl hc8)
          exact ri_done (hri.out.later hb) (by have h := HD.out.bad (by rw [hx]; decide); rw [hx] at h; exact h)
        clear HD HR hri
        generalize l.length = ln at *
        go_wp2_with fail
        refine N4.out.mono ?_
        rintro e w2 ⟨rfl, q, rfl⟩
        go_wp2_with fail
        go_ret3
        exact hout.out _ (below_draws (Below.refl _ _) _)
      · by_cases hc4 : sz % 4 = 0
        · have hi4 : (sz : Int) % 4 = 0 := by omega
          by_cases hcb : 4096 < sz
          · have hout : Hid (∀ wh, Below wr.heap.size wr wh → RSplitP w p (.returned (.tuple #[.slice A3 l.length c3, .int .i64 (at_ : Int), .int .i64 5])) wh) := fun wh hb => by
              have hx := HR.out.x5 (by omega) hcb
              exact ri_done (hri.out.later hb) (by have h := HD.out.bad (by rw [hx]; decide); rw [hx] at h; exact h)
            clear HD HR hri hc4
            generalize l.length = ln at *
            go_wp2_with fail
            refine N4.out.mono ?_
            rintro e w2 ⟨rfl, q, rfl⟩
            go_wp2_with fail
            go_ret3
            exact hout.out _ (below_draws (Below.refl _ _) _)
          · have hx := HR.out.x0 (by omega) hcb
            subst hx
            by_cases hcl : n - at_ < sz
            · have hout : Hid (∀ wh, Below wr.heap.size wr wh → RSplitP w p (.returned (.tuple #[.slice A3 l.length c3, .int .i64 (at_ : Int), .int .i64 0])) wh) := fun wh hb =>
                ri_done (hri.out.later hb) (HD.out.cut rfl (by rw [List.length_drop, ← HN.out]; exact hcl))
              have hcl2 : (n : Int) - at_ < sz := by omega
              clear HD HR hri hc4
              generalize l.length = ln at *
              go_wp2_with fail
              refine N4.out.mono ?_
              rintro e w2 ⟨rfl, q, rfl⟩
              go_wp2_with fail
              go_ret3
              exact hout.out _ (below_draws (Below.refl _ _) _)
            · have hcl2 : ¬ (n : Int) - at_ < sz := by omega
              have hnl : Hid (¬ (p.drop at_).length < sz) := by show ¬ _; rw [List.length_drop, ← HN.out]; exact hcl
              have HMORE := Lib.hid (HD.out.more rfl hnl.out)
              have HBODY := Lib.hid HD.out.body
              have HG := HD.out.good rfl
              have e1 := HR.out.first
              have holt := HR.out.olt
              have hq2 : (y : Int) % 65536 = f.c := by rw [HR.out.op]; omega
              have HNUM : Hid (∀ W, Below wr.heap.size wr W → Calls Try.prog 25 #[.slice A n c, .int .i64 (at_ : Int)] W fun e w' => e = .returned (.int .i64 (f.o : Int)) ∧ ∃ q, w' = W.drewN q) := fun W hb => by
                have h := ref_number ((HP.out.below hri.out.below).below hb) at_ (by omega)
                rw [e1] at h
                exact h
              have HN4 : Hid (∀ W, Below wr.heap.size wr W → Calls Try.prog 25 #[.slice A n c, .int .i64 ((at_ : Int) + 4)] W fun e w' => e = .returned (.int .i64 (y : Int)) ∧ ∃ q, w' = W.drewN q) := fun W hb => by
                have h := ref_number ((HP.out.below hri.out.below).below hb) (at_ + 4) (by omega)
                have e4 := HR.out.second
                rw [List.drop_drop] at e4
                rw [e4, show ((at_ + 4 : Nat) : Int) = (at_ : Int) + 4 by omega] at h
                exact h
              have hsl : Hid (∀ W, (Instr.sliceAt 23 (.slice A n c) (some (.int .i64 ((at_ : Int) + 8))) (some (.int .i64 ((at_ : Int) + sz))) none).run Try.prog W = .ok (.slice (if c = at_ + 8 then A else A.map (·.add (at_ + 8))) (at_ + sz - (at_ + 8)) (c - (at_ + 8))) W) := fun W => by
                have h := slice_lh (A := A) (n := n) (c := c) (at_ + 8) (at_ + sz) (by omega) (by omega) W
                rw [show ((at_ + 8 : Nat) : Int) = (at_ : Int) + 8 by omega, show ((at_ + sz : Nat) : Int) = (at_ : Int) + sz by omega] at h
                exact h
              have HPC := Lib.hid (Sees.piece HP.out (at_ + 8) (at_ + sz) (by omega) (by omega))
              have hpe : Hid (f.b = (p.take (at_ + sz)).drop (at_ + 8)) := by show _ = _; rw [HBODY.out, piece_eq]
              have hcnt := hri.out.count
              have hfb : Hid (f.b.length ≤ 1000000) := by show _ ≤ _; rw [hpe.out]; simp only [List.length_drop, List.length_take]; omega
              clear HD HR hc4 e1
              generalize hln : l.length = ln at *
              have HL := Lib.hid hln
              clear hln
              have g1 := hsl.out
              generalize (if c = at_ + 8 then A else A.map (·.add (at_ + 8))) = A4 at *
              generalize at_ + sz - (at_ + 8) = n4 at *
              generalize c - (at_ + 8) = c4 at *
              clear hsl
              go_wp2_with fail
              refine N4.out.mono ?_
              rintro e w1 ⟨rfl, q, rfl⟩
              have hbq : Below wr.heap.size wr (wr.drewN q) := below_draws (Below.refl _ _) _
              obtain ⟨w1, hw1⟩ : ∃ w1, w1 = wr.drewN q := ⟨_, rfl⟩
              rw [← hw1] at hbq ⊢
              have HRI1 := Lib.hid (hri.out.later hbq)
              have hz1 : w.heap.size ≤ w1.heap.size := HRI1.out.below.size
              clear hw1 N4
              go_wp2_with (first
                | (at_builtin; refine wpList_app rfl (.tmp 40) (.tmp 47) rfl rfl (base := w.heap.size) (xs := []) (own_nil _ _) rfl (HPC.out.below HRI1.out.below) (by rw [← hpe.out]; have := hfb.out; simp only [List.length_nil]; omega) hz1 ?_; intro v2 w2 ho2 hg2 _; rw [List.nil_append, ← hpe.out] at ho2; have hb2 : Below w1.heap.size w1 w2 := (Below.refl _ _).grown hg2 (Nat.le_refl _) (fun k hk => by cases hk); have HO2 := Lib.hid ho2; obtain ⟨A7, c7, rfl, _, _⟩ := ho2.sees.shape; have hbr : Below wr.heap.size wr w2 := hbq.trans (hb2.mono hbq.size); have HRI2 := Lib.hid (HRI1.out.later hb2); clear ho2 hg2 hb2)
                | (go_at_call_of 25 (Value.int IntKind.i64 (at_ : Int)); refine (HNUM.out _ hbr).mono ?_; rintro e w3 ⟨rfl, q3, rfl⟩)
                | fail)
              refine (HN4.out _ (below_draws hbr _)).mono ?_
              rintro e w3 ⟨rfl, q4, rfl⟩
              have hbd : Below w2.heap.size w2 ((w2.drewN q3).drewN q4) := below_draws (below_draws (Below.refl _ _) _) _
              obtain ⟨w3, hw3⟩ : ∃ w3, w3 = (w2.drewN q3).drewN q4 := ⟨_, rfl⟩
              rw [← hw3] at hbd ⊢
              have HRI3 := Lib.hid (HRI2.out.later hbd)
              have HO3 := Lib.hid (HO2.out.below hbd)
              have hz3 : w.heap.size ≤ w3.heap.size := HRI3.out.below.size
              clear hw3 hbd
              have hbody : Hid (∀ o : Obj, ∀ q ∈ [(f, Value.slice A7 f.b.length c7)], Body (w3.alloc o) w.heap.size q.2 q.1.b) := fun o q hq => by
                rw [List.mem_singleton.1 hq]
                exact .inl (HO3.out.alloc o)
              go_wp2_with (at_builtin; refine wpList_appF rfl (.tmp 49) (.tmp 61) rfl (v := .slice A3 ln c3) (l := l) (m := [(f, .slice A7 f.b.length c7)]) rfl (HRI3.out.own.alloc _) rfl (frs_one (p := (f, .slice A7 f.b.length c7)) HO3.out.sees) (hbody.out _) (by rw [HL.out]; simp; omega) (by simp; omega) ?_; intro v3 w4 hown3 hg3 _; obtain ⟨l2, hl2⟩ : ∃ l2, l2 = l ++ [(f, .slice A7 f.b.length c7)] := ⟨_, rfl⟩; have hst := Lib.hid (ri_step HRI3.out HG.1 hnl.out HMORE.out HBODY.out HO3.out hown3 hg3); rw [← hl2] at hown3 hst; obtain ⟨A6, c6, hv6, _, _⟩ := hown3.frs.shape; clear hl2 hown3 hg3; subst hv6)
              go_roundw
              case rel => exact ⟨l2, at_ + sz, A6, c6, rfl, by go_num, by omega, hst.out⟩
              case measure => simp [intOf]; omega
        · have hi4 : ((sz : Int) % 4 == 0) = false := by rw [beq_eq_false_iff_ne]; omega
          have hi5 : ((sz : Int) % 4 != 0) = true := by rw [bne, hi4]; rfl
          have hout : Hid (∀ wh, Below wr.heap.size wr wh → RSplitP w p (.returned (.tuple #[.slice A3 l.length c3, .int .i64 (at_ : Int), .int .i64 3])) wh) := fun wh hb => by
            have hx := HR.out.x3 (.inr hc4)
            exact ri_done (hri.out.later hb) (by have h := HD.out.bad (by rw [hx]; decide); rw [hx] at h; exact h)
          clear HD HR hri hc4
          generalize l.length = ln at *
          go_wp2_with fail
          refine N4.out.mono ?_
          rintro e w2 ⟨rfl, q, rfl⟩
          go_wp2_with fail
          go_ret3
          exact hout.out _ (below_draws (Below.refl _ _) _)

theorem rsplit_any {w : World} {A : Option Addr} {n c : Nat} {p : List UInt8} (hp : Sees w (.slice A n c) p) (hlen : p.length ≤ 1000000) : Calls Try.prog 14 #[.slice A n c] w (SplitP w p) := by
  refine (rsplit_own hp hlen).mono ?_
  rintro e w' ⟨fv, l, he, ho, _, hf, hb⟩
  exact ⟨fv, l, he, ho, hf, hb⟩

end Go.Proofs.Ytfmknjfhalkfhaa
