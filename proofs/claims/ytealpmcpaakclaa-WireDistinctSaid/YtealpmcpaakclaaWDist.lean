/-
  WireDistinct: for every two lists of items (asked of lists of the same length, of at most 12 items of at most 300 bytes each), two lists of values of the same kinds have the same encoding exactly if they are equal: the law returns true and leaves its arguments as they were. No condition.
-/
import Derived.Test.YtealpmcpaakclaaDistp
import Derived.Test.YtealpmcpaakclaaBack
import Derived.Deep.RegionHeld3
import Derived.Deep.AppendLies
namespace Go.Proofs.Ytealpmcpaakclaa
open Go.ChangeShapes Go.WideShapes Go.ChangeAt Go.RowKit Mem Wire

theorem item_info : (Try.prog.info? 25).map (fun i => (i.zero, i.size, i.bytes)) = some (some (.agg #[.int .i64 0, .int .u32 0, .slice none 0 0]), 3, 40) := by kernel_rfl

/-- the relation of the loop -/
def DistRel (w : World) (l m : List It) (j : Nat) (v : Value) (wr : World) : Prop :=
  wr.ownsRow w.heap.size 25 3 v (mix (l.take j) (m.take j)).length (cellsOf (mix (l.take j) (m.take j))) ∧ Below w.heap.size w wr

theorem slice_form {w : World} {v : Value} {l : List It} (h : Items w v l) : ∃ A cap, v = .slice A l.length cap ∧ l.length ≤ cap ∧ cap ≤ 9223372036854775807 := by
  obtain ⟨A, cap, rfl, h1, h2, _⟩ := h
  exact ⟨A, cap, rfl, h1, by simpa [maxLen] using h2⟩

theorem three_kept {W W' : World} {row : Option Nat} {x y a p q : Nat} {u v z : Value} (hg : W.grownBy W' row) (hx : some x ≠ row) (hy : some y ≠ row) (lx : x < W.heap.size) (ly : y < W.heap.size)
    (hc : W.cell? ⟨x, a, none⟩ = some u ∧ W.cell? ⟨y, p, none⟩ = some v ∧ W.cell? ⟨y, q, none⟩ = some z) :
    W'.cell? ⟨x, a, none⟩ = some u ∧ W'.cell? ⟨y, p, none⟩ = some v ∧ W'.cell? ⟨y, q, none⟩ = some z :=
  ⟨(World.cell?_of_block (hg.block x lx hx)).trans hc.1, (World.cell?_of_block (hg.block y ly hy)).trans hc.2.1, (World.cell?_of_block (hg.block y ly hy)).trans hc.2.2⟩

theorem six_below {W W' : World} {x y a p q a' p' q' : Nat} {u v z u' v' z' : Value} (hx : x < W.heap.size) (hy : y < W.heap.size) (hb : Below W.heap.size W W')
    (hc : W.cell? ⟨x, a, none⟩ = some u ∧ W.cell? ⟨x, p, none⟩ = some v ∧ W.cell? ⟨x, q, none⟩ = some z ∧ W.cell? ⟨y, a', none⟩ = some u' ∧ W.cell? ⟨y, p', none⟩ = some v' ∧ W.cell? ⟨y, q', none⟩ = some z') :
    W'.cell? ⟨x, a, none⟩ = some u ∧ W'.cell? ⟨x, p, none⟩ = some v ∧ W'.cell? ⟨x, q, none⟩ = some z ∧ W'.cell? ⟨y, a', none⟩ = some u' ∧ W'.cell? ⟨y, p', none⟩ = some v' ∧ W'.cell? ⟨y, q', none⟩ = some z' := by
  obtain ⟨h1, h2, h3, h4, h5, h6⟩ := hc
  exact ⟨(hb.cell (p := ⟨x, a, none⟩) hx).trans h1, (hb.cell (p := ⟨x, p, none⟩) hx).trans h2, (hb.cell (p := ⟨x, q, none⟩) hx).trans h3, (hb.cell (p := ⟨y, a', none⟩) hy).trans h4, (hb.cell (p := ⟨y, p', none⟩) hy).trans h5, (hb.cell (p := ⟨y, q', none⟩) hy).trans h6⟩

theorem own_below {W W' : World} {base n : Nat} {v : Value} {xs : List Value} (h : W.ownsRow base 25 3 v n xs) (hb : Below W.heap.size W W') : W'.ownsRow base 25 3 v n xs :=
  World.ownsRow.kept (row := none) h ⟨hb.os, hb.tape, hb.output, hb.size, fun k hk _ => hb.block k hk⟩ (by cases v.ownBlock <;> simp)

theorem same_yes {w : World} {v1 v2 : Value} {xs : List UInt8} (h1 : Sees w v1 xs) (h2 : Sees w v2 xs) : Calls Try.prog 13 #[v1, v2] w (Says true w) := by
  refine (same_any h1 h2).mono ?_
  rintro e w' ⟨rfl, q, rfl⟩
  exact ⟨by simp, below_draws (Below.refl _ _) q⟩

set_option maxHeartbeats 1000000 in
theorem dist_walk {w : World} {v v' : Value} {l m : List It} (h : Items w v l) (h' : Items w v' m) : Calls Try.prog 7 #[v, v'] w (Says true w) := by
  have HL := Lib.hid (light_any h)
  have HM := Lib.hid (light_any h')
  have HIL := Lib.hid h
  have HIM := Lib.hid h'
  obtain ⟨A, cl, rfl, h1, h2⟩ := slice_form h
  obtain ⟨A', cm, rfl, h1', h2'⟩ := slice_form h'
  by_cases hl : lightB l = true
  · rw [hl] at HL
    by_cases hm : lightB m = true
    · rw [hm] at HM
      by_cases hlen : l.length = m.length
      · obtain ⟨hl12, hsl⟩ := light_small hl
        obtain ⟨_, hsm⟩ := light_small hm
        have hsmall : ∀ (x : List It) (vx : Value), Items w vx x → (∀ t ∈ x, t.b.length ≤ 300) → Small x := by
          rintro x vx ⟨_, _, _, _, _, hok, _⟩ hb t ht
          exact ⟨(hok t ht).2, hb t ht⟩
        have HD := Lib.hid (distinct l m hlen (hsmall l _ h hsl) (hsmall m _ h' hsm))
        have HALL := Lib.hid (fun (w1 : World) (hb : Below w.heap.size w w1) => all_any (h.below hb) hl)
        have HSL := Lib.hid hsl
        have HSM := Lib.hid hsm
        have hcl : Hid (0 < l.length → ∃ b off, A = some ⟨b, off, none⟩ ∧ b < w.heap.size ∧ ∀ (j : Nat) (t : It), l[j]? = some t →
            w.cell? ⟨b, off + j * 3, none⟩ = some (.int .i64 t.k) ∧ w.cell? ⟨b, off + j * 3 + 1, none⟩ = some (.int .u32 (t.n : Int)) ∧ w.cell? ⟨b, off + j * 3 + 2, none⟩ = some t.v) := by
          obtain ⟨_, _, hv, _, _, _, h4⟩ := h
          injection hv with e1 _ _
          subst e1
          exact h4
        have hcm : Hid (0 < m.length → ∃ b off, A' = some ⟨b, off, none⟩ ∧ b < w.heap.size ∧ ∀ (j : Nat) (t : It), m[j]? = some t →
            w.cell? ⟨b, off + j * 3, none⟩ = some (.int .i64 t.k) ∧ w.cell? ⟨b, off + j * 3 + 1, none⟩ = some (.int .u32 (t.n : Int)) ∧ w.cell? ⟨b, off + j * 3 + 2, none⟩ = some t.v) := by
          obtain ⟨_, _, hv, _, _, _, h4⟩ := h'
          injection hv with e1 _ _
          subst e1
          exact h4
        have HOKL : Hid (∀ t ∈ l, t.ok w) := by obtain ⟨_, _, _, _, _, hok, _⟩ := h; exact hok
        have HOKM : Hid (∀ t ∈ m, t.ok w) := by obtain ⟨_, _, _, _, _, hok, _⟩ := h'; exact hok
        obtain ⟨n, hn⟩ : ∃ n, l.length = n := ⟨_, rfl⟩
        have hn' : m.length = n := by omega
        have HLIGHT : Hid (lightB (mix l m) = true) := by
          show _ = _
          refine light_yes (by rw [mix_length l m hlen]; exact hl12) (fun j hj t ht => ?_)
          rw [mix_length l m hlen] at hj
          have g1 : l[j]? = some l[j] := List.getElem?_eq_getElem hj
          have g2 : m[j]? = some (m[j]'(by omega)) := List.getElem?_eq_getElem (by omega)
          have e := mix_get g1 g2
          rw [ht] at e
          injection e with e
          rw [e]
          have g3 := hsm (m[j]'(by omega)) (List.getElem_mem _)
          exact g3
        rw [hn] at HALL HL hcl h1 ⊢
        rw [hn'] at HM hcm h1' ⊢
        rw [hn] at hl12
        have HN := Lib.hid hn
        have HN' := Lib.hid hn'
        have HLN := Lib.hid hlen
        clear h h' hl hm hlen hsl hsm hsmall hn hn'
        rcases Nat.eq_zero_or_pos n with h0 | h0
        · subst h0
          have e1 : l = [] := List.eq_nil_of_length_eq_zero HN.out
          have e2 : m = [] := List.eq_nil_of_length_eq_zero HN'.out
          subst e1 e2
          have HA2 : Hid (Calls Try.prog 32 #[.slice A 0 cl] w (Fresh w [])) := HALL.out w (Below.refl _ _)
          have HA3 : Hid (∀ w1 : World, Calls Try.prog 32 #[.slice none 0 0] w1 (Fresh w1 [])) := fun w1 => all_any (l := []) ⟨none, 0, rfl, Nat.le_refl _, by simp [maxLen], fun t ht => by simp at ht, fun h => by simp at h⟩ (by decide)
          go_enter Try.func7, Try.ntmps7
          go_wp2_with fail
          refine HL.out.mono ?_
          rintro e w1 ⟨rfl, rfl⟩
          go_wp2_with fail
          refine HM.out.mono ?_
          rintro e w1 ⟨rfl, rfl⟩
          go_wp2_with fail
          refine wp_loop_rounds 1 ?_
          rw [rounds_succ]
          go_wp2_with fail
          refine HA2.out.mono ?_
          rintro e w1 ⟨v1, rfl, hs1, hb1⟩
          go_wp2_with fail
          refine (HA3.out w1).mono ?_
          rintro e w2 ⟨v2, rfl, hs2, hb2⟩
          go_wp2_with fail
          refine (same_yes (hs1.below hb2) hs2).mono ?_
          rintro e w3 ⟨rfl, hb3⟩
          have b2 := hb1.trans (hb2.mono hb1.size)
          have b3 := b2.trans (hb3.mono b2.size)
          go_wp2_with fail
          refine (example_any _).mono ?_
          rintro e w4 ⟨rfl, h4⟩
          go_wp2_with fail
          go_ret
          exact ⟨rfl, b3.trans (h4.mono b3.size)⟩
        · obtain ⟨b, off, rfl, hb, hc⟩ := hcl.out h0
          obtain ⟨b', off', rfl, hb', hc'⟩ := hcm.out h0
          have HC := Lib.hid hc
          have HC' := Lib.hid hc'
          clear hc hc' hcl hcm
          obtain ⟨i0, hi0, hz0, hz1, hz2⟩ := info_parts item_info
          go_enter Try.func7, Try.ntmps7
          go_wp2_with fail
          refine HL.out.mono ?_
          rintro e w1 ⟨rfl, rfl⟩
          go_wp2_with fail
          refine HM.out.mono ?_
          rintro e w1 ⟨rfl, rfl⟩
          go_wp2_with fail
          go_loopw [5, 6, 7] (fun q v i wr => ∃ j : Nat, j ≤ n ∧ i = .int .i64 j ∧ q = .bool (allEq (l.take j) (m.take j)) ∧ DistRel w l m j v wr) (fun _ _ i _ => n - (intOf i).toNat)
          case atStart => exact ⟨0, Nat.zero_le _, rfl, rfl, World.ownsRow_nil _ _ _ _, Below.refl _ _⟩
          case round =>
            obtain ⟨j, hj, rfl, rfl, hown, hbr⟩ := hrel
            by_cases hlt : j < n
            · obtain ⟨t, ht⟩ : ∃ t, l[j]? = some t := ⟨_, List.getElem?_eq_getElem (by rw [HN.out]; exact hlt)⟩
              obtain ⟨u, hu⟩ : ∃ u, m[j]? = some u := ⟨_, List.getElem?_eq_getElem (by rw [HN'.out]; exact hlt)⟩
              obtain ⟨g0, g1, g2⟩ := HC.out j t ht
              obtain ⟨f0, f1, f2⟩ := HC'.out j u hu
              rw [← hbr.cell (p := ⟨b, off + j * 3, none⟩) hb] at g0
              rw [← hbr.cell (p := ⟨b, off + j * 3 + 1, none⟩) hb] at g1
              rw [← hbr.cell (p := ⟨b, off + j * 3 + 2, none⟩) hb] at g2
              rw [← hbr.cell (p := ⟨b', off' + j * 3, none⟩) hb'] at f0
              rw [← hbr.cell (p := ⟨b', off' + j * 3 + 1, none⟩) hb'] at f1
              rw [← hbr.cell (p := ⟨b', off' + j * 3 + 2, none⟩) hb'] at f2
              have hml : (mix (l.take j) (m.take j)).length = j := by
                rw [mix_length _ _ (by rw [List.length_take, List.length_take, HN.out, HN'.out]), List.length_take, HN.out]; omega
              rw [hml] at hown
              have HSN := Lib.hid (mix_snoc ht hu)
              have HAS := Lib.hid (allEq_snoc ht hu)
              have HOT := Lib.hid ((HOKL.out t (List.mem_of_getElem? ht)).below hbr)
              have HOU := Lib.hid ((HOKM.out u (List.mem_of_getElem? hu)).below hbr)
              have HOTW := Lib.hid (HOKL.out t (List.mem_of_getElem? ht))
              have HOUW := Lib.hid (HOKM.out u (List.mem_of_getElem? hu))
              obtain ⟨k, N, vv, xs⟩ := t
              obtain ⟨k', N', vv', xs'⟩ := u
              obtain ⟨A1, c1, hv1, hc1, hc1'⟩ := HOT.out.1.shape
              obtain ⟨A2, c2, hv2, hc2, hc2'⟩ := HOU.out.1.shape
              dsimp only at g0 g1 g2 f0 f1 f2 hv1 hv2
              subst hv1 hv2
              have HML := Lib.hid hml
              have hlb : b < wr.heap.size := Nat.lt_of_lt_of_le hb hbr.size
              have hlb' : b' < wr.heap.size := Nat.lt_of_lt_of_le hb' hbr.size
              have hWs := hbr.size
              have hal : ∀ o, wr.heap.size ≤ (wr.alloc o).drew.heap.size := fun o => by simp
              have q0 : (0 : Int) ≤ (j : Int) := Int.natCast_nonneg _
              have q1 : (j : Int) < (n : Int) := by omega
              clear ht hu hml f0
              generalize hX : cellsOf (mix (l.take j) (m.take j)) = X at hown
              generalize hr : allEq (l.take j) (m.take j) = r at HAS ⊢
              have HX := Lib.hid hX
              clear hX hr
              dsimp only at hc1 hc2
              generalize xs.length = m1 at *
              generalize xs'.length = m2 at *
              go_wp2_with fail
              go_region_held3 (fun W => W.cell? ⟨b, off + j * 3, none⟩ = some (.int .i64 k) ∧ W.cell? ⟨b', off' + j * 3 + 1, none⟩ = some (.int .u32 (N' : Int)) ∧ W.cell? ⟨b', off' + j * 3 + 2, none⟩ = some (.slice A2 m2 c2))
                (first
                  | go_keep
                  | exact s1)
                (first
                  | (refine step_append_lies _ (by rfl) _ _ _ (by rfl) w.heap.size 25 i0 _ 3 40 Try.underlying27 hi0 hz0 hz1 hz2 rfl (by omega) u6 j X (by rfl) ((hown.alloc _).drew) ⟨wr.heap.size, 0, none⟩ 1 1 [.int .i64 k, .int .u32 (N' : Int), .slice A2 m2 c2] (by rfl) (by rfl) (World.news_of_block (cs := #[.int .i64 k, .int .u32 (N' : Int), .slice A2 m2 c2]) (t := 25) (fr := (0, 0)) (heap_alloc_new wr _)) (by simp [Value.oneCell']) (by omega) (by unfold maxLen; omega) (by omega) (Nat.le_trans hWs (hal _)) (wr.heap.size + 1) (by simp) ?_; intro gg cap w1 hown1 hgrow hat hglt; have hbo : ∀ x, x < w.heap.size → some x ≠ u6.ownBlock := (fun x hx e => absurd (hown.lt x e.symm).1 (by omega)); have s1 := three_kept (W := (wr.alloc (.cells #[.int .i64 k, .int .u32 (N' : Int), .slice A2 m2 c2] 25)).drew) hgrow (hbo b hb) (hbo b' hb') (Nat.lt_of_lt_of_le hlb (hal _)) (Nat.lt_of_lt_of_le hlb' (hal _)) ⟨(World.cell?_alloc_past _ _ _ hlb).trans g0, (World.cell?_alloc_past _ _ _ hlb').trans f1, (World.cell?_alloc_past _ _ _ hlb').trans f2⟩))
              have hbo : ∀ x, x < w.heap.size → some x ≠ u6.ownBlock := fun x hx e => by have := (hown.lt x e.symm).1; omega
              have hba : Below wr.heap.size wr (wr.alloc (.cells #[.int .i64 k, .int .u32 (N' : Int), .slice A2 m2 c2] 25)).drew := ((Below.refl _ _).alloc (Nat.le_refl _) _).drew
              have hb1w : Below w.heap.size w w1 := (hbr.trans (hba.mono hbr.size)).grown hgrow (hbr.trans (hba.mono hbr.size)).size (fun x hx => (hown.lt x hx).1)
              have hown2 : w1.ownsRow w.heap.size 25 3 (.slice (some ⟨gg, 0, none⟩) (j + 1) cap) (j + 1) (cellsOf (mix (l.take (j + 1)) (m.take (j + 1)))) := by
                rw [HSN.out, cellsOf_snoc, HX.out]; exact hown1
              have hml2 : (mix (l.take (j + 1)) (m.take (j + 1))).length = j + 1 := by
                rw [HSN.out, List.length_append, HML.out]; rfl
              have HO2 := Lib.hid hown2
              have HML2 := Lib.hid hml2
              have n0 := hown1.cellAt (j * 3) (by omega)
              have n1 := hown1.cellAt (j * 3 + 1) (by omega)
              have n2 := hown1.cellAt (j * 3 + 2) (by omega)
              have hXl : X.length = j * 3 := hown.1
              rw [List.getElem?_append_right (by omega), hXl, show j * 3 - j * 3 = 0 by omega, List.getElem?_cons_zero] at n0
              rw [List.getElem?_append_right (by omega), hXl, show j * 3 + 1 - j * 3 = 1 by omega] at n1
              rw [List.getElem?_append_right (by omega), hXl, show j * 3 + 2 - j * 3 = 2 by omega] at n2
              simp only [List.getElem?_cons_zero, List.getElem?_cons_succ] at n1 n2
              have hcx : ∀ o, w1.cell? ⟨b, o, none⟩ = wr.cell? ⟨b, o, none⟩ := fun o =>
                (World.cell?_of_block (hgrow.block b (Nat.lt_of_lt_of_le hlb (hal _)) (hbo b hb))).trans (hba.cell (p := ⟨b, o, none⟩) hlb)
              have p0 := (hcx _).trans g0
              have p1 := (hcx _).trans g1
              have p2 := (hcx _).trans g2
              have hglt' : gg < w1.heap.size := hglt
              have hlb1 : b < w1.heap.size := Nat.lt_of_lt_of_le hb hb1w.size
              have hkeep : Below w.heap.size w w1 := hb1w
              have HEQ := Lib.hid (equal_any (w := w1.drew) (HOTW.out.below hb1w).drew (u := ⟨k, N', .slice A2 m2 c2, xs'⟩) (HOUW.out.below hb1w).drew)
              have hq2 : (j : Int) < ((j + 1 : Nat) : Int) := by omega
              have hown9 := HO2.out
              have HB1 := Lib.hid hb1w
              have hq3 : (j : Int) < (j : Int) + 1 := by omega
              have hq5 : j < j + 1 := by omega
              unfold It.val at HEQ
              dsimp only at HEQ
              have HAS2 : Hid (allEq (l.take (j + 1)) (m.take (j + 1)) = (r && It.eq ⟨k, N, .slice A1 m1 c1, xs⟩ ⟨k, N', .slice A2 m2 c2, xs'⟩)) := HAS.out
              generalize It.eq ⟨k, N, .slice A1 m1 c1, xs⟩ ⟨k, N', .slice A2 m2 c2, xs'⟩ = rr at HEQ HAS2
              clear hown hown1 hown2 hgrow hbo hba hal hXl hcx hml2 hat hown9 g0 g1 g2 f1 f2
              go_wp2_with fail
              cases r with
              | true =>
                go_region_held3 (fun W => W.cell? ⟨b, off + j * 3, none⟩ = some (.int .i64 k) ∧ W.cell? ⟨b, off + j * 3 + 1, none⟩ = some (.int .u32 (N : Int)) ∧ W.cell? ⟨b, off + j * 3 + 2, none⟩ = some (.slice A1 m1 c1) ∧
                    W.cell? ⟨gg, j * 3, none⟩ = some (.int .i64 k) ∧ W.cell? ⟨gg, j * 3 + 1, none⟩ = some (.int .u32 (N' : Int)) ∧ W.cell? ⟨gg, j * 3 + 2, none⟩ = some (.slice A2 m2 c2))
                  (first
                    | go_keep
                    | exact s2)
                  (first
                    | (go_at_call 33; refine HEQ.out.mono ?_; rintro e w2 ⟨rfl, h2⟩; have s2 := six_below (W := w1.drew) hlb1 hglt' h2 ⟨p0, p1, p2, n0, n1, n2⟩))
                all_goals
                  have hkp := own_below (HO2.out.drew) h2
                  have hbw2 := HB1.out.drew.trans (h2.mono HB1.out.drew.size)
                  have HKP := Lib.hid hkp
                  clear hkp hq2 hq3 hq5
                  go_wp2_with fail
                  go_roundw
                  case rel => exact ⟨j + 1, by omega, by go_num, by rw [HAS2.out]; rfl, by rw [DistRel, HML2.out]; exact ⟨HKP.out, hbw2⟩⟩
                  case measure => simp [intOf]; omega
              | false =>
                go_quiet (fail)
                clear hq2 hq3 hq5
                go_wp2_with fail
                go_roundw
                case rel => exact ⟨j + 1, by omega, by go_num, by rw [HAS2.out]; rfl, by rw [DistRel, HML2.out]; exact ⟨HO2.out, below_draws HB1.out _⟩⟩
                case measure => simp [intOf]; omega
            · have hjn : n = j := by omega
              subst hjn
              have e1 : l.take n = l := by rw [← HN.out]; exact List.take_length
              have e2 : m.take n = m := by rw [← HN'.out]; exact List.take_length
              rw [e1, e2] at hown ⊢
              rw [← HD.out]
              have hokm : ∀ t ∈ mix l m, t.ok wr := by
                intro t ht
                obtain ⟨i, hi, he⟩ := List.getElem_of_mem ht
                have hi' : i < l.length := by rw [mix_length l m HLN.out] at hi; exact hi
                have g1 : l[i]? = some l[i] := List.getElem?_eq_getElem hi'
                have g2 : m[i]? = some (m[i]'(by rw [← HLN.out]; exact hi')) := List.getElem?_eq_getElem _
                have e := mix_get g1 g2
                rw [List.getElem?_eq_getElem hi, he] at e
                injection e with e
                rw [e]
                have g3 := (HOKM.out _ (List.mem_of_getElem? g2)).below hbr
                exact ⟨g3.1, g3.2⟩
              have hit := items_of_own hown hokm
              obtain ⟨A3, c3, rfl, _, _⟩ := slice_form hit
              have HA2 := Lib.hid (HALL.out wr hbr)
              have HA3 := Lib.hid (fun (W : World) (hb : Below wr.heap.size wr W) => all_any (hit.below hb) HLIGHT.out)
              clear hown hokm hit e1 e2
              generalize (mix l m).length = k3 at *
              go_wp2_with fail
              refine HA2.out.mono ?_
              rintro e w1 ⟨v1, rfl, hs1, hb1⟩
              go_wp2_with fail
              refine (HA3.out w1 hb1).mono ?_
              rintro e w2 ⟨v2, rfl, hs2, hb2⟩
              go_wp2_with fail
              refine (same_any (hs1.below hb2) hs2).mono ?_
              rintro e w3 ⟨rfl, q, rfl⟩
              have b1 := hbr.trans (hb1.mono hbr.size)
              have b2 := b1.trans (hb2.mono b1.size)
              have b3 := below_draws b2 q
              generalize decide (encAll l = encAll (mix l m)) = rb
              cases rb
              all_goals
                go_wp2_with fail
                refine (example_any _).mono ?_
                rintro e w4 ⟨rfl, h4⟩
                go_wp2_with fail
                go_ret
                exact ⟨rfl, b3.trans (h4.mono b3.size)⟩
      · have hne : ((l.length : Int) == (m.length : Int)) = false := by rw [beq_eq_false_iff_ne]; omega
        have hne2 : ((l.length : Int) != (m.length : Int)) = true := by rw [bne, hne]; rfl
        clear h h' hl hm hlen HIL HIM
        generalize l.length = n at *
        generalize m.length = n' at *
        go_enter Try.func7, Try.ntmps7
        go_wp2_with fail
        refine HL.out.mono ?_
        rintro e w1 ⟨rfl, rfl⟩
        go_wp2_with fail
        refine HM.out.mono ?_
        rintro e w1 ⟨rfl, rfl⟩
        go_wp2_with fail
        refine (example_any _).mono ?_
        rintro e w1 ⟨rfl, h3⟩
        go_wp2_with fail
        go_ret
        exact ⟨rfl, h3⟩
    · have hmf : lightB m = false := by simpa using hm
      rw [hmf] at HM
      clear h h' hl hm hmf HIL HIM
      generalize l.length = n at *
      generalize m.length = n' at *
      go_enter Try.func7, Try.ntmps7
      go_wp2_with fail
      refine HL.out.mono ?_
      rintro e w1 ⟨rfl, rfl⟩
      go_wp2_with fail
      refine HM.out.mono ?_
      rintro e w1 ⟨rfl, rfl⟩
      go_wp2_with fail
      refine (example_any _).mono ?_
      rintro e w1 ⟨rfl, h3⟩
      go_wp2_with fail
      go_ret
      exact ⟨rfl, h3⟩
  · have hlf : lightB l = false := by simpa using hl
    rw [hlf] at HL
    clear h h' hl hlf HIL HIM HM
    generalize l.length = n at *
    generalize m.length = n' at *
    go_enter Try.func7, Try.ntmps7
    go_wp2_with fail
    refine HL.out.mono ?_
    rintro e w1 ⟨rfl, rfl⟩
    go_wp2_with fail
    refine (example_any _).mono ?_
    rintro e w1 ⟨rfl, h3⟩
    go_wp2_with fail
    go_ret
    exact ⟨rfl, h3⟩

set_option maxRecDepth 100000 in
theorem dist_lifted (os : Os) (started : os.Started) (H : Type) (enc : TypeId × Value → H) :
    ReturnsInHanded {} Try.checked os 7 .any (Rows.wireDistinctSpec.pre6 enc Try.prog Try.f7 Rows.wireDistinctRow.domain false) (Rows.wireDistinctSpec.post enc Try.prog Try.f7 false true false false) := by
  refine returnsInHanded_of_change (C := Try.checked) own started (by kernel_rfl) Try.func7
    (ChangeSpec.witness6 (enc := enc) (C := Try.checked) false ⟨#[], #[.slice none 0 0, .slice none 0 0], []⟩ 8 (by kernel_rfl) (by kernel_rfl) (by kernel_rfl) (by kernel_rfl)) ?_
  intro W base args ds gs before hval0 hW _ _
  have hval : ∀ (j : Nat) t v, Try.f7.params[j]? = some t → args[j]? = some v → Value.okWide Try.prog W .any base t v := hval0
  have hW' := hW
  obtain ⟨p, q, hA0, hV, rfl, _, _⟩ := hW
  have hA : DataW.TrodAll enc Try.prog W 0 (fun _ => true) true Try.f7.params.toList args.toList ds p := hA0
  rw [Try.params7] at hA hval
  obtain ⟨v0, v1, d0, d1, p0, p1, rfl, rfl, rfl, h0, h1⟩ := trodAll_two hA
  obtain ⟨rfl, rfl⟩ := trodVars_none hV
  clear hA0 hval0
  simp only [List.append_nil] at hW'
  have hlt0 : ∀ x ∈ p0, x.block < W.heap.size := fun x hx => hW'.lt x (by simp [hx])
  have hlt1 : ∀ x ∈ p1, x.block < W.heap.size := fun x hx => hW'.lt x (by simp [hx])
  obtain ⟨l, hl⟩ := open_items h0 (by obtain ⟨A, n, c, h⟩ := okWide_slice Try.underlying27 (hval 0 27 v0 rfl rfl); exact ⟨A, n, c, h⟩)
  obtain ⟨m, hm⟩ := open_items h1 (by obtain ⟨A, n, c, h⟩ := okWide_slice Try.underlying27 (hval 1 27 v1 rfl rfl); exact ⟨A, n, c, h⟩)
  refine (dist_walk hl hm).mono fun e W' ⟨he, hg⟩ => ?_
  subst he
  exact ⟨_, rfl, _, _, _, [], _, [], hW', trodAll_cons_mk (shut_bool Try.underlying4 _) trodAll_mk0,
    trodAll_mk2 (Below.trod laidOut (by kernel_rfl) (of_decide_eq_true (by kernel_rfl)) h0 hg hlt0) (Below.trod laidOut (by kernel_rfl) (of_decide_eq_true (by kernel_rfl)) h1 hg hlt1), rfl, hg.frame _, fun h => by cases h⟩

theorem dist_holds : Rows.WireDistinctSaid :=
  OpenClaim.holds_of_wide 7 Try.f7 rfl rfl rfl rfl rfl rfl rfl ⟨rfl, rfl, rfl, rfl, rfl⟩ rfl rfl rfl rfl rfl (by kernel_rfl) Try.func7 (by kernel_rfl)
    (of_decide_eq_true (by kernel_rfl)) (by unfold Func.isWrapper; first | (rw [if_pos (by decide +kernel)]; kernel_rfl) | (rw [if_neg (by decide +kernel)]; exact ⟨rfl, rfl⟩))
    (fun os started H enc _ => dist_lifted os started H enc)

end Go.Proofs.Ytealpmcpaakclaa
