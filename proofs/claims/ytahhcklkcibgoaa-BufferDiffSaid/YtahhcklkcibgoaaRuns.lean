/-
  runs of package buffer, over the two functions that ask.
-/
import Derived.Test.YtahhcklkcibgoaaRunp
import Derived.Test.YtahhcklkcibgoaaClos
namespace Go.Proofs.Ytahhcklkcibgoaa
open Go.RowKit

theorem OwnR.mono {w : World} {B C : Nat} {v : Value} {l : List R} (h : OwnR w B v l) (hb : C ≤ B) : OwnR w C v l := by
  obtain ⟨h1, h2⟩ := h
  refine ⟨h1, ?_⟩
  rcases h2 with h2 | ⟨g, cap, cur, e, hg, rest⟩
  · exact .inl h2
  · exact .inr ⟨g, cap, cur, e, Nat.le_trans hb hg, rest⟩

theorem Held.grownR {w W W' : World} {l : List (Nat × List Value)} (h : Held w W l) {v : Value} {base : Nat} {L : List R} (hg : W.grownBy W' v.ownBlock) (ho : OwnR W base v L) (hw : w.heap.size ≤ base) (hl : ∀ p ∈ l, p.1 < base) : Held w W' l := by
  have hk := ho.block
  cases hv : v.ownBlock with
  | none =>
    rw [hv] at hg
    exact h.step ⟨hg.os, hg.tape, hg.output, hg.size, fun k hk => hg.block k hk (by simp)⟩
  | some g =>
    rw [hv] at hg
    obtain ⟨h1, _⟩ := hk g hv
    refine h.grown hg (by omega) fun p hp => ?_
    have := hl p hp
    omega





set_option maxRecDepth 100000 in
set_option maxHeartbeats 8000000 in
theorem runs58 {a b k1 k2 : Nat} {v : Value} {l : List Px} {w : World} (h : Pxs w v l) (ha : 1 ≤ a ∧ a ≤ 256) (hn : l.length ≤ 65536) (has : Nat → Bool)
    (hC : ∀ i, i < l.length → ∀ W, Below w.heap.size w W → Calls Try.prog 58 #[.int .i64 (i : Int), .pointer (some ⟨k1, 0, none⟩), .pointer (some ⟨k2, 0, none⟩)] W fun e w' => e = .returned (.bool (has i)) ∧ Below W.heap.size W w') :
    Calls Try.prog 57 #[.agg #[.int .i64 (a : Int), .int .i64 (b : Int), v], .func (.func 58) #[] #[.pointer (some ⟨k1, 0, none⟩), .pointer (some ⟨k2, 0, none⟩)]] w (RunsO (runsP a has l.length) w) := by
  obtain ⟨A0, c0, rfl, hc, hm, _⟩ := h
  simp only [maxLen] at hm
  have J := Lib.hid ((Held.nil w).alloc [.int .i64 (a : Int), .int .i64 (b : Int), .slice A0 l.length c0] 24)
  have C := fun i hi W hW => Lib.hid (hC i hi W hW)
  have HS := fun i => Lib.hid (runs_succ a has i)
  have HL := fun i => Lib.hid (runs_last (w := a) (by omega) has i)
  have HM := fun i (hi : i ≤ l.length) => Lib.hid (runs_mono a has hi)
  obtain ⟨n, hn'⟩ : ∃ n, l.length = n := ⟨_, rfl⟩
  rw [hn'] at hc hn J C HM ⊢
  obtain ⟨ha1, ha2⟩ := ha
  have g0 : (a : Int) ≠ 0 := by omega
  obtain ⟨y0, y1, y2, yf, yt⟩ := J.out.tri (l1 := [])
  clear hC hn'
  go_enter Try.func57, Try.ntmps57
  go_wp2_with fail
  go_loopw [6, 13] (fun s6 s13 wr => ∃ (i : Nat) (A : Option Addr) (k c1 : Nat), i ≤ n ∧ s6 = .slice A k c1 ∧ s13 = .int .i64 (i : Int) ∧ Hid (OwnR wr (w.heap.size + 1) (.slice A k c1) (runsP a has i) ∧ Held w wr [(w.heap.size, [.int .i64 (a : Int), .int .i64 (b : Int), .slice A0 n c0])] ∧ (runsP a has i).length = k ∧ k ≤ 256)) (fun _ s13 _ => leftN n s13)
  case atStart => exact ⟨0, none, 0, 0, Nat.zero_le _, rfl, rfl, Lib.hid ⟨ownR_nil _ _, J.out, rfl, by omega⟩⟩
  case round =>
    obtain ⟨i, A, k, c1, hi, rfl, rfl, HR⟩ := hrel
    have hk256 := HR.out.2.2.2
    clear y0 y1 y2 yf yt
    by_cases hlt : i < n
    · have r0 : (i : Int) < n := by omega
      have C5 := C i hlt
      have hnext := HS i
      cases h0 : has i with
      | false =>
        rw [h0] at C5 hnext
        clear h0
        go_wp2_with fail
        refine (C5 _ HR.out.2.1.below).out.mono ?_
        rintro e w5 ⟨rfl, hb5⟩
        have Z : ∃ (i2 : Nat) (A2 : Option Addr) (k2 c2 : Nat), i2 ≤ n ∧ Value.slice A k c1 = .slice A2 k2 c2 ∧ Value.int .i64 ((i : Int) + 1) = .int .i64 (i2 : Int) ∧ Hid (OwnR w5 (w.heap.size + 1) (.slice A2 k2 c2) (runsP a has i2) ∧ Held w w5 [(w.heap.size, [.int .i64 (a : Int), .int .i64 (b : Int), .slice A0 n c0])] ∧ (runsP a has i2).length = k2 ∧ k2 ≤ 256) :=
          ⟨i + 1, A, k, c1, by omega, rfl, by go_num, Lib.hid (by rw [hnext.out, runS_no]; exact ⟨HR.out.1.below hb5, HR.out.2.1.step hb5, HR.out.2.2⟩)⟩
        clear HR hnext C5 hb5
        go_wp2_with fail
        go_roundw
        case rel => exact Z
        case measure =>
          unfold leftN
          simp [intOf]
          omega
      | true =>
        rw [h0] at C5 hnext
        clear h0
        obtain ⟨x, hx⟩ : ∃ x, i % a = x := ⟨_, rfl⟩
        obtain ⟨y, hy⟩ : ∃ y, i / a = y := ⟨_, rfl⟩
        have e1 : (i : Int) % (a : Int) = (x : Int) := by rw [← hx]; exact (Int.natCast_emod i a).symm
        have e2 : (i : Int) / (a : Int) = (y : Int) := by rw [← hy]; exact (Int.natCast_ediv i a).symm
        go_wp2_with fail
        refine (C5 _ HR.out.2.1.below).out.mono ?_
        rintro e w5 ⟨rfl, hb5⟩
        replace HR := Lib.hid (show OwnR w5 (w.heap.size + 1) (.slice A k c1) (runsP a has i) ∧ Held w w5 [(w.heap.size, [.int .i64 (a : Int), .int .i64 (b : Int), .slice A0 n c0])] ∧ (runsP a has i).length = k ∧ k ≤ 256 from ⟨HR.out.1.below hb5, HR.out.2.1.step hb5, HR.out.2.2⟩)
        clear hb5 C5
        obtain ⟨y0, y1, y2, yf, yt⟩ := HR.out.2.1.tri (l1 := [])
        go_upto_region 6 with fail
        go_quiet (fail)
        have hyn : y ≤ i := by rw [← hy]; exact Nat.div_le_self i a
        have hxa : x < a := by rw [← hx]; exact Nat.mod_lt i (by omega)
        have hyw : wrap64 (y : Int) = (y : Int) := IntWalk.wrap64_in _ (by omega)
        rw [e1, hyw]
        replace HR := Lib.hid (show OwnR (w5.drewN nq) (w.heap.size + 1) (.slice A k c1) (runsP a has i) ∧ Held w (w5.drewN nq) [(w.heap.size, [.int .i64 (a : Int), .int .i64 (b : Int), .slice A0 n c0])] ∧ (runsP a has i).length = k ∧ k ≤ 256 from ⟨HR.out.1.below (below_draws (Below.refl _ _) nq), HR.out.2.1.drews nq, HR.out.2.2⟩)
        clear e1 e2 hyw y0 y1 y2 yf yt
        generalize w5.drewN nq = w6 at *
        clear w5
        have yt := (HR.out.2.1.tri (l1 := [])).2.2.2.2
        by_cases hx0 : 0 < x
        · have q0 : (0 : Int) < x := by omega
          obtain ⟨i1, hi1⟩ : ∃ i1, i1 + 1 = i := ⟨i - 1, by
            rcases Nat.eq_zero_or_pos i with h | h
            · rw [h, Nat.zero_mod] at hx; omega
            · omega⟩
          have hw1 : IntKind.i64.wrap ((i : Int) - 1) = (i1 : Int) := by rw [IntWalk.i64_in _ (by omega)]; omega
          rw [show i - 1 = i1 by omega] at hnext
          have hlast := HL i
          rw [show i - 1 = i1 by omega, hx, hy] at hlast
          have C6 := C i1 (by omega)
          cases h1 : has i1 with
          | false =>
            rw [h1] at C6 hnext
            rw [runS_new (by simp), hx, hy] at hnext
            clear h1 hlast hx hy
            go_wp2_with fail
            refine (C6 _ HR.out.2.1.below).out.mono ?_
            rintro e w5 ⟨rfl, hb5⟩
            replace HR := Lib.hid (show OwnR w5 (w.heap.size + 1) (.slice A k c1) (runsP a has i) ∧ Held w w5 [(w.heap.size, [.int .i64 (a : Int), .int .i64 (b : Int), .slice A0 n c0])] ∧ (runsP a has i).length = k ∧ k ≤ 256 from ⟨HR.out.1.below hb5, HR.out.2.1.step hb5, HR.out.2.2⟩)
            replace yt := (HR.out.2.1.tri (l1 := [])).2.2.2.2
            clear hb5 C6 hw1 hi1
            have hx1 : IntKind.i64.wrap ((x : Int) + 1) = (x : Int) + 1 := IntWalk.i64_in _ (by omega)
            have hy1 : IntKind.i64.wrap ((y : Int) + 1) = (y : Int) + 1 := IntWalk.i64_in _ (by omega)
            have hlen : Hid ((runsP a has i).length + [(⟨(x : Int), (y : Int), (x : Int) + 1, (y : Int) + 1⟩ : R)].length ≤ 4000000) := Lib.hid (by rw [HR.out.2.2.1]; simp; omega)
            by_cases hk : k = 256
            · subst hk
              have hov : Hid (256 < (runsP a has n).length) := Lib.hid (by
                have h1 := (HM (i + 1) (by omega)).out
                rw [hnext.out] at h1
                simp only [List.length_append, List.length_singleton, HR.out.2.2.1] at h1
                omega)
              have K := Lib.hid HR.out.2.1.below
              clear hlen hnext HR yt
              go_wp2_with fail
              exact bodyPost_ret (v := .tuple #[.slice none 0 0, .int .i64 5]) (by simp [results, Try.results57, go_sem]) rfl (.inr ⟨hov.out, rfl, K.out⟩)
            · have hk' : ¬ (k : Int) = 256 := by omega
              have hk2 : k ≤ 255 := by omega
              have HO := Lib.hid HR.out.1
              go_wp2_with (at_builtin; refine wpList_appR rfl _ _ rfl (base := w.heap.size + 1) (l := runsP a has i) (m := [(⟨(x : Int), (y : Int), (x : Int) + 1, (y : Int) + 1⟩ : R)]) rfl (World.ownsRow.alloc HO.out _) rfl (rs_one _ ⟨(x : Int), (y : Int), (x : Int) + 1, (y : Int) + 1⟩) hlen.out (by have := HR.out.2.1.below.size; have := yt; simp; omega) ?_; intro v1 w1 ho1 hg1 hl1 _)
              obtain ⟨A6, c6, rfl, _, _⟩ := ho1.rs.shape
              have h6 := HR.out.2.1.made (.cells #[.int .i64 ((x : Int)), .int .i64 (y : Int), .int .i64 ((x : Int) + 1), .int .i64 ((y : Int) + 1)] 44)
              have Z := Lib.hid (show OwnR w1 (w.heap.size + 1) (.slice A6 (runsP a has i ++ [(⟨(x : Int), (y : Int), (x : Int) + 1, (y : Int) + 1⟩ : R)]).length c6) (runsP a has (i + 1)) ∧ Held w w1 [(w.heap.size, [.int .i64 (a : Int), .int .i64 (b : Int), .slice A0 n c0])] ∧ (runsP a has (i + 1)).length = (runsP a has i ++ [(⟨(x : Int), (y : Int), (x : Int) + 1, (y : Int) + 1⟩ : R)]).length ∧ (runsP a has i ++ [(⟨(x : Int), (y : Int), (x : Int) + 1, (y : Int) + 1⟩ : R)]).length ≤ 256 from by
                rw [hnext.out]
                refine ⟨ho1, h6.grownR hg1 (World.ownsRow.alloc HO.out _) (by omega) (fun p hp => by simp only [List.mem_cons, List.not_mem_nil, or_false] at hp; subst hp; exact Nat.lt_succ_self _), rfl, ?_⟩
                rw [List.length_append, HR.out.2.2.1, List.length_singleton]
                omega)
              clear ho1 hg1 hl1 h6 HO HR
              go_roundw
              case rel => exact ⟨i + 1, A6, _, c6, by omega, rfl, by go_num, Z⟩
              case measure =>
                unfold leftN
                simp [intOf]
                omega
          | true =>
            obtain ⟨m, p, hm, hp1, hp2, hp3, hp4, hp5⟩ := hlast.out hx0 h1
            rw [h1, hm] at hnext
            rw [h1] at C6
            have hnx := hnext.out
            rw [runS_more (by rw [hx]; exact hx0), hx] at hnx
            clear h1 hlast hx hy hp2 hp3 hp4 hp5 hnext
            go_wp2_with fail
            refine (C6 _ HR.out.2.1.below).out.mono ?_
            rintro e w5 ⟨rfl, hb5⟩
            replace HR := Lib.hid (show OwnR w5 (w.heap.size + 1) (.slice A k c1) (runsP a has i) ∧ Held w w5 [(w.heap.size, [.int .i64 (a : Int), .int .i64 (b : Int), .slice A0 n c0])] ∧ (runsP a has i).length = k ∧ k ≤ 256 from ⟨HR.out.1.below hb5, HR.out.2.1.step hb5, HR.out.2.2⟩)
            replace yt := (HR.out.2.1.tri (l1 := [])).2.2.2.2
            clear hb5 C6 hw1 hi1
            have hfst := HR.out.1
            have hlen := HR.out.2.2.1
            rw [hm] at hfst hlen
            have hk1 : k = m.length + 1 := by rw [← hlen]; simp
            obtain ⟨kk, hkk⟩ : ∃ kk, m.length = kk := ⟨_, rfl⟩
            rw [hkk] at hk1
            subst hk1
            unfold OwnR at hfst
            rw [hlen] at hfst
            obtain ⟨g, cap, hv, hg1, hg2, hg3, hg4⟩ := owns_shape hfst (Nat.succ_pos kk)
            injection hv with ev1 ev2 ev3
            subst ev1 ev3
            have hat : (m ++ [p])[kk]? = some p := by rw [← hkk]; simp
            obtain ⟨⟨c0', c1', c2', c3'⟩, cf⟩ := OwnR.cells hfst hat
            rw [hp1] at c2'
            have hset := OwnR.set_x1 hfst hat ((x : Int) + 1)
            rw [← hkk, set_last, hkk] at hset
            have Z := Lib.hid (show OwnR (w5.setCell ⟨g, kk * 4 + 2, none⟩ (Value.int .i64 ((x : Int) + 1))) (w.heap.size + 1) (.slice (some ⟨g, 0, none⟩) (kk + 1) c1) (runsP a has (i + 1)) ∧ Held w (w5.setCell ⟨g, kk * 4 + 2, none⟩ (Value.int .i64 ((x : Int) + 1))) [(w.heap.size, [.int .i64 (a : Int), .int .i64 (b : Int), .slice A0 n c0])] ∧ (runsP a has (i + 1)).length = kk + 1 ∧ kk + 1 ≤ 256 from by
              have hl2 : (runsP a has (i + 1)).length = kk + 1 := by rw [hnx]; simp [hkk]
              refine ⟨by unfold OwnR; rw [hl2, hnx]; exact hset, HR.out.2.1.grown (grown_set w5 g _ _) (by omega) (fun q hq => by simp only [List.mem_cons, List.not_mem_nil, or_false] at hq; subst hq; simp only; omega), hl2, hk256⟩)
            have f0 : IntKind.i64.wrap ((kk : Int) + 1 - 1) = (kk : Int) := by rw [show (kk : Int) + 1 - 1 = kk by omega]; exact IntWalk.i64_in _ (by omega)
            have f1 : (0 : Int) ≤ kk := by omega
            have f2 : (kk : Int) < (kk : Int) + 1 := by omega
            have hx1 : IntKind.i64.wrap ((x : Int) + 1) = (x : Int) + 1 := IntWalk.i64_in _ (by omega)
            clear hset hat hfst hlen hnx hm hg1 hg3 hg4 HR c0' c1' c3' hkk yt
            go_wp2_with fail
            go_roundw
            case rel => exact ⟨i + 1, some ⟨g, 0, none⟩, kk + 1, c1, by omega, rfl, by go_num, Z⟩
            case measure =>
              unfold leftN
              simp [intOf]
              omega
        · obtain rfl : x = 0 := by omega
          rw [runS_new (by rw [hx]; omega), hx, hy] at hnext
          replace hnext : Hid (runsP a has (i + 1) = runsP a has i ++ [(⟨0, (y : Int), 1, (y : Int) + 1⟩ : R)]) := hnext
          clear hx hy
          have hx1 : IntKind.i64.wrap (0 + 1) = 1 := IntWalk.i64_in _ (by omega)
          have hy1 : IntKind.i64.wrap ((y : Int) + 1) = (y : Int) + 1 := IntWalk.i64_in _ (by omega)
          have hlen : Hid ((runsP a has i).length + [(⟨0, (y : Int), 1, (y : Int) + 1⟩ : R)].length ≤ 4000000) := Lib.hid (by rw [HR.out.2.2.1]; simp; omega)
          by_cases hk : k = 256
          · subst hk
            have hov : Hid (256 < (runsP a has n).length) := Lib.hid (by
              have h1 := (HM (i + 1) (by omega)).out
              rw [hnext.out] at h1
              simp only [List.length_append, List.length_singleton, HR.out.2.2.1] at h1
              omega)
            have K := Lib.hid HR.out.2.1.below
            clear hlen hnext HR yt
            go_wp2_with fail
            exact bodyPost_ret (v := .tuple #[.slice none 0 0, .int .i64 5]) (by simp [results, Try.results57, go_sem]) rfl (.inr ⟨hov.out, rfl, K.out⟩)
          · have hk' : ¬ (k : Int) = 256 := by omega
            have hk2 : k ≤ 255 := by omega
            have HO := Lib.hid HR.out.1
            go_wp2_with (at_builtin; refine wpList_appR rfl _ _ rfl (base := w.heap.size + 1) (l := runsP a has i) (m := [(⟨0, (y : Int), 1, (y : Int) + 1⟩ : R)]) rfl (World.ownsRow.alloc HO.out _) rfl (rs_one _ ⟨0, (y : Int), 1, (y : Int) + 1⟩) hlen.out (by have := HR.out.2.1.below.size; have := yt; simp; omega) ?_; intro v1 w1 ho1 hg1 hl1 _)
            obtain ⟨A6, c6, rfl, _, _⟩ := ho1.rs.shape
            have h6 := HR.out.2.1.made (.cells #[.int .i64 (0), .int .i64 (y : Int), .int .i64 (1), .int .i64 ((y : Int) + 1)] 44)
            have Z := Lib.hid (show OwnR w1 (w.heap.size + 1) (.slice A6 (runsP a has i ++ [(⟨0, (y : Int), 1, (y : Int) + 1⟩ : R)]).length c6) (runsP a has (i + 1)) ∧ Held w w1 [(w.heap.size, [.int .i64 (a : Int), .int .i64 (b : Int), .slice A0 n c0])] ∧ (runsP a has (i + 1)).length = (runsP a has i ++ [(⟨0, (y : Int), 1, (y : Int) + 1⟩ : R)]).length ∧ (runsP a has i ++ [(⟨0, (y : Int), 1, (y : Int) + 1⟩ : R)]).length ≤ 256 from by
              rw [hnext.out]
              refine ⟨ho1, h6.grownR hg1 (World.ownsRow.alloc HO.out _) (by omega) (fun p hp => by simp only [List.mem_cons, List.not_mem_nil, or_false] at hp; subst hp; exact Nat.lt_succ_self _), rfl, ?_⟩
              rw [List.length_append, HR.out.2.2.1, List.length_singleton]
              omega)
            clear ho1 hg1 hl1 h6 HO HR
            go_roundw
            case rel => exact ⟨i + 1, A6, _, c6, by omega, rfl, by go_num, Z⟩
            case measure =>
              unfold leftN
              simp [intOf]
              omega
    · have r0 : ¬ (i : Int) < n := by omega
      obtain rfl : i = n := by omega
      have Q := Lib.hid (HR.out.1.mono (Nat.le_succ w.heap.size))
      have K := Lib.hid HR.out.2.1.below
      have hl := Lib.hid (show (runsP a has i).length ≤ 256 by rw [HR.out.2.2.1]; exact hk256)
      clear HR
      go_wp2_with fail
      exact bodyPost_ret (v := .tuple #[.slice A k c1, .int .i64 0]) (by simp [results, Try.results57, go_sem]) rfl (.inl ⟨hl.out, _, rfl, Q.out, K.out⟩)

set_option maxRecDepth 100000 in
set_option maxHeartbeats 8000000 in
theorem runs60 {a b k1 : Nat} {v : Value} {l : List Px} {w : World} (h : Pxs w v l) (ha : 1 ≤ a ∧ a ≤ 256) (hn : l.length ≤ 65536) (has : Nat → Bool)
    (hC : ∀ i, i < l.length → ∀ W, Below w.heap.size w W → Calls Try.prog 60 #[.int .i64 (i : Int), .pointer (some ⟨k1, 0, none⟩)] W fun e w' => e = .returned (.bool (has i)) ∧ Below W.heap.size W w') :
    Calls Try.prog 57 #[.agg #[.int .i64 (a : Int), .int .i64 (b : Int), v], .func (.func 60) #[] #[.pointer (some ⟨k1, 0, none⟩)]] w (RunsO (runsP a has l.length) w) := by
  obtain ⟨A0, c0, rfl, hc, hm, _⟩ := h
  simp only [maxLen] at hm
  have J := Lib.hid ((Held.nil w).alloc [.int .i64 (a : Int), .int .i64 (b : Int), .slice A0 l.length c0] 24)
  have C := fun i hi W hW => Lib.hid (hC i hi W hW)
  have HS := fun i => Lib.hid (runs_succ a has i)
  have HL := fun i => Lib.hid (runs_last (w := a) (by omega) has i)
  have HM := fun i (hi : i ≤ l.length) => Lib.hid (runs_mono a has hi)
  obtain ⟨n, hn'⟩ : ∃ n, l.length = n := ⟨_, rfl⟩
  rw [hn'] at hc hn J C HM ⊢
  obtain ⟨ha1, ha2⟩ := ha
  have g0 : (a : Int) ≠ 0 := by omega
  obtain ⟨y0, y1, y2, yf, yt⟩ := J.out.tri (l1 := [])
  clear hC hn'
  go_enter Try.func57, Try.ntmps57
  go_wp2_with fail
  go_loopw [6, 13] (fun s6 s13 wr => ∃ (i : Nat) (A : Option Addr) (k c1 : Nat), i ≤ n ∧ s6 = .slice A k c1 ∧ s13 = .int .i64 (i : Int) ∧ Hid (OwnR wr (w.heap.size + 1) (.slice A k c1) (runsP a has i) ∧ Held w wr [(w.heap.size, [.int .i64 (a : Int), .int .i64 (b : Int), .slice A0 n c0])] ∧ (runsP a has i).length = k ∧ k ≤ 256)) (fun _ s13 _ => leftN n s13)
  case atStart => exact ⟨0, none, 0, 0, Nat.zero_le _, rfl, rfl, Lib.hid ⟨ownR_nil _ _, J.out, rfl, by omega⟩⟩
  case round =>
    obtain ⟨i, A, k, c1, hi, rfl, rfl, HR⟩ := hrel
    have hk256 := HR.out.2.2.2
    clear y0 y1 y2 yf yt
    by_cases hlt : i < n
    · have r0 : (i : Int) < n := by omega
      have C5 := C i hlt
      have hnext := HS i
      cases h0 : has i with
      | false =>
        rw [h0] at C5 hnext
        clear h0
        go_wp2_with fail
        refine (C5 _ HR.out.2.1.below).out.mono ?_
        rintro e w5 ⟨rfl, hb5⟩
        have Z : ∃ (i2 : Nat) (A2 : Option Addr) (k2 c2 : Nat), i2 ≤ n ∧ Value.slice A k c1 = .slice A2 k2 c2 ∧ Value.int .i64 ((i : Int) + 1) = .int .i64 (i2 : Int) ∧ Hid (OwnR w5 (w.heap.size + 1) (.slice A2 k2 c2) (runsP a has i2) ∧ Held w w5 [(w.heap.size, [.int .i64 (a : Int), .int .i64 (b : Int), .slice A0 n c0])] ∧ (runsP a has i2).length = k2 ∧ k2 ≤ 256) :=
          ⟨i + 1, A, k, c1, by omega, rfl, by go_num, Lib.hid (by rw [hnext.out, runS_no]; exact ⟨HR.out.1.below hb5, HR.out.2.1.step hb5, HR.out.2.2⟩)⟩
        clear HR hnext C5 hb5
        go_wp2_with fail
        go_roundw
        case rel => exact Z
        case measure =>
          unfold leftN
          simp [intOf]
          omega
      | true =>
        rw [h0] at C5 hnext
        clear h0
        obtain ⟨x, hx⟩ : ∃ x, i % a = x := ⟨_, rfl⟩
        obtain ⟨y, hy⟩ : ∃ y, i / a = y := ⟨_, rfl⟩
        have e1 : (i : Int) % (a : Int) = (x : Int) := by rw [← hx]; exact (Int.natCast_emod i a).symm
        have e2 : (i : Int) / (a : Int) = (y : Int) := by rw [← hy]; exact (Int.natCast_ediv i a).symm
        go_wp2_with fail
        refine (C5 _ HR.out.2.1.below).out.mono ?_
        rintro e w5 ⟨rfl, hb5⟩
        replace HR := Lib.hid (show OwnR w5 (w.heap.size + 1) (.slice A k c1) (runsP a has i) ∧ Held w w5 [(w.heap.size, [.int .i64 (a : Int), .int .i64 (b : Int), .slice A0 n c0])] ∧ (runsP a has i).length = k ∧ k ≤ 256 from ⟨HR.out.1.below hb5, HR.out.2.1.step hb5, HR.out.2.2⟩)
        clear hb5 C5
        obtain ⟨y0, y1, y2, yf, yt⟩ := HR.out.2.1.tri (l1 := [])
        go_upto_region 6 with fail
        go_quiet (fail)
        have hyn : y ≤ i := by rw [← hy]; exact Nat.div_le_self i a
        have hxa : x < a := by rw [← hx]; exact Nat.mod_lt i (by omega)
        have hyw : wrap64 (y : Int) = (y : Int) := IntWalk.wrap64_in _ (by omega)
        rw [e1, hyw]
        replace HR := Lib.hid (show OwnR (w5.drewN nq) (w.heap.size + 1) (.slice A k c1) (runsP a has i) ∧ Held w (w5.drewN nq) [(w.heap.size, [.int .i64 (a : Int), .int .i64 (b : Int), .slice A0 n c0])] ∧ (runsP a has i).length = k ∧ k ≤ 256 from ⟨HR.out.1.below (below_draws (Below.refl _ _) nq), HR.out.2.1.drews nq, HR.out.2.2⟩)
        clear e1 e2 hyw y0 y1 y2 yf yt
        generalize w5.drewN nq = w6 at *
        clear w5
        have yt := (HR.out.2.1.tri (l1 := [])).2.2.2.2
        by_cases hx0 : 0 < x
        · have q0 : (0 : Int) < x := by omega
          obtain ⟨i1, hi1⟩ : ∃ i1, i1 + 1 = i := ⟨i - 1, by
            rcases Nat.eq_zero_or_pos i with h | h
            · rw [h, Nat.zero_mod] at hx; omega
            · omega⟩
          have hw1 : IntKind.i64.wrap ((i : Int) - 1) = (i1 : Int) := by rw [IntWalk.i64_in _ (by omega)]; omega
          rw [show i - 1 = i1 by omega] at hnext
          have hlast := HL i
          rw [show i - 1 = i1 by omega, hx, hy] at hlast
          have C6 := C i1 (by omega)
          cases h1 : has i1 with
          | false =>
            rw [h1] at C6 hnext
            rw [runS_new (by simp), hx, hy] at hnext
            clear h1 hlast hx hy
            go_wp2_with fail
            refine (C6 _ HR.out.2.1.below).out.mono ?_
            rintro e w5 ⟨rfl, hb5⟩
            replace HR := Lib.hid (show OwnR w5 (w.heap.size + 1) (.slice A k c1) (runsP a has i) ∧ Held w w5 [(w.heap.size, [.int .i64 (a : Int), .int .i64 (b : Int), .slice A0 n c0])] ∧ (runsP a has i).length = k ∧ k ≤ 256 from ⟨HR.out.1.below hb5, HR.out.2.1.step hb5, HR.out.2.2⟩)
            replace yt := (HR.out.2.1.tri (l1 := [])).2.2.2.2
            clear hb5 C6 hw1 hi1
            have hx1 : IntKind.i64.wrap ((x : Int) + 1) = (x : Int) + 1 := IntWalk.i64_in _ (by omega)
            have hy1 : IntKind.i64.wrap ((y : Int) + 1) = (y : Int) + 1 := IntWalk.i64_in _ (by omega)
            have hlen : Hid ((runsP a has i).length + [(⟨(x : Int), (y : Int), (x : Int) + 1, (y : Int) + 1⟩ : R)].length ≤ 4000000) := Lib.hid (by rw [HR.out.2.2.1]; simp; omega)
            by_cases hk : k = 256
            · subst hk
              have hov : Hid (256 < (runsP a has n).length) := Lib.hid (by
                have h1 := (HM (i + 1) (by omega)).out
                rw [hnext.out] at h1
                simp only [List.length_append, List.length_singleton, HR.out.2.2.1] at h1
                omega)
              have K := Lib.hid HR.out.2.1.below
              clear hlen hnext HR yt
              go_wp2_with fail
              exact bodyPost_ret (v := .tuple #[.slice none 0 0, .int .i64 5]) (by simp [results, Try.results57, go_sem]) rfl (.inr ⟨hov.out, rfl, K.out⟩)
            · have hk' : ¬ (k : Int) = 256 := by omega
              have hk2 : k ≤ 255 := by omega
              have HO := Lib.hid HR.out.1
              go_wp2_with (at_builtin; refine wpList_appR rfl _ _ rfl (base := w.heap.size + 1) (l := runsP a has i) (m := [(⟨(x : Int), (y : Int), (x : Int) + 1, (y : Int) + 1⟩ : R)]) rfl (World.ownsRow.alloc HO.out _) rfl (rs_one _ ⟨(x : Int), (y : Int), (x : Int) + 1, (y : Int) + 1⟩) hlen.out (by have := HR.out.2.1.below.size; have := yt; simp; omega) ?_; intro v1 w1 ho1 hg1 hl1 _)
              obtain ⟨A6, c6, rfl, _, _⟩ := ho1.rs.shape
              have h6 := HR.out.2.1.made (.cells #[.int .i64 ((x : Int)), .int .i64 (y : Int), .int .i64 ((x : Int) + 1), .int .i64 ((y : Int) + 1)] 44)
              have Z := Lib.hid (show OwnR w1 (w.heap.size + 1) (.slice A6 (runsP a has i ++ [(⟨(x : Int), (y : Int), (x : Int) + 1, (y : Int) + 1⟩ : R)]).length c6) (runsP a has (i + 1)) ∧ Held w w1 [(w.heap.size, [.int .i64 (a : Int), .int .i64 (b : Int), .slice A0 n c0])] ∧ (runsP a has (i + 1)).length = (runsP a has i ++ [(⟨(x : Int), (y : Int), (x : Int) + 1, (y : Int) + 1⟩ : R)]).length ∧ (runsP a has i ++ [(⟨(x : Int), (y : Int), (x : Int) + 1, (y : Int) + 1⟩ : R)]).length ≤ 256 from by
                rw [hnext.out]
                refine ⟨ho1, h6.grownR hg1 (World.ownsRow.alloc HO.out _) (by omega) (fun p hp => by simp only [List.mem_cons, List.not_mem_nil, or_false] at hp; subst hp; exact Nat.lt_succ_self _), rfl, ?_⟩
                rw [List.length_append, HR.out.2.2.1, List.length_singleton]
                omega)
              clear ho1 hg1 hl1 h6 HO HR
              go_roundw
              case rel => exact ⟨i + 1, A6, _, c6, by omega, rfl, by go_num, Z⟩
              case measure =>
                unfold leftN
                simp [intOf]
                omega
          | true =>
            obtain ⟨m, p, hm, hp1, hp2, hp3, hp4, hp5⟩ := hlast.out hx0 h1
            rw [h1, hm] at hnext
            rw [h1] at C6
            have hnx := hnext.out
            rw [runS_more (by rw [hx]; exact hx0), hx] at hnx
            clear h1 hlast hx hy hp2 hp3 hp4 hp5 hnext
            go_wp2_with fail
            refine (C6 _ HR.out.2.1.below).out.mono ?_
            rintro e w5 ⟨rfl, hb5⟩
            replace HR := Lib.hid (show OwnR w5 (w.heap.size + 1) (.slice A k c1) (runsP a has i) ∧ Held w w5 [(w.heap.size, [.int .i64 (a : Int), .int .i64 (b : Int), .slice A0 n c0])] ∧ (runsP a has i).length = k ∧ k ≤ 256 from ⟨HR.out.1.below hb5, HR.out.2.1.step hb5, HR.out.2.2⟩)
            replace yt := (HR.out.2.1.tri (l1 := [])).2.2.2.2
            clear hb5 C6 hw1 hi1
            have hfst := HR.out.1
            have hlen := HR.out.2.2.1
            rw [hm] at hfst hlen
            have hk1 : k = m.length + 1 := by rw [← hlen]; simp
            obtain ⟨kk, hkk⟩ : ∃ kk, m.length = kk := ⟨_, rfl⟩
            rw [hkk] at hk1
            subst hk1
            unfold OwnR at hfst
            rw [hlen] at hfst
            obtain ⟨g, cap, hv, hg1, hg2, hg3, hg4⟩ := owns_shape hfst (Nat.succ_pos kk)
            injection hv with ev1 ev2 ev3
            subst ev1 ev3
            have hat : (m ++ [p])[kk]? = some p := by rw [← hkk]; simp
            obtain ⟨⟨c0', c1', c2', c3'⟩, cf⟩ := OwnR.cells hfst hat
            rw [hp1] at c2'
            have hset := OwnR.set_x1 hfst hat ((x : Int) + 1)
            rw [← hkk, set_last, hkk] at hset
            have Z := Lib.hid (show OwnR (w5.setCell ⟨g, kk * 4 + 2, none⟩ (Value.int .i64 ((x : Int) + 1))) (w.heap.size + 1) (.slice (some ⟨g, 0, none⟩) (kk + 1) c1) (runsP a has (i + 1)) ∧ Held w (w5.setCell ⟨g, kk * 4 + 2, none⟩ (Value.int .i64 ((x : Int) + 1))) [(w.heap.size, [.int .i64 (a : Int), .int .i64 (b : Int), .slice A0 n c0])] ∧ (runsP a has (i + 1)).length = kk + 1 ∧ kk + 1 ≤ 256 from by
              have hl2 : (runsP a has (i + 1)).length = kk + 1 := by rw [hnx]; simp [hkk]
              refine ⟨by unfold OwnR; rw [hl2, hnx]; exact hset, HR.out.2.1.grown (grown_set w5 g _ _) (by omega) (fun q hq => by simp only [List.mem_cons, List.not_mem_nil, or_false] at hq; subst hq; simp only; omega), hl2, hk256⟩)
            have f0 : IntKind.i64.wrap ((kk : Int) + 1 - 1) = (kk : Int) := by rw [show (kk : Int) + 1 - 1 = kk by omega]; exact IntWalk.i64_in _ (by omega)
            have f1 : (0 : Int) ≤ kk := by omega
            have f2 : (kk : Int) < (kk : Int) + 1 := by omega
            have hx1 : IntKind.i64.wrap ((x : Int) + 1) = (x : Int) + 1 := IntWalk.i64_in _ (by omega)
            clear hset hat hfst hlen hnx hm hg1 hg3 hg4 HR c0' c1' c3' hkk yt
            go_wp2_with fail
            go_roundw
            case rel => exact ⟨i + 1, some ⟨g, 0, none⟩, kk + 1, c1, by omega, rfl, by go_num, Z⟩
            case measure =>
              unfold leftN
              simp [intOf]
              omega
        · obtain rfl : x = 0 := by omega
          rw [runS_new (by rw [hx]; omega), hx, hy] at hnext
          replace hnext : Hid (runsP a has (i + 1) = runsP a has i ++ [(⟨0, (y : Int), 1, (y : Int) + 1⟩ : R)]) := hnext
          clear hx hy
          have hx1 : IntKind.i64.wrap (0 + 1) = 1 := IntWalk.i64_in _ (by omega)
          have hy1 : IntKind.i64.wrap ((y : Int) + 1) = (y : Int) + 1 := IntWalk.i64_in _ (by omega)
          have hlen : Hid ((runsP a has i).length + [(⟨0, (y : Int), 1, (y : Int) + 1⟩ : R)].length ≤ 4000000) := Lib.hid (by rw [HR.out.2.2.1]; simp; omega)
          by_cases hk : k = 256
          · subst hk
            have hov : Hid (256 < (runsP a has n).length) := Lib.hid (by
              have h1 := (HM (i + 1) (by omega)).out
              rw [hnext.out] at h1
              simp only [List.length_append, List.length_singleton, HR.out.2.2.1] at h1
              omega)
            have K := Lib.hid HR.out.2.1.below
            clear hlen hnext HR yt
            go_wp2_with fail
            exact bodyPost_ret (v := .tuple #[.slice none 0 0, .int .i64 5]) (by simp [results, Try.results57, go_sem]) rfl (.inr ⟨hov.out, rfl, K.out⟩)
          · have hk' : ¬ (k : Int) = 256 := by omega
            have hk2 : k ≤ 255 := by omega
            have HO := Lib.hid HR.out.1
            go_wp2_with (at_builtin; refine wpList_appR rfl _ _ rfl (base := w.heap.size + 1) (l := runsP a has i) (m := [(⟨0, (y : Int), 1, (y : Int) + 1⟩ : R)]) rfl (World.ownsRow.alloc HO.out _) rfl (rs_one _ ⟨0, (y : Int), 1, (y : Int) + 1⟩) hlen.out (by have := HR.out.2.1.below.size; have := yt; simp; omega) ?_; intro v1 w1 ho1 hg1 hl1 _)
            obtain ⟨A6, c6, rfl, _, _⟩ := ho1.rs.shape
            have h6 := HR.out.2.1.made (.cells #[.int .i64 (0), .int .i64 (y : Int), .int .i64 (1), .int .i64 ((y : Int) + 1)] 44)
            have Z := Lib.hid (show OwnR w1 (w.heap.size + 1) (.slice A6 (runsP a has i ++ [(⟨0, (y : Int), 1, (y : Int) + 1⟩ : R)]).length c6) (runsP a has (i + 1)) ∧ Held w w1 [(w.heap.size, [.int .i64 (a : Int), .int .i64 (b : Int), .slice A0 n c0])] ∧ (runsP a has (i + 1)).length = (runsP a has i ++ [(⟨0, (y : Int), 1, (y : Int) + 1⟩ : R)]).length ∧ (runsP a has i ++ [(⟨0, (y : Int), 1, (y : Int) + 1⟩ : R)]).length ≤ 256 from by
              rw [hnext.out]
              refine ⟨ho1, h6.grownR hg1 (World.ownsRow.alloc HO.out _) (by omega) (fun p hp => by simp only [List.mem_cons, List.not_mem_nil, or_false] at hp; subst hp; exact Nat.lt_succ_self _), rfl, ?_⟩
              rw [List.length_append, HR.out.2.2.1, List.length_singleton]
              omega)
            clear ho1 hg1 hl1 h6 HO HR
            go_roundw
            case rel => exact ⟨i + 1, A6, _, c6, by omega, rfl, by go_num, Z⟩
            case measure =>
              unfold leftN
              simp [intOf]
              omega
    · have r0 : ¬ (i : Int) < n := by omega
      obtain rfl : i = n := by omega
      have Q := Lib.hid (HR.out.1.mono (Nat.le_succ w.heap.size))
      have K := Lib.hid HR.out.2.1.below
      have hl := Lib.hid (show (runsP a has i).length ≤ 256 by rw [HR.out.2.2.1]; exact hk256)
      clear HR
      go_wp2_with fail
      exact bodyPost_ret (v := .tuple #[.slice A k c1, .int .i64 0]) (by simp [results, Try.results57, go_sem]) rfl (.inl ⟨hl.out, _, rfl, Q.out, K.out⟩)

end Go.Proofs.Ytahhcklkcibgoaa
