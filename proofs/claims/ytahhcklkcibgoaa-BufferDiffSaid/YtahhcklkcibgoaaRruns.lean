/-
  Runs of the reference.
-/
import Derived.Test.YtahhcklkcibgoaaRuns
import Derived.Test.YtahhcklkcibgoaaRput
import Derived.Test.YtahhcklkcibgoaaBls
namespace Go.Proofs.Ytahhcklkcibgoaa
open Go.RowKit

theorem below_grownR {B : Nat} {w0 w1 w2 : World} {v : Value} {l : List R} (hb : Below B w0 w1) (hB : B ≤ w1.heap.size) (hr : OwnR w1 B v l) (hg : w1.grownBy w2 v.ownBlock) : Below B w0 w2 :=
  hb.grown hg hB (fun k hk => (hr.block k hk).1)




set_option maxRecDepth 100000 in
set_option maxHeartbeats 8000000 in
theorem rruns_any {a b : Nat} {v : Value} {bs : List Bool} {w : World} (h : Bs w v bs) (ha : 1 ≤ a ∧ a ≤ 256) (hb : 1 ≤ b ∧ b ≤ 256) (hl : bs.length = a * b) (has : Nat → Bool) (hh : ∀ i, i < a * b → bs[i]? = some (has i)) :
    Calls Try.prog 59 #[.int .i64 (a : Int), .int .i64 (b : Int), v] w fun e w' => ∃ u, e = .returned u ∧ OwnR w' w.heap.size u (runsP a has (a * b)) ∧ Below w.heap.size w w' := by
  obtain ⟨A0, c0, rfl, hc, hm, hcell⟩ := h
  simp only [maxLen] at hm
  obtain ⟨ha1, ha2⟩ := ha
  obtain ⟨hb1, hb2⟩ := hb
  have hpos := Nat.mul_le_mul ha1 hb1
  have hmul := mul_small ha2 hb2
  obtain ⟨b0, off, rfl, hb0, hcs⟩ := hcell (by omega)
  have HD := fun i hi => Lib.hid (hcs i _ (hh i hi))
  rw [hl] at hc ⊢
  obtain ⟨n, hn⟩ : ∃ n, a * b = n := ⟨_, rfl⟩
  have HN := Lib.hid hn
  rw [hn] at hc HD hmul hpos ⊢
  have HS := fun i => Lib.hid (runs_succ a has i)
  have HL := fun i => Lib.hid (runs_last (w := a) (by omega) has i)
  clear hcell hcs hh hl hn
  go_enter Try.func59, Try.ntmps59
  go_wp2_with fail
  go_loopw [7, 8] (fun s7 s8 wr => ∃ (y : Nat) (A : Option Addr) (k c1 : Nat), y ≤ b ∧ s7 = .slice A k c1 ∧ s8 = .int .i64 (y : Int) ∧ Hid (OwnR wr w.heap.size (.slice A k c1) (runsP a has (y * a)) ∧ Below w.heap.size w wr ∧ (runsP a has (y * a)).length = k)) (fun _ s8 _ => leftN b s8)
  case atStart => exact ⟨0, none, 0, 0, Nat.zero_le _, rfl, rfl, Lib.hid (by rw [Nat.zero_mul]; exact ⟨ownR_nil _ _, Below.refl _ _, rfl⟩)⟩
  case round =>
    obtain ⟨y, A, k, c1, hy, rfl, rfl, HQ⟩ := hrel
    by_cases hlt : y < b
    · have r0 : (y : Int) < b := by omega
      obtain ⟨wu, rfl⟩ : ∃ x, x = wr := ⟨_, rfl⟩
      go_wp2_with fail
      go_loopw [7, 9] (fun s7 s9 wr => ∃ (x : Nat) (A : Option Addr) (k c1 : Nat), x ≤ a ∧ s7 = .slice A k c1 ∧ s9 = .int .i64 (x : Int) ∧ Hid (OwnR wr w.heap.size (.slice A k c1) (runsP a has (y * a + x)) ∧ Below w.heap.size w wr ∧ (runsP a has (y * a + x)).length = k)) (fun _ s9 _ => leftN a s9)
      case atStart => exact ⟨0, A, k, c1, Nat.zero_le _, rfl, rfl, HQ⟩
      case round =>
        clear HQ
        obtain ⟨x, A, k, c1, hx, rfl, rfl, HR⟩ := hrel
        by_cases hxl : x < a
        · have r1 : (x : Int) < a := by omega
          obtain ⟨M, hM⟩ : ∃ M, y * a = M := ⟨_, rfl⟩
          have hMb : M + a ≤ n := by
            have h1 : (y + 1) * a ≤ b * a := Nat.mul_le_mul_right a hlt
            rw [Nat.add_mul, Nat.one_mul, hM, Nat.mul_comm b a, HN.out] at h1
            exact h1
          obtain ⟨K, hK⟩ : ∃ K, M + x = K := ⟨_, rfl⟩
          obtain ⟨Mi, hMi⟩ : ∃ Mi : Int, Mi = (M : Int) := ⟨_, rfl⟩
          have HM1 := Lib.hid (show wrap64 ((y : Int) * (a : Int)) = Mi by rw [hMi]; exact mul_wrap hM (by omega))
          have HM2 := Lib.hid (show wrap64 (Mi + (x : Int)) = (K : Int) by rw [hMi]; exact (add_wrap hK (by omega)).1)
          have HM3 := Lib.hid (show wrap64 Mi = (M : Int) by rw [hMi]; exact IntWalk.wrap64_in _ (by omega))
          clear hMi
          have hKn : K < n := by omega
          have hmod : K % a = x := by rw [← hK, ← hM]; exact idx_mod hxl
          have hdiv : K / a = y := by rw [← hK, ← hM]; exact idx_div hxl
          rw [show y * a + x = K by rw [hM]; exact hK] at HR
          have HKN := Lib.hid (show y * a + (x + 1) = K + 1 by rw [hM]; omega)
          have hnext := HS K
          have D0 := (HR.out.2.1.cell (p := ⟨b0, off + K, none⟩) hb0).trans (HD K hKn).out
          have t0 : (0 : Int) ≤ K := by omega
          have t1 : (K : Int) < n := by omega
          cases h0 : has K with
          | false =>
            rw [h0] at D0 hnext
            rw [runS_no] at hnext
            have Z := Lib.hid (show OwnR wr w.heap.size (.slice A k c1) (runsP a has (y * a + (x + 1))) ∧ Below w.heap.size w wr ∧ (runsP a has (y * a + (x + 1))).length = k from by rw [HKN.out, hnext.out]; exact HR.out)
            have hKw := HM1.out
            have hKw2 := HM2.out
            clear HR hnext HKN hmod hdiv hK hM h0
            go_wp2_with fail
            clear hKw hKw2
            go_roundw
            case rel => exact ⟨x + 1, A, k, c1, by omega, rfl, by go_num, Z⟩
            case measure =>
              unfold leftN
              simp [intOf]
              omega
          | true =>
            rw [h0] at D0 hnext
            clear h0
            by_cases hx0 : 0 < x
            · have q0 : (0 : Int) < x := by omega
              obtain ⟨K1, hK1⟩ : ∃ K1, K1 + 1 = K := ⟨K - 1, by omega⟩
              have HW1 := Lib.hid (show IntKind.i64.wrap ((K : Int) - 1) = (K1 : Int) by rw [IntWalk.i64_in _ (by omega)]; omega)
              rw [show K - 1 = K1 by omega] at hnext
              have hlast := HL K
              rw [show K - 1 = K1 by omega, hmod, hdiv] at hlast
              have D1 := (HR.out.2.1.cell (p := ⟨b0, off + K1, none⟩) hb0).trans (HD K1 (by omega)).out
              have t2 : (0 : Int) ≤ K1 := by omega
              have t3 : (K1 : Int) < n := by omega
              cases h1 : has K1 with
              | false =>
                rw [h1] at D1 hnext
                rw [runS_new (by simp), hmod, hdiv] at hnext
                clear h1 hlast hmod hdiv hK1 hK hM
                have HX1 := Lib.hid (show IntKind.i64.wrap ((x : Int) + 1) = (x : Int) + 1 from IntWalk.i64_in _ (by omega))
                have HY1 := Lib.hid (show IntKind.i64.wrap ((y : Int) + 1) = (y : Int) + 1 from IntWalk.i64_in _ (by omega))
                have hlen : Hid ((runsP a has K).length + [(⟨(x : Int), (y : Int), (x : Int) + 1, (y : Int) + 1⟩ : R)].length ≤ 4000000) := Lib.hid (by have := runs_len a has K; simp only [List.length_singleton]; omega)
                have HO := Lib.hid HR.out.1
                have hsz := Lib.hid HR.out.2.1.size
                have hx1 := HX1.out
                have hy1 := HY1.out
                have hw1 := HW1.out
                have hKw := HM1.out
                have hKw2 := HM2.out
                go_wp2_with (at_builtin; refine wpList_appR rfl _ _ rfl (base := w.heap.size) (l := runsP a has K) (m := [(⟨(x : Int), (y : Int), (x : Int) + 1, (y : Int) + 1⟩ : R)]) rfl (World.ownsRow.alloc HO.out _) rfl (rs_one _ ⟨(x : Int), (y : Int), (x : Int) + 1, (y : Int) + 1⟩) hlen.out (by rw [World.size_alloc]; exact Nat.le_succ_of_le hsz.out) ?_; intro v1 w1 ho1 hg1 hl1 _)
                clear hKw hKw2 hx1 hy1 hw1
                obtain ⟨A6, c6, rfl, _, _⟩ := ho1.rs.shape
                have hb6 := HR.out.2.1.alloc HR.out.2.1.size (.cells #[.int .i64 ((x : Int)), .int .i64 (y : Int), .int .i64 ((x : Int) + 1), .int .i64 ((y : Int) + 1)] 44)
                have Z := Lib.hid (show OwnR w1 w.heap.size (.slice A6 (runsP a has K ++ [(⟨(x : Int), (y : Int), (x : Int) + 1, (y : Int) + 1⟩ : R)]).length c6) (runsP a has (y * a + (x + 1))) ∧ Below w.heap.size w w1 ∧ (runsP a has (y * a + (x + 1))).length = (runsP a has K ++ [(⟨(x : Int), (y : Int), (x : Int) + 1, (y : Int) + 1⟩ : R)]).length from by
                  rw [HKN.out, hnext.out]
                  exact ⟨ho1, below_grownR hb6 (by have := HR.out.2.1.size; simp; omega) (World.ownsRow.alloc HO.out _) hg1, rfl⟩)
                clear ho1 hg1 hl1 hb6 HO HR
                go_roundw
                case rel => exact ⟨x + 1, A6, _, c6, by omega, rfl, by go_num, Z⟩
                case measure =>
                  unfold leftN
                  simp [intOf]
                  omega
              | true =>
                obtain ⟨m, p, hm', hp1, hp2, hp3, hp4, hp5⟩ := hlast.out hx0 h1
                rw [h1] at D1
                rw [h1, hm'] at hnext
                have hnx := hnext.out
                rw [runS_more (by rw [hmod]; exact hx0), hmod] at hnx
                clear h1 hlast hmod hdiv hp2 hp3 hp4 hp5 hnext hK1 hK hM
                have hfst := HR.out.1
                have hlen := HR.out.2.2
                rw [hm'] at hfst hlen
                have hk1 : k = m.length + 1 := by rw [← hlen]; simp
                obtain ⟨kk, hkk⟩ : ∃ kk, m.length = kk := ⟨_, rfl⟩
                rw [hkk] at hk1
                subst hk1
                have hkl : kk + 1 ≤ K := by rw [← hlen, ← hm']; exact runs_len a has K
                unfold OwnR at hfst
                rw [hlen] at hfst
                obtain ⟨g, cap, hv, hg1, hg2, hg3, hg4⟩ := owns_shape hfst (Nat.succ_pos kk)
                injection hv with ev1 ev2 ev3
                subst ev1 ev3
                have hat : (m ++ [p])[kk]? = some p := by rw [← hkk]; simp
                obtain ⟨⟨c0', c1', c2', c3'⟩, cf⟩ := OwnR.cells hfst hat
                have hset := OwnR.set_x1 hfst hat ((x : Int) + 1)
                rw [← hkk, set_last, hkk] at hset
                have Z := Lib.hid (show OwnR (wr.setCell ⟨g, kk * 4 + 2, none⟩ (Value.int .i64 ((x : Int) + 1))) w.heap.size (.slice (some ⟨g, 0, none⟩) (kk + 1) c1) (runsP a has (y * a + (x + 1))) ∧ Below w.heap.size w (wr.setCell ⟨g, kk * 4 + 2, none⟩ (Value.int .i64 ((x : Int) + 1))) ∧ (runsP a has (y * a + (x + 1))).length = kk + 1 from by
                  rw [HKN.out]
                  have hl2 : (runsP a has (K + 1)).length = kk + 1 := by rw [hnx]; simp [hkk]
                  exact ⟨by unfold OwnR; rw [hl2, hnx]; exact hset, HR.out.2.1.setCell (p := ⟨g, kk * 4 + 2, none⟩) hg1 _, hl2⟩)
                have F0 := Lib.hid (show IntKind.i64.wrap ((kk : Int) + 1 - 1) = (kk : Int) by rw [show (kk : Int) + 1 - 1 = kk by omega]; exact IntWalk.i64_in _ (by omega))
                have f1 : (0 : Int) ≤ kk := by omega
                have f2 : (kk : Int) < (kk : Int) + 1 := by omega
                have hx1 : IntKind.i64.wrap ((x : Int) + 1) = (x : Int) + 1 := IntWalk.i64_in _ (by omega)
                clear hset hat hfst hlen hnx hm' hg1 hg3 hg4 HR c0' c1' c3' hkk HKN
                have f0 := F0.out
                have hw1 := HW1.out
                have hKw := HM1.out
                have hKw2 := HM2.out
                go_wp2_with fail
                clear hKw hKw2 hw1 hx1 f0
                go_roundw
                case rel => exact ⟨x + 1, some ⟨g, 0, none⟩, kk + 1, c1, by omega, rfl, by go_num, Z⟩
                case measure =>
                  unfold leftN
                  simp [intOf]
                  omega
            · obtain rfl : x = 0 := by omega
              obtain rfl : M = K := hK
              rw [runS_new (by rw [hmod]; omega), hmod, hdiv] at hnext
              replace hnext : Hid (runsP a has (M + 1) = runsP a has M ++ [(⟨0, (y : Int), 1, (y : Int) + 1⟩ : R)]) := hnext
              replace HM2 := Lib.hid HM3.out
              clear hmod hdiv hM
              have HX1 := Lib.hid (show IntKind.i64.wrap (0 + 1) = 1 from IntWalk.i64_in _ (by omega))
              have HY1 := Lib.hid (show IntKind.i64.wrap ((y : Int) + 1) = (y : Int) + 1 from IntWalk.i64_in _ (by omega))
              have hlen : Hid ((runsP a has M).length + [(⟨0, (y : Int), 1, (y : Int) + 1⟩ : R)].length ≤ 4000000) := Lib.hid (by have := runs_len a has M; simp only [List.length_singleton]; omega)
              have HO := Lib.hid HR.out.1
              have hsz := Lib.hid HR.out.2.1.size
              have hx1 := HX1.out
              have hy1 := HY1.out
              have hKw := HM1.out
              have hKw2 := HM2.out
              go_wp2_with (at_builtin; refine wpList_appR rfl _ _ rfl (base := w.heap.size) (l := runsP a has M) (m := [(⟨0, (y : Int), 1, (y : Int) + 1⟩ : R)]) rfl (World.ownsRow.alloc HO.out _) rfl (rs_one _ ⟨0, (y : Int), 1, (y : Int) + 1⟩) hlen.out (by rw [World.size_alloc]; exact Nat.le_succ_of_le hsz.out) ?_; intro v1 w1 ho1 hg1 hl1 _)
              clear hKw hKw2 hx1 hy1
              obtain ⟨A6, c6, rfl, _, _⟩ := ho1.rs.shape
              have hb6 := HR.out.2.1.alloc HR.out.2.1.size (.cells #[.int .i64 (0), .int .i64 (y : Int), .int .i64 (1), .int .i64 ((y : Int) + 1)] 44)
              have Z := Lib.hid (show OwnR w1 w.heap.size (.slice A6 (runsP a has M ++ [(⟨0, (y : Int), 1, (y : Int) + 1⟩ : R)]).length c6) (runsP a has (y * a + (0 + 1))) ∧ Below w.heap.size w w1 ∧ (runsP a has (y * a + (0 + 1))).length = (runsP a has M ++ [(⟨0, (y : Int), 1, (y : Int) + 1⟩ : R)]).length from by
                rw [HKN.out, hnext.out]
                exact ⟨ho1, below_grownR hb6 (by have := HR.out.2.1.size; simp; omega) (World.ownsRow.alloc HO.out _) hg1, rfl⟩)
              clear ho1 hg1 hl1 hb6 HO HR
              go_roundw
              case rel => exact ⟨0 + 1, A6, _, c6, by omega, rfl, by go_num, Z⟩
              case measure =>
                unfold leftN
                simp [intOf]
                omega
        · obtain rfl : a = x := by omega
          have r1 : ¬ (a : Int) < a := by omega
          rw [show y * a + a = (y + 1) * a by rw [Nat.add_mul, Nat.one_mul]] at HR
          go_wp2_with fail
          go_roundw
          case rel => exact ⟨y + 1, A, k, c1, by omega, rfl, by go_num, HR⟩
          case measure =>
            unfold leftN
            simp [intOf]
            omega
    · obtain rfl : b = y := by omega
      have r0 : ¬ (b : Int) < b := by omega
      rw [Nat.mul_comm b a, HN.out] at HQ
      go_wp2_with fail
      go_ret
      exact ⟨_, rfl, HQ.out.1, HQ.out.2.1⟩

end Go.Proofs.Ytahhcklkcibgoaa
