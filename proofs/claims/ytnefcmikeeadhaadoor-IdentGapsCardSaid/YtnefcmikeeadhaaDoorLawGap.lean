/-
  The law IdentGaps.
-/
import Derived.Test.YtnefcmikeeadhaaDoorOps
import Derived.Test.YtnefcmikeeadhaaDoorLpu
namespace Go.Proofs.YtnefcmikeeadhaaDoor
open Go.RowKit

theorem tak_far {t : Tb} {c m : Nat} (hG : GoodT t c) (h1 : t.lg + 1 < m) (h2 : m ≤ lstN t.sv) : takT t m = (t, if 256 ≤ t.lv.length then 5 else 2) ∧ m ∉ t.lv := by
  have h3 := hG.lo
  have h5 := fst_pos t.sv
  have hn1 : m ∉ t.lv := fun q => by have := (hG.lvr m q).2; omega
  have hn2 : m ∉ t.rl := fun q => by have := (hG.rlr m q).2; omega
  refine ⟨?_, hn1⟩
  unfold takT
  rw [if_neg (side_ok (by omega) h2), if_neg (by rw [not_or]; exact ⟨hn1, hn2⟩)]
  split
  · rfl
  · rfl

/-- what the loop keeps -/
structure GapI (w : World) (v : Value) (s : Bool) (g i : Nat) (wr : World) : Prop where
  ex : ∃ t, TabP w.heap.size wr v t i ∧ (g : Int) = t.lg ∧ t.sv = s
  below : Below w.heap.size w wr

set_option maxRecDepth 40000 in
set_option maxHeartbeats 4000000 in
theorem gaps_walk (s : Bool) (u : Value) (l : List (Int × Nat)) (p : Nat) (hp : p < 4294967296) (w : World) (hT : Tab w) (hO : Opv w u l) : Calls Tryd.prog 5 #[.bool s, u, .int .u32 (p : Int)] w (Says true w) := by
  obtain ⟨A, cap, rfl, h1, h2, h3, h4⟩ := hO
  simp only [maxLen] at h2
  by_cases hk : 300 < l.length
  · have E := Lib.hid (example_any w hT)
    have q : (300 : Int) < l.length := by omega
    generalize l.length = k at *
    clear h3 h4
    go_enter Tryd.func5, Tryd.ntmps5
    go_wp2_with fail
    refine E.out.mono ?_
    rintro e w2 ⟨rfl, hb⟩
    go_wp2_with fail
    go_ret
    exact ⟨rfl, hb⟩
  · have q : ¬ (300 : Int) < l.length := by omega
    have C1 := Lib.hid (new_any s w hT)
    have HC := Lib.hid (And.intro h3 h4)
    obtain ⟨k, hkl⟩ : ∃ k, l.length = k := ⟨_, rfl⟩
    have HK := Lib.hid hkl
    rw [hkl] at q h1 hk ⊢
    have hB0 : w.heap.size ≤ w.heap.size := Nat.le_refl _
    clear h3 h4 hkl
    have hw : ∃ base, w.heap.size = base := ⟨_, rfl⟩
    have hG0 : ∀ W v, TabP w.heap.size W v (newT s) 0 → Below w.heap.size w W → GapI w v s (if s then 4278190079 else 0) 0 W := fun W v h hb => ⟨⟨_, h, by cases s <;> rfl, by cases s <;> rfl⟩, hb⟩
    cases s
    all_goals
      simp only [if_true, Bool.false_eq_true, if_false] at hG0
      go_enter Tryd.func5, Tryd.ntmps5
      go_wp2_with fail
      refine C1.out.mono ?_
      rintro e w1 ⟨v, rfl, hP, hb⟩
      have G0 := Lib.hid (hG0 w1 v hP hb)
      clear hP hb hG0 C1 hB0
      go_wp2_with fail
      go_loopw [8, 23] (fun s8 s23 wr => ∃ i g : Nat, i ≤ k ∧ s23 = .int .i64 (i : Int) ∧ s8 = .int .u32 (g : Int) ∧ Hid (GapI w v _ g i wr)) (fun _ s23 _ => leftN k s23)
      case atStart => exact ⟨0, _, Nat.zero_le _, rfl, rfl, G0⟩
      case round =>
        obtain ⟨i, g, hi, rfl, rfl, G⟩ := hrel
        by_cases hlt : i < k
        · have r0 : (0 : Int) ≤ i := by omega
          have r1 : (i : Int) < k := by omega
          obtain ⟨o, ho⟩ : ∃ o, l[i]? = some o := ⟨_, List.getElem?_eq_getElem (by rw [HK.out]; exact hlt)⟩
          obtain ⟨b, off, rfl, hbb, hcs⟩ := HC.out.2 (by rw [HK.out]; omega)
          have hn := HC.out.1 o (List.mem_of_getElem? ho)
          obtain ⟨c0, c1⟩ := hcs i o ho
          clear hcs ho
          have d0 := (G.out.below.cell (p := ⟨b, off + i * 2, none⟩) hbb).trans c0
          have d1 := (G.out.below.cell (p := ⟨b, off + i * 2 + 1, none⟩) hbb).trans c1
          obtain ⟨t, hP, hg, hs⟩ := G.out.ex
          have hGd := hP.good
          have C := Lib.hid (do_any (kd := o.1) hP (by omega) hn)
          have D := do_gap (n := o.2) (kd := o.1) hGd
          have DS := do_side (t := t) (n := o.2) (kd := o.1)
          have DU := do_u32 (n := o.2) (kd := o.1) hGd (by omega) hn
          obtain ⟨kd, n⟩ := o
          simp only at c0 c1 d0 d1 C D DS DU hn
          have hfew := hGd.few
          have hf1 := fst_lst t.sv
          generalize (doT t kd n).2.1 = r at *
          generalize (doT t kd n).2.2 = er at *
          generalize (doT t kd n).1 = t2 at *
          rw [← hg] at D
          have hgb : g < 4294967295 := by omega
          have HB := Lib.hid G.out.below
          have HD := Lib.hid (And.intro D (And.intro DS hs))
          clear hP hg hs hGd D DS hfew hf1 G
          have HCC := Lib.hid (And.intro c0 c1)
          go_wp2_with fail
          refine C.out.mono ?_
          rintro e w2 ⟨rfl, hP2, hT2⟩
          replace HB := Lib.hid (hT2.below HB.out)
          have HP2 := Lib.hid hP2
          clear d0 d1 hP2 hT2 C c0 c1
          have d0 := (HB.out.cell (p := ⟨b, off + i * 2, none⟩) hbb).trans HCC.out.1
          have G1 : ∀ g' : Nat, (g' : Int) = t2.lg → Hid (GapI w v _ g' (i + 1) w2) := fun g' hg' => Lib.hid ⟨⟨t2, HP2.out, hg', HD.out.2.1.trans HD.out.2.2⟩, HB.out⟩
          by_cases a0 : er = 0
          · by_cases a1 : kd ≤ 1
            · by_cases a2 : 0 ≤ kd
              · by_cases a3 : (g : Int) < r
                · obtain ⟨z1, z2⟩ := HD.out.1.1 ⟨a0, a1, a2, a3⟩
                  have e1 : IntKind.u32.wrap ((g : Int) + 1) = (r : Int) := by
                    rw [IntKind.wrap_u32]
                    omega
                  have G2 := G1 r z2.symm
                  clear z1 z2 G1 HD HP2 HB
                  go_wp2_with fail
                  go_roundw
                  case rel => exact ⟨i + 1, r, by omega, by go_num, rfl, G2⟩
                  case measure =>
                    unfold leftN
                    simp [intOf]
                    omega
                · have z2 := HD.out.1.2 (fun q => a3 q.2.2.2)
                  have G2 := G1 g z2.symm
                  clear z2 G1 HD HP2 HB
                  go_wp2_with fail
                  go_roundw
                  case rel => exact ⟨i + 1, g, by omega, by go_num, rfl, G2⟩
                  case measure =>
                    unfold leftN
                    simp [intOf]
                    omega
              · have z2 := HD.out.1.2 (fun q => a2 q.2.2.1)
                have G2 := G1 g z2.symm
                clear z2 G1 HD HP2 HB
                go_wp2_with fail
                go_roundw
                case rel => exact ⟨i + 1, g, by omega, by go_num, rfl, G2⟩
                case measure =>
                  unfold leftN
                  simp [intOf]
                  omega
            · have z2 := HD.out.1.2 (fun q => a1 q.2.1)
              have G2 := G1 g z2.symm
              clear z2 G1 HD HP2 HB
              go_wp2_with fail
              go_roundw
              case rel => exact ⟨i + 1, g, by omega, by go_num, rfl, G2⟩
              case measure =>
                unfold leftN
                simp [intOf]
                omega
          · have z2 := HD.out.1.2 (fun q => a0 q.1)
            have G2 := G1 g z2.symm
            clear z2 G1 HD HP2 HB
            go_wp2_with fail
            go_roundw
            case rel => exact ⟨i + 1, g, by omega, by go_num, rfl, G2⟩
            case measure =>
              unfold leftN
              simp [intOf]
              omega
        · obtain rfl : k = i := by omega
          have r1 : ¬ (k : Int) < k := by omega
          obtain ⟨t, hP, hg, hs⟩ := G.out.ex
          have hGd := hP.good
          have hfew := hGd.few
          have hf1 := fst_lst t.sv
          obtain ⟨m, hm⟩ : ∃ m, m = g + 2 + p % 1000 := ⟨_, rfl⟩
          have hm4 : m < 4294967296 := by omega
          have hpm : (p : Int) % 1000 = ((p % 1000 : Nat) : Int) := by omega
          obtain ⟨z2, hz1, hz2⟩ : ∃ z2 : Int, IntKind.u32.wrap ((g : Int) + 2) = z2 ∧ IntKind.u32.wrap (z2 + (p : Int) % 1000) = (m : Int) := by
            refine ⟨_, rfl, ?_⟩
            rw [IntKind.wrap_u32, IntKind.wrap_u32]
            omega
          obtain ⟨hfar, hno⟩ := tak_far (m := m) hGd (by omega) (by omega)
          have C := Lib.hid (take_any (n := m) hP (by omega) hm4)
          rw [hfar] at C
          simp only at C
          have HB := Lib.hid G.out.below
          have HNO := Lib.hid hno
          have H256 := hGd.lv256
          clear hP hg hs hGd hfew hf1 hfar hno G hm hpm
          go_wp2_with fail
          refine C.out.mono ?_
          rintro e w2 ⟨rfl, hP2, hT2⟩
          replace HB := Lib.hid (hT2.below HB.out)
          have K := Lib.hid (count_tab hP2)
          have LV := Lib.hid (live_tab hP2 hm4)
          rw [decide_eq_false HNO.out] at LV
          have E := Lib.hid (example_any w2 (hT.below HB.out))
          clear hP2 hT2 C HNO hz1 hz2
          by_cases hfull : 256 ≤ t.lv.length
          · rw [if_pos hfull]
            have h256 : t.lv.length = 256 := by omega
            rw [h256] at K
            clear hfull H256 h256
            go_wp2_with fail
            refine K.out.mono ?_
            rintro e w3 ⟨rfl, rfl⟩
            go_wp2_with fail
            refine LV.out.mono ?_
            rintro e w3 ⟨rfl, rfl⟩
            go_wp2_with fail
            refine E.out.mono ?_
            rintro e w3 ⟨rfl, hb⟩
            go_wp2_with fail
            go_ret
            exact ⟨rfl, Below.next HB.out hb⟩
          · rw [if_neg hfull]
            clear hfull H256 K
            go_wp2_with fail
            refine LV.out.mono ?_
            rintro e w3 ⟨rfl, rfl⟩
            go_wp2_with fail
            refine E.out.mono ?_
            rintro e w3 ⟨rfl, hb⟩
            go_wp2_with fail
            go_ret
            exact ⟨rfl, Below.next HB.out hb⟩

end Go.Proofs.YtnefcmikeeadhaaDoor
