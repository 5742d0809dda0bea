/-
  The law IdentUnique.
-/
import Derived.Test.YtnefcmikeeadhaaDoorRws
import Derived.Test.YtnefcmikeeadhaaDoorOps
namespace Go.Proofs.YtnefcmikeeadhaaDoor
open Go.RowKit

theorem OwnU.len {w : World} {base : Nat} {A : Option Addr} {n c : Nat} {l : List Nat} (h : OwnU w base (.slice A n c) l) : n = l.length := by
  obtain ⟨A', c', hv, _⟩ := h.us.shape
  injection hv
theorem OwnU.shape {w : World} {base : Nat} {v : Value} {l : List Nat} (h : OwnU w base v l) : ∃ A c, v = .slice A l.length c := by
  obtain ⟨A, c, hv, _⟩ := h.us.shape
  exact ⟨A, c, hv⟩

set_option maxRecDepth 100000 in
set_option maxHeartbeats 4000000 in
theorem unique_walk (s : Bool) (u : Value) (l : List (Int × Nat)) (w : World) (hT : Tab w) (hO : Opv w u l) : Calls Tryd.prog 4 #[.bool s, u] w (Says true w) := by
  obtain ⟨A, cap, rfl, h1, h2, h3, h4⟩ := hO
  simp only [maxLen] at h2
  by_cases hk : 400 < l.length
  · have E := Lib.hid (example_any w hT)
    have q : (400 : Int) < l.length := by omega
    generalize l.length = k at *
    clear h3 h4
    go_enter Tryd.func4, Tryd.ntmps4
    go_wp2_with fail
    refine E.out.mono ?_
    rintro e w2 ⟨rfl, hb⟩
    go_wp2_with fail
    go_ret
    exact ⟨rfl, hb⟩
  · have q : ¬ (400 : Int) < l.length := by omega
    have C1 := Lib.hid (new_any s w hT)
    have HC := Lib.hid (And.intro h3 h4)
    obtain ⟨k, hkl⟩ : ∃ k, l.length = k := ⟨_, rfl⟩
    have HK := Lib.hid hkl
    rw [hkl] at q h1 hk ⊢
    clear h3 h4 hkl
    go_enter Tryd.func4, Tryd.ntmps4
    go_wp2_with fail
    refine C1.out.mono ?_
    rintro e w1 ⟨v, rfl, hP, hb⟩
    obtain ⟨kb, rfl⟩ := hP.ptr
    have hs : (newT s).sv = s := by cases s <;> rfl
    have R0 : Hid (Rws w (.pointer (some ⟨kb, 0, none⟩)) (newT s) 0 (.slice none 0 0) (newT s).lv (.slice none 0 0) (newT s).rl w1 ∧ (newT s).sv = s) := Lib.hid ⟨⟨hP, by
      have : (newT s).lv = [] := by cases s <;> rfl
      rw [this]
      exact ownU_nil _ _, by
      have : (newT s).rl = [] := by cases s <;> rfl
      rw [this]
      exact ownU_nil _ _, fun g e => (by cases e), hb⟩, hs⟩
    clear hP hb C1 hs
    go_wp2_with fail
    go_loopw [6, 7, 20] (fun s6 s7 s20 wr => ∃ (i : Nat) (t : Tb) (A1 : Option Addr) (n1 c1 : Nat) (A2 : Option Addr) (n2 c2 : Nat), i ≤ k ∧ s20 = .int .i64 (i : Int) ∧ s6 = .slice A1 n1 c1 ∧ s7 = .slice A2 n2 c2 ∧ Hid (Rws w (.pointer (some ⟨kb, 0, none⟩)) t i (.slice A1 n1 c1) t.lv (.slice A2 n2 c2) t.rl wr ∧ t.sv = s)) (fun _ _ s20 _ => leftN k s20)
    case atStart => exact ⟨0, _, _, _, _, _, _, _, Nat.zero_le _, rfl, rfl, rfl, R0⟩
    case round =>
      obtain ⟨i, t, A1, n1, c1, A2, n2, c2, hi, rfl, rfl, rfl, G⟩ := hrel
      by_cases hlt : i < k
      · have r0 : (0 : Int) ≤ i := by omega
        have r1 : (i : Int) < k := by omega
        obtain ⟨o, ho⟩ : ∃ o, l[i]? = some o := ⟨_, List.getElem?_eq_getElem (by rw [HK.out]; exact hlt)⟩
        obtain ⟨b, off, rfl, hbb, hcs⟩ := HC.out.2 (by rw [HK.out]; omega)
        have hn := HC.out.1 o (List.mem_of_getElem? ho)
        obtain ⟨c0, d0'⟩ := hcs i o ho
        clear hcs ho
        have d0 := (G.out.1.below.cell (p := ⟨b, off + i * 2, none⟩) hbb).trans c0
        have d1 := (G.out.1.below.cell (p := ⟨b, off + i * 2 + 1, none⟩) hbb).trans d0'
        have hGd := G.out.1.tab.good
        have C := Lib.hid (do_any (kd := o.1) G.out.1.tab (by omega) hn)
        have D := fun h0 => do_parts (n := o.2) (kd := o.1) hGd h0
        have DN := fun h0 => do_no (t := t) (n := o.2) (kd := o.1) h0
        have DS := do_side (t := t) (n := o.2) (kd := o.1)
        have hr4 := do_u32 (n := o.2) (kd := o.1) hGd (by omega) hn
        obtain ⟨kd, n⟩ := o
        simp only at c0 d0' d0 d1 C D DN DS hr4 hn
        have hfew := hGd.few
        have hf1 := fst_lst t.sv
        have hf2 := fst_pos t.sv
        have hlv := hGd.lvc
        have hrl := hGd.rlc
        generalize (doT t kd n).2.1 = r at *
        generalize (doT t kd n).2.2 = er at *
        generalize (doT t kd n).1 = t2 at *
        have en1 := G.out.1.own1.len
        have en2 := G.out.1.own2.len
        have HG := G
        have HC0 := Lib.hid c0
        have HDD := Lib.hid (And.intro D (And.intro DN DS))
        have HFF := Lib.hid (And.intro hfew (And.intro hf1 (And.intro hf2 (And.intro hlv (And.intro hrl (And.intro en1 en2))))))
        clear hGd D DN DS hfew hf1 hf2 hlv hrl G c0 d0' en1 en2
        go_wp2_with fail
        refine C.out.mono ?_
        rintro e w2 ⟨rfl, hP2, hT2⟩
        have R2 := Lib.hid (HG.out.1.turn hP2 hT2)
        clear d0 d1 hP2 hT2 C
        have d0 := (R2.out.below.cell (p := ⟨b, off + i * 2, none⟩) hbb).trans HC0.out
        by_cases a0 : er = 0
        · have H1 := fun m => Lib.hid (lhas_any (n := m) R2.out.own1.us)
          have H2 := fun m => Lib.hid (lhas_any (n := m) R2.out.own2.us)
          obtain ⟨hfew, hf1, hf2, hlv, hrl, en1, en2⟩ := HFF.out
          rcases HDD.out.1 a0 with ⟨hkd, ht2, hm1, hm2, hl2, hlo, hhi⟩ | ⟨hkd, hm1, ht2, hr⟩ | ⟨k0, k1, k2, hm1, ht2, hr⟩
          · have z1 : ¬ (r : Int) = 0 := by omega
            have z3 : ¬ (256 : Int) ≤ n1 := by omega
            have hlen := Lib.hid (show t.lv.length + [r].length ≤ 4000000 by simp; omega)
            obtain ⟨m1, hm1'⟩ : ∃ m, (t.lv ++ [r]).length = m := ⟨_, rfl⟩
            have hl3 := Lib.hid hm1'
            clear hm1'
            have hsd := HG.out.2
            have HP1 := Lib.hid (H1 r).out
            have HP2 := Lib.hid (H2 r).out
            rw [decide_eq_false hm1] at HP1
            rw [decide_eq_false hm2] at HP2
            have hZ : Hid (t2.lv = t.lv ++ [r] ∧ t2.rl = t.rl ∧ t2.sv = s ∧ t.lv.length = n1) := Lib.hid ⟨by rw [ht2]; rfl, by rw [ht2]; rfl, by rw [ht2]; exact hsd, en1.symm⟩
            have hs3 : (s = true → (4278190080 : Int) ≤ r) ∧ (s = false → ¬ (4278190080 : Int) ≤ r) := by
              subst hsd
              obtain ⟨sv, lg, lvv, rll⟩ := t
              constructor
              · intro e
                simp only at e
                subst e
                simp only [fstN, if_true] at hlo
                omega
              · intro e
                simp only at e
                subst e
                simp only [fstN, lstN, Bool.false_eq_true, if_false] at hfew hf1 hhi
                omega
            have b1 : ((r : Int) == 0) = false := beq_eq_false_iff_ne.2 z1
            have b3 : decide ((256 : Int) ≤ n1) = false := decide_eq_false z3
            clear hfew hf1 hf2 hlv hrl en1 en2 hm1 hm2 hl2 hlo hhi ht2 HDD HFF H1 H2 hsd
            have hk2 : kd = 0 ∨ kd = 1 := hkd
            cases s
            all_goals
              first
                | have z4 := hs3.1 rfl
                | have z4 := hs3.2 rfl
              first
                | have b4 : decide ((4278190080 : Int) ≤ (r : Int)) = true := decide_eq_true (by omega)
                | have b4 : decide ((4278190080 : Int) ≤ (r : Int)) = false := decide_eq_false (by omega)
              clear hs3 hkd
              rcases hk2 with rfl | rfl
              all_goals
                go_wp2_with (first
                  | (go_at_call 17; (with_reducible refine HP1.out.mono ?_); rintro e w3 ⟨rfl, rfl⟩; clear HP1)
                  | (go_at_call 17; (with_reducible refine HP2.out.mono ?_); rintro e w3 ⟨rfl, rfl⟩)
                  | (at_builtin; refine wpList_appU rfl _ _ rfl (base := w.heap.size) (l := t.lv) (m := [r]) rfl (World.ownsRow.alloc R2.out.own1 _) rfl (us_one _ r) hlen.out (by have := R2.out.below.size; rw [World.size_alloc]; omega) ?_; intro v3 w3 ho hg hl _; have R3 := Lib.hid (R2.out.app1 _ ho hg hl); obtain ⟨A3, c3, hv3⟩ := ho.shape; rw [hl3.out] at hv3; subst hv3; clear ho hg hl))
                all_goals
                  have R := Lib.hid (show Rws w (.pointer (some ⟨kb, 0, none⟩)) t2 (i + 1) (.slice A3 m1 c3) t2.lv (.slice A2 n2 c2) t2.rl w3 ∧ t2.sv = _ from ⟨by rw [hZ.out.1, hZ.out.2.1]; exact R3.out, hZ.out.2.2.1⟩)
                  have HM1 := Lib.hid (show t2.lv.length = m1 by rw [hZ.out.1]; exact hl3.out)
                  clear R3 R2 HG hl3 hlen HP2 b1 b3 b4 z1 z3 z4 hZ
                  have K := Lib.hid (count_tab R.out.1.tab)
                  have LV := Lib.hid (live_tab R.out.1.tab hr4)
                  have HL := Lib.hid (lhas_any (n := r) R.out.1.own1.us)
                  rw [HM1.out] at K
                  go_wp2_with fail
                  refine K.out.mono ?_
                  rintro e w9 ⟨rfl, rfl⟩
                  clear K
                  go_wp2_with fail
                  refine LV.out.mono ?_
                  rintro e w9 ⟨rfl, rfl⟩
                  clear LV
                  go_wp2_with fail
                  refine HL.out.mono ?_
                  rintro e w9 ⟨rfl, rfl⟩
                  clear HL
                  go_wp2_with fail
                  go_roundw
                  case rel => exact ⟨i + 1, t2, _, _, _, _, _, _, by omega, by go_num, rfl, rfl, R⟩
                  case measure =>
                    unfold leftN
                    simp [intOf]
                    omega
          · subst hr
            have HP1 := Lib.hid (H1 r).out
            rw [decide_eq_true hm1] at HP1
            have HW := Lib.hid (lwithout_any (n := r) R2.out.own1.us (by omega))
            have hlen := Lib.hid (show t.rl.length + [r].length ≤ 4000000 by simp; omega)
            obtain ⟨m1, hm1'⟩ : ∃ m, (wouN t.lv r).length = m := ⟨_, rfl⟩
            have hl3 := Lib.hid hm1'
            obtain ⟨m2, hm2'⟩ : ∃ m, (t.rl ++ [r]).length = m := ⟨_, rfl⟩
            have hl4 := Lib.hid hm2'
            have hsd := HG.out.2
            have hZ : Hid (t2.lv = wouN t.lv r ∧ t2.rl = t.rl ++ [r] ∧ t2.sv = s) := Lib.hid ⟨by rw [ht2], by rw [ht2], by rw [ht2]; exact hsd⟩
            have hk0 : kd = 2 := hkd
            subst hk0
            clear hm1' hm2' hfew hf1 hf2 hlv hrl en1 en2 hm1 ht2 HDD HFF H1 H2 hsd
            go_wp2_with (first
              | (go_at_call 17; (with_reducible refine HP1.out.mono ?_); rintro e w3 ⟨rfl, rfl⟩; clear HP1)
              | (go_at_call 18; (with_reducible refine HW.out.mono ?_); rintro e w3 ⟨u3, rfl, ho, hb⟩; have R3 := Lib.hid (R2.out.new1 ho hb); obtain ⟨A3, c3, hv3⟩ := ho.shape; rw [hl3.out] at hv3; subst hv3; clear ho hb HW)
              | (at_builtin; refine wpList_appU rfl _ _ rfl (base := w.heap.size) (l := t.rl) (m := [r]) rfl (World.ownsRow.alloc R3.out.own2 _) rfl (us_one _ r) hlen.out (by have := R3.out.below.size; rw [World.size_alloc]; omega) ?_; intro v4 w4 ho hg hl _; have R4 := Lib.hid (R3.out.app2 _ ho hg hl); obtain ⟨A4, c4, hv4⟩ := ho.shape; rw [hl4.out] at hv4; subst hv4; clear ho hg hl))
            have R := Lib.hid (show Rws w (.pointer (some ⟨kb, 0, none⟩)) t2 (i + 1) (.slice A3 m1 c3) t2.lv (.slice A4 m2 c4) t2.rl w4 ∧ t2.sv = s from ⟨by rw [hZ.out.1, hZ.out.2.1]; exact R4.out, hZ.out.2.2⟩)
            have HM1 := Lib.hid (show t2.lv.length = m1 by rw [hZ.out.1]; exact hl3.out)
            clear R4 R3 R2 HG hl3 hl4 hlen hZ
            have K := Lib.hid (count_tab R.out.1.tab)
            have LV := Lib.hid (live_tab R.out.1.tab hr4)
            have HL := Lib.hid (lhas_any (n := r) R.out.1.own1.us)
            rw [HM1.out] at K
            go_wp2_with fail
            refine K.out.mono ?_
            rintro e w9 ⟨rfl, rfl⟩
            clear K
            go_wp2_with fail
            refine LV.out.mono ?_
            rintro e w9 ⟨rfl, rfl⟩
            clear LV
            go_wp2_with fail
            refine HL.out.mono ?_
            rintro e w9 ⟨rfl, rfl⟩
            clear HL
            go_wp2_with fail
            go_roundw
            case rel => exact ⟨i + 1, t2, _, _, _, _, _, _, by omega, by go_num, rfl, rfl, R⟩
            case measure =>
              unfold leftN
              simp [intOf]
              omega
          · subst hr
            have HP2 := Lib.hid (H2 r).out
            rw [decide_eq_true hm1] at HP2
            have HW := Lib.hid (lwithout_any (n := r) R2.out.own2.us (by omega))
            obtain ⟨m2, hm2'⟩ : ∃ m, (wouN t.rl r).length = m := ⟨_, rfl⟩
            have hl4 := Lib.hid hm2'
            have hsd := HG.out.2
            have hZ : Hid (t2.lv = t.lv ∧ t2.rl = wouN t.rl r ∧ t2.sv = s ∧ t.lv.length = n1) := Lib.hid ⟨by rw [ht2], by rw [ht2], by rw [ht2]; exact hsd, en1.symm⟩
            clear hm2' hfew hf1 hf2 hlv hrl en1 en2 hm1 ht2 HDD HFF H1 H2 hsd
            go_wp2_with (first
              | (go_at_call 17; (with_reducible refine HP2.out.mono ?_); rintro e w3 ⟨rfl, rfl⟩; clear HP2)
              | (go_at_call 18; (with_reducible refine HW.out.mono ?_); rintro e w3 ⟨u3, rfl, ho, hb⟩; have R3 := Lib.hid (R2.out.new2 ho hb); obtain ⟨A3, c3, hv3⟩ := ho.shape; rw [hl4.out] at hv3; subst hv3; clear ho hb HW))
            have R := Lib.hid (show Rws w (.pointer (some ⟨kb, 0, none⟩)) t2 (i + 1) (.slice A1 n1 c1) t2.lv (.slice A3 m2 c3) t2.rl w3 ∧ t2.sv = s from ⟨by rw [hZ.out.1, hZ.out.2.1]; exact R3.out, hZ.out.2.2.1⟩)
            have HM1 := Lib.hid (show t2.lv.length = n1 by rw [hZ.out.1]; exact hZ.out.2.2.2)
            clear R3 R2 HG hl4 hZ
            have K := Lib.hid (count_tab R.out.1.tab)
            have LV := Lib.hid (live_tab R.out.1.tab hr4)
            have HL := Lib.hid (lhas_any (n := r) R.out.1.own1.us)
            rw [HM1.out] at K
            go_wp2_with fail
            refine K.out.mono ?_
            rintro e w9 ⟨rfl, rfl⟩
            clear K
            go_wp2_with fail
            refine LV.out.mono ?_
            rintro e w9 ⟨rfl, rfl⟩
            clear LV
            go_wp2_with fail
            refine HL.out.mono ?_
            rintro e w9 ⟨rfl, rfl⟩
            clear HL
            go_wp2_with fail
            go_roundw
            case rel => exact ⟨i + 1, t2, _, _, _, _, _, _, by omega, by go_num, rfl, rfl, R⟩
            case measure =>
              unfold leftN
              simp [intOf]
              omega
        · have ht2 := HDD.out.2.1 a0
          subst ht2
          have R := Lib.hid (And.intro R2.out HG.out.2)
          clear R2 HG HDD HFF
          go_wp2_with fail
          go_roundw
          case rel => exact ⟨i + 1, _, _, _, _, _, _, _, by omega, by go_num, rfl, rfl, R⟩
          case measure =>
            unfold leftN
            simp [intOf]
            omega
      · obtain rfl : k = i := by omega
        have r1 : ¬ (k : Int) < k := by omega
        have en2 := G.out.1.own2.len
        have hrl := G.out.1.tab.good.rlc
        have G1 := Lib.hid G.out.1
        have EN := Lib.hid en2
        clear G
        go_wp2_with fail
        go_loopw [106] (fun s106 wr => ∃ j : Nat, j ≤ n2 ∧ s106 = .int .i64 (j : Int) ∧ Hid (Rws w (.pointer (some ⟨kb, 0, none⟩)) t (k + j) (.slice A1 n1 c1) t.lv (.slice A2 n2 c2) t.rl wr)) (fun s106 _ => leftN n2 s106)
        case atStart => exact ⟨0, Nat.zero_le _, rfl, G1⟩
        case round =>
          obtain ⟨j, hj, rfl, R⟩ := hrel
          by_cases hlt2 : j < n2
          · have r2 : (0 : Int) ≤ j := by omega
            have r3 : (j : Int) < n2 := by omega
            obtain ⟨x, hx⟩ : ∃ x, t.rl[j]? = some x := ⟨_, List.getElem?_eq_getElem (by omega)⟩
            obtain ⟨A', cap', hv', hq1, hq2, hq4⟩ := R.out.own2.us
            injection hv' with hv1 hv2 hv3
            subst hv1 hv3
            obtain ⟨b2, off2, rfl, hbt, hcs2⟩ := hq4 (by omega)
            have d0 := hcs2 j x hx
            have hGd := R.out.tab.good
            obtain ⟨hx1, hx2, hx3⟩ := tak_rel hGd (by omega) (List.mem_of_getElem? hx)
            have LV := Lib.hid (live_tab R.out.tab hx3)
            rw [decide_eq_false hx2] at LV
            have CT := Lib.hid (take_any (n := x) R.out.tab (by omega) hx3)
            rw [hx1] at CT
            simp only [maxLen] at hq2
            have hq5 : n2 ≤ c2 := by omega
            clear hcs2 hq4 hx hx1 hx2 hGd hq1 hv2
            go_wp2_with fail
            refine LV.out.mono ?_
            rintro e w3 ⟨rfl, rfl⟩
            go_wp2_with fail
            refine CT.out.mono ?_
            rintro e w3 ⟨rfl, hP, hT2⟩
            have R2 : Hid (Rws w (.pointer (some ⟨kb, 0, none⟩)) t (k + (j + 1)) (.slice A1 n1 c1) t.lv (.slice (some ⟨b2, off2, none⟩) n2 c2) t.rl w3) := Lib.hid (R.out.turn hP hT2)
            clear hP hT2 R CT LV d0
            go_wp2_with fail
            go_roundw
            case rel => exact ⟨j + 1, by omega, by go_num, R2⟩
            case measure =>
              unfold leftN
              simp [intOf]
              omega
          · obtain rfl : n2 = j := by omega
            have r3 : ¬ (n2 : Int) < n2 := by omega
            have E := Lib.hid (example_any _ (hT.below R.out.below))
            have HB := Lib.hid R.out.below
            clear R
            go_wp2_with fail
            refine E.out.mono ?_
            rintro e w3 ⟨rfl, hb⟩
            go_wp2_with fail
            go_ret
            exact ⟨rfl, Below.next HB.out hb⟩

end Go.Proofs.YtnefcmikeeadhaaDoor
