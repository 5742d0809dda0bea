/-
  The calls of the table: Allocate, Take.
-/
import Derived.Test.YtnefcmikeeadhaaDoorWrt
namespace Go.Proofs.YtnefcmikeeadhaaDoor
open Go.RowKit

/-- the value v is the program's table t, behind c calls, in blocks from base on -/
def TabP (base : Nat) (w : World) (v : Value) (t : Tb) (c : Nat) : Prop :=
  ∃ k bl br V L g, v = .pointer (some ⟨k, 0, none⟩) ∧ TabM base w k bl br V L (fstN t.sv) (lstN t.sv) g t.lv t.rl ∧ (g : Int) = t.lg ∧ Levs (freeT t) L ∧ GoodT t c

theorem TabP.below {base : Nat} {w w' : World} {v : Value} {t : Tb} {c : Nat} (h : TabP base w v t c) (hb : Below w.heap.size w w') : TabP base w' v t c := by
  obtain ⟨k, bl, br, V, L, g, rfl, h1, h2, h3, h4⟩ := h
  exact ⟨k, bl, br, V, L, g, rfl, h1.below hb, h2, h3, h4⟩
theorem TabP.good {base : Nat} {w : World} {v : Value} {t : Tb} {c : Nat} (h : TabP base w v t c) : GoodT t c := by
  obtain ⟨k, bl, br, V, L, g, rfl, h1, h2, h3, h4⟩ := h
  exact h4
theorem TabP.more {base : Nat} {w : World} {v : Value} {t : Tb} {c d : Nat} (h : TabP base w v t c) (hd : c ≤ d) : TabP base w v t d := by
  obtain ⟨k, bl, br, V, L, g, rfl, h1, h2, h3, h4⟩ := h
  exact ⟨k, bl, br, V, L, g, rfl, h1, h2, h3, h4.more hd⟩
theorem TabP.bs {base : Nat} {w : World} {v : Value} {t : Tb} {c : Nat} (h : TabP base w v t c) : base ≤ w.heap.size := by
  obtain ⟨k, bl, br, V, L, g, rfl, h1, _⟩ := h
  exact h1.bs

theorem use_any {base : Nat} {w : World} {k bl br g : Nat} {V : Nat → Value} {L : Nat → List Nat} {t : Tb} {c n : Nat} (h : TabM base w k bl br V L (fstN t.sv) (lstN t.sv) g t.lv t.rl) (hg : (g : Int) = t.lg) (hL : Levs (freeT t) L) (hG : GoodT t c) (hc : c ≤ 1400)
    (hl : t.lv.length < 256) (h1 : n ∉ t.lv) (h2 : n ∉ t.rl) (hf : fstN t.sv ≤ n) (hle : (n : Int) ≤ t.lg + 1) :
    Calls Tryd.prog 30 #[.pointer (some ⟨k, 0, none⟩), .int .u32 (n : Int)] w fun e w' => (∃ v, e = .returned v) ∧ TabP base w' (.pointer (some ⟨k, 0, none⟩)) (usedT t n) (c + 1) ∧ Turn base w w' := by
  have hq := fst_lst t.sv
  have hfew := hG.few
  have hG2 := good_used hG hl h2 hf hle
  have hlv := h.ml.lt
  by_cases hlt : (n : Int) ≤ t.lg
  · have e : fstN t.sv + (n - fstN t.sv) = n := by omega
    refine (use_old (S := freeT t) h ⟨by rw [e]; exact hlt, by rw [e]; exact h1, by rw [e]; exact h2⟩ hL hf (by omega) (by omega) (by omega) h1 (by omega)).mono ?_
    rintro e1 w' ⟨hv, L', hM, hL', hT⟩
    refine ⟨hv, ⟨k, bl, br, V, L', g, rfl, hM, ?_, hL'.iff (free_old hlt hf), hG2⟩, hT⟩
    simp only [usedT]
    omega
  · refine (use_new h (by omega) (by omega) h1 (by omega)).mono ?_
    rintro e1 w' ⟨hv, hM, hT⟩
    refine ⟨hv, ⟨k, bl, br, V, L, n, rfl, hM, ?_, hL.iff (free_new (by omega)), hG2⟩, hT⟩
    simp only [usedT]
    omega

set_option maxRecDepth 40000 in
set_option maxHeartbeats 1000000 in
theorem alloc_any {base : Nat} {w : World} {v : Value} {t : Tb} {c : Nat} (h : TabP base w v t c) (hc : c ≤ 1400) :
    Calls Tryd.prog 20 #[v] w fun e w' => e = .returned (.tuple #[.int .u32 ((allT t).2.1 : Int), .int .i64 (allT t).2.2]) ∧ TabP base w' v (allT t).1 (c + 1) ∧ Turn base w w' := by
  have HP := Lib.hid h
  obtain ⟨k, bl, br, V, L, g, rfl, hM, hg, hL, hG⟩ := h
  have C1 := Lib.hid (created_any hM)
  have C2 := Lib.hid (sfree_any hM hg hL hG (by omega))
  have C3 := fun W (hb : Below w.heap.size w W) => Lib.hid (full_any (hM.below hb))
  have HT := fun W (hb : Below w.heap.size w W) => Lib.hid (Turn.of_below hb hM.bs)
  have HB := fun W (hb : Below w.heap.size w W) => Lib.hid ((HP.out.below hb).more (Nat.le_succ c))
  by_cases hf : 256 ≤ t.lv.length
  · have e : allT t = (t, 0, 5) := by unfold allT; rw [if_pos hf]
    rw [e]
    rw [decide_eq_true hf] at C3
    simp only
    clear hM hg hL hG e hf HP
    go_enter Tryd.func20, Tryd.ntmps20
    go_wp2_with fail
    refine C1.out.mono ?_
    rintro e w1 ⟨rfl, rfl⟩
    go_wp2_with fail
    refine C2.out.mono ?_
    rintro e w1 ⟨rfl, hb⟩
    go_wp2_with fail
    refine (C3 _ hb).out.mono ?_
    rintro e w2 ⟨rfl, rfl⟩
    go_wp2_with fail
    exact bodyPost_ret (v := .tuple #[.int .u32 0, .int .i64 5]) (by simp [results, Tryd.results20, go_sem]) rfl ⟨rfl, (HB _ hb).out, (HT _ hb).out⟩
  · have e : allT t = (usedT t (frsT t), frsT t, 0) := by unfold allT; rw [if_neg hf]
    rw [e]
    rw [decide_eq_false hf] at C3
    simp only
    obtain ⟨s1, s2, s3, _⟩ := frs_spec t
    have C4 := fun W (hb : Below w.heap.size w W) => Lib.hid (use_any (hM.below hb) hg hL hG hc (by omega) s1 s2 s3 (frs_le hG))
    generalize usedT t (frsT t) = t2 at *
    generalize frsT t = n at *
    clear hM hg hL hG e hf HP HB s1 s2 s3
    go_enter Tryd.func20, Tryd.ntmps20
    go_wp2_with fail
    refine C1.out.mono ?_
    rintro e w1 ⟨rfl, rfl⟩
    go_wp2_with fail
    refine C2.out.mono ?_
    rintro e w1 ⟨rfl, hb⟩
    go_wp2_with fail
    refine (C3 _ hb).out.mono ?_
    rintro e w2 ⟨rfl, rfl⟩
    go_wp2_with fail
    refine (C4 _ hb).out.mono ?_
    rintro e w2 ⟨⟨vv, rfl⟩, hP2, hT2⟩
    go_wp2_with fail
    exact bodyPost_ret (v := .tuple #[.int .u32 (n : Int), .int .i64 0]) (by simp [results, Tryd.results20, go_sem]) rfl ⟨rfl, hP2, (HT _ hb).out.trans hT2⟩

set_option maxRecDepth 40000 in
set_option maxHeartbeats 1000000 in
theorem take_any {base : Nat} {w : World} {v : Value} {t : Tb} {c n : Nat} (h : TabP base w v t c) (hc : c ≤ 1400) (hn : n < 4294967296) :
    Calls Tryd.prog 19 #[v, .int .u32 (n : Int)] w fun e w' => e = .returned (.int .i64 (takT t n).2) ∧ TabP base w' v (takT t n).1 (c + 1) ∧ Turn base w w' := by
  have HP := Lib.hid (h.more (Nat.le_succ c))
  obtain ⟨k, bl, br, V, L, g, rfl, hM, hg, hL, hG⟩ := h
  have C1 := Lib.hid (created_any hM)
  have C3 := Lib.hid (full_any hM)
  have hT := Turn.refl base w
  have c0 := hM.c0
  have c1 := hM.c1
  have c2 := hM.c2
  have c3 := hM.c3
  have c4 := hM.c4
  have l1 := hM.ml.look hn
  have l2 := hM.mr.look hn
  have hr : (n = 0 ∨ t.sv ≠ decide (4278190080 ≤ n)) ↔ (n < fstN t.sv ∨ lstN t.sv < n) := by
    cases t.sv
    · by_cases q : 4278190080 ≤ n <;> simp [q, fstN, lstN] <;> omega
    · by_cases q : 4278190080 ≤ n <;> simp [q, fstN, lstN] <;> omega
  unfold takT
  by_cases hA : n = 0 ∨ t.sv ≠ decide (4278190080 ≤ n)
  · rw [if_pos hA]
    simp only
    rw [hr] at hA
    generalize fstN t.sv = f at *
    generalize lstN t.sv = l at *
    generalize decide (n ∈ t.lv) = r1 at *
    generalize decide (n ∈ t.rl) = r2 at *
    clear hM hL hG C3 hr hg l1 l2
    by_cases hq : n < f
    · have q1 : (n : Int) < f := by omega
      go_enter Tryd.func19, Tryd.ntmps19
      go_wp2_with fail
      refine C1.out.mono ?_
      rintro e w1 ⟨rfl, rfl⟩
      go_wp2_with fail
      go_ret
      exact ⟨rfl, HP.out, hT⟩
    · have q1 : ¬ (n : Int) < f := by omega
      have q2 : (l : Int) < n := by omega
      go_enter Tryd.func19, Tryd.ntmps19
      go_wp2_with fail
      refine C1.out.mono ?_
      rintro e w1 ⟨rfl, rfl⟩
      go_wp2_with fail
      go_ret
      exact ⟨rfl, HP.out, hT⟩
  · rw [if_neg hA]
    rw [hr] at hA
    have q1 : ¬ (n : Int) < (fstN t.sv : Int) := by omega
    have q2 : ¬ (lstN t.sv : Int) < n := by omega
    have hf1 := fst_pos t.sv
    by_cases hB : n ∈ t.lv ∨ n ∈ t.rl
    · rw [if_pos hB]
      simp only
      by_cases hB1 : n ∈ t.lv
      · rw [decide_eq_true hB1] at l1
        generalize fstN t.sv = f at *
        generalize lstN t.sv = l at *
        generalize decide (n ∈ t.rl) = r2 at *
        clear hM hL hG C3 hr hg l2 hA hB hB1 hf1
        go_enter Tryd.func19, Tryd.ntmps19
        go_wp2_with fail
        refine C1.out.mono ?_
        rintro e w1 ⟨rfl, rfl⟩
        go_wp2_with fail
        go_ret
        exact ⟨rfl, HP.out, hT⟩
      · have hB2 : n ∈ t.rl := hB.resolve_left hB1
        rw [decide_eq_false hB1] at l1
        rw [decide_eq_true hB2] at l2
        generalize fstN t.sv = f at *
        generalize lstN t.sv = l at *
        clear hM hL hG C3 hr hg hA hB hB1 hB2 hf1
        go_enter Tryd.func19, Tryd.ntmps19
        go_wp2_with fail
        refine C1.out.mono ?_
        rintro e w1 ⟨rfl, rfl⟩
        go_wp2_with fail
        go_ret
        exact ⟨rfl, HP.out, hT⟩
    · rw [if_neg hB]
      rw [not_or] at hB
      rw [decide_eq_false hB.1] at l1
      rw [decide_eq_false hB.2] at l2
      by_cases hC : 256 ≤ t.lv.length
      · rw [if_pos hC]
        simp only
        rw [decide_eq_true hC] at C3
        generalize fstN t.sv = f at *
        generalize lstN t.sv = l at *
        clear hM hL hG hr hg hA hB hC hf1
        go_enter Tryd.func19, Tryd.ntmps19
        go_wp2_with fail
        refine C1.out.mono ?_
        rintro e w1 ⟨rfl, rfl⟩
        go_wp2_with fail
        refine C3.out.mono ?_
        rintro e w1 ⟨rfl, rfl⟩
        go_wp2_with fail
        go_ret
        exact ⟨rfl, HP.out, hT⟩
      · rw [if_neg hC]
        rw [decide_eq_false hC] at C3
        have e1 : IntKind.u32.wrap ((n : Int) - 1) = (n : Int) - 1 := by
          rw [IntKind.wrap_u32]
          omega
        by_cases hD : t.lg + 1 < n
        · rw [if_pos hD]
          simp only
          have q3 : (g : Int) < (n : Int) - 1 := by omega
          generalize fstN t.sv = f at *
          generalize lstN t.sv = l at *
          clear hM hL hG hr hg hA hB hC hf1 hD
          go_enter Tryd.func19, Tryd.ntmps19
          go_wp2_with fail
          refine C1.out.mono ?_
          rintro e w1 ⟨rfl, rfl⟩
          go_wp2_with fail
          refine C3.out.mono ?_
          rintro e w1 ⟨rfl, rfl⟩
          go_wp2_with fail
          go_ret
          exact ⟨rfl, HP.out, hT⟩
        · rw [if_neg hD]
          simp only
          have q3 : ¬ (g : Int) < (n : Int) - 1 := by omega
          have C4 := Lib.hid (use_any hM hg hL hG hc (by omega) hB.1 hB.2 (by omega) (by omega))
          generalize usedT t n = t2 at *
          generalize fstN t.sv = f at *
          generalize lstN t.sv = l at *
          clear hM hL hG hr hg hA hB hC hf1 hD
          go_enter Tryd.func19, Tryd.ntmps19
          go_wp2_with fail
          refine C1.out.mono ?_
          rintro e w1 ⟨rfl, rfl⟩
          go_wp2_with fail
          refine C3.out.mono ?_
          rintro e w1 ⟨rfl, rfl⟩
          go_wp2_with fail
          refine C4.out.mono ?_
          rintro e w2 ⟨⟨vv, rfl⟩, hP2, hT2⟩
          go_wp2_with fail
          go_ret
          exact ⟨rfl, hP2, hT2⟩

end Go.Proofs.YtnefcmikeeadhaaDoor
