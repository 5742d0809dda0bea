/-
  Release and Confirm of the table.
-/
import Derived.Test.YtnefcmikeeadhaaDoorCal
namespace Go.Proofs.YtnefcmikeeadhaaDoor
open Go.RowKit

set_option maxRecDepth 40000 in
set_option maxHeartbeats 1000000 in
theorem release_any {base : Nat} {w : World} {v : Value} {t : Tb} {c n : Nat} (h : TabP base w v t c) (hc : c ≤ 1400) (hn : n < 4294967296) :
    Calls Tryd.prog 21 #[v, .int .u32 (n : Int)] w fun e w' => e = .returned (.int .i64 (relT t n).2) ∧ TabP base w' v (relT t n).1 (c + 1) ∧ Turn base w w' := by
  have HP := Lib.hid (h.more (Nat.le_succ c))
  obtain ⟨k, bl, br, V, L, g, rfl, hM, hg, hL, hG⟩ := h
  have C1 := Lib.hid (created_any hM)
  have hT := Turn.refl base w
  have c3 := hM.c3
  have l1 := hM.ml.look hn
  unfold relT
  by_cases hm : n ∈ t.lv
  · rw [if_pos hm]
    simp only
    rw [decide_eq_true hm] at l1
    have hno : n ∉ t.rl := hG.dis n hm
    have hrl : t.rl.length ≤ 100000 := by have := hG.rlc; omega
    have HM := Lib.hid hM
    have HD := Lib.hid (And.intro hg (And.intro (hL.iff (free_rel hm)) (good_rel hG hm)))
    clear hM hL hG hg HP hT
    go_enter Tryd.func21, Tryd.ntmps21
    go_wp2_with fail
    refine C1.out.mono ?_
    rintro e w1 ⟨rfl, rfl⟩
    go_wp2_with (first
      | (at_delete; refine wpList_delU rfl _ _ rfl rfl HM.out.ml rfl hn ?_; intro w1 hm1 hg1; obtain ⟨h2, t2⟩ := HM.out.live hg1 hm1; have c4 := h2.c4; have HM2 := Lib.hid h2; have T2 := Lib.hid t2; clear h2 t2 hm1 hg1)
      | (at_mapUpdate; refine wpList_putU rfl _ _ _ rfl rfl HM2.out.mr rfl rfl hn hno hrl ?_; intro w2 hm2 hg2; obtain ⟨h3, t3⟩ := HM2.out.rels hg2 hm2; have HM3 := Lib.hid h3; have T3 := Lib.hid t3; clear h3 t3 hm2 hg2))
    go_ret
    exact ⟨rfl, ⟨k, bl, br, V, L, g, rfl, HM3.out, HD.out⟩, T2.out.trans T3.out⟩
  · rw [if_neg hm]
    simp only
    rw [decide_eq_false hm] at l1
    clear hM hL hG hg
    go_enter Tryd.func21, Tryd.ntmps21
    go_wp2_with fail
    refine C1.out.mono ?_
    rintro e w1 ⟨rfl, rfl⟩
    go_wp2_with fail
    go_ret
    exact ⟨rfl, HP.out, hT⟩

set_option maxRecDepth 40000 in
set_option maxHeartbeats 1000000 in
theorem confirm_any {base : Nat} {w : World} {v : Value} {t : Tb} {c n : Nat} (h : TabP base w v t c) (hc : c ≤ 1400) (hn : n < 4294967296) :
    Calls Tryd.prog 22 #[v, .int .u32 (n : Int)] w fun e w' => e = .returned (.int .i64 (conT t n).2) ∧ TabP base w' v (conT t n).1 (c + 1) ∧ Turn base w w' := by
  have HP := Lib.hid (h.more (Nat.le_succ c))
  obtain ⟨k, bl, br, V, L, g, rfl, hM, hg, hL, hG⟩ := h
  have C1 := Lib.hid (created_any hM)
  have hT := Turn.refl base w
  have c4 := hM.c4
  have l1 := hM.mr.look hn
  unfold conT
  by_cases hm : n ∈ t.rl
  · rw [if_pos hm]
    simp only
    rw [decide_eq_true hm] at l1
    have hfew := hG.few
    have hr := hG.rlr n hm
    have HM := Lib.hid hM
    have HD := Lib.hid (And.intro hg (good_con (n := n) hG))
    have HF := Lib.hid (fun m => free_con hG hm m)
    have e1 : IntKind.u32.wrap ((n : Int) - (fstN t.sv : Int)) = ((n - fstN t.sv : Nat) : Int) := by
      rw [IntKind.wrap_u32]
      omega
    have C2 : ∀ (W : World) (V : Nat → Value) (hs : SetP W base k V L) (hb : base ≤ W.heap.size), Hid (Calls Tryd.prog 32 #[.pointer (some ⟨k, 5, none⟩), .int .u32 ((n - fstN t.sv : Nat) : Int)] W fun e w' => (∃ v, e = .returned v) ∧ ∃ V' L', SetP w' base k V' L' ∧ Levs (fun m => freeT t m ∨ m = n - fstN t.sv) L' ∧ STurn base k W w') :=
      fun W V hs hb => Lib.hid (add_any hs hb hL (by omega))
    generalize hf : fstN t.sv = f at *
    generalize n - f = d at *
    clear hM hL hG hg HP hT hr hfew
    go_enter Tryd.func22, Tryd.ntmps22
    go_wp2_with fail
    refine C1.out.mono ?_
    rintro e w1 ⟨rfl, rfl⟩
    go_wp2_with (at_delete; refine wpList_delU rfl _ _ rfl rfl HM.out.mr rfl hn ?_; intro w1 hm1 hg1; obtain ⟨h2, t2⟩ := HM.out.rels hg1 hm1; have c0 := h2.c0; have HM2 := Lib.hid h2; have T2 := Lib.hid t2; have hk := h2.set.ty.lt; have HE := Lib.hid (h2.below (Below.refl _ _).drew); clear h2 t2 hm1 hg1; go_frame)
    go_region_with (go_at_call 32; refine (C2 _ V (by first | exact HM2.out.set | exact HE.out.set) (by first | exact HM2.out.bs | exact HE.out.bs)).out.mono ?_; rintro e w2 ⟨⟨vv, rfl⟩, V', L', hs1, hl1, ht1⟩)
    all_goals
      obtain ⟨h3, t3⟩ := HE.out.setm hs1 ht1
      have Z := Lib.hid (And.intro h3 (And.intro (T2.out.trans ((Turn.of_below (Below.refl _ _).drew HM2.out.bs).trans t3)) hl1))
      clear h3 t3 hs1 hl1 ht1 C2 c0 c4 HE
      go_wp2_with fail
      go_ret
      subst hf
      exact ⟨rfl, ⟨k, bl, br, V', L', g, rfl, Z.out.1, HD.out.1, Z.out.2.2.iff HF.out, HD.out.2⟩, Z.out.2.1⟩
  · rw [if_neg hm]
    simp only
    rw [decide_eq_false hm] at l1
    clear hM hL hG hg
    go_enter Tryd.func22, Tryd.ntmps22
    go_wp2_with fail
    refine C1.out.mono ?_
    rintro e w1 ⟨rfl, rfl⟩
    go_wp2_with fail
    go_ret
    exact ⟨rfl, HP.out, hT⟩

end Go.Proofs.YtnefcmikeeadhaaDoor
