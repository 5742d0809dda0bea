/-
  RegionAlgebra: what the law compares, and its walk.
-/
import Derived.Test.YtclnepijbnhdfaaLaws
import Derived.BigQuiet
import Derived.Deep.QuietTactic
namespace Go.Proofs.Ytclnepijbnhdfaa
open Go.RowKit

theorem comb_in {op : Op2} (h0 : op false false = false) (a b : List R) (x y : Int) : inL (combP op a b) x y = op (inL a x y) (inL b x y) :=
  region_in (combP_ok h0 a b) (setS_inside h0 a b) x y

/-- how many points a list has -/
def areaL (l : List R) : Int := sumP (combP orB l [])

theorem areaL_cnt (l : List R) : areaL l = cnt 32768 (-16384) (inL l) ∧ areaL l ≤ 1073741824 := by
  have h := region_area (combP_ok (op := orB) rfl l []) (setS_inside rfl l [])
  have e : setS orB l [] = inL l := by
    funext x y
    simp [setS, inL]
  rw [e] at h
  exact h

theorem areaL_bd (l : List R) : 0 ≤ areaL l ∧ areaL l ≤ 1073741824 := by
  have h := areaL_cnt l
  exact ⟨by rw [h.1]; exact (cnt_le _).1, h.2⟩

theorem areaL_add {k l m n : List R} (h : ∀ x y, one (inL k x y) + one (inL l x y) = one (inL m x y) + one (inL n x y)) : areaL k + areaL l = areaL m + areaL n := by
  rw [(areaL_cnt k).1, (areaL_cnt l).1, (areaL_cnt m).1, (areaL_cnt n).1]
  exact cnt_add h

theorem areaL_nil : areaL [] = 0 := by
  rw [(areaL_cnt []).1]
  exact cnt_none fun x y => rfl

abbrev andB : Op2 := fun x y => x && y
abbrev subB : Op2 := fun x y => x && !y

/-- what the law compares, of the union U, the intersection I and the difference D -/
structure Alg (a b U I D : List R) : Prop where
  inU : ∀ x y, inL U x y = (inL a x y || inL b x y)
  inI : ∀ x y, inL I x y = (inL a x y && inL b x y)
  inD : ∀ x y, inL D x y = (inL a x y && !inL b x y)
  sum : areaL U + areaL I = areaL a + areaL b
  dif : areaL D + areaL I = areaL a
  none : combP andB D b = []
  both : eqP (combP orB D I) a = true

theorem alg_ok (a b : List R) : Alg a b (combP orB a b) (combP andB a b) (combP subB a b) := by
  have hU := comb_in (op := orB) rfl a b
  have hI := comb_in (op := andB) rfl a b
  have hD := comb_in (op := subB) rfl a b
  refine ⟨hU, hI, hD, areaL_add fun x y => ?_, ?_, ?_, ?_⟩
  · rw [hU, hI]
    cases inL a x y <;> cases inL b x y <;> rfl
  · have := areaL_add (k := combP subB a b) (l := combP andB a b) (m := a) (n := []) fun x y => by
      rw [hD, hI]
      cases inL a x y <;> cases inL b x y <;> rfl
    rw [areaL_nil] at this
    omega
  · refine (region_none (combP_ok (op := andB) rfl _ b) (setS_inside rfl _ b)).2 fun x y => ?_
    unfold setS
    rw [hD]
    cases inL a x y <;> cases inL b x y <;> rfl
  · refine (eqP_iff _ _).2 fun x y => ?_
    rw [comb_in (op := orB) rfl, hD, hI]
    cases inL a x y <;> cases inL b x y <;> rfl

theorem code_cases (L : List R) : ((if L.length ≤ 256 then 0 else 5 : Int) = 0 ∧ (if L.length ≤ 256 then L else []) = L ∧ L.length ≤ 256) ∨ (if L.length ≤ 256 then 0 else 5 : Int) = 5 ∧ (if L.length ≤ 256 then L else []) = [] := by
  by_cases h : L.length ≤ 256
  · rw [if_pos h, if_pos h]; exact .inl ⟨rfl, rfl, h⟩
  · rw [if_neg h, if_neg h]; exact .inr ⟨rfl, rfl⟩

set_option maxRecDepth 100000 in
set_option maxHeartbeats 8000000 in
theorem algebra_walk {w : World} {va vb : Value} {a b : List R} (ha : Rs w va a) (hb : Rs w vb b) (x y : Int) : Calls Try.prog 7 #[va, vb, .agg #[.int .i64 x, .int .i64 y]] w (Says true w) := by
  have HA := Lib.hid ha
  have HB := Lib.hid hb
  have K : Hid (Below w.heap.size w (w.alloc (.cells #[.int .i64 x, .int .i64 y] 37))) := Lib.hid ((Below.refl _ _).alloc (Nat.le_refl _) _)
  obtain ⟨A, ca, rfl, hca, hma, jk1⟩ := ha
  obtain ⟨B, cb, rfl, hcb, hmb, jk2⟩ := hb
  obtain ⟨n, hn⟩ : ∃ n, a.length = n := ⟨_, rfl⟩
  obtain ⟨m, hm⟩ : ∃ m, b.length = m := ⟨_, rfl⟩
  have HN : Hid (a.length = n ∧ b.length = m) := Lib.hid ⟨hn, hm⟩
  simp only [maxLen] at hma hmb
  rw [hn] at hca HA ⊢
  rw [hm] at hcb HB ⊢
  clear jk1 jk2 hn hm
  by_cases h1 : 30 < n
  · have q0 : (30 : Int) < n := by omega
    go_enter Try.func7, Try.ntmps7
    go_wp2_with fail
    refine (example_any _).mono ?_
    rintro e w1 ⟨rfl, hb⟩
    have HB := Lib.hid (Below.next K.out hb)
    clear hb
    go_wp2_with fail
    go_ret
    exact ⟨rfl, HB.out⟩
  by_cases h2 : 30 < m
  · have q0 : (n : Int) ≤ 30 := by omega
    have q1 : (30 : Int) < m := by omega
    go_enter Try.func7, Try.ntmps7
    go_wp2_with fail
    refine (example_any _).mono ?_
    rintro e w1 ⟨rfl, hb⟩
    have HB := Lib.hid (Below.next K.out hb)
    clear hb
    go_wp2_with fail
    go_ret
    exact ⟨rfl, HB.out⟩
  have q0 : (n : Int) ≤ 30 := by omega
  have q1 : (m : Int) ≤ 30 := by omega
  have H30 : Hid (n ≤ 30 ∧ m ≤ 30) := Lib.hid ⟨by omega, by omega⟩
  have FA := Lib.hid (alg_ok a b)
  obtain ⟨U, hU⟩ : ∃ L, combP orB a b = L := ⟨_, rfl⟩
  obtain ⟨I, hI⟩ : ∃ L, combP andB a b = L := ⟨_, rfl⟩
  obtain ⟨D, hD⟩ : ∃ L, combP subB a b = L := ⟨_, rfl⟩
  rw [hU, hI, hD] at FA
  have CU := Lib.hid (code_cases U)
  have CI := Lib.hid (code_cases I)
  have CD := Lib.hid (code_cases D)
  obtain ⟨c1, hc1⟩ : ∃ cc, (if U.length ≤ 256 then 0 else 5 : Int) = cc := ⟨_, rfl⟩
  obtain ⟨M1, hM1⟩ : ∃ M, (if U.length ≤ 256 then U else []) = M := ⟨_, rfl⟩
  obtain ⟨c2, hc2⟩ : ∃ cc, (if I.length ≤ 256 then 0 else 5 : Int) = cc := ⟨_, rfl⟩
  obtain ⟨M2, hM2⟩ : ∃ M, (if I.length ≤ 256 then I else []) = M := ⟨_, rfl⟩
  obtain ⟨c3, hc3⟩ : ∃ cc, (if D.length ≤ 256 then 0 else 5 : Int) = cc := ⟨_, rfl⟩
  obtain ⟨M3, hM3⟩ : ∃ M, (if D.length ≤ 256 then D else []) = M := ⟨_, rfl⟩
  have C22 : ∀ W, Below w.heap.size w W → Hid (Calls Try.prog 22 #[.slice A n ca, .slice B m cb] W fun e w' => ∃ t, e = .returned (.tuple #[t, .int .i64 c1]) ∧ Rs w' t M1 ∧ Below W.heap.size W w') := fun W hW => Lib.hid ((union_any (HA.out.below hW) (HB.out.below hW) (by have := HN.out; omega)).mono fun e w' hh => lim_at hc1 hM1 (by rw [← hU]; exact hh))
  have C24 : ∀ W, Below w.heap.size w W → Hid (Calls Try.prog 24 #[.slice A n ca, .slice B m cb] W fun e w' => ∃ t, e = .returned (.tuple #[t, .int .i64 c2]) ∧ Rs w' t M2 ∧ Below W.heap.size W w') := fun W hW => Lib.hid ((inter_any (HA.out.below hW) (HB.out.below hW) (by have := HN.out; omega)).mono fun e w' hh => lim_at hc2 hM2 (by rw [← hI]; exact hh))
  have C26 : ∀ W, Below w.heap.size w W → Hid (Calls Try.prog 26 #[.slice A n ca, .slice B m cb] W fun e w' => ∃ t, e = .returned (.tuple #[t, .int .i64 c3]) ∧ Rs w' t M3 ∧ Below W.heap.size W w') := fun W hW => Lib.hid ((subt_any (HA.out.below hW) (HB.out.below hW) (by have := HN.out; omega)).mono fun e w' hh => lim_at hc3 hM3 (by rw [← hD]; exact hh))
  rw [hc1, hM1] at CU
  rw [hc2, hM2] at CI
  rw [hc3, hM3] at CD
  clear hc1 hM1 hc2 hM2 hc3 hM3 hU hI hD hma hmb hca hcb h1 h2
  go_enter Try.func7, Try.ntmps7
  go_wp2_with fail
  have p0 : World.cell? (w.alloc (.cells #[.int .i64 x, .int .i64 y] 37)) ⟨w.heap.size, 0, none⟩ = some (.int .i64 x) := by rw [World.cell?_alloc_at _ _ _ _ rfl]; rfl
  have p1 : World.cell? (w.alloc (.cells #[.int .i64 x, .int .i64 y] 37)) ⟨w.heap.size, 1, none⟩ = some (.int .i64 y) := by rw [World.cell?_alloc_at _ _ _ _ rfl]; rfl
  go_quiet (fail)
  replace K := Lib.hid (below_draws K.out nq)
  clear p0 p1
  generalize (w.alloc (.cells #[.int .i64 x, .int .i64 y] 37)).drewN nq = w0 at *
  go_wp2_with fail
  refine (C22 _ K.out).out.mono ?_
  rintro e w1 ⟨t1, rfl, r1, hb1⟩
  replace K := Lib.hid (Below.next K.out hb1)
  have R1 := Lib.hid r1
  clear r1 hb1 C22
  go_wp2_with fail
  refine (C24 _ K.out).out.mono ?_
  rintro e w2 ⟨t2, rfl, r2, hb2⟩
  replace K := Lib.hid (Below.next K.out hb2)
  replace R1 := Lib.hid (R1.out.below hb2)
  have R2 := Lib.hid r2
  clear r2 hb2 C24
  go_wp2_with fail
  refine (C26 _ K.out).out.mono ?_
  rintro e w3 ⟨t3, rfl, r3, hb3⟩
  replace K := Lib.hid (Below.next K.out hb3)
  replace R1 := Lib.hid (R1.out.below hb3)
  replace R2 := Lib.hid (R2.out.below hb3)
  have R3 := Lib.hid r3
  clear r3 hb3 C26
  rcases CU.out with ⟨e1, e1', l1⟩ | ⟨e1, e1'⟩
  rotate_left 1
  · subst e1
    clear e1' CU CI CD FA
    go_wp2_with fail
    refine (example_any _).mono ?_
    rintro e w4 ⟨rfl, hb⟩
    have HB := Lib.hid (Below.next K.out hb)
    clear hb
    go_wp2_with fail
    go_ret
    exact ⟨rfl, HB.out⟩
  rcases CI.out with ⟨e2, e2', l2⟩ | ⟨e2, e2'⟩
  rotate_left 1
  · subst e1 e2
    clear e1' e2' CU CI CD FA
    go_wp2_with fail
    refine (example_any _).mono ?_
    rintro e w4 ⟨rfl, hb⟩
    have HB := Lib.hid (Below.next K.out hb)
    clear hb
    go_wp2_with fail
    go_ret
    exact ⟨rfl, HB.out⟩
  rcases CD.out with ⟨e3, e3', l3⟩ | ⟨e3, e3'⟩
  rotate_left 1
  · subst e1 e2 e3
    clear e1' e2' e3' CU CI CD FA
    go_wp2_with fail
    refine (example_any _).mono ?_
    rintro e w4 ⟨rfl, hb⟩
    have HB := Lib.hid (Below.next K.out hb)
    clear hb
    go_wp2_with fail
    go_ret
    exact ⟨rfl, HB.out⟩
  have HL : Hid (U.length ≤ 256 ∧ I.length ≤ 256 ∧ D.length ≤ 256) := Lib.hid ⟨l1, l2, l3⟩
  rw [e1'] at R1
  rw [e2'] at R2
  rw [e3'] at R3
  subst e1 e2 e3
  clear CU CI CD l1 l2 l3 e1' e2' e3'
  have C16a : ∀ W, Below w.heap.size w W → Hid (Calls Try.prog 16 #[.slice A n ca, .int .i64 x, .int .i64 y] W fun e w' => e = .returned (.bool (inL a x y)) ∧ Below W.heap.size W w') := fun W hW => Lib.hid (incl_any (HA.out.below hW) x y)
  have C16b : ∀ W, Below w.heap.size w W → Hid (Calls Try.prog 16 #[.slice B m cb, .int .i64 x, .int .i64 y] W fun e w' => e = .returned (.bool (inL b x y)) ∧ Below W.heap.size W w') := fun W hW => Lib.hid (incl_any (HB.out.below hW) x y)
  have C16U : ∀ W, Below w3.heap.size w3 W → Hid (Calls Try.prog 16 #[t1, .int .i64 x, .int .i64 y] W fun e w' => e = .returned (.bool (inL a x y || inL b x y)) ∧ Below W.heap.size W w') := fun W hW => Lib.hid (by rw [← FA.out.inU]; exact incl_any (R1.out.below hW) x y)
  have C16I : ∀ W, Below w3.heap.size w3 W → Hid (Calls Try.prog 16 #[t2, .int .i64 x, .int .i64 y] W fun e w' => e = .returned (.bool (inL a x y && inL b x y)) ∧ Below W.heap.size W w') := fun W hW => Lib.hid (by rw [← FA.out.inI]; exact incl_any (R2.out.below hW) x y)
  have C16D : ∀ W, Below w3.heap.size w3 W → Hid (Calls Try.prog 16 #[t3, .int .i64 x, .int .i64 y] W fun e w' => e = .returned (.bool (inL a x y && !inL b x y)) ∧ Below W.heap.size W w') := fun W hW => Lib.hid (by rw [← FA.out.inD]; exact incl_any (R3.out.below hW) x y)
  have KW : Hid (Below w.heap.size w w3) := K
  have J : Hid (Below w3.heap.size w3 w3) := Lib.hid (Below.refl _ _)
  have C22 : ∀ W, Below w3.heap.size w3 W → Hid (Calls Try.prog 22 #[t3, t2] W (Lim (combP orB D I) W)) := fun W hW => Lib.hid (union_any (R3.out.below hW) (R2.out.below hW) (by have := HL.out; omega))
  have C24 : ∀ W, Below w3.heap.size w3 W → Hid (Calls Try.prog 24 #[t3, .slice B m cb] W fun e w' => ∃ A c, e = .returned (.tuple #[.slice A 0 c, .int .i64 0]) ∧ Below W.heap.size W w') := fun W hW => Lib.hid ((inter_any (R3.out.below hW) (HB.out.below (KW.out.trans (hW.mono KW.out.size))) (by have := HL.out; have := HN.out; omega)).mono fun e w' hh => by
    rw [FA.out.none] at hh
    obtain ⟨t, rfl, r, hb⟩ := lim_ok hh (by simp)
    obtain ⟨A, c, rfl, _, _⟩ := r.shape
    exact ⟨A, c, rfl, hb⟩)
  obtain ⟨aA, haA⟩ : ∃ z, areaL a = z := ⟨_, rfl⟩
  obtain ⟨aB, haB⟩ : ∃ z, areaL b = z := ⟨_, rfl⟩
  obtain ⟨aU, haU⟩ : ∃ z, areaL U = z := ⟨_, rfl⟩
  obtain ⟨aI, haI⟩ : ∃ z, areaL I = z := ⟨_, rfl⟩
  obtain ⟨aD, haD⟩ : ∃ z, areaL D = z := ⟨_, rfl⟩
  have C18a : ∀ W, Below w.heap.size w W → Hid (Calls Try.prog 18 #[.slice A n ca] W fun e w' => e = .returned (.int .i64 aA) ∧ Below W.heap.size W w') := fun W hW => Lib.hid (by rw [← haA]; exact areas_any (HA.out.below hW) (by have := HN.out; omega))
  have C18b : ∀ W, Below w.heap.size w W → Hid (Calls Try.prog 18 #[.slice B m cb] W fun e w' => e = .returned (.int .i64 aB) ∧ Below W.heap.size W w') := fun W hW => Lib.hid (by rw [← haB]; exact areas_any (HB.out.below hW) (by have := HN.out; omega))
  have C18U : ∀ W, Below w3.heap.size w3 W → Hid (Calls Try.prog 18 #[t1] W fun e w' => e = .returned (.int .i64 aU) ∧ Below W.heap.size W w') := fun W hW => Lib.hid (by rw [← haU]; exact areas_any (R1.out.below hW) (by have := HL.out; omega))
  have C18I : ∀ W, Below w3.heap.size w3 W → Hid (Calls Try.prog 18 #[t2] W fun e w' => e = .returned (.int .i64 aI) ∧ Below W.heap.size W w') := fun W hW => Lib.hid (by rw [← haI]; exact areas_any (R2.out.below hW) (by have := HL.out; omega))
  have C18D : ∀ W, Below w3.heap.size w3 W → Hid (Calls Try.prog 18 #[t3] W fun e w' => e = .returned (.int .i64 aD) ∧ Below W.heap.size W w') := fun W hW => Lib.hid (by rw [← haD]; exact areas_any (R3.out.below hW) (by have := HL.out; omega))
  have C28 : ∀ W u, Rs W u (combP orB D I) → Below w3.heap.size w3 W → (combP orB D I).length ≤ 256 → Hid (Calls Try.prog 28 #[u, .slice A n ca] W fun e w' => e = .returned (.bool true) ∧ Below W.heap.size W w') := fun W u hu hW hl => Lib.hid (by rw [← FA.out.both]; exact equals_any hu (HA.out.below (KW.out.trans (hW.mono KW.out.size))) (by have := HN.out; have := HL.out; omega))
  have q2 := areaL_bd a
  have q3 := areaL_bd b
  have q4 := areaL_bd U
  have q5 := areaL_bd I
  have q6 := areaL_bd D
  have s1 := FA.out.sum
  have s2 := FA.out.dif
  rw [haA] at q2 s1 s2
  rw [haB] at q3 s1
  rw [haU] at q4 s1
  rw [haI] at q5 s1 s2
  rw [haD] at q6 s2
  obtain ⟨zz, hzz⟩ : ∃ z, aA + aB = z := ⟨_, rfl⟩
  have f0 : IntKind.i64.wrap (aU + aI) = zz := (IntWalk.i64_in _ (by omega)).trans (by omega)
  have f1 : IntKind.i64.wrap (aA + aB) = zz := (IntWalk.i64_in _ (by omega)).trans (by omega)
  have f2 : IntKind.i64.wrap (aD + aI) = aA := (IntWalk.i64_in _ (by omega)).trans (by omega)
  have g0 : wrap64 (aU + aI) = zz := (IntWalk.wrap64_in _ ⟨by omega, by omega⟩).trans (by omega)
  have g1 : wrap64 (aA + aB) = zz := (IntWalk.wrap64_in _ ⟨by omega, by omega⟩).trans (by omega)
  have g2 : wrap64 (aD + aI) = aA := (IntWalk.wrap64_in _ ⟨by omega, by omega⟩).trans (by omega)
  have F := Lib.hid (And.intro g0 (And.intro g1 g2))
  clear haA haB haU haI haD q2 q3 q4 q5 q6 s1 s2 f0 f1 f2 g0 g1 g2 hzz FA R1 R2 R3 H30 HL
  generalize inL a x y = p at *
  generalize inL b x y = q at *
  go_wp2_with fail
  refine (C16a _ K.out).out.mono ?_
  rintro e w4 ⟨rfl, hb4⟩
  replace K := Lib.hid (Below.next K.out hb4)
  replace J := Lib.hid (Below.next J.out hb4)
  clear hb4
  go_wp2_with fail
  refine (C16b _ K.out).out.mono ?_
  rintro e w5 ⟨rfl, hb5⟩
  replace K := Lib.hid (Below.next K.out hb5)
  replace J := Lib.hid (Below.next J.out hb5)
  clear hb5 C16a C16b
  cases p <;> cases q
  all_goals
    simp only [Bool.or_true, Bool.or_false, Bool.and_true, Bool.and_false, Bool.not_true, Bool.not_false] at C16U C16I C16D
    go_wp2_with fail
    refine (C16U _ J.out).out.mono ?_
    rintro e w6 ⟨rfl, hb6⟩
    replace K := Lib.hid (Below.next K.out hb6)
    replace J := Lib.hid (Below.next J.out hb6)
    clear hb6
    go_wp2_with fail
    refine (C16I _ J.out).out.mono ?_
    rintro e w7 ⟨rfl, hb7⟩
    replace K := Lib.hid (Below.next K.out hb7)
    replace J := Lib.hid (Below.next J.out hb7)
    clear hb7
    go_wp2_with fail
    refine (C16D _ J.out).out.mono ?_
    rintro e w8 ⟨rfl, hb8⟩
    replace K := Lib.hid (Below.next K.out hb8)
    replace J := Lib.hid (Below.next J.out hb8)
    clear hb8 C16U C16I C16D
    go_wp2_with fail
    refine (C22 _ J.out).out.mono ?_
    rintro e w9 hL
    have CL := code_cases (combP orB D I)
    obtain ⟨t9, rfl, o9, hb9⟩ := hL
    replace K := Lib.hid (Below.next K.out hb9)
    replace J := Lib.hid (Below.next J.out hb9)
    rcases CL with ⟨e9, e9', l9⟩ | ⟨e9, e9'⟩
    · rw [e9'] at o9
      rw [e9]
      have O9 := Lib.hid o9.rs
      have L9 := Lib.hid l9
      clear e9 e9' o9 hb9 C22 l9
      go_wp2_with fail
      refine (C24 _ J.out).out.mono ?_
      rintro e w10 ⟨A10, c10, rfl, hb10⟩
      replace K := Lib.hid (Below.next K.out hb10)
      replace J := Lib.hid (Below.next J.out hb10)
      replace O9 := Lib.hid (O9.out.below hb10)
      clear hb10 C24
      go_wp2_with fail
      refine (C18U _ J.out).out.mono ?_
      rintro e wa0 ⟨rfl, hba⟩
      replace O9 := Lib.hid (O9.out.below hba)
      replace K := Lib.hid (Below.next K.out hba)
      replace J := Lib.hid (Below.next J.out hba)
      clear hba
      go_wp2_with fail
      refine (C18I _ J.out).out.mono ?_
      rintro e wa1 ⟨rfl, hba⟩
      replace O9 := Lib.hid (O9.out.below hba)
      replace K := Lib.hid (Below.next K.out hba)
      replace J := Lib.hid (Below.next J.out hba)
      clear hba
      go_wp2_with fail
      refine (C18a _ K.out).out.mono ?_
      rintro e wa2 ⟨rfl, hba⟩
      replace O9 := Lib.hid (O9.out.below hba)
      replace K := Lib.hid (Below.next K.out hba)
      replace J := Lib.hid (Below.next J.out hba)
      clear hba
      go_wp2_with fail
      refine (C18b _ K.out).out.mono ?_
      rintro e wa3 ⟨rfl, hba⟩
      replace O9 := Lib.hid (O9.out.below hba)
      replace K := Lib.hid (Below.next K.out hba)
      replace J := Lib.hid (Below.next J.out hba)
      clear hba
      have ⟨f0, f1, f2⟩ := F.out
      go_wp2_with fail
      refine (C18D _ J.out).out.mono ?_
      rintro e wa4 ⟨rfl, hba⟩
      replace O9 := Lib.hid (O9.out.below hba)
      replace K := Lib.hid (Below.next K.out hba)
      replace J := Lib.hid (Below.next J.out hba)
      clear hba
      go_wp2_with fail
      refine (C18I _ J.out).out.mono ?_
      rintro e wa5 ⟨rfl, hba⟩
      replace O9 := Lib.hid (O9.out.below hba)
      replace K := Lib.hid (Below.next K.out hba)
      replace J := Lib.hid (Below.next J.out hba)
      clear hba
      go_wp2_with fail
      refine (C18a _ K.out).out.mono ?_
      rintro e wa6 ⟨rfl, hba⟩
      replace O9 := Lib.hid (O9.out.below hba)
      replace K := Lib.hid (Below.next K.out hba)
      replace J := Lib.hid (Below.next J.out hba)
      clear hba
      go_wp2_with fail
      clear f0 f1 f2
      refine (C28 _ _ O9.out J.out L9.out).out.mono ?_
      rintro e w16 ⟨rfl, hb16⟩
      replace K := Lib.hid (Below.next K.out hb16)
      clear hb16
      go_wp2_with fail
      refine (example_any _).mono ?_
      rintro e w17 ⟨rfl, hb17⟩
      replace K := Lib.hid (Below.next K.out hb17)
      clear hb17
      go_wp2_with fail
      go_ret
      exact ⟨rfl, K.out⟩
    · rw [e9'] at o9
      rw [e9]
      obtain ⟨A9, c9, rfl, _, _⟩ := o9.rs.shape
      clear e9 e9' o9 hb9 C22
      simp only [List.length_nil]
      go_wp2_with fail
      refine (C24 _ J.out).out.mono ?_
      rintro e w10 ⟨A10, c10, rfl, hb10⟩
      replace K := Lib.hid (Below.next K.out hb10)
      replace J := Lib.hid (Below.next J.out hb10)
      clear hb10 C24
      go_wp2_with fail
      refine (C18U _ J.out).out.mono ?_
      rintro e wa0 ⟨rfl, hba⟩
      replace K := Lib.hid (Below.next K.out hba)
      replace J := Lib.hid (Below.next J.out hba)
      clear hba
      go_wp2_with fail
      refine (C18I _ J.out).out.mono ?_
      rintro e wa1 ⟨rfl, hba⟩
      replace K := Lib.hid (Below.next K.out hba)
      replace J := Lib.hid (Below.next J.out hba)
      clear hba
      go_wp2_with fail
      refine (C18a _ K.out).out.mono ?_
      rintro e wa2 ⟨rfl, hba⟩
      replace K := Lib.hid (Below.next K.out hba)
      replace J := Lib.hid (Below.next J.out hba)
      clear hba
      go_wp2_with fail
      refine (C18b _ K.out).out.mono ?_
      rintro e wa3 ⟨rfl, hba⟩
      replace K := Lib.hid (Below.next K.out hba)
      replace J := Lib.hid (Below.next J.out hba)
      clear hba
      have ⟨f0, f1, f2⟩ := F.out
      go_wp2_with fail
      refine (C18D _ J.out).out.mono ?_
      rintro e wa4 ⟨rfl, hba⟩
      replace K := Lib.hid (Below.next K.out hba)
      replace J := Lib.hid (Below.next J.out hba)
      clear hba
      go_wp2_with fail
      refine (C18I _ J.out).out.mono ?_
      rintro e wa5 ⟨rfl, hba⟩
      replace K := Lib.hid (Below.next K.out hba)
      replace J := Lib.hid (Below.next J.out hba)
      clear hba
      go_wp2_with fail
      refine (C18a _ K.out).out.mono ?_
      rintro e wa6 ⟨rfl, hba⟩
      replace K := Lib.hid (Below.next K.out hba)
      replace J := Lib.hid (Below.next J.out hba)
      clear hba
      go_wp2_with fail
      clear f0 f1 f2
      refine (example_any _).mono ?_
      rintro e w17 ⟨rfl, hb17⟩
      replace K := Lib.hid (Below.next K.out hb17)
      clear hb17
      go_wp2_with fail
      go_ret
      exact ⟨rfl, K.out⟩

end Go.Proofs.Ytclnepijbnhdfaa
