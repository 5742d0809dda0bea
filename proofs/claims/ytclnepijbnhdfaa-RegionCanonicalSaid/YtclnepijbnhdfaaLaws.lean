/-
  The walks of three laws: New, the operations, Translate.
-/
import Derived.Test.YtclnepijbnhdfaaOpen
namespace Go.Proofs.Ytclnepijbnhdfaa
open Go.RowKit

theorem lim_at {L : List R} {cc : Int} {M : List R} {w w' : World} {e : Ending} (hc : (if L.length ≤ 256 then 0 else 5 : Int) = cc) (hM : (if L.length ≤ 256 then L else []) = M) (h : Lim L w e w') :
    ∃ t, e = .returned (.tuple #[t, .int .i64 cc]) ∧ Rs w' t M ∧ Below w.heap.size w w' := by
  subst hc hM
  obtain ⟨t, rfl, ho, hb⟩ := h
  exact ⟨t, rfl, ho.rs, hb⟩

/-- one step: what lies below, and what a slice holds, after a call -/
theorem Below.next {w w1 w2 : World} (h : Below w.heap.size w w1) (hb : Below w1.heap.size w1 w2) : Below w.heap.size w w2 := h.trans (hb.mono h.size)

set_option maxRecDepth 100000 in
set_option maxHeartbeats 4000000 in
theorem new_walk {w : World} {va : Value} {l : List R} (h : Rs w va l) (x y : Int) : Calls Try.prog 3 #[va, .int .i64 x, .int .i64 y] w (Says true w) := by
  have HL := Lib.hid h
  have K : Hid (Below w.heap.size w w) := Lib.hid (Below.refl _ _)
  obtain ⟨A, c, rfl, hc, hm, jk⟩ := h
  obtain ⟨n, hn⟩ : ∃ n, l.length = n := ⟨_, rfl⟩
  have HN := Lib.hid hn
  simp only [maxLen] at hm
  rw [hn] at hc HL ⊢
  clear jk hn
  by_cases h40 : 40 < n
  · have q0 : (40 : Int) < n := by omega
    go_enter Try.func3, Try.ntmps3
    go_wp2_with fail
    refine (example_any w).mono ?_
    rintro e w1 ⟨rfl, hb⟩
    have HB := Lib.hid hb
    clear hb
    go_wp2_with fail
    go_ret
    exact ⟨rfl, HB.out⟩
  · have q0 : (n : Int) ≤ 40 := by omega
    have q1 : ¬ (40 : Int) < n := by omega
    obtain ⟨cc, hcc⟩ : ∃ cc, (if (combP orB l []).length ≤ 256 then 0 else 5 : Int) = cc := ⟨_, rfl⟩
    obtain ⟨M, hM⟩ : ∃ M, (if (combP orB l []).length ≤ 256 then (combP orB l []) else []) = M := ⟨_, rfl⟩
    obtain ⟨ic, hic⟩ : ∃ b, isCanP l = b := ⟨_, rfl⟩
    obtain ⟨ix, hix⟩ : ∃ b, inL l x y = b := ⟨_, rfl⟩
    obtain ⟨ar, har⟩ : ∃ b, sumP (combP orB l []) = b := ⟨_, rfl⟩
    obtain ⟨bd, hbd⟩ : ∃ b, refB l false zeroR = b := ⟨_, rfl⟩
    have C11 : ∀ W, Below w.heap.size w W → Hid (Calls Try.prog 11 #[.slice A n c] W fun e w' => ∃ t, e = .returned (.tuple #[t, .int .i64 cc]) ∧ Rs w' t M ∧ Below W.heap.size W w') := fun W hW => Lib.hid ((new_any (HL.out.below hW) (by have := HN.out; omega)).mono fun e w' hh => lim_at hcc hM hh)
    have C12 : ∀ W, Below w.heap.size w W → Hid (Calls Try.prog 12 #[.slice A n c] W fun e w' => ∃ t, e = .returned (.tuple #[t, .int .i64 cc]) ∧ Rs w' t M ∧ Below W.heap.size W w') := fun W hW => Lib.hid ((rnew_any (HL.out.below hW) (by have := HN.out; omega)).mono fun e w' hh => lim_at hcc hM hh)
    have C14 : ∀ W, Below w.heap.size w W → Hid (Calls Try.prog 14 #[.slice A n c] W fun e w' => e = .returned (.bool ic) ∧ Below W.heap.size W w') := fun W hW => Lib.hid (by rw [← hic]; exact iscan_any (HL.out.below hW) (by have := HN.out; omega))
    have C15 : ∀ W, Below w.heap.size w W → Hid (Calls Try.prog 15 #[.slice A n c] W fun e w' => e = .returned (.bool ic) ∧ Below W.heap.size W w') := fun W hW => Lib.hid (by rw [← hic]; exact riscan_any (HL.out.below hW) (by have := HN.out; omega))
    have C16 : ∀ W, Below w.heap.size w W → Hid (Calls Try.prog 16 #[.slice A n c, .int .i64 x, .int .i64 y] W fun e w' => e = .returned (.bool ix) ∧ Below W.heap.size W w') := fun W hW => Lib.hid (by rw [← hix]; exact incl_any (HL.out.below hW) x y)
    have C17 : ∀ W, Below w.heap.size w W → Hid (Calls Try.prog 17 #[.slice A n c, .int .i64 x, .int .i64 y] W fun e w' => e = .returned (.bool ix) ∧ Below W.heap.size W w') := fun W hW => Lib.hid (by rw [← hix]; exact rcontains_any (HL.out.below hW) x y)
    have C18 : ∀ W, Below w.heap.size w W → Hid (Calls Try.prog 18 #[.slice A n c] W fun e w' => e = .returned (.int .i64 ar) ∧ Below W.heap.size W w') := fun W hW => Lib.hid (by rw [← har]; exact areas_any (HL.out.below hW) (by have := HN.out; omega))
    have C19 : ∀ W, Below w.heap.size w W → Hid (Calls Try.prog 19 #[.slice A n c] W fun e w' => e = .returned (.int .i64 ar) ∧ Below W.heap.size W w') := fun W hW => Lib.hid (by rw [← har]; exact rarea_any (HL.out.below hW) (by have := HN.out; omega))
    have C20 : ∀ W, Below w.heap.size w W → Hid (Calls Try.prog 20 #[.slice A n c] W fun e w' => e = .returned (.agg #[.int .i64 bd.x0, .int .i64 bd.y0, .int .i64 bd.x1, .int .i64 bd.y1]) ∧ Below W.heap.size W w') := fun W hW => Lib.hid (by rw [← hbd, ← uni_ref0]; exact bounds_any (HL.out.below hW))
    have C21 : ∀ W, Below w.heap.size w W → Hid (Calls Try.prog 21 #[.slice A n c] W fun e w' => e = .returned (.agg #[.int .i64 bd.x0, .int .i64 bd.y0, .int .i64 bd.x1, .int .i64 bd.y1]) ∧ Below W.heap.size W w') := fun W hW => Lib.hid (by rw [← hbd]; exact rbounds_any (HL.out.below hW))
    clear hcc hM hic hix har hbd HL HN hm hc
    have hrr : ∀ W : World, (binOp .eql 32 (.agg #[.int .i64 bd.x0, .int .i64 bd.y0, .int .i64 bd.x1, .int .i64 bd.y1]) (.agg #[.int .i64 bd.x0, .int .i64 bd.y0, .int .i64 bd.x1, .int .i64 bd.y1])).run Try.prog W = .ok (.bool true) W := fun W => by rw [eql_rect, (same_iff bd bd).2 rfl]
    go_enter Try.func3, Try.ntmps3
    go_wp2_with fail
    refine (C11 _ K.out).out.mono ?_
    rintro e w1 ⟨t1, rfl, r1, hb1⟩
    replace K := Lib.hid (Below.next K.out hb1)
    have R1 := Lib.hid r1
    clear r1 hb1
    go_wp2_with fail
    refine (C12 _ K.out).out.mono ?_
    rintro e w2 ⟨t2, rfl, r2, hb2⟩
    replace K := Lib.hid (Below.next K.out hb2)
    have C13 := Lib.hid (same_true (R1.out.below hb2) r2)
    clear r2 hb2 R1
    go_wp2_with fail
    refine C13.out.mono ?_
    rintro e w3 ⟨rfl, hb3⟩
    replace K := Lib.hid (Below.next K.out hb3)
    clear hb3 C13
    go_wp2_with fail
    refine (C14 _ K.out).out.mono ?_
    rintro e w4 ⟨rfl, hb4⟩
    replace K := Lib.hid (Below.next K.out hb4)
    clear hb4
    go_wp2_with fail
    refine (C15 _ K.out).out.mono ?_
    rintro e w5 ⟨rfl, hb5⟩
    replace K := Lib.hid (Below.next K.out hb5)
    clear hb5
    go_wp2_with fail
    refine (C16 _ K.out).out.mono ?_
    rintro e w6 ⟨rfl, hb6⟩
    replace K := Lib.hid (Below.next K.out hb6)
    clear hb6
    go_wp2_with fail
    refine (C17 _ K.out).out.mono ?_
    rintro e w7 ⟨rfl, hb7⟩
    replace K := Lib.hid (Below.next K.out hb7)
    clear hb7
    go_wp2_with fail
    refine (C18 _ K.out).out.mono ?_
    rintro e w8 ⟨rfl, hb8⟩
    replace K := Lib.hid (Below.next K.out hb8)
    clear hb8
    go_wp2_with fail
    refine (C19 _ K.out).out.mono ?_
    rintro e w9 ⟨rfl, hb9⟩
    replace K := Lib.hid (Below.next K.out hb9)
    clear hb9
    go_wp2_with fail
    refine (C20 _ K.out).out.mono ?_
    rintro e w10 ⟨rfl, hb10⟩
    replace K := Lib.hid (Below.next K.out hb10)
    clear hb10
    go_wp2_with fail
    refine (C21 _ K.out).out.mono ?_
    rintro e w11 ⟨rfl, hb11⟩
    replace K := Lib.hid (Below.next K.out hb11)
    clear hb11
    go_wp2_with fail
    refine (example_any _).mono ?_
    rintro e w12 ⟨rfl, hb12⟩
    replace K := Lib.hid (Below.next K.out hb12)
    clear hb12
    go_wp2_with fail
    go_ret
    exact ⟨rfl, K.out⟩

set_option maxRecDepth 100000 in
set_option maxHeartbeats 4000000 in
theorem operations_walk {w : World} {va vb : Value} {a b : List R} (ha : Rs w va a) (hb : Rs w vb b) : Calls Try.prog 4 #[va, vb] w (Says true w) := by
  have HA := Lib.hid ha
  have HB := Lib.hid hb
  have K : Hid (Below w.heap.size w w) := Lib.hid (Below.refl _ _)
  obtain ⟨A, ca, rfl, hca, hma, jk1⟩ := ha
  obtain ⟨B, cb, rfl, hcb, hmb, jk2⟩ := hb
  obtain ⟨n, hn⟩ : ∃ n, a.length = n := ⟨_, rfl⟩
  obtain ⟨m, hm⟩ : ∃ m, b.length = m := ⟨_, rfl⟩
  have HN : Hid (a.length = n ∧ b.length = m) := Lib.hid ⟨hn, hm⟩
  simp only [maxLen] at hma hmb
  rw [hn] at hca HA ⊢
  rw [hm] at hcb HB ⊢
  clear jk1 jk2 hn hm
  by_cases h1 : 30 < n
  · have q0 : (30 : Int) < n := by omega
    go_enter Try.func4, Try.ntmps4
    go_wp2_with fail
    refine (example_any w).mono ?_
    rintro e w1 ⟨rfl, hb⟩
    have HB := Lib.hid hb
    clear hb
    go_wp2_with fail
    go_ret
    exact ⟨rfl, HB.out⟩
  by_cases h2 : 30 < m
  · have q0 : (n : Int) ≤ 30 := by omega
    have q1 : (30 : Int) < m := by omega
    go_enter Try.func4, Try.ntmps4
    go_wp2_with fail
    refine (example_any w).mono ?_
    rintro e w1 ⟨rfl, hb⟩
    have HB := Lib.hid hb
    clear hb
    go_wp2_with fail
    go_ret
    exact ⟨rfl, HB.out⟩
  have q0 : (n : Int) ≤ 30 := by omega
  have q1 : (m : Int) ≤ 30 := by omega
  obtain ⟨c1, hc1⟩ : ∃ cc, (if (combP (fun x y => x || y) a b).length ≤ 256 then 0 else 5 : Int) = cc := ⟨_, rfl⟩
  obtain ⟨M1, hM1⟩ : ∃ M, (if (combP (fun x y => x || y) a b).length ≤ 256 then (combP (fun x y => x || y) a b) else []) = M := ⟨_, rfl⟩
  obtain ⟨c2, hc2⟩ : ∃ cc, (if (combP (fun x y => x && y) a b).length ≤ 256 then 0 else 5 : Int) = cc := ⟨_, rfl⟩
  obtain ⟨M2, hM2⟩ : ∃ M, (if (combP (fun x y => x && y) a b).length ≤ 256 then (combP (fun x y => x && y) a b) else []) = M := ⟨_, rfl⟩
  obtain ⟨c3, hc3⟩ : ∃ cc, (if (combP (fun x y => x && !y) a b).length ≤ 256 then 0 else 5 : Int) = cc := ⟨_, rfl⟩
  obtain ⟨M3, hM3⟩ : ∃ M, (if (combP (fun x y => x && !y) a b).length ≤ 256 then (combP (fun x y => x && !y) a b) else []) = M := ⟨_, rfl⟩
  obtain ⟨eq, heq⟩ : ∃ b', eqP a b = b' := ⟨_, rfl⟩
  have C22 : ∀ W, Below w.heap.size w W → Hid (Calls Try.prog 22 #[.slice A n ca, .slice B m cb] W fun e w' => ∃ t, e = .returned (.tuple #[t, .int .i64 c1]) ∧ Rs w' t M1 ∧ Below W.heap.size W w') := fun W hW => Lib.hid ((union_any (HA.out.below hW) (HB.out.below hW) (by have := HN.out; omega)).mono fun e w' hh => lim_at hc1 hM1 hh)
  have C23 : ∀ W, Below w.heap.size w W → Hid (Calls Try.prog 23 #[.slice A n ca, .slice B m cb] W fun e w' => ∃ t, e = .returned (.tuple #[t, .int .i64 c1]) ∧ Rs w' t M1 ∧ Below W.heap.size W w') := fun W hW => Lib.hid ((runion_any (HA.out.below hW) (HB.out.below hW) (by have := HN.out; omega)).mono fun e w' hh => lim_at hc1 hM1 hh)
  have C24 : ∀ W, Below w.heap.size w W → Hid (Calls Try.prog 24 #[.slice A n ca, .slice B m cb] W fun e w' => ∃ t, e = .returned (.tuple #[t, .int .i64 c2]) ∧ Rs w' t M2 ∧ Below W.heap.size W w') := fun W hW => Lib.hid ((inter_any (HA.out.below hW) (HB.out.below hW) (by have := HN.out; omega)).mono fun e w' hh => lim_at hc2 hM2 hh)
  have C25 : ∀ W, Below w.heap.size w W → Hid (Calls Try.prog 25 #[.slice A n ca, .slice B m cb] W fun e w' => ∃ t, e = .returned (.tuple #[t, .int .i64 c2]) ∧ Rs w' t M2 ∧ Below W.heap.size W w') := fun W hW => Lib.hid ((rinter_any (HA.out.below hW) (HB.out.below hW) (by have := HN.out; omega)).mono fun e w' hh => lim_at hc2 hM2 hh)
  have C26 : ∀ W, Below w.heap.size w W → Hid (Calls Try.prog 26 #[.slice A n ca, .slice B m cb] W fun e w' => ∃ t, e = .returned (.tuple #[t, .int .i64 c3]) ∧ Rs w' t M3 ∧ Below W.heap.size W w') := fun W hW => Lib.hid ((subt_any (HA.out.below hW) (HB.out.below hW) (by have := HN.out; omega)).mono fun e w' hh => lim_at hc3 hM3 hh)
  have C27 : ∀ W, Below w.heap.size w W → Hid (Calls Try.prog 27 #[.slice A n ca, .slice B m cb] W fun e w' => ∃ t, e = .returned (.tuple #[t, .int .i64 c3]) ∧ Rs w' t M3 ∧ Below W.heap.size W w') := fun W hW => Lib.hid ((rsubt_any (HA.out.below hW) (HB.out.below hW) (by have := HN.out; omega)).mono fun e w' hh => lim_at hc3 hM3 hh)
  have C28 : ∀ W, Below w.heap.size w W → Hid (Calls Try.prog 28 #[.slice A n ca, .slice B m cb] W fun e w' => e = .returned (.bool eq) ∧ Below W.heap.size W w') := fun W hW => Lib.hid (by rw [← heq]; exact equals_any (HA.out.below hW) (HB.out.below hW) (by have := HN.out; omega))
  have C29 : ∀ W, Below w.heap.size w W → Hid (Calls Try.prog 29 #[.slice A n ca, .slice B m cb] W fun e w' => e = .returned (.bool eq) ∧ Below W.heap.size W w') := fun W hW => Lib.hid (by rw [← heq, eqP_ref]; exact requal_any (HA.out.below hW) (HB.out.below hW) (by have := HN.out; omega))
  clear hc1 hM1 hc2 hM2 hc3 hM3 heq HA HB HN hma hmb hca hcb h1 h2
  go_enter Try.func4, Try.ntmps4
  go_wp2_with fail
  refine (C22 _ K.out).out.mono ?_
  rintro e w1 ⟨t1, rfl, r1, hb1⟩
  replace K := Lib.hid (Below.next K.out hb1)
  have R1 := Lib.hid r1
  clear r1 hb1
  go_wp2_with fail
  refine (C23 _ K.out).out.mono ?_
  rintro e w2 ⟨t2, rfl, r2, hb2⟩
  replace K := Lib.hid (Below.next K.out hb2)
  have C13 := Lib.hid (same_true (R1.out.below hb2) r2)
  clear r2 hb2 R1
  go_wp2_with fail
  refine C13.out.mono ?_
  rintro e w3 ⟨rfl, hb3⟩
  replace K := Lib.hid (Below.next K.out hb3)
  clear hb3 C13
  go_wp2_with fail
  refine (C24 _ K.out).out.mono ?_
  rintro e w4 ⟨t4, rfl, r4, hb4⟩
  replace K := Lib.hid (Below.next K.out hb4)
  have R1 := Lib.hid r4
  clear r4 hb4
  go_wp2_with fail
  refine (C25 _ K.out).out.mono ?_
  rintro e w5 ⟨t5, rfl, r5, hb5⟩
  replace K := Lib.hid (Below.next K.out hb5)
  have C13 := Lib.hid (same_true (R1.out.below hb5) r5)
  clear r5 hb5 R1
  go_wp2_with fail
  refine C13.out.mono ?_
  rintro e w6 ⟨rfl, hb6⟩
  replace K := Lib.hid (Below.next K.out hb6)
  clear hb6 C13
  go_wp2_with fail
  refine (C26 _ K.out).out.mono ?_
  rintro e w7 ⟨t7, rfl, r7, hb7⟩
  replace K := Lib.hid (Below.next K.out hb7)
  have R1 := Lib.hid r7
  clear r7 hb7
  go_wp2_with fail
  refine (C27 _ K.out).out.mono ?_
  rintro e w8 ⟨t8, rfl, r8, hb8⟩
  replace K := Lib.hid (Below.next K.out hb8)
  have C13 := Lib.hid (same_true (R1.out.below hb8) r8)
  clear r8 hb8 R1
  go_wp2_with fail
  refine C13.out.mono ?_
  rintro e w9 ⟨rfl, hb9⟩
  replace K := Lib.hid (Below.next K.out hb9)
  clear hb9 C13
  go_wp2_with fail
  refine (C28 _ K.out).out.mono ?_
  rintro e w10 ⟨rfl, hb10⟩
  replace K := Lib.hid (Below.next K.out hb10)
  clear hb10
  go_wp2_with fail
  refine (C29 _ K.out).out.mono ?_
  rintro e w11 ⟨rfl, hb11⟩
  replace K := Lib.hid (Below.next K.out hb11)
  clear hb11
  go_wp2_with fail
  refine (example_any _).mono ?_
  rintro e w12 ⟨rfl, hb12⟩
  replace K := Lib.hid (Below.next K.out hb12)
  clear hb12
  go_wp2_with fail
  go_ret
  exact ⟨rfl, K.out⟩

theorem mov_far (n d : Int) (h1 : -16384 ≤ n) (h2 : n ≤ 16384) : movI n d = midI (n + farI d) := by
  unfold movI nearI midI farI
  omega

/-- a rectangle moved holds the same points, by either way -/
theorem mv_con (r : R) (dx dy x y : Int) (h : empB r = false) : conB (trR r dx dy) x y = conB (mvR (farI dx) (farI dy) r) x y := by
  have hb := (emp_no r).1 h
  have e : trR r dx dy = canR (mvR (farI dx) (farI dy) r) := by
    unfold trR mvR
    rw [if_neg (by simp [h]), mov_far _ _ (by omega) (by omega), mov_far _ _ (by omega) (by omega), mov_far _ _ (by omega) (by omega), mov_far _ _ (by omega) (by omega)]
  rw [e]
  cases h2 : empB (mvR (farI dx) (farI dy) r)
  · rw [can_full h2]
  · rw [can_emp h2, con_emp, con_emp, h2, emp_zero]
    rfl

theorem mv_in (dx dy : Int) (x y : Int) : ∀ l : List R, inL (l.map (trR · dx dy)) x y = inL (mvL (farI dx) (farI dy) l) x y
  | [] => rfl
  | r :: l => by
    have ih := mv_in dx dy x y l
    cases h : empB r
    · have e : mvL (farI dx) (farI dy) (r :: l) = mvR (farI dx) (farI dy) r :: mvL (farI dx) (farI dy) l := by simp [mvL, h]
      rw [e]
      simp only [inL, List.map_cons, List.any_cons] at ih ⊢
      rw [ih, mv_con r dx dy x y h]
    · have e : mvL (farI dx) (farI dy) (r :: l) = mvL (farI dx) (farI dy) l := by simp [mvL, h]
      have e2 : trR r dx dy = zeroR := by simp [trR, h]
      rw [e]
      simp only [inL, List.map_cons, List.any_cons] at ih ⊢
      rw [ih, e2, con_emp, emp_zero]
      rfl

theorem mv_comb (dx dy : Int) (l : List R) : combP orB (l.map (trR · dx dy)) [] = combP orB (mvL (farI dx) (farI dy) l) [] :=
  (comb_eq_iff _ _).2 fun x y => mv_in dx dy x y l

set_option maxRecDepth 100000 in
set_option maxHeartbeats 4000000 in
theorem translate_walk {w : World} {va : Value} {l : List R} (h : Rs w va l) (x y : Int) : Calls Try.prog 5 #[va, .int .i64 x, .int .i64 y] w (Says true w) := by
  have HL := Lib.hid h
  have K : Hid (Below w.heap.size w w) := Lib.hid (Below.refl _ _)
  obtain ⟨A, c, rfl, hc, hm, jk⟩ := h
  obtain ⟨n, hn⟩ : ∃ n, l.length = n := ⟨_, rfl⟩
  have HN := Lib.hid hn
  simp only [maxLen] at hm
  rw [hn] at hc HL ⊢
  clear jk hn
  by_cases h40 : 40 < n
  · have q0 : (40 : Int) < n := by omega
    go_enter Try.func5, Try.ntmps5
    go_wp2_with fail
    refine (example_any w).mono ?_
    rintro e w1 ⟨rfl, hb⟩
    have HB := Lib.hid hb
    clear hb
    go_wp2_with fail
    go_ret
    exact ⟨rfl, HB.out⟩
  have q0 : (n : Int) ≤ 40 := by omega
  obtain ⟨cc, hcc⟩ : ∃ cc, (if (combP orB (mvL (farI x) (farI y) l) []).length ≤ 256 then 0 else 5 : Int) = cc := ⟨_, rfl⟩
  obtain ⟨M, hM⟩ : ∃ M, (if (combP orB (mvL (farI x) (farI y) l) []).length ≤ 256 then (combP orB (mvL (farI x) (farI y) l) []) else []) = M := ⟨_, rfl⟩
  have C30 : ∀ W, Below w.heap.size w W → Hid (Calls Try.prog 30 #[.slice A n c, .int .i64 x, .int .i64 y] W fun e w' => ∃ t, e = .returned (.tuple #[t, .int .i64 cc]) ∧ Rs w' t M ∧ Below W.heap.size W w') := fun W hW => Lib.hid ((transl_any (HL.out.below hW) (by have := HN.out; omega) x y).mono fun e w' hh => lim_at hcc hM (by rw [← mv_comb]; exact hh))
  have C31 : ∀ W, Below w.heap.size w W → Hid (Calls Try.prog 31 #[.slice A n c, .int .i64 x, .int .i64 y] W fun e w' => ∃ t, e = .returned (.tuple #[t, .int .i64 cc]) ∧ Rs w' t M ∧ Below W.heap.size W w') := fun W hW => Lib.hid ((rtrans_any (HL.out.below hW) (by have := HN.out; omega) x y).mono fun e w' hh => lim_at hcc hM hh)
  clear hcc hM HL HN hm hc h40
  go_enter Try.func5, Try.ntmps5
  go_wp2_with fail
  refine (C30 _ K.out).out.mono ?_
  rintro e w1 ⟨t1, rfl, r1, hb1⟩
  replace K := Lib.hid (Below.next K.out hb1)
  have R1 := Lib.hid r1
  clear r1 hb1
  go_wp2_with fail
  refine (C31 _ K.out).out.mono ?_
  rintro e w2 ⟨t2, rfl, r2, hb2⟩
  replace K := Lib.hid (Below.next K.out hb2)
  have C13 := Lib.hid (same_true (R1.out.below hb2) r2)
  clear r2 hb2 R1
  go_wp2_with fail
  refine C13.out.mono ?_
  rintro e w3 ⟨rfl, hb3⟩
  replace K := Lib.hid (Below.next K.out hb3)
  clear hb3 C13
  go_wp2_with fail
  refine (example_any _).mono ?_
  rintro e w4 ⟨rfl, hb4⟩
  replace K := Lib.hid (Below.next K.out hb4)
  clear hb4
  go_wp2_with fail
  go_ret
  exact ⟨rfl, K.out⟩

end Go.Proofs.Ytclnepijbnhdfaa
