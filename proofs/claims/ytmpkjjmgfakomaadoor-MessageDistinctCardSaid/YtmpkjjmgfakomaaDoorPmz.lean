/-
  Package message: predicates on arguments, slices of them compared, Equal, check.
-/
import Derived.Test.YtmpkjjmgfakomaaDoorMaz
import Derived.Test.YtmpkjjmgfakomaaDoorPkp
import Derived.Test.YtmpkjjmgfakomaaDoorMeq
import Derived.Test.YtmpkjjmgfakomaaDoorShl
namespace Go.Proofs.YtmpkjjmgfakomaaDoor
open Go.RowKit Mem Wire

set_option maxRecDepth 100000 in
theorem p_opc_any (oc : Int) (w : World) : Calls Tryd.prog 27 #[.int .i64 oc] w fun e w' => e = .returned (.bool (decide (0 ≤ oc ∧ oc ≤ 65535))) ∧ w = w' := by
  by_cases h : 0 ≤ oc
  · by_cases h2 : oc ≤ 65535
    · rw [decide_eq_true ⟨h, h2⟩]
      go_enter Tryd.func27, Tryd.ntmps27
      go_wp2_with fail
      go_ret
      exact ⟨rfl, rfl⟩
    · rw [decide_eq_false (fun e => h2 e.2)]
      go_enter Tryd.func27, Tryd.ntmps27
      go_wp2_with fail
      go_ret
      exact ⟨rfl, rfl⟩
  · rw [decide_eq_false (fun e => h e.1)]
    go_enter Tryd.func27, Tryd.ntmps27
    go_wp2_with fail
    go_ret
    exact ⟨rfl, rfl⟩

set_option maxRecDepth 100000 in
set_option maxHeartbeats 2000000 in
theorem p_range_any (a : AgV) {w : World} (ha : AgOk w a) : Calls Tryd.prog 32 #[agVal a] w (Says (!rngB a.1) w) := by
  obtain ⟨A, cap, hv, hc, hm⟩ := ha.shape
  obtain ⟨⟨kd, nn, ss, bb⟩, v⟩ := a
  dsimp only at hv hc hm ⊢
  subst hv
  have HB := Lib.hid ((Below.refl w.heap.size w).alloc (Nat.le_refl _) (.cells #[.int .i64 kd, .int .i64 nn, .string ss, .slice A bb.length cap] 43))
  simp only [maxLen] at hm
  unfold agVal rngB
  dsimp only
  clear ha
  obtain ⟨n, hn⟩ : ∃ n, bb.length = n := ⟨_, rfl⟩
  rw [hn] at hc HB ⊢
  clear hn
  by_cases k1 : kd = 1
  · subst k1
    rw [if_pos (.inl rfl)]
    by_cases h : -2147483648 ≤ nn
    · by_cases h2 : nn < 2147483648
      · have g : ¬ nn < -2147483648 := by omega
        have g2 : ¬ 2147483647 < nn := by omega
        rw [decide_eq_true h, decide_eq_true h2]
        clear h h2
        go_enter Tryd.func32, Tryd.ntmps32
        go_wp2_with fail
        go_ret
        exact ⟨rfl, HB.out⟩
      · have g : ¬ nn < -2147483648 := by omega
        have g2 : 2147483647 < nn := by omega
        rw [decide_eq_false h2, Bool.and_false]
        clear h h2
        go_enter Tryd.func32, Tryd.ntmps32
        go_wp2_with fail
        go_ret
        exact ⟨rfl, HB.out⟩
    · have g : nn < -2147483648 := by omega
      rw [decide_eq_false h, Bool.false_and]
      clear h
      go_enter Tryd.func32, Tryd.ntmps32
      go_wp2_with fail
      go_ret
      exact ⟨rfl, HB.out⟩
  by_cases k3 : kd = 3
  · subst k3
    rw [if_pos (.inr rfl)]
    by_cases h : -2147483648 ≤ nn
    · by_cases h2 : nn < 2147483648
      · have g : ¬ nn < -2147483648 := by omega
        have g2 : ¬ 2147483647 < nn := by omega
        rw [decide_eq_true h, decide_eq_true h2]
        clear h h2
        go_enter Tryd.func32, Tryd.ntmps32
        go_wp2_with fail
        go_ret
        exact ⟨rfl, HB.out⟩
      · have g : ¬ nn < -2147483648 := by omega
        have g2 : 2147483647 < nn := by omega
        rw [decide_eq_false h2, Bool.and_false]
        clear h h2
        go_enter Tryd.func32, Tryd.ntmps32
        go_wp2_with fail
        go_ret
        exact ⟨rfl, HB.out⟩
    · have g : nn < -2147483648 := by omega
      rw [decide_eq_false h, Bool.false_and]
      clear h
      go_enter Tryd.func32, Tryd.ntmps32
      go_wp2_with fail
      go_ret
      exact ⟨rfl, HB.out⟩
  rw [if_neg (by omega)]
  by_cases k2 : kd = 2
  · subst k2
    rw [if_pos (.inl rfl)]
    by_cases h : 0 ≤ nn
    · by_cases h2 : nn < 4294967296
      · have g : ¬ nn < 0 := by omega
        have g2 : ¬ 4294967295 < nn := by omega
        rw [decide_eq_true h, decide_eq_true h2]
        clear h h2
        go_enter Tryd.func32, Tryd.ntmps32
        go_wp2_with fail
        go_ret
        exact ⟨rfl, HB.out⟩
      · have g : ¬ nn < 0 := by omega
        have g2 : 4294967295 < nn := by omega
        rw [decide_eq_false h2, Bool.and_false]
        clear h h2
        go_enter Tryd.func32, Tryd.ntmps32
        go_wp2_with fail
        go_ret
        exact ⟨rfl, HB.out⟩
    · have g : nn < 0 := by omega
      rw [decide_eq_false h, Bool.false_and]
      clear h
      go_enter Tryd.func32, Tryd.ntmps32
      go_wp2_with fail
      go_ret
      exact ⟨rfl, HB.out⟩
  by_cases k5 : kd = 5
  · subst k5
    rw [if_pos (.inr rfl)]
    by_cases h : 0 ≤ nn
    · by_cases h2 : nn < 4294967296
      · have g : ¬ nn < 0 := by omega
        have g2 : ¬ 4294967295 < nn := by omega
        rw [decide_eq_true h, decide_eq_true h2]
        clear h h2
        go_enter Tryd.func32, Tryd.ntmps32
        go_wp2_with fail
        go_ret
        exact ⟨rfl, HB.out⟩
      · have g : ¬ nn < 0 := by omega
        have g2 : 4294967295 < nn := by omega
        rw [decide_eq_false h2, Bool.and_false]
        clear h h2
        go_enter Tryd.func32, Tryd.ntmps32
        go_wp2_with fail
        go_ret
        exact ⟨rfl, HB.out⟩
    · have g : nn < 0 := by omega
      rw [decide_eq_false h, Bool.false_and]
      clear h
      go_enter Tryd.func32, Tryd.ntmps32
      go_wp2_with fail
      go_ret
      exact ⟨rfl, HB.out⟩
  rw [if_neg (by omega)]
  by_cases k6 : kd = 6
  · subst k6
    rw [if_pos rfl]
    by_cases h : 1 ≤ nn
    · by_cases h2 : nn < 4294967296
      · have g : ¬ nn < 1 := by omega
        have g2 : ¬ 4294967295 < nn := by omega
        rw [decide_eq_true h, decide_eq_true h2]
        clear h h2
        go_enter Tryd.func32, Tryd.ntmps32
        go_wp2_with fail
        go_ret
        exact ⟨rfl, HB.out⟩
      · have g : ¬ nn < 1 := by omega
        have g2 : 4294967295 < nn := by omega
        rw [decide_eq_false h2, Bool.and_false]
        clear h h2
        go_enter Tryd.func32, Tryd.ntmps32
        go_wp2_with fail
        go_ret
        exact ⟨rfl, HB.out⟩
    · have g : nn < 1 := by omega
      rw [decide_eq_false h, Bool.false_and]
      clear h
      go_enter Tryd.func32, Tryd.ntmps32
      go_wp2_with fail
      go_ret
      exact ⟨rfl, HB.out⟩
  rw [if_neg k6]
  go_enter Tryd.func32, Tryd.ntmps32
  go_wp2_with fail
  go_ret
  exact ⟨rfl, HB.out⟩

set_option maxRecDepth 100000 in
theorem p_long_any (a : AgV) {w : World} (ha : AgOk w a) : Calls Tryd.prog 52 #[agVal a] w (Says (bigB a.1) w) := by
  obtain ⟨A, cap, hv, hc, hm⟩ := ha.shape
  have hs := ha.2
  obtain ⟨⟨kd, nn, ss, bb⟩, v⟩ := a
  dsimp only at hv hc hm hs ⊢
  subst hv
  have HB := Lib.hid ((Below.refl w.heap.size w).alloc (Nat.le_refl _) (.cells #[.int .i64 kd, .int .i64 nn, .string ss, .slice A bb.length cap] 43))
  simp only [maxLen] at hm hs
  unfold agVal bigB
  dsimp only
  clear ha
  obtain ⟨n, hn⟩ : ∃ n, bb.length = n := ⟨_, rfl⟩
  rw [hn] at hc HB ⊢
  clear hn
  obtain ⟨m, hmm⟩ : ∃ m, ss.size = m := ⟨_, rfl⟩
  by_cases h1 : 1024 < m
  · have g1 : (1024 : Int) < ss.size := by omega
    rw [hmm, decide_eq_true h1, Bool.true_or]
    go_enter Tryd.func52, Tryd.ntmps52
    go_wp2_with fail
    go_ret
    exact ⟨rfl, HB.out⟩
  · have g1 : ¬ (1024 : Int) < ss.size := by omega
    rw [hmm, decide_eq_false h1, Bool.false_or]
    by_cases h2 : 1024 < n
    · have g2 : (1024 : Int) < n := by omega
      rw [decide_eq_true h2]
      go_enter Tryd.func52, Tryd.ntmps52
      go_wp2_with fail
      go_ret
      exact ⟨rfl, HB.out⟩
    · have g2 : ¬ (1024 : Int) < n := by omega
      rw [decide_eq_false h2]
      go_enter Tryd.func52, Tryd.ntmps52
      go_wp2_with fail
      go_ret
      exact ⟨by simp; omega, HB.out⟩

set_option maxRecDepth 100000 in
set_option maxHeartbeats 1000000 in
theorem p_kind_is (a : AgV) (k : Nat) {w : World} (ha : AgOk w a) : Calls Tryd.prog 49 #[.int .i64 (k : Int), agVal a] w (Says (tidyB a.1 k) w) := by
  obtain ⟨A, cap, hv, hc, hm⟩ := ha.shape
  obtain ⟨⟨kd, nn, ss, bb⟩, v⟩ := a
  dsimp only at hv hc hm ⊢
  subst hv
  have HB := Lib.hid ((Below.refl w.heap.size w).alloc (Nat.le_refl _) (.cells #[.int .i64 kd, .int .i64 nn, .string ss, .slice A bb.length cap] 43))
  simp only [maxLen] at hm
  unfold agVal tidyB
  dsimp only
  clear ha
  obtain ⟨n, hn⟩ : ∃ n, bb.length = n := ⟨_, rfl⟩
  rw [hn] at hc HB ⊢
  clear hn
  by_cases h1 : kd = (k : Int)
  · subst h1
    have b0 : ((k : Int) == (k : Int)) = true := by simp
    rw [decide_eq_true rfl, Bool.true_and]
    by_cases k4 : k = 4
    · subst k4
      by_cases h5 : nn = 0
      · subst h5
        by_cases h3 : n = 0
        · subst h3
          go_enter Tryd.func49, Tryd.ntmps49
          go_wp2_with fail
          go_ret
          exact ⟨rfl, HB.out⟩
        · have e3 : ((n : Int) == 0) = false := beq_eq_false_iff_ne.2 (by omega)
          rw [decide_eq_false h3]
          go_enter Tryd.func49, Tryd.ntmps49
          go_wp2_with fail
          go_ret
          exact ⟨rfl, HB.out⟩
      · have c5 : (nn == 0) = false := beq_eq_false_iff_ne.2 h5
        rw [decide_eq_false h5]
        generalize decide (n = 0) = q
        go_enter Tryd.func49, Tryd.ntmps49
        go_wp2_with fail
        go_ret
        exact ⟨by cases q <;> rfl, HB.out⟩
    · have e4 : ¬ (k : Int) = 4 := by omega
      rw [decide_eq_false k4, Bool.false_or]
      by_cases k7 : k = 7
      · subst k7
        by_cases h5 : nn = 0
        · subst h5
          by_cases h2 : ss.size = 0
          · obtain rfl := str_eq0 h2
            rw [decide_eq_true h2]
            go_enter Tryd.func49, Tryd.ntmps49
            go_wp2_with fail
            go_ret
            exact ⟨rfl, HB.out⟩
          · have e2 := str_e0 h2
            rw [decide_eq_false h2]
            go_enter Tryd.func49, Tryd.ntmps49
            go_wp2_with fail
            go_ret
            exact ⟨rfl, HB.out⟩
        · have c5 : (nn == 0) = false := beq_eq_false_iff_ne.2 h5
          rw [decide_eq_false h5]
          generalize decide (ss.size = 0) = q
          go_enter Tryd.func49, Tryd.ntmps49
          go_wp2_with fail
          go_ret
          exact ⟨by cases q <;> rfl, HB.out⟩
      · have e7 : ¬ (k : Int) = 7 := by omega
        rw [decide_eq_false k7]
        by_cases h2 : ss.size = 0
        · obtain rfl := str_eq0 h2
          rw [decide_eq_true h2]
          by_cases h3 : n = 0
          · subst h3
            go_enter Tryd.func49, Tryd.ntmps49
            go_wp2_with fail
            go_ret
            exact ⟨rfl, HB.out⟩
          · have e3 : ((n : Int) == 0) = false := beq_eq_false_iff_ne.2 (by omega)
            rw [decide_eq_false h3]
            go_enter Tryd.func49, Tryd.ntmps49
            go_wp2_with fail
            go_ret
            exact ⟨rfl, HB.out⟩
        · have e2 := str_e0 h2
          rw [decide_eq_false h2]
          go_enter Tryd.func49, Tryd.ntmps49
          go_wp2_with fail
          go_ret
          exact ⟨rfl, HB.out⟩
  · rw [decide_eq_false h1]
    go_enter Tryd.func49, Tryd.ntmps49
    go_wp2_with fail
    go_ret
    exact ⟨rfl, HB.out⟩

end Go.Proofs.YtmpkjjmgfakomaaDoor

namespace Go.Proofs.YtmpkjjmgfakomaaDoor
open Go.RowKit Mem Wire

/-- a function of an argument, called in a world that has kept what is older -/
def PredA (w : World) (l : List AgV) (g : Nat) (p : Ag → Bool) : Prop := ∀ W, Below w.heap.size w W → ∀ a ∈ l, AgOk W a → Calls Tryd.prog g #[agVal a] W (Says (p a.1) W)

/-- the first argument of which p holds, or -1 -/
def idxA (p : Ag → Bool) : List Ag → Nat → Int
  | [], _ => -1
  | a :: l, i => if p a = true then (i : Int) else idxA p l (i + 1)
theorem idxA_any (p : Ag → Bool) : ∀ (l : List Ag) (i : Nat), (0 ≤ idxA p l i ↔ l.any p = true) ∧ -1 ≤ idxA p l i ∧ idxA p l i ≤ (i : Int) + l.length
  | [], i => by simp [idxA]
  | a :: l, i => by
    unfold idxA
    rw [List.any_cons, List.length_cons]
    by_cases h : p a = true
    · rw [if_pos h, h]
      simp
      omega
    · rw [if_neg h]
      have := idxA_any p l (i + 1)
      have hf : p a = false := by simpa using h
      rw [hf, Bool.false_or]
      refine ⟨this.1, this.2.1, by omega⟩

set_option maxRecDepth 100000 in
set_option maxHeartbeats 4000000 in
theorem p_index_any {w : World} {v : Value} {l : List AgV} (h : Ags w v l) (g : Nat) (p : Ag → Bool) (C : PredA w l g p)
    (eg : ∀ args w, (callFunc g args).run Tryd.prog w = .ok (.enter g args) w) :
    Calls Tryd.prog 86 #[v, .func (.func g) #[] #[]] w fun e w' => e = .returned (.int .i64 (idxA p (agL l) 0)) ∧ Below w.heap.size w w' := by
  have HA := Lib.hid h
  have HC := Lib.hid C
  obtain ⟨A, cap, rfl, hcap, hm⟩ := h.shape
  simp only [maxLen] at hm
  obtain ⟨n, hn⟩ : ∃ n, l.length = n := ⟨_, rfl⟩
  have HN := Lib.hid hn
  obtain ⟨r, hr⟩ : ∃ r, idxA p (agL l) 0 = r := ⟨_, rfl⟩
  rw [hr]
  have HT0 : Hid (idxA p ((agL l).drop 0) 0 = r) := Lib.hid hr
  have J0 := Lib.hid (Below.refl w.heap.size w)
  rw [hn] at hcap HA ⊢
  clear h C hn hr
  go_enter Tryd.func86, Tryd.ntmps86
  go_wp2_with fail
  go_loopw [8] (fun s8 wr => ∃ i : Nat, i ≤ n ∧ s8 = .int .i64 (i : Int) ∧ Hid (idxA p ((agL l).drop i) i = r) ∧ Hid (Below w.heap.size w wr)) (fun s8 _ => leftN n s8)
  case atStart => exact ⟨0, Nat.zero_le _, rfl, HT0, J0⟩
  case round =>
    clear J0 HT0
    obtain ⟨i, hi, rfl, HT, J⟩ := hrel
    by_cases hlt : i < n
    · have q0 : (0 : Int) ≤ i := by omega
      have q1 : (i : Int) < n := by omega
      obtain ⟨q, hp⟩ : ∃ q, l[i]? = some q := ⟨_, List.getElem?_eq_getElem (by rw [HN.out]; exact hlt)⟩
      have hx := HT.out
      rw [drop_cons (agL_at hp)] at hx
      unfold idxA at hx
      obtain ⟨b, off, rfl, hb, -, -⟩ := ags_at HA.out J.out hp
      have OK := arg_ok HA.out hp J.out
      obtain ⟨c0, c1, c2, c3⟩ := arg_cells HA.out hp J.out
      have D := Lib.hid (HC.out wr J.out q (List.mem_of_getElem? hp) OK)
      obtain ⟨⟨kd, nn, ss, bb⟩, pv⟩ := q
      dsimp only at c0 c1 c2 c3 hx D
      obtain ⟨t, ht⟩ : ∃ t, p ⟨kd, nn, ss, bb⟩ = t := ⟨_, rfl⟩
      rw [ht] at hx D
      clear hp HT OK ht
      cases t with
      | true =>
        rw [if_pos rfl] at hx
        subst hx
        go_wp2_with fail
        refine D.out.mono ?_
        rintro e w1 ⟨rfl, hb1⟩
        have J2 := Lib.hid (Below.next J.out hb1)
        clear hb1 D
        go_wp2_with fail
        go_ret
        exact ⟨rfl, J2.out⟩
      | false =>
        rw [if_neg (by simp)] at hx
        have HT2 := Lib.hid hx
        clear hx
        go_wp2_with fail
        refine D.out.mono ?_
        rintro e w1 ⟨rfl, hb1⟩
        have J2 := Lib.hid (Below.next J.out hb1)
        clear hb1 D
        go_wp2_with fail
        go_roundw
        case rel => exact ⟨i + 1, by omega, by go_num, HT2, J2⟩
        case measure =>
          unfold leftN
          simp [intOf]
          omega
    · obtain rfl : n = i := by omega
      have hx := HT.out
      rw [List.drop_of_length_le (by show (l.map Prod.fst).length ≤ _; rw [List.length_map, HN.out]; omega)] at hx
      clear HT
      have e : r = -1 := hx.symm
      subst e
      clear hx
      go_wp2_with fail
      go_ret
      exact ⟨rfl, J.out⟩

set_option maxRecDepth 100000 in
theorem p_contains_any {w : World} {v : Value} {l : List AgV} (h : Ags w v l) (g : Nat) (p : Ag → Bool) (C : PredA w l g p)
    (eg : ∀ args w, (callFunc g args).run Tryd.prog w = .ok (.enter g args) w) :
    Calls Tryd.prog 50 #[v, .func (.func g) #[] #[]] w (Says ((agL l).any p) w) := by
  have D := Lib.hid (p_index_any h g p C eg)
  obtain ⟨h1, h2, h3⟩ := idxA_any p (agL l) 0
  obtain ⟨A, cap, rfl, hcap, hm⟩ := h.shape
  obtain ⟨r, hr⟩ : ∃ r, idxA p (agL l) 0 = r := ⟨_, rfl⟩
  rw [hr] at D h1
  obtain ⟨t, ht⟩ : ∃ t, (agL l).any p = t := ⟨_, rfl⟩
  rw [ht] at h1 ⊢
  clear h C hr ht h2 h3
  have e : decide (0 ≤ r) = t := by
    cases t with
    | true => exact decide_eq_true (h1.2 rfl)
    | false => exact decide_eq_false (fun h => by cases h1.1 h)
  clear h1
  go_enter Tryd.func50, Tryd.ntmps50
  go_wp2_with fail
  refine D.out.mono ?_
  rintro e w1 ⟨rfl, hb1⟩
  have J := Lib.hid hb1
  clear hb1
  go_wp2_with fail
  go_ret
  exact ⟨rfl, J.out⟩

end Go.Proofs.YtmpkjjmgfakomaaDoor

namespace Go.Proofs.YtmpkjjmgfakomaaDoor
open Go.RowKit Mem Wire

theorem bts_eq (xs ys : List UInt8) : ((⟨xs.toArray⟩ : ByteArray).toList == (⟨ys.toArray⟩ : ByteArray).toList) = decide (xs = ys) := by
  rw [ByteArray.toList_mk, ByteArray.toList_mk]
  by_cases h : xs = ys
  · subst h
    simp
  · rw [decide_eq_false h, beq_eq_false_iff_ne]
    exact h

set_option maxRecDepth 100000 in
theorem bequal_any {w : World} {A A' : Option Addr} {n c n' c' : Nat} {xs ys : List UInt8} (h1 : Sees w (.slice A n c) xs) (h2 : Sees w (.slice A' n' c') ys) :
    Calls Tryd.prog 85 #[.slice A n c, .slice A' n' c'] w fun e w' => e = .returned (.bool (decide (xs = ys))) ∧ w = w' := by
  have t1 := run_text (P := Tryd.prog) Tryd.underlying28 Tryd.underlying5 Tryd.underlying9 h1
  have t2 := run_text (P := Tryd.prog) Tryd.underlying28 Tryd.underlying5 Tryd.underlying9 h2
  have hq := bts_eq xs ys
  generalize decide (xs = ys) = r at *
  generalize (⟨xs.toArray⟩ : ByteArray) = s1 at *
  generalize (⟨ys.toArray⟩ : ByteArray) = s2 at *
  clear h1 h2
  go_enter Tryd.func85, Tryd.ntmps85
  go_wp2_with fail
  go_ret
  exact ⟨rfl, rfl⟩

theorem bstr_eq {s t : ByteArray} (h : ¬ s = t) : (s.toList == t.toList) = false := str_ne h

/-- the two boxes of a function of two arguments -/
abbrev agB (w : World) (a b : List Value) : List (Nat × List Value) := [(w.heap.size + 1, b), (w.heap.size, a)]
theorem ag_boxes (w : World) (a b : List Value) (t : TypeId) : Held w ((w.alloc (.cells a.toArray t)).alloc (.cells b.toArray t)) (agB w a b) := by
  have h := ((Held.nil w).alloc a t).alloc b t
  simp only [World.size_alloc] at h
  exact h

set_option maxRecDepth 100000 in
set_option maxHeartbeats 4000000 in
theorem p_same_arg (a b : AgV) {w : World} (ha : AgOk w a) (hb : AgOk w b) : Calls Tryd.prog 47 #[agVal a, agVal b] w (Says (eqA a.1 b.1) w) := by
  have sa := ha.1
  have sb := hb.1
  obtain ⟨A, cap, hv, hc, hm⟩ := ha.shape
  obtain ⟨A2, cap2, hv2, hc2, hm2⟩ := hb.shape
  obtain ⟨⟨kd, nn, ss, bb⟩, v⟩ := a
  obtain ⟨⟨kd2, nn2, ss2, bb2⟩, v2⟩ := b
  dsimp only at hv hc hm hv2 hc2 hm2 sa sb ⊢
  subst hv hv2
  have J := Lib.hid (ag_boxes w [.int .i64 kd, .int .i64 nn, .string ss, .slice A bb.length cap] [.int .i64 kd2, .int .i64 nn2, .string ss2, .slice A2 bb2.length cap2] 43)
  have D := fun (W : World) (h : Below w.heap.size w W) => Lib.hid (bequal_any (sa.below h) (sb.below h))
  unfold agVal eqA
  dsimp only
  clear ha hb sa sb hc hm hc2 hm2
  obtain ⟨r, hr⟩ : ∃ r, decide (bb = bb2) = r := ⟨_, rfl⟩
  rw [hr] at D ⊢
  generalize bb.length = n at *
  generalize bb2.length = n2 at *
  clear hr
  by_cases h1 : kd = kd2
  · subst h1
    have b1 : ((kd : Int) == kd) = true := by simp
    rw [decide_eq_true rfl, Bool.true_and]
    by_cases h2 : nn = nn2
    · subst h2
      have b2 : ((nn : Int) == nn) = true := by simp
      rw [decide_eq_true rfl, Bool.true_and]
      by_cases h3 : ss = ss2
      · subst h3
        have b3 : (ss.toList == ss.toList) = true := by simp
        rw [decide_eq_true rfl, Bool.true_and]
        obtain ⟨y0, y1, y2, y3, -, -⟩ := (show Held w _ ([_] ++ (w.heap.size, _) :: []) from J.out).four
        obtain ⟨z0, z1, z2, z3, -, -⟩ := (show Held w _ ([] ++ (w.heap.size + 1, _) :: [_]) from J.out).four
        go_enter Tryd.func47, Tryd.ntmps47
        go_wp2_with fail
        refine (D _ J.out.below).out.mono ?_
        rintro e w1 ⟨rfl, rfl⟩
        clear D
        go_wp2_with fail
        go_ret
        exact ⟨rfl, J.out.below⟩
      · have b3 := bstr_eq h3
        rw [decide_eq_false h3, Bool.false_and]
        go_enter Tryd.func47, Tryd.ntmps47
        go_wp2_with fail
        go_ret
        exact ⟨rfl, J.out.below⟩
    · have b2 : ((nn : Int) == nn2) = false := beq_eq_false_iff_ne.2 h2
      rw [decide_eq_false h2, Bool.false_and]
      go_enter Tryd.func47, Tryd.ntmps47
      go_wp2_with fail
      go_ret
      exact ⟨rfl, J.out.below⟩
  · have b1 : ((kd : Int) == kd2) = false := beq_eq_false_iff_ne.2 h1
    rw [decide_eq_false h1, Bool.false_and]
    go_enter Tryd.func47, Tryd.ntmps47
    go_wp2_with fail
    go_ret
    exact ⟨rfl, J.out.below⟩

end Go.Proofs.YtmpkjjmgfakomaaDoor

namespace Go.Proofs.YtmpkjjmgfakomaaDoor
open Go.RowKit Mem Wire

set_option maxRecDepth 100000 in
theorem p_zero_any (a : AgV) {w : World} (ha : AgOk w a) : Calls Tryd.prog 51 #[agVal a] w (Says (zerB a.1) w) := by
  obtain ⟨A, cap, hv, hc, hm⟩ := ha.shape
  obtain ⟨⟨kd, nn, ss, bb⟩, v⟩ := a
  dsimp only at hv hc hm ⊢
  subst hv
  have HB := Lib.hid ((Below.refl w.heap.size w).alloc (Nat.le_refl _) (.cells #[.int .i64 kd, .int .i64 nn, .string ss, .slice A bb.length cap] 43))
  have hz := hasZero (sl ss)
  have D := fun W => Lib.hid (Tryd.strings_IndexByte ss 0 W)
  unfold agVal zerB
  dsimp only
  rw [show (Int.toNat 0).toUInt8 = (0 : UInt8) from rfl, show ss.data.toList = sl ss from rfl] at D
  obtain ⟨r, hr⟩ : ∃ r, Lib.indexByte (sl ss) 0 = r := ⟨_, rfl⟩
  rw [hr] at D hz
  obtain ⟨t, ht⟩ : ∃ t, decide ((0 : UInt8) ∈ sl ss) = t := ⟨_, rfl⟩
  rw [ht]
  have e : decide (0 ≤ r) = t := by
    rw [← ht]
    by_cases h : 0 ≤ r
    · rw [decide_eq_true h, decide_eq_true (hz.1 h)]
    · rw [decide_eq_false h, decide_eq_false (fun h2 => h (hz.2 h2))]
  clear ha hz hr ht hc hm
  generalize bb.length = n at *
  go_enter Tryd.func51, Tryd.ntmps51
  go_wp2_with fail
  refine (D _).out.mono ?_
  rintro e w1 ⟨rfl, rfl⟩
  clear D
  go_wp2_with fail
  go_ret
  exact ⟨rfl, HB.out⟩

theorem is_at {w W : World} {A : Option Addr} {n cap : Nat} {l : List Nat} (h : Is w (.slice A n cap) l) (hb : Below w.heap.size w W) {j x : Nat} (hx : l[j]? = some x) :
    ∃ b off, A = some ⟨b, off, none⟩ ∧ W.cell? ⟨b, off + j, none⟩ = some (.int .i64 (x : Int)) := by
  obtain ⟨A', cap', hv, _, _, hc⟩ := h
  injection hv with e1 e2 e3
  subst e1
  have hl := (List.getElem?_eq_some_iff.1 hx).1
  obtain ⟨b, off, rfl, ht, hc⟩ := hc (by omega)
  exact ⟨b, off, rfl, (hb.cell (p := ⟨b, off + j, none⟩) ht.lt).trans (hc j x hx)⟩

theorem tidyAll_end {l : List Ag} {ks : List Nat} (i : Nat) (h1 : l.length ≤ i) : tidyAll (l.drop i) (ks.drop i) = true := by
  rw [List.drop_of_length_le h1]
  unfold tidyAll
  rfl

set_option maxRecDepth 100000 in
set_option maxHeartbeats 4000000 in
theorem p_kinds_eq {w : World} {v vk : Value} {l : List AgV} {ks : List Nat} (h : Ags w v l) (hk : Is w vk ks) :
    Calls Tryd.prog 48 #[vk, v, .func (.func 49) #[] #[]] w (Says (decide (l.length = ks.length) && tidyAll (agL l) ks) w) := by
  have HA := Lib.hid h
  have HK := Lib.hid hk
  have eg : ∀ args w, (callFunc 49 args).run Tryd.prog w = .ok (.enter 49 args) w := enters_of Tryd.func49 (by kernel_rfl) rfl
  obtain ⟨A, cap, rfl, hcap, hm⟩ := h.shape
  obtain ⟨A2, cap2, rfl, hcap2, hm2⟩ := hk.shape
  simp only [maxLen] at hm hm2
  obtain ⟨n, hn⟩ : ∃ n, l.length = n := ⟨_, rfl⟩
  obtain ⟨m, hmm⟩ : ∃ m, ks.length = m := ⟨_, rfl⟩
  have HN := Lib.hid hn
  have HM := Lib.hid hmm
  rw [hn] at hcap HA ⊢
  rw [hmm] at hcap2 HK ⊢
  have J0 := Lib.hid (Below.refl w.heap.size w)
  clear h hk hn hmm
  by_cases hnm : n = m
  · subst hnm
    rw [decide_eq_true rfl, Bool.true_and]
    obtain ⟨r, hr⟩ : ∃ r, tidyAll (agL l) ks = r := ⟨_, rfl⟩
    rw [hr]
    have HT0 : Hid (tidyAll ((agL l).drop 0) (ks.drop 0) = r) := Lib.hid hr
    clear hr
    go_enter Tryd.func48, Tryd.ntmps48
    go_wp2_with fail
    go_loopw [17] (fun s17 wr => ∃ i : Nat, i ≤ n ∧ s17 = .int .i64 (i : Int) ∧ Hid (tidyAll ((agL l).drop i) (ks.drop i) = r) ∧ Hid (Below w.heap.size w wr)) (fun s17 _ => leftN n s17)
    case atStart => exact ⟨0, Nat.zero_le _, rfl, HT0, J0⟩
    case round =>
      clear J0 HT0
      obtain ⟨i, hi, rfl, HT, J⟩ := hrel
      by_cases hlt : i < n
      · have q0 : (0 : Int) ≤ i := by omega
        have q1 : (i : Int) < n := by omega
        obtain ⟨q, hp⟩ : ∃ q, l[i]? = some q := ⟨_, List.getElem?_eq_getElem (by rw [HN.out]; exact hlt)⟩
        obtain ⟨k, hkk⟩ : ∃ k, ks[i]? = some k := ⟨_, List.getElem?_eq_getElem (by rw [HM.out]; exact hlt)⟩
        have hx := HT.out
        rw [drop_cons (agL_at hp), drop_cons hkk] at hx
        unfold tidyAll at hx
        obtain ⟨b, off, rfl, hb, -, -⟩ := ags_at HA.out J.out hp
        obtain ⟨b2, off2, rfl, kc⟩ := is_at HK.out J.out hkk
        obtain ⟨c0, c1, c2, c3⟩ := arg_cells HA.out hp J.out
        have OK := arg_ok HA.out hp J.out
        obtain ⟨⟨kd, nn, ss, bb⟩, pv⟩ := q
        obtain ⟨A3, cap3, hv3, -, -⟩ := OK.shape
        dsimp only at c0 c1 c2 c3 hx hv3
        subst hv3
        have JA := Lib.hid ((Held.nil wr).alloc [.int .i64 kd, .int .i64 nn, .string ss, .slice A3 bb.length cap3] 43)
        have D := fun (W : World) (hb : Below wr.heap.size wr W) => Lib.hid (p_kind_is (⟨kd, nn, ss, bb⟩, .slice A3 bb.length cap3) k (OK.below hb))
        obtain ⟨t, ht⟩ : ∃ t, tidyB ⟨kd, nn, ss, bb⟩ k = t := ⟨_, rfl⟩
        dsimp only at D
        rw [ht] at hx D
        clear hp HT OK ht hkk
        generalize bb.length = bl at *
        cases t with
        | true =>
          rw [Bool.true_and] at hx
          have HT2 := Lib.hid hx
          clear hx
          go_wp2_with fail
          refine (D _ JA.out.below).out.mono ?_
          rintro e w1 ⟨rfl, hb1⟩
          have J2 := Lib.hid (Below.next J.out (JA.out.step hb1).below)
          clear hb1 D JA
          go_wp2_with fail
          go_roundw
          case rel => exact ⟨i + 1, by omega, by go_num, HT2, J2⟩
          case measure =>
            unfold leftN
            simp [intOf]
            omega
        | false =>
          rw [Bool.false_and] at hx
          subst hx
          go_wp2_with fail
          refine (D _ JA.out.below).out.mono ?_
          rintro e w1 ⟨rfl, hb1⟩
          have J2 := Lib.hid (Below.next J.out (JA.out.step hb1).below)
          clear hb1 D JA
          go_wp2_with fail
          go_ret
          exact ⟨rfl, J2.out⟩
      · obtain rfl : n = i := by omega
        have hx := HT.out
        rw [tidyAll_end n (by show (l.map Prod.fst).length ≤ _; rw [List.length_map, HN.out]; omega)] at hx
        clear HT
        subst hx
        go_wp2_with fail
        go_ret
        exact ⟨rfl, J.out⟩
  · have e0 : ((m : Int) != (n : Int)) = true := bne_iff_ne.2 (by omega)
    have e1 : ¬ (m : Int) = (n : Int) := by omega
    rw [decide_eq_false hnm, Bool.false_and]
    go_enter Tryd.func48, Tryd.ntmps48
    go_wp2_with fail
    go_ret
    exact ⟨rfl, J0.out⟩

end Go.Proofs.YtmpkjjmgfakomaaDoor

namespace Go.Proofs.YtmpkjjmgfakomaaDoor
open Go.RowKit Mem Wire

set_option maxRecDepth 100000 in
set_option maxHeartbeats 4000000 in
theorem p_args_eq {w : World} {v v2 : Value} {l l2 : List AgV} (h : Ags w v l) (h2 : Ags w v2 l2) :
    Calls Tryd.prog 46 #[v, v2, .func (.func 47) #[] #[]] w (Says (decide (l.length = l2.length) && eqL (agL l) (agL l2)) w) := by
  have HA := Lib.hid h
  have HK := Lib.hid h2
  have eg : ∀ args w, (callFunc 47 args).run Tryd.prog w = .ok (.enter 47 args) w := enters_of Tryd.func47 (by kernel_rfl) rfl
  obtain ⟨A, cap, rfl, hcap, hm⟩ := h.shape
  obtain ⟨A2, cap2, rfl, hcap2, hm2⟩ := h2.shape
  simp only [maxLen] at hm hm2
  obtain ⟨n, hn⟩ : ∃ n, l.length = n := ⟨_, rfl⟩
  obtain ⟨m, hmm⟩ : ∃ m, l2.length = m := ⟨_, rfl⟩
  have HN := Lib.hid hn
  have HM := Lib.hid hmm
  rw [hn] at hcap HA ⊢
  rw [hmm] at hcap2 HK ⊢
  have J0 := Lib.hid (Below.refl w.heap.size w)
  clear h h2 hn hmm
  by_cases hnm : n = m
  · subst hnm
    rw [decide_eq_true rfl, Bool.true_and]
    obtain ⟨r, hr⟩ : ∃ r, eqL (agL l) (agL l2) = r := ⟨_, rfl⟩
    rw [hr]
    have HT0 : Hid (eqL ((agL l).drop 0) ((agL l2).drop 0) = r) := Lib.hid hr
    clear hr
    go_enter Tryd.func46, Tryd.ntmps46
    go_wp2_with fail
    go_loopw [17] (fun s17 wr => ∃ i : Nat, i ≤ n ∧ s17 = .int .i64 (i : Int) ∧ Hid (eqL ((agL l).drop i) ((agL l2).drop i) = r) ∧ Hid (Below w.heap.size w wr)) (fun s17 _ => leftN n s17)
    case atStart => exact ⟨0, Nat.zero_le _, rfl, HT0, J0⟩
    case round =>
      clear J0 HT0
      obtain ⟨i, hi, rfl, HT, J⟩ := hrel
      by_cases hlt : i < n
      · have q0 : (0 : Int) ≤ i := by omega
        have q1 : (i : Int) < n := by omega
        obtain ⟨q, hp⟩ : ∃ q, l[i]? = some q := ⟨_, List.getElem?_eq_getElem (by rw [HN.out]; exact hlt)⟩
        obtain ⟨q2, hp2⟩ : ∃ q2, l2[i]? = some q2 := ⟨_, List.getElem?_eq_getElem (by rw [HM.out]; exact hlt)⟩
        have hx := HT.out
        rw [drop_cons (agL_at hp), drop_cons (agL_at hp2)] at hx
        unfold eqL at hx
        obtain ⟨b, off, rfl, hb, -, -⟩ := ags_at HA.out J.out hp
        obtain ⟨b2, off2, rfl, hb2, -, -⟩ := ags_at HK.out J.out hp2
        obtain ⟨c0, c1, c2, c3⟩ := arg_cells HA.out hp J.out
        obtain ⟨d0, d1, d2, d3⟩ := arg_cells HK.out hp2 J.out
        have OK := arg_ok HA.out hp J.out
        have OK2 := arg_ok HK.out hp2 J.out
        obtain ⟨⟨kd, nn, ss, bb⟩, pv⟩ := q
        obtain ⟨⟨kd2, nn2, ss2, bb2⟩, pv2⟩ := q2
        obtain ⟨A3, cap3, hv3, -, -⟩ := OK.shape
        obtain ⟨A4, cap4, hv4, -, -⟩ := OK2.shape
        dsimp only at c0 c1 c2 c3 d0 d1 d2 d3 hx hv3 hv4
        subst hv3 hv4
        have JA := Lib.hid (ag_boxes wr [.int .i64 kd, .int .i64 nn, .string ss, .slice A3 bb.length cap3] [.int .i64 kd2, .int .i64 nn2, .string ss2, .slice A4 bb2.length cap4] 43)
        have D := fun (W : World) (hb : Below wr.heap.size wr W) => Lib.hid (p_same_arg (⟨kd, nn, ss, bb⟩, .slice A3 bb.length cap3) (⟨kd2, nn2, ss2, bb2⟩, .slice A4 bb2.length cap4) (OK.below hb) (OK2.below hb))
        have hbw : b < wr.heap.size := Nat.lt_of_lt_of_le hb J.out.size
        have hbw2 : b2 < wr.heap.size := Nat.lt_of_lt_of_le hb2 J.out.size
        obtain ⟨t, ht⟩ : ∃ t, eqA ⟨kd, nn, ss, bb⟩ ⟨kd2, nn2, ss2, bb2⟩ = t := ⟨_, rfl⟩
        dsimp only at D
        rw [ht] at hx D
        clear hp HT OK ht hp2 OK2 hb hb2
        generalize bb.length = bl at *
        generalize bb2.length = bl2 at *
        cases t with
        | true =>
          rw [Bool.true_and] at hx
          have HT2 := Lib.hid hx
          clear hx
          go_wp2_with fail
          refine (D _ JA.out.below).out.mono ?_
          rintro e w1 ⟨rfl, hb1⟩
          have J2 := Lib.hid (Below.next J.out (JA.out.step hb1).below)
          clear hb1 D JA
          go_wp2_with fail
          go_roundw
          case rel => exact ⟨i + 1, by omega, by go_num, HT2, J2⟩
          case measure =>
            unfold leftN
            simp [intOf]
            omega
        | false =>
          rw [Bool.false_and] at hx
          subst hx
          go_wp2_with fail
          refine (D _ JA.out.below).out.mono ?_
          rintro e w1 ⟨rfl, hb1⟩
          have J2 := Lib.hid (Below.next J.out (JA.out.step hb1).below)
          clear hb1 D JA
          go_wp2_with fail
          go_ret
          exact ⟨rfl, J2.out⟩
      · obtain rfl : n = i := by omega
        have hx := HT.out
        rw [List.drop_of_length_le (by show (l.map Prod.fst).length ≤ _; rw [List.length_map, HN.out]; omega), List.drop_of_length_le (by show (l2.map Prod.fst).length ≤ _; rw [List.length_map, HM.out]; omega)] at hx
        clear HT
        subst hx
        go_wp2_with fail
        go_ret
        exact ⟨rfl, J.out⟩
  · have e0 : ((n : Int) != (m : Int)) = true := bne_iff_ne.2 (by omega)
    have e1 : ¬ (n : Int) = (m : Int) := by omega
    rw [decide_eq_false hnm, Bool.false_and]
    go_enter Tryd.func46, Tryd.ntmps46
    go_wp2_with fail
    go_ret
    exact ⟨rfl, J0.out⟩

set_option maxRecDepth 100000 in
set_option maxHeartbeats 4000000 in
theorem p_equal_any {w : World} {v v2 : Value} {l l2 : List AgV} (h : Ags w v l) (h2 : Ags w v2 l2) (ob ob2 : Nat) (oc oc2 : Int) :
    Calls Tryd.prog 19 #[msVal ob oc v, msVal ob2 oc2 v2] w (Says (eqM ⟨ob, oc, agL l⟩ ⟨ob2, oc2, agL l2⟩) w) := by
  have D := fun (W : World) (hb : Below w.heap.size w W) => Lib.hid (p_args_eq (h.below hb) (h2.below hb))
  obtain ⟨A, cap, rfl, hcap, hm⟩ := h.shape
  obtain ⟨A2, cap2, rfl, hcap2, hm2⟩ := h2.shape
  have J := Lib.hid (ag_boxes w [.int .u32 (ob : Int), .int .i64 oc, .slice A l.length cap] [.int .u32 (ob2 : Int), .int .i64 oc2, .slice A2 l2.length cap2] 25)
  unfold eqM
  dsimp only
  rw [show (agL l).length = l.length by simp [agL], show (agL l2).length = l2.length by simp [agL]]
  obtain ⟨r, hr⟩ : ∃ r, (decide (l.length = l2.length) && eqL (agL l) (agL l2)) = r := ⟨_, rfl⟩
  rw [hr] at D ⊢
  clear h h2 hr hcap hm hcap2 hm2
  generalize l.length = n at *
  generalize l2.length = n2 at *
  by_cases h1 : ob = ob2
  · subst h1
    have b1 : ((ob : Int) == (ob : Int)) = true := by simp
    rw [decide_eq_true rfl, Bool.true_and]
    by_cases h2 : oc = oc2
    · subst h2
      have b2 : ((oc : Int) == oc) = true := by simp
      rw [decide_eq_true rfl, Bool.true_and]
      go_enter Tryd.func19, Tryd.ntmps19
      go_wp2_with fail
      refine (D _ J.out.below).out.mono ?_
      rintro e w1 ⟨rfl, hb1⟩
      replace J := Lib.hid (J.out.step hb1)
      clear D hb1
      go_wp2_with fail
      go_ret
      exact ⟨rfl, J.out.below⟩
    · have b2 : ((oc : Int) == oc2) = false := beq_eq_false_iff_ne.2 h2
      rw [decide_eq_false h2, Bool.false_and]
      go_enter Tryd.func19, Tryd.ntmps19
      go_wp2_with fail
      go_ret
      exact ⟨rfl, J.out.below⟩
  · have b1 : ((ob : Int) == (ob2 : Int)) = false := beq_eq_false_iff_ne.2 (by omega)
    rw [decide_eq_false h1, Bool.false_and]
    go_enter Tryd.func19, Tryd.ntmps19
    go_wp2_with fail
    go_ret
    exact ⟨rfl, J.out.below⟩

end Go.Proofs.YtmpkjjmgfakomaaDoor

namespace Go.Proofs.YtmpkjjmgfakomaaDoor
open Go.RowKit Mem Wire

theorem any_not (p : Ag → Bool) : ∀ l : List Ag, (l.any fun a => !p a) = !l.all p
  | [] => rfl
  | a :: l => by rw [List.any_cons, List.all_cons, any_not p l, Bool.not_and]
theorem chk_form (ks : List Nat) (ob : Nat) (oc : Int) (l : List AgV) : chkT (some ks) ⟨ob, oc, agL l⟩ =
    if (decide (l.length = ks.length) && tidyAll (agL l) ks) = false then 2 else
    if decide (0 ≤ oc ∧ oc ≤ 65535) = false then 6 else
    if (agL l).any (fun a => !rngB a) = true then 6 else
    if (agL l).any zerB = true then 3 else
    if (agL l).any bigB = true then 5 else 0 := by
  have el : (agL l).length = l.length := by simp [agL]
  have er : ((agL l).any fun a => !rngB a) = !(agL l).all rngB := any_not rngB (agL l)
  unfold chkT
  dsimp only
  rw [el, er]
  by_cases h1 : l.length = ks.length
  · rw [if_neg (fun h => h h1), decide_eq_true h1, Bool.true_and]
    by_cases h2 : tidyAll (agL l) ks = false
    · rw [if_pos h2, if_pos h2]
    · rw [if_neg h2, if_neg h2]
      by_cases h3 : oc < 0 ∨ 65535 < oc
      · rw [if_pos h3, if_pos (c := decide (0 ≤ oc ∧ oc ≤ 65535) = false) (decide_eq_false (by omega))]
      · rw [if_neg h3, if_neg (c := decide (0 ≤ oc ∧ oc ≤ 65535) = false) (by rw [decide_eq_true (by omega)]; simp)]
        by_cases h4 : (agL l).all rngB = false
        · rw [if_pos h4, if_pos (by rw [h4]; rfl)]
        · rw [if_neg h4, if_neg (c := (!(agL l).all rngB) = true) (by simp only [Bool.not_eq_false] at h4; rw [h4]; simp)]
  · rw [if_pos h1, decide_eq_false h1, Bool.false_and, if_pos rfl]

set_option maxRecDepth 100000 in
set_option maxHeartbeats 8000000 in
theorem p_check_any {w : World} (T : Tab w) {v : Value} {l : List AgV} (h : Ags w v l) (sg : ByteArray) (ob : Nat) (oc : Int) :
    Calls Tryd.prog 20 #[.string sg, msVal ob oc v] w fun e w' => e = .returned (.int .i64 (chkT (sigK sg) ⟨ob, oc, agL l⟩)) ∧ Below w.heap.size w w' := by
  have V := fun (W : World) (hb : Below w.heap.size w W) => Lib.hid (p_valid_any (T.below hb) sg)
  have KE := fun (W : World) (hb : Below w.heap.size w W) (vk : Value) (ks : List Nat) (hk : Is W vk ks) => Lib.hid (p_kinds_eq (h.below hb) hk)
  have OC := fun (W : World) => Lib.hid (p_opc_any oc W)
  have CR := fun (W : World) (hb : Below w.heap.size w W) => Lib.hid (p_contains_any (h.below hb) 32 (fun a => !rngB a) (fun W' _ a _ ok => p_range_any a ok) (enters_of Tryd.func32 (by kernel_rfl) rfl))
  have CZ := fun (W : World) (hb : Below w.heap.size w W) => Lib.hid (p_contains_any (h.below hb) 51 zerB (fun W' _ a _ ok => p_zero_any a ok) (enters_of Tryd.func51 (by kernel_rfl) rfl))
  have CL := fun (W : World) (hb : Below w.heap.size w W) => Lib.hid (p_contains_any (h.below hb) 52 bigB (fun W' _ a _ ok => p_long_any a ok) (enters_of Tryd.func52 (by kernel_rfl) rfl))
  obtain ⟨A, cap, rfl, hcap, hm⟩ := h.shape
  have J := Lib.hid ((Held.nil w).alloc [.int .u32 (ob : Int), .int .i64 oc, .slice A l.length cap] 25)
  cases hs : sigT sg with
  | false =>
    have e : chkT (sigK sg) ⟨ob, oc, agL l⟩ = 2 := by
      unfold sigK
      rw [hs]
      rfl
    rw [e]
    rw [hs] at V
    clear KE CR CZ CL OC e h hs T hcap hm
    generalize l.length = n at *
    go_enter Tryd.func20, Tryd.ntmps20
    go_upto_region 1 with (fail)
    replace J := Lib.hid J.out.drew
    have sk := (J.out.tri (l1 := [])).2.2.1
    first
      | (go_region_with (first
          | (go_at_call 26; (with_reducible refine (V _ J.out.below).out.mono ?_); rintro e wq ⟨rfl, rfl⟩)
          | fail))
      | fail
    all_goals
      clear V sk
      go_wp2_with fail
      go_ret
      exact ⟨rfl, J.out.below⟩
  | true =>
    have e : chkT (sigK sg) ⟨ob, oc, agL l⟩ = chkT (some (kdsT (sl sg))) ⟨ob, oc, agL l⟩ := by
      unfold sigK
      rw [hs]
      rfl
    rw [e, chk_form]
    have KD := fun (W : World) (hb : Below w.heap.size w W) => Lib.hid (p_kinds_any hs (T.below hb))
    rw [hs] at V
    rw [show sg.data.toList = sl sg from rfl] at KD
    obtain ⟨ks, hks⟩ : ∃ ks, kdsT (sl sg) = ks := ⟨_, rfl⟩
    rw [hks] at KD ⊢
    obtain ⟨b1, hb1⟩ : ∃ b1, (decide (l.length = ks.length) && tidyAll (agL l) ks) = b1 := ⟨_, rfl⟩
    obtain ⟨b2, hb2⟩ : ∃ b2, decide (0 ≤ oc ∧ oc ≤ 65535) = b2 := ⟨_, rfl⟩
    obtain ⟨b3, hb3⟩ : ∃ b3, (agL l).any (fun a => !rngB a) = b3 := ⟨_, rfl⟩
    obtain ⟨b4, hb4⟩ : ∃ b4, (agL l).any zerB = b4 := ⟨_, rfl⟩
    obtain ⟨b5, hb5⟩ : ∃ b5, (agL l).any bigB = b5 := ⟨_, rfl⟩
    have KE1 := fun (W : World) (hb : Below w.heap.size w W) (vk : Value) (hk : Is W vk ks) => Lib.hid (by have := (KE W hb vk ks hk).out; rw [hb1] at this; exact this)
    rw [hb1, hb2, hb3, hb4, hb5]
    rw [hb2] at OC
    rw [hb3] at CR
    rw [hb4] at CZ
    rw [hb5] at CL
    clear KE e h hs T hcap hm hks hb1 hb2 hb3 hb4 hb5
    generalize l.length = n at *
    go_enter Tryd.func20, Tryd.ntmps20
    go_upto_region 1 with (fail)
    replace J := Lib.hid J.out.drew
    have sk := (J.out.tri (l1 := [])).2.2.1
    go_region_held3 (fun W => W.cell? ⟨w.heap.size, 2, none⟩ = some (.slice A n cap))
      (first
        | exact sk
        | go_keep)
      (first
        | (go_at_call 26; (with_reducible refine (V _ J.out.below).out.mono ?_); rintro e wq ⟨rfl, rfl⟩)
        | (go_at_call 29; (with_reducible refine (KD _ J.out.below).out.mono ?_); rintro e wq ⟨vk, rfl, ho, hb⟩; replace J := Lib.hid (J.out.step hb); have hki := ho.is; clear sk hb ho; have sk := (J.out.tri (l1 := [])).2.2.1)
        | (go_at_call 48; (with_reducible refine (KE1 _ J.out.below _ hki).out.mono ?_); rintro e wq ⟨rfl, hb⟩; replace J := Lib.hid (J.out.step hb); clear sk hb hki; have sk := (J.out.tri (l1 := [])).2.2.1)
        | fail)
    all_goals
      clear V KD KE1 sk
      cases b1 with
      | false =>
        go_wp2_with fail
        go_ret
        exact ⟨rfl, J.out.below⟩
      | true =>
        obtain ⟨y0, y1, y2, -, -⟩ := (show Held w _ ([] ++ (w.heap.size, _) :: []) from J.out).tri
        cases b2 with
        | false =>
          go_wp2_with fail
          refine (OC _).out.mono ?_
          rintro e wz ⟨rfl, rfl⟩
          go_wp2_with fail
          go_ret
          exact ⟨rfl, J.out.below⟩
        | true =>
          go_wp2_with fail
          refine (OC _).out.mono ?_
          rintro e wz ⟨rfl, rfl⟩
          go_wp2_with fail
          refine (CR _ J.out.below).out.mono ?_
          rintro e wz ⟨rfl, hb⟩
          replace J := Lib.hid (J.out.step hb)
          clear hb OC CR y0 y1 y2
          obtain ⟨y0, y1, y2, -, -⟩ := (show Held w _ ([] ++ (w.heap.size, _) :: []) from J.out).tri
          cases b3 with
          | true =>
            go_wp2_with fail
            go_ret
            exact ⟨rfl, J.out.below⟩
          | false =>
            go_wp2_with fail
            refine (CZ _ J.out.below).out.mono ?_
            rintro e wz ⟨rfl, hb⟩
            replace J := Lib.hid (J.out.step hb)
            clear hb CZ y0 y1 y2
            obtain ⟨y0, y1, y2, -, -⟩ := (show Held w _ ([] ++ (w.heap.size, _) :: []) from J.out).tri
            cases b4 with
            | true =>
              go_wp2_with fail
              go_ret
              exact ⟨rfl, J.out.below⟩
            | false =>
              go_wp2_with fail
              refine (CL _ J.out.below).out.mono ?_
              rintro e wz ⟨rfl, hb⟩
              replace J := Lib.hid (J.out.step hb)
              clear hb CL y0 y1 y2
              cases b5 with
              | true =>
                go_wp2_with fail
                go_ret
                exact ⟨rfl, J.out.below⟩
              | false =>
                go_wp2_with fail
                go_ret
                exact ⟨rfl, J.out.below⟩

end Go.Proofs.YtmpkjjmgfakomaaDoor
