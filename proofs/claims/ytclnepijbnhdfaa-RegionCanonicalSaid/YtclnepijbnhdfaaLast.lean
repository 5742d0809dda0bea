/-
  addLast: an edge added behind the edges of a row.
-/
import Derived.Test.YtclnepijbnhdfaaLow
import Derived.Test.YtclnepijbnhdfaaRow
import Derived.Test.YtclnepijbnhdfaaSame
import Derived.Deep.RegionLaw
import Derived.Deep.QuietTactic
import Derived.BigQuiet
namespace Go.Proofs.Ytclnepijbnhdfaa
open Go.RowKit

/-- the first elements of a row of one's own -/
theorem own_cut {w : World} {base : Nat} {e : TypeId} {size g n cap : Nat} {xs : List Value} (h : w.ownsRow base e size (.slice (some ⟨g, 0, none⟩) n cap) n xs) {m : Nat} (hm : m ≤ n) :
    w.ownsRow base e size (.slice (some ⟨g, 0, none⟩) m cap) m (xs.take (m * size)) := by
  obtain ⟨h1, h2⟩ := h
  have hms : m * size ≤ n * size := Nat.mul_le_mul_right _ hm
  refine ⟨by rw [List.length_take, h1]; omega, ?_⟩
  rcases h2 with ⟨h2, _⟩ | ⟨g', cap', cur, h2, h3, h4, h5, h6, h7, h8⟩
  · cases h2
  · injection h2 with e1 e2 e3
    injection e1 with e1
    injection e1 with e1
    subst e1 e3
    exact .inr ⟨g, cap, cur, rfl, h3, h4, by omega, h6, h7, by rw [← h8, List.take_take, Nat.min_eq_left hms]⟩

theorem flatE_take (l : List E) (m : Nat) : (flatE l).take (m * 3) = flatE (l.take m) := by
  induction l generalizing m with
  | nil => simp [flatE]
  | cons e l ih =>
    cases m with
    | zero => simp [flatE]
    | succ m =>
      have e1 : flatE (e :: l) = cells3 e ++ flatE l := rfl
      rw [e1, List.take_succ_cons, show flatE (e :: l.take m) = cells3 e ++ flatE (l.take m) from rfl, ← ih m, List.take_append, List.take_of_length_le (by simp [cells3]; omega)]
      congr 2
      simp [cells3]
      omega

theorem flat_take (l : List R) (m : Nat) : (flat l).take (m * 4) = flat (l.take m) := by
  induction l generalizing m with
  | nil => simp [flat]
  | cons e l ih =>
    cases m with
    | zero => simp [flat]
    | succ m =>
      have e1 : flat (e :: l) = cells4 e ++ flat l := rfl
      rw [e1, List.take_succ_cons, show flat (e :: l.take m) = cells4 e ++ flat (l.take m) from rfl, ← ih m, List.take_append, List.take_of_length_le (by simp [cells4]; omega)]
      congr 2
      simp [cells4]
      omega

/-- the block of a row, before and after: the same or a new one -/
def NewOr (w : World) (v v' : Value) : Prop := v'.ownBlock = v.ownBlock ∨ ∃ g, w.heap.size ≤ g ∧ v'.ownBlock = some g

theorem NewOr.mono {w w1 : World} {u v : Value} (h : NewOr w1 u v) (hs : w.heap.size ≤ w1.heap.size) : NewOr w u v := by
  rcases h with h | ⟨g, h1, h2⟩
  · exact .inl h
  · exact .inr ⟨g, Nat.le_trans hs h1, h2⟩

theorem NewOr.trans {w : World} {u v t : Value} (h : NewOr w u v) (k : NewOr w v t) : NewOr w u t := by
  rcases k with k | k
  · rcases h with h | ⟨g, h1, h2⟩
    · exact .inl (k.trans h)
    · exact .inr ⟨g, h1, k.trans h2⟩
  · exact .inr k

/-- grown by below-steps and by steps of the row -/
theorem grown_trans {w w1 w2 : World} {row : Option Nat} (h : w.grownBy w1 row) (k : w1.grownBy w2 row) : w.grownBy w2 row :=
  ⟨k.os.trans h.os, k.tape.trans h.tape, k.output.trans h.output, Nat.le_trans h.size k.size, fun b hb hr => (k.block b (Nat.lt_of_lt_of_le hb h.size) hr).trans (h.block b hb hr)⟩

theorem grown_row {w w1 : World} {row : Option Nat} (h : w.grownBy w1 none) : w.grownBy w1 row := ⟨h.os, h.tape, h.output, h.size, fun b hb _ => h.block b hb (by simp)⟩

theorem grown_of_below {w w1 : World} {row : Option Nat} (h : Below w.heap.size w w1) : w.grownBy w1 row := grown_row (grown_below h)

/-- a row of one's own grew where the row changed hands -/
theorem grown_newor {w w1 w2 : World} {u v : Value} (h : w.grownBy w1 u.ownBlock) (hn : NewOr w u v) (k : w1.grownBy w2 v.ownBlock) : w.grownBy w2 u.ownBlock :=
  ⟨k.os.trans h.os, k.tape.trans h.tape, k.output.trans h.output, Nat.le_trans h.size k.size, fun b hb hr => by
    refine (k.block b (Nat.lt_of_lt_of_le hb h.size) ?_).trans (h.block b hb hr)
    rcases hn with hn | ⟨g, h1, h2⟩
    · rw [hn]; exact hr
    · rw [h2]; simp; omega⟩


theorem rel_take_last {l : List E} {p : E} {k : Nat} (h : l[k]? = some p) (hk : l.length = k + 1) : l = l.take k ++ [p] := by
  conv => lhs; rw [← List.take_of_length_le (l := l) (i := k + 1) (by omega), List.take_add_one, h]
  rfl

theorem set_last (m : List E) (p q : E) : (m ++ [p]).set m.length q = m ++ [q] := by
  rw [List.set_append_right _ _ (Nat.le_refl _), Nat.sub_self]
  rfl

/-- the edge e lies at the head of block k -/
def Three (W : World) (k : Nat) (e : E) : Prop := W.cell? ⟨k, 0, none⟩ = some (.int .i64 e.x) ∧ W.cell? ⟨k, 1, none⟩ = some (.int .i64 e.a) ∧ W.cell? ⟨k, 2, none⟩ = some (.int .i64 e.b)

theorem Three.new (w : World) (e : E) (n : Nat) : Three ((w.alloc (.cells #[.int .i64 e.x, .int .i64 e.a, .int .i64 e.b] 83)).drewN n) w.heap.size e := by
  refine ⟨?_, ?_, ?_⟩ <;> (rw [World.cell?_drewN, World.cell?_alloc_at _ _ _ _ rfl]; rfl)

theorem Three.keep {W w1 : World} {k : Nat} {e : E} (h : Three W k e) (hb : Below W.heap.size W w1) (hk : k < W.heap.size) : Three w1 k e :=
  ⟨(hb.cell (p := ⟨k, 0, none⟩) hk).trans h.1, (hb.cell (p := ⟨k, 1, none⟩) hk).trans h.2.1, (hb.cell (p := ⟨k, 2, none⟩) hk).trans h.2.2⟩

/-- what addLast does to the row v -/
def Grew (w : World) (base : Nat) (v : Value) (l : List E) (e : Ending) (w' : World) : Prop :=
  ∃ v', e = .returned v' ∧ OwnE w' base v' l ∧ w.grownBy w' v.ownBlock ∧ NewOr w v v'

set_option maxRecDepth 100000 in
set_option maxHeartbeats 4000000 in
theorem addLast_any {w : World} {base : Nat} {v : Value} {l : List E} (hown : OwnE w base v l) (hbase : base ≤ w.heap.size) (hl : l.length ≤ 1000000) (e : E)
    (hwt : wt l ≤ 1000000 ∧ wt [e] ≤ 1000000) :
    Calls Try.prog 81 #[v, .agg #[.int .i64 e.x, .int .i64 e.a, .int .i64 e.b]] w (Grew w base v (addLastP l e)) := by
  rcases snoc_cases l with rfl | ⟨m, p, rfl⟩
  · have HO := Lib.hid hown
    obtain ⟨A, c, rfl, hc, hm, _⟩ := id hown.es
    simp only [maxLen, List.length_nil] at hm hc ⊢
    clear hwt hl hown
    go_enter Try.func81, Try.ntmps81
    go_wp2_with fail
    go_quiet (fail)
    have HB := Lib.hid (below_draws ((Below.refl w.heap.size w).alloc (Nat.le_refl _) (.cells #[.int .i64 e.x, .int .i64 e.a, .int .i64 e.b] 83)) nq)
    have HT := Lib.hid (Three.new w e nq)
    have hz := HB.out.size
    generalize hW : (w.alloc (.cells #[.int .i64 e.x, .int .i64 e.a, .int .i64 e.b] 83)).drewN nq = W at *
    have hzb : w.heap.size < W.heap.size := by rw [← hW]; simp
    have HO1 := own_below HO.out HB.out
    obtain ⟨t0, t1, t2⟩ := id HT.out
    clear hW
    go_wp2_with (at_builtin; refine wpList_appE rfl _ _ rfl (base := base) (l := []) (m := [e]) rfl (World.ownsRow.alloc HO1 _) rfl (es_one W e) (by simp) (by simp; omega) ?_; intro v1 w1 ho1 hg1 hl1' _)
    go_ret
    exact ⟨v1, rfl, ho1, grown_trans (grown_trans (grown_of_below HB.out) (grown_of_below ((Below.refl _ W).alloc (Nat.le_refl _) _))) hg1, by
      rcases hl1' with h | h
      · exact .inl h
      · exact .inr ⟨_, by simp; omega, h⟩⟩
  · obtain ⟨k, hk⟩ : ∃ k, m.length = k := ⟨_, rfl⟩
    obtain ⟨n, hn⟩ : ∃ n, (m ++ [p]).length = n := ⟨_, rfl⟩
    have hlen : n = k + 1 := by rw [← hn]; simp [hk]
    have HO : Hid (w.ownsRow base 83 3 v n (flatE (m ++ [p]))) := Lib.hid (by unfold OwnE at hown; rwa [hn] at hown)
    obtain ⟨g, cap, rfl, hg1, hg2, hg3, hg4⟩ := owns_shape HO.out (by omega)
    have hat : (m ++ [p])[k]? = some p := by rw [← hk]; simp
    obtain ⟨⟨c0, c1, c2⟩, cf⟩ := OwnE.cells HO.out hat
    have HB0 := Lib.hid (((Below.refl w.heap.size w).alloc (Nat.le_refl _) (.cells #[.int .i64 e.x, .int .i64 e.a, .int .i64 e.b] 83)))
    have HK := Lib.hid hk
    have HN := Lib.hid hlen
    have f0 : IntKind.i64.wrap ((n : Int) - 1) = (k : Int) := by rw [show (n : Int) - 1 = k by omega]; exact IntWalk.i64_in _ (by simp only [maxLen] at hg4; omega)
    have f1 : (0 : Int) ≤ k := by omega
    have f2 : decide ((k : Int) < 0) = false := decide_eq_false (by omega)
    have f3 : (k : Int) < n := by omega
    simp only [maxLen] at hg4
    rw [addLast_snoc]
    clear hown hlen hat hk hn
    by_cases hx : p.x = e.x
    · rw [if_pos hx]
      obtain ⟨res, hres⟩ : ∃ res, (if p.a + e.a = 0 ∧ p.b + e.b = 0 then m else m ++ [⟨p.x, p.a + e.a, p.b + e.b⟩]) = res := ⟨_, rfl⟩
      have HRES := Lib.hid hres
      have hw2 : wt (m ++ [p]) ≤ 1000000 ∧ wt [e] ≤ 1000000 := hwt
      simp only [wt_append, wt] at hw2
      have C := fun W => Lib.hid (plus_any (a := p.a) (b := p.b) (c := e.a) (d := e.b) (by omega) (by omega) (by omega) (by omega) W)
      rw [hres]
      clear hres hwt hw2 hl
      go_enter Try.func81, Try.ntmps81
      go_wp2_with fail
      go_quiet (fail)
      have HB := Lib.hid (below_draws HB0.out nq)
      have HT := Lib.hid (Three.new w e nq)
      have hz := HB.out.size
      generalize hW : (w.alloc (.cells #[.int .i64 e.x, .int .i64 e.a, .int .i64 e.b] 83)).drewN nq = W at *
      have hzb : w.heap.size < W.heap.size := by rw [← hW]; simp
      have HO1 := Lib.hid (own_below HO.out HB.out)
      have hat : (m ++ [p])[k]? = some p := by rw [← HK.out]; simp
      clear hW HO c0 c1 c2 cf
      obtain ⟨⟨c0, c1, c2⟩, cf⟩ := OwnE.cells HO1.out hat
      obtain ⟨t0, t1, t2⟩ := id HT.out
      clear hat
      go_wp2_with fail
      have hgW : g < W.heap.size := by omega
      go_region_law (first
          | (go_simp; go_at_call 77; (with_reducible refine (C _).out.mono ?_); rintro e w4 ⟨rfl, hb4⟩; have cf4 := fun i => (hb4.frozen (p := ⟨g, i, none⟩) hgW).trans (cf i); have d1 := (hb4.cell (p := ⟨g, k * 3 + 1, none⟩) hgW).trans c1; have d2 := (hb4.cell (p := ⟨g, k * 3 + 2, none⟩) hgW).trans c2))
      all_goals
        have HB4 := Lib.hid (HB.out.drew.trans (hb4.mono hz))
        have hat : (m ++ [p])[k]? = some p := by rw [← HK.out]; simp
        have HO2 := Lib.hid (show (((w4.setCell ⟨g, k * 3 + 1, none⟩ (.int .i64 (p.a + e.a))).setCell ⟨g, k * 3 + 1 + 1, none⟩ (.int .i64 (p.b + e.b)))).ownsRow base 83 3 (.slice (some ⟨g, 0, none⟩) n cap) n (flatE ((m ++ [p]).set k ⟨p.x, p.a + e.a, p.b + e.b⟩)) from OwnE.set_step (own_below (World.ownsRow.drew HO1.out) hb4) hat (p.a + e.a) (p.b + e.b))
        have HG2 := Lib.hid (show w.grownBy ((w4.setCell ⟨g, k * 3 + 1, none⟩ (.int .i64 (p.a + e.a))).setCell ⟨g, k * 3 + 1 + 1, none⟩ (.int .i64 (p.b + e.b))) (some g) from grown_trans (grown_trans (grown_of_below HB4.out) (grown_set w4 g (k * 3 + 1) (.int .i64 (p.a + e.a)))) (grown_set _ g (k * 3 + 1 + 1) (.int .i64 (p.b + e.b))))
        clear hat c0 c1 c2 cf t0 t1 t2 cf4 d1 d2 HB4 hb4 HO1 HB HB0 HT C
        generalize (w4.setCell ⟨g, k * 3 + 1, none⟩ (.int .i64 (p.a + e.a))).setCell ⟨g, k * 3 + 1 + 1, none⟩ (.int .i64 (p.b + e.b)) = w5 at *
        have e1 : (m ++ [p]).set k ⟨p.x, p.a + e.a, p.b + e.b⟩ = m ++ [⟨p.x, p.a + e.a, p.b + e.b⟩] := by rw [← HK.out]; exact set_last m p _
        rw [e1] at HO2
        have hat2 : (m ++ [(⟨p.x, p.a + e.a, p.b + e.b⟩ : E)])[k]? = some ⟨p.x, p.a + e.a, p.b + e.b⟩ := by rw [← HK.out]; simp
        obtain ⟨⟨_, c1, c2⟩, cf⟩ := OwnE.cells HO2.out hat2
        clear e1 hat2 cf
        simp only at c1 c2
        have fin : Hid (¬ (p.a + e.a = 0 ∧ p.b + e.b = 0) → OwnE w5 base (.slice (some ⟨g, 0, none⟩) n cap) res) := Lib.hid (fun h => by
          have h1 := HRES.out
          rw [if_neg h] at h1
          have h2 : res.length = n := by rw [← h1, HN.out, ← HK.out]; simp
          unfold OwnE
          rw [h2, ← h1]
          exact HO2.out)
        have fin0 : Hid (p.a + e.a = 0 → p.b + e.b = 0 → OwnE w5 base (.slice (some ⟨g, 0, none⟩) k cap) res) := Lib.hid (fun h0 h1 => by
          have h2 := HRES.out
          rw [if_pos ⟨h0, h1⟩] at h2
          have h3 := own_cut HO2.out (m := k) (by rw [HN.out]; omega)
          rw [flatE_take, ← HK.out, List.take_left, HK.out] at h3
          unfold OwnE
          rw [← h2, HK.out]
          exact h3)
        by_cases h0 : p.a + e.a = 0
        · by_cases h1 : p.b + e.b = 0
          · have HF := Lib.hid (fin0.out h0 h1)
            clear fin fin0
            go_wp2_with fail
            go_ret
            exact ⟨_, rfl, HF.out, HG2.out, .inl rfl⟩
          · have HF := Lib.hid (fin.out (fun h => h1 h.2))
            clear fin fin0
            go_wp2_with fail
            go_ret
            exact ⟨_, rfl, HF.out, HG2.out, .inl rfl⟩
        · have HF := Lib.hid (fin.out (fun h => h0 h.1))
          clear fin fin0
          go_wp2_with fail
          go_ret
          exact ⟨_, rfl, HF.out, HG2.out, .inl rfl⟩
    · rw [if_neg hx]
      have hxb : (p.x != e.x) = true := by simpa using hx
      obtain ⟨res, hres⟩ : ∃ res, m ++ [p] ++ [e] = res := ⟨_, rfl⟩
      have HRES := Lib.hid hres
      rw [hres]
      clear hres
      go_enter Try.func81, Try.ntmps81
      go_wp2_with fail
      go_quiet (fail)
      have HB := Lib.hid (below_draws HB0.out nq)
      have HT := Lib.hid (Three.new w e nq)
      have hz := HB.out.size
      generalize hW : (w.alloc (.cells #[.int .i64 e.x, .int .i64 e.a, .int .i64 e.b] 83)).drewN nq = W at *
      have hzb : w.heap.size < W.heap.size := by rw [← hW]; simp
      have HO1 : OwnE W base (.slice (some ⟨g, 0, none⟩) n cap) (m ++ [p]) := by
        have h1 := own_below HO.out HB.out
        have h2 : (m ++ [p]).length = n := by simp [HK.out, HN.out]
        unfold OwnE
        rwa [h2]
      obtain ⟨t0, t1, t2⟩ := id HT.out
      clear hW HO c0 c1 c2 cf
      go_wp2_with (at_builtin; refine wpList_appE rfl _ _ rfl (base := base) (l := m ++ [p]) (m := [e]) rfl (World.ownsRow.alloc HO1 _) rfl (es_one W e) (by simp only [List.length_singleton]; omega) (by simp; omega) ?_; intro v1 w1 ho1 hg1 hl1' _)
      go_ret
      exact ⟨v1, rfl, by rw [← HRES.out]; exact ho1, grown_trans (grown_trans (grown_of_below HB.out) (grown_of_below ((Below.refl _ W).alloc (Nat.le_refl _) _))) hg1, by
        rcases hl1' with h | h
        · exact .inl h
        · exact .inr ⟨_, by simp; omega, h⟩⟩

end Go.Proofs.Ytclnepijbnhdfaa
