/-
  New, Union, Intersect, Subtract, IsCanonical, Equal, Contains of the reference.
-/
import Derived.Test.YthedglfocjljjaaGreatDoorRod
import Derived.Test.YthedglfocjljjaaGreatDoorRob
import Derived.IntWalk
import Derived.Test.YthedglfocjljjaaGreatDoorRoc
import Derived.Deep.RegionLaw
import Derived.Deep.QuietTactic
import Derived.BigQuiet
import Derived.Maps.OwnRows
import Derived.Lib.SlKeysI
import Derived.Deep.RegionHeld3
import Derived.Maps.OwnOps
import Derived.RangeFuncRecord
namespace Go.Proofs.YthedglfocjljjaaGreatDoor.Rgn
open Go.RowKit

def Lim (L : List R) (w : World) (e : Ending) (w' : World) : Prop :=
  ∃ t, e = .returned (.tuple #[t, .int .i64 (if L.length ≤ 256 then 0 else 5)]) ∧ OwnR w' w.heap.size t (if L.length ≤ 256 then L else []) ∧ Below w.heap.size w w'

theorem lim_mk {w w' : World} {L : List R} {t : Value} (h : OwnR w' w.heap.size t L) (hb : Below w.heap.size w w') :
    Lim L w (.returned (.tuple #[if L.length ≤ 256 then t else .slice none 0 0, .int .i64 (if L.length ≤ 256 then 0 else 5)])) w' := by
  refine ⟨_, rfl, ?_, hb⟩
  split
  · exact h
  · exact ownR_nil _ _

set_option maxRecDepth 100000 in
set_option maxHeartbeats 2000000 in
theorem rnew_any {w : World} {va : Value} {a : List R} (h : Rs w va a) (hl : a.length ≤ 500) : Calls Tryz.prog 69 #[va] w (Lim (combP (fun x y => x || y) a []) w) := by
  have C := Lib.hid (combined_any h (rs_nil w) (mode := 1) (op := fun x y => x || y) (.inl ⟨rfl, rfl⟩) (by simpa using hl))
  obtain ⟨A, c, rfl, _, _, _⟩ := h
  generalize combP (fun x y => x || y) a [] = L at *
  go_enter Tryz.func69, Tryz.ntmps69
  go_wp2_with fail
  refine C.out.mono ?_
  rintro e w1 ⟨t, rfl, ho, hb⟩
  obtain ⟨t2, ht2⟩ : ∃ t2, (if L.length ≤ 256 then t else .slice none 0 0) = t2 := ⟨_, rfl⟩
  obtain ⟨c2, hc2⟩ : ∃ c2 : Int, (if L.length ≤ 256 then 0 else 5) = c2 := ⟨_, rfl⟩
  have D := Lib.hid (limited_any ho.rs)
  have HO := Lib.hid (lim_mk ho hb)
  rw [ht2, hc2] at D HO
  clear C ho ht2 hc2
  go_wp2_with fail
  refine D.out.mono ?_
  rintro e w2 ⟨rfl, rfl⟩
  clear D
  go_wp2_with fail
  go_ret2
  exact HO.out

set_option maxRecDepth 100000 in
set_option maxHeartbeats 2000000 in
theorem rinter_any {w : World} {va vb : Value} {a b : List R} (h : Rs w va a) (hu : Rs w vb b) (hl : a.length + b.length ≤ 500) : Calls Tryz.prog 93 #[va, vb] w (Lim (combP (fun x y => x && y) a b) w) := by
  have C := Lib.hid (combined_any h hu (mode := 2) (op := fun x y => x && y) (.inr (.inl ⟨rfl, rfl⟩)) hl)
  obtain ⟨A, c, rfl, _, _, _⟩ := h
  obtain ⟨A', c', rfl, _, _, _⟩ := hu
  generalize combP (fun x y => x && y) a b = L at *
  go_enter Tryz.func93, Tryz.ntmps93
  go_wp2_with fail
  refine C.out.mono ?_
  rintro e w1 ⟨t, rfl, ho, hb⟩
  obtain ⟨t2, ht2⟩ : ∃ t2, (if L.length ≤ 256 then t else .slice none 0 0) = t2 := ⟨_, rfl⟩
  obtain ⟨c2, hc2⟩ : ∃ c2 : Int, (if L.length ≤ 256 then 0 else 5) = c2 := ⟨_, rfl⟩
  have D := Lib.hid (limited_any ho.rs)
  have HO := Lib.hid (lim_mk ho hb)
  rw [ht2, hc2] at D HO
  clear C ho ht2 hc2
  go_wp2_with fail
  refine D.out.mono ?_
  rintro e w2 ⟨rfl, rfl⟩
  clear D
  go_wp2_with fail
  go_ret2
  exact HO.out

set_option maxRecDepth 100000 in
set_option maxHeartbeats 2000000 in
theorem rsubt_any {w : World} {va vb : Value} {a b : List R} (h : Rs w va a) (hu : Rs w vb b) (hl : a.length + b.length ≤ 500) : Calls Tryz.prog 32 #[va, vb] w (Lim (combP (fun x y => x && !y) a b) w) := by
  have C := Lib.hid (combined_any h hu (mode := 3) (op := fun x y => x && !y) (.inr (.inr ⟨rfl, rfl⟩)) hl)
  obtain ⟨A, c, rfl, _, _, _⟩ := h
  obtain ⟨A', c', rfl, _, _, _⟩ := hu
  generalize combP (fun x y => x && !y) a b = L at *
  go_enter Tryz.func32, Tryz.ntmps32
  go_wp2_with fail
  refine C.out.mono ?_
  rintro e w1 ⟨t, rfl, ho, hb⟩
  obtain ⟨t2, ht2⟩ : ∃ t2, (if L.length ≤ 256 then t else .slice none 0 0) = t2 := ⟨_, rfl⟩
  obtain ⟨c2, hc2⟩ : ∃ c2 : Int, (if L.length ≤ 256 then 0 else 5) = c2 := ⟨_, rfl⟩
  have D := Lib.hid (limited_any ho.rs)
  have HO := Lib.hid (lim_mk ho hb)
  rw [ht2, hc2] at D HO
  clear C ho ht2 hc2
  go_wp2_with fail
  refine D.out.mono ?_
  rintro e w2 ⟨rfl, rfl⟩
  clear D
  go_wp2_with fail
  go_ret2
  exact HO.out

set_option maxRecDepth 100000 in
theorem plus_any {a b c d : Int} (ha : a.natAbs ≤ 1000000000) (hb : b.natAbs ≤ 1000000000) (hc : c.natAbs ≤ 1000000000) (hd : d.natAbs ≤ 1000000000) (w : World) :
    Calls Tryz.prog 128 #[.agg #[.int .i64 a, .int .i64 b], .agg #[.int .i64 c, .int .i64 d]] w fun e w' => e = .returned (.agg #[.int .i64 (a + c), .int .i64 (b + d)]) ∧ Below w.heap.size w w' := by
  have f0 := IntWalk.i64_in (n := a + c) (by omega)
  have f1 := IntWalk.i64_in (n := b + d) (by omega)
  clear ha hb hc hd
  go_enter Tryz.func128, Tryz.ntmps128
  go_wp2_with fail
  exact bodyPost_ret (v := .agg #[.int .i64 (a + c), .int .i64 (b + d)]) (by simp [results, Tryz.results128, go_sem]) rfl ⟨rfl, ((((Below.refl w.heap.size w).alloc (Nat.le_refl _) _).alloc (by simp) _).alloc (by simp; omega) _)⟩

set_option maxRecDepth 100000 in
theorem negative_any {a b : Int} (ha : a.natAbs ≤ 1000000000) (hb : b.natAbs ≤ 1000000000) (w : World) :
    Calls Tryz.prog 123 #[.agg #[.int .i64 a, .int .i64 b]] w fun e w' => e = .returned (.agg #[.int .i64 (-a), .int .i64 (-b)]) ∧ Below w.heap.size w w' := by
  have f0 := IntWalk.i64_in (n := -a) (by omega)
  have f1 := IntWalk.i64_in (n := -b) (by omega)
  clear ha hb
  go_enter Tryz.func123, Tryz.ntmps123
  go_wp2_with fail
  exact bodyPost_ret (v := .agg #[.int .i64 (-a), .int .i64 (-b)]) (by simp [results, Tryz.results123, go_sem]) rfl ⟨rfl, (((Below.refl w.heap.size w).alloc (Nat.le_refl _) _).alloc (by simp) _)⟩

theorem own_cut {w : World} {base : Nat} {e : TypeId} {size g n cap : Nat} {xs : List Value} (h : w.ownsRow base e size (.slice (some ⟨g, 0, none⟩) n cap) n xs) {m : Nat} (hm : m ≤ n) :
    w.ownsRow base e size (.slice (some ⟨g, 0, none⟩) m cap) m (xs.take (m * size)) := by
  obtain ⟨h1, h2⟩ := h
  have hms : m * size ≤ n * size := Nat.mul_le_mul_right _ hm
  refine ⟨by rw [List.length_take, h1]; omega, ?_⟩
  rcases h2 with ⟨h2, _⟩ | ⟨g', cap', cur, h2, h3, h4, h5, h6, h7, h8⟩
  · cases h2
  · injection h2 with e1 e2 e3
    injection e1 with e1
    injection e1 with e1
    subst e1 e3
    exact .inr ⟨g, cap, cur, rfl, h3, h4, by omega, h6, h7, by rw [← h8, List.take_take, Nat.min_eq_left hms]⟩

theorem flatE_take (l : List E) (m : Nat) : (flatE l).take (m * 3) = flatE (l.take m) := by
  induction l generalizing m with
  | nil => simp [flatE]
  | cons e l ih =>
    cases m with
    | zero => simp [flatE]
    | succ m =>
      have e1 : flatE (e :: l) = cells3 e ++ flatE l := rfl
      rw [e1, List.take_succ_cons, show flatE (e :: l.take m) = cells3 e ++ flatE (l.take m) from rfl, ← ih m, List.take_append, List.take_of_length_le (by simp [cells3]; omega)]
      congr 2
      simp [cells3]
      omega

def NewOr (w : World) (v v' : Value) : Prop := v'.ownBlock = v.ownBlock ∨ ∃ g, w.heap.size ≤ g ∧ v'.ownBlock = some g

theorem NewOr.mono {w w1 : World} {u v : Value} (h : NewOr w1 u v) (hs : w.heap.size ≤ w1.heap.size) : NewOr w u v := by
  rcases h with h | ⟨g, h1, h2⟩
  · exact .inl h
  · exact .inr ⟨g, Nat.le_trans hs h1, h2⟩

theorem NewOr.trans {w : World} {u v t : Value} (h : NewOr w u v) (k : NewOr w v t) : NewOr w u t := by
  rcases k with k | k
  · rcases h with h | ⟨g, h1, h2⟩
    · exact .inl (k.trans h)
    · exact .inr ⟨g, h1, k.trans h2⟩
  · exact .inr k

theorem grown_trans {w w1 w2 : World} {row : Option Nat} (h : w.grownBy w1 row) (k : w1.grownBy w2 row) : w.grownBy w2 row :=
  ⟨k.os.trans h.os, k.tape.trans h.tape, k.output.trans h.output, Nat.le_trans h.size k.size, fun b hb hr => (k.block b (Nat.lt_of_lt_of_le hb h.size) hr).trans (h.block b hb hr)⟩

theorem grown_row {w w1 : World} {row : Option Nat} (h : w.grownBy w1 none) : w.grownBy w1 row := ⟨h.os, h.tape, h.output, h.size, fun b hb _ => h.block b hb (by simp)⟩

theorem grown_of_below {w w1 : World} {row : Option Nat} (h : Below w.heap.size w w1) : w.grownBy w1 row := grown_row (grown_below h)

theorem set_last (m : List E) (p q : E) : (m ++ [p]).set m.length q = m ++ [q] := by
  rw [List.set_append_right _ _ (Nat.le_refl _), Nat.sub_self]
  rfl

def Three (W : World) (k : Nat) (e : E) : Prop := W.cell? ⟨k, 0, none⟩ = some (.int .i64 e.x) ∧ W.cell? ⟨k, 1, none⟩ = some (.int .i64 e.a) ∧ W.cell? ⟨k, 2, none⟩ = some (.int .i64 e.b)

theorem Three.new (w : World) (e : E) (n : Nat) : Three ((w.alloc (.cells #[.int .i64 e.x, .int .i64 e.a, .int .i64 e.b] 129)).drewN n) w.heap.size e := by
  refine ⟨?_, ?_, ?_⟩ <;> (rw [World.cell?_drewN, World.cell?_alloc_at _ _ _ _ rfl]; rfl)

theorem Three.keep {W w1 : World} {k : Nat} {e : E} (h : Three W k e) (hb : Below W.heap.size W w1) (hk : k < W.heap.size) : Three w1 k e :=
  ⟨(hb.cell (p := ⟨k, 0, none⟩) hk).trans h.1, (hb.cell (p := ⟨k, 1, none⟩) hk).trans h.2.1, (hb.cell (p := ⟨k, 2, none⟩) hk).trans h.2.2⟩

def Grew (w : World) (base : Nat) (v : Value) (l : List E) (e : Ending) (w' : World) : Prop :=
  ∃ v', e = .returned v' ∧ OwnE w' base v' l ∧ w.grownBy w' v.ownBlock ∧ NewOr w v v'

set_option maxRecDepth 100000 in
set_option maxHeartbeats 4000000 in
theorem addLast_any {w : World} {base : Nat} {v : Value} {l : List E} (hown : OwnE w base v l) (hbase : base ≤ w.heap.size) (hl : l.length ≤ 1000000) (e : E)
    (hwt : wt l ≤ 1000000 ∧ wt [e] ≤ 1000000) :
    Calls Tryz.prog 132 #[v, .agg #[.int .i64 e.x, .int .i64 e.a, .int .i64 e.b]] w (Grew w base v (addLastP l e)) := by
  rcases snoc_cases l with rfl | ⟨m, p, rfl⟩
  · have HO := Lib.hid hown
    obtain ⟨A, c, rfl, hc, hm, _⟩ := id hown.es
    simp only [maxLen, List.length_nil] at hm hc ⊢
    clear hwt hl hown
    go_enter Tryz.func132, Tryz.ntmps132
    go_wp2_with fail
    go_quiet (fail)
    have HB := Lib.hid (below_draws ((Below.refl w.heap.size w).alloc (Nat.le_refl _) (.cells #[.int .i64 e.x, .int .i64 e.a, .int .i64 e.b] 129)) nq)
    have HT := Lib.hid (Three.new w e nq)
    have hz := HB.out.size
    generalize hW : (w.alloc (.cells #[.int .i64 e.x, .int .i64 e.a, .int .i64 e.b] 129)).drewN nq = W at *
    have hzb : w.heap.size < W.heap.size := by rw [← hW]; simp
    have HO1 := own_below HO.out HB.out
    obtain ⟨t0, t1, t2⟩ := id HT.out
    clear hW
    go_wp2_with (at_builtin; refine wpList_appE rfl _ _ rfl (base := base) (l := []) (m := [e]) rfl (World.ownsRow.alloc HO1 _) rfl (es_one W e) (by simp) (by simp; omega) ?_; intro v1 w1 ho1 hg1 hl1' _)
    go_ret
    exact ⟨v1, rfl, ho1, grown_trans (grown_trans (grown_of_below HB.out) (grown_of_below ((Below.refl _ W).alloc (Nat.le_refl _) _))) hg1, by
      rcases hl1' with h | h
      · exact .inl h
      · exact .inr ⟨_, by simp; omega, h⟩⟩
  · obtain ⟨k, hk⟩ : ∃ k, m.length = k := ⟨_, rfl⟩
    obtain ⟨n, hn⟩ : ∃ n, (m ++ [p]).length = n := ⟨_, rfl⟩
    have hlen : n = k + 1 := by rw [← hn]; simp [hk]
    have HO : Hid (w.ownsRow base 129 3 v n (flatE (m ++ [p]))) := Lib.hid (by unfold OwnE at hown; rwa [hn] at hown)
    obtain ⟨g, cap, rfl, hg1, hg2, hg3, hg4⟩ := owns_shape HO.out (by omega)
    have hat : (m ++ [p])[k]? = some p := by rw [← hk]; simp
    obtain ⟨⟨c0, c1, c2⟩, cf⟩ := OwnE.cells HO.out hat
    have HB0 := Lib.hid (((Below.refl w.heap.size w).alloc (Nat.le_refl _) (.cells #[.int .i64 e.x, .int .i64 e.a, .int .i64 e.b] 129)))
    have HK := Lib.hid hk
    have HN := Lib.hid hlen
    have f0 : IntKind.i64.wrap ((n : Int) - 1) = (k : Int) := by rw [show (n : Int) - 1 = k by omega]; exact IntWalk.i64_in _ (by simp only [maxLen] at hg4; omega)
    have f1 : (0 : Int) ≤ k := by omega
    have f2 : decide ((k : Int) < 0) = false := decide_eq_false (by omega)
    have f3 : (k : Int) < n := by omega
    simp only [maxLen] at hg4
    rw [addLast_snoc]
    clear hown hlen hat hk hn
    by_cases hx : p.x = e.x
    · rw [if_pos hx]
      obtain ⟨res, hres⟩ : ∃ res, (if p.a + e.a = 0 ∧ p.b + e.b = 0 then m else m ++ [⟨p.x, p.a + e.a, p.b + e.b⟩]) = res := ⟨_, rfl⟩
      have HRES := Lib.hid hres
      have hw2 : wt (m ++ [p]) ≤ 1000000 ∧ wt [e] ≤ 1000000 := hwt
      simp only [wt_append, wt] at hw2
      have C := fun W => Lib.hid (plus_any (a := p.a) (b := p.b) (c := e.a) (d := e.b) (by omega) (by omega) (by omega) (by omega) W)
      rw [hres]
      clear hres hwt hw2 hl
      go_enter Tryz.func132, Tryz.ntmps132
      go_wp2_with fail
      go_quiet (fail)
      have HB := Lib.hid (below_draws HB0.out nq)
      have HT := Lib.hid (Three.new w e nq)
      have hz := HB.out.size
      generalize hW : (w.alloc (.cells #[.int .i64 e.x, .int .i64 e.a, .int .i64 e.b] 129)).drewN nq = W at *
      have hzb : w.heap.size < W.heap.size := by rw [← hW]; simp
      have HO1 := Lib.hid (own_below HO.out HB.out)
      have hat : (m ++ [p])[k]? = some p := by rw [← HK.out]; simp
      clear hW HO c0 c1 c2 cf
      obtain ⟨⟨c0, c1, c2⟩, cf⟩ := OwnE.cells HO1.out hat
      obtain ⟨t0, t1, t2⟩ := id HT.out
      clear hat
      go_wp2_with fail
      have hgW : g < W.heap.size := by omega
      go_region_law (first
          | (go_simp; go_at_call 128; (with_reducible refine (C _).out.mono ?_); rintro e w4 ⟨rfl, hb4⟩; have cf4 := fun i => (hb4.frozen (p := ⟨g, i, none⟩) hgW).trans (cf i); have d1 := (hb4.cell (p := ⟨g, k * 3 + 1, none⟩) hgW).trans c1; have d2 := (hb4.cell (p := ⟨g, k * 3 + 2, none⟩) hgW).trans c2))
      all_goals
        have HB4 := Lib.hid (HB.out.drew.trans (hb4.mono hz))
        have hat : (m ++ [p])[k]? = some p := by rw [← HK.out]; simp
        have HO2 := Lib.hid (show (((w4.setCell ⟨g, k * 3 + 1, none⟩ (.int .i64 (p.a + e.a))).setCell ⟨g, k * 3 + 1 + 1, none⟩ (.int .i64 (p.b + e.b)))).ownsRow base 129 3 (.slice (some ⟨g, 0, none⟩) n cap) n (flatE ((m ++ [p]).set k ⟨p.x, p.a + e.a, p.b + e.b⟩)) from OwnE.set_step (own_below (World.ownsRow.drew HO1.out) hb4) hat (p.a + e.a) (p.b + e.b))
        have HG2 := Lib.hid (show w.grownBy ((w4.setCell ⟨g, k * 3 + 1, none⟩ (.int .i64 (p.a + e.a))).setCell ⟨g, k * 3 + 1 + 1, none⟩ (.int .i64 (p.b + e.b))) (some g) from grown_trans (grown_trans (grown_of_below HB4.out) (grown_set w4 g (k * 3 + 1) (.int .i64 (p.a + e.a)))) (grown_set _ g (k * 3 + 1 + 1) (.int .i64 (p.b + e.b))))
        clear hat c0 c1 c2 cf t0 t1 t2 cf4 d1 d2 HB4 hb4 HO1 HB HB0 HT C
        generalize (w4.setCell ⟨g, k * 3 + 1, none⟩ (.int .i64 (p.a + e.a))).setCell ⟨g, k * 3 + 1 + 1, none⟩ (.int .i64 (p.b + e.b)) = w5 at *
        have e1 : (m ++ [p]).set k ⟨p.x, p.a + e.a, p.b + e.b⟩ = m ++ [⟨p.x, p.a + e.a, p.b + e.b⟩] := by rw [← HK.out]; exact set_last m p _
        rw [e1] at HO2
        have hat2 : (m ++ [(⟨p.x, p.a + e.a, p.b + e.b⟩ : E)])[k]? = some ⟨p.x, p.a + e.a, p.b + e.b⟩ := by rw [← HK.out]; simp
        obtain ⟨⟨_, c1, c2⟩, cf⟩ := OwnE.cells HO2.out hat2
        clear e1 hat2 cf
        simp only at c1 c2
        have fin : Hid (¬ (p.a + e.a = 0 ∧ p.b + e.b = 0) → OwnE w5 base (.slice (some ⟨g, 0, none⟩) n cap) res) := Lib.hid (fun h => by
          have h1 := HRES.out
          rw [if_neg h] at h1
          have h2 : res.length = n := by rw [← h1, HN.out, ← HK.out]; simp
          unfold OwnE
          rw [h2, ← h1]
          exact HO2.out)
        have fin0 : Hid (p.a + e.a = 0 → p.b + e.b = 0 → OwnE w5 base (.slice (some ⟨g, 0, none⟩) k cap) res) := Lib.hid (fun h0 h1 => by
          have h2 := HRES.out
          rw [if_pos ⟨h0, h1⟩] at h2
          have h3 := own_cut HO2.out (m := k) (by rw [HN.out]; omega)
          rw [flatE_take, ← HK.out, List.take_left, HK.out] at h3
          unfold OwnE
          rw [← h2, HK.out]
          exact h3)
        by_cases h0 : p.a + e.a = 0
        · by_cases h1 : p.b + e.b = 0
          · have HF := Lib.hid (fin0.out h0 h1)
            clear fin fin0
            go_wp2_with fail
            go_ret
            exact ⟨_, rfl, HF.out, HG2.out, .inl rfl⟩
          · have HF := Lib.hid (fin.out (fun h => h1 h.2))
            clear fin fin0
            go_wp2_with fail
            go_ret
            exact ⟨_, rfl, HF.out, HG2.out, .inl rfl⟩
        · have HF := Lib.hid (fin.out (fun h => h0 h.1))
          clear fin fin0
          go_wp2_with fail
          go_ret
          exact ⟨_, rfl, HF.out, HG2.out, .inl rfl⟩
    · rw [if_neg hx]
      have hxb : (p.x != e.x) = true := by simpa using hx
      obtain ⟨res, hres⟩ : ∃ res, m ++ [p] ++ [e] = res := ⟨_, rfl⟩
      have HRES := Lib.hid hres
      rw [hres]
      clear hres
      go_enter Tryz.func132, Tryz.ntmps132
      go_wp2_with fail
      go_quiet (fail)
      have HB := Lib.hid (below_draws HB0.out nq)
      have HT := Lib.hid (Three.new w e nq)
      have hz := HB.out.size
      generalize hW : (w.alloc (.cells #[.int .i64 e.x, .int .i64 e.a, .int .i64 e.b] 129)).drewN nq = W at *
      have hzb : w.heap.size < W.heap.size := by rw [← hW]; simp
      have HO1 : OwnE W base (.slice (some ⟨g, 0, none⟩) n cap) (m ++ [p]) := by
        have h1 := own_below HO.out HB.out
        have h2 : (m ++ [p]).length = n := by simp [HK.out, HN.out]
        unfold OwnE
        rwa [h2]
      obtain ⟨t0, t1, t2⟩ := id HT.out
      clear hW HO c0 c1 c2 cf
      go_wp2_with (at_builtin; refine wpList_appE rfl _ _ rfl (base := base) (l := m ++ [p]) (m := [e]) rfl (World.ownsRow.alloc HO1 _) rfl (es_one W e) (by simp only [List.length_singleton]; omega) (by simp; omega) ?_; intro v1 w1 ho1 hg1 hl1' _)
      go_ret
      exact ⟨v1, rfl, by rw [← HRES.out]; exact ho1, grown_trans (grown_trans (grown_of_below HB.out) (grown_of_below ((Below.refl _ W).alloc (Nat.le_refl _) _))) hg1, by
        rcases hl1' with h | h
        · exact .inl h
        · exact .inr ⟨_, by simp; omega, h⟩⟩

structure GrownIn (X : Nat → Prop) (w w' : World) : Prop where
  os : w'.os = w.os
  tape : w'.tape = w.tape
  output : w'.output = w.output
  size : w.heap.size ≤ w'.heap.size
  block : ∀ k, k < w.heap.size → ¬ X k → w'.heap[k]? = w.heap[k]?

def blk (v : Value) (k : Nat) : Prop := v.ownBlock = some k

theorem GrownIn.refl (X : Nat → Prop) (w : World) : GrownIn X w w := ⟨rfl, rfl, rfl, Nat.le_refl _, fun _ _ _ => rfl⟩

theorem GrownIn.trans {X : Nat → Prop} {w w1 w2 : World} (h : GrownIn X w w1) (k : GrownIn X w1 w2) : GrownIn X w w2 :=
  ⟨k.os.trans h.os, k.tape.trans h.tape, k.output.trans h.output, Nat.le_trans h.size k.size, fun b hb hx => (k.block b (Nat.lt_of_lt_of_le hb h.size) hx).trans (h.block b hb hx)⟩

theorem GrownIn.mono {X Y : Nat → Prop} {w w1 : World} (h : GrownIn X w w1) (hs : ∀ k, k < w.heap.size → X k → Y k) : GrownIn Y w w1 :=
  ⟨h.os, h.tape, h.output, h.size, fun b hb hx => h.block b hb (fun hk => hx (hs b hb hk))⟩

theorem GrownIn.step {X Y : Nat → Prop} {w w1 w2 : World} (h : GrownIn X w w1) (k : GrownIn Y w1 w2) (hs : ∀ b, b < w.heap.size → Y b → X b) : GrownIn X w w2 :=
  ⟨k.os.trans h.os, k.tape.trans h.tape, k.output.trans h.output, Nat.le_trans h.size k.size, fun b hb hx => (k.block b (Nat.lt_of_lt_of_le hb h.size) (fun hy => hx (hs b hb hy))).trans (h.block b hb hx)⟩

theorem GrownIn.of_grown {w w1 : World} {row : Option Nat} (h : w.grownBy w1 row) : GrownIn (fun k => row = some k) w w1 :=
  ⟨h.os, h.tape, h.output, h.size, fun b hb hx => h.block b hb (fun e => hx e.symm)⟩

theorem GrownIn.of_own {w w1 : World} {v : Value} (h : w.grownBy w1 v.ownBlock) : GrownIn (blk v) w w1 := GrownIn.of_grown h

theorem GrownIn.of_below {X : Nat → Prop} {w w1 : World} (h : Below w.heap.size w w1) : GrownIn X w w1 := ⟨h.os, h.tape, h.output, h.size, fun b hb _ => h.block b hb⟩

theorem GrownIn.below {X : Nat → Prop} {B : Nat} {w w1 : World} (h : GrownIn X w w1) (hB : B ≤ w.heap.size) (hX : ∀ k, X k → B ≤ k) : Below B w w1 :=
  ⟨h.os, h.tape, h.output, h.size, fun k hk => h.block k (Nat.lt_of_lt_of_le hk hB) (fun hx => by have := hX k hx; omega)⟩

theorem GrownIn.alloc {X : Nat → Prop} {w w1 : World} (h : GrownIn X w w1) (o : Obj) : GrownIn X w (w1.alloc o) := h.trans (GrownIn.of_below ((Below.refl _ w1).alloc (Nat.le_refl _) o))
theorem GrownIn.drew {X : Nat → Prop} {w w1 : World} (h : GrownIn X w w1) : GrownIn X w w1.drew := h.trans (GrownIn.of_below (Below.refl _ w1).drew)

theorem GrownIn.own {X : Nat → Prop} {w w1 : World} (h : GrownIn X w w1) {base : Nat} {e : TypeId} {size : Nat} {v : Value} {n : Nat} {xs : List Value} (ho : w.ownsRow base e size v n xs) (hX : ∀ k, blk v k → ¬ X k) : w1.ownsRow base e size v n xs := by
  refine ⟨ho.1, ?_⟩
  rcases ho.2 with hn | ⟨g, cap, cur, rfl, hb, hgg, rest⟩
  · exact .inl hn
  · refine .inr ⟨g, cap, cur, rfl, hb, ?_, rest⟩
    rw [h.block g (Array.getElem?_eq_some_iff.1 hgg).1 (hX g rfl)]
    exact hgg

theorem GrownIn.cell {X : Nat → Prop} {w w1 : World} (h : GrownIn X w w1) {a : Addr} (hb : a.block < w.heap.size) (hX : ¬ X a.block) : w1.cell? a = w.cell? a := World.cell?_of_block (h.block _ hb hX)
theorem GrownIn.frozen {X : Nat → Prop} {w w1 : World} (h : GrownIn X w w1) {a : Addr} (hb : a.block < w.heap.size) (hX : ¬ X a.block) : w1.frozen? a = w.frozen? a := World.frozen?_of_block (h.block _ hb hX)

theorem GrownIn.es {X : Nat → Prop} {w w1 : World} (h : GrownIn X w w1) {v : Value} {l : List E} (ho : Es w v l) (hX : ∀ k, blk v k → ¬ X k) : Es w1 v l := by
  obtain ⟨A, cap, rfl, h1, h2, h4⟩ := ho
  refine ⟨A, cap, rfl, h1, h2, fun hn => ?_⟩
  obtain ⟨b, off, rfl, hlt, hc⟩ := h4 hn
  have hx := hX b rfl
  refine ⟨b, off, rfl, Nat.lt_of_lt_of_le hlt h.size, fun j t ht => ?_⟩
  rw [h.cell (a := ⟨b, off + j * 3, none⟩) hlt hx, h.cell (a := ⟨b, off + j * 3 + 1, none⟩) hlt hx, h.cell (a := ⟨b, off + j * 3 + 2, none⟩) hlt hx]
  exact hc j t ht

theorem GrownIn.rs {X : Nat → Prop} {w w1 : World} (h : GrownIn X w w1) {v : Value} {l : List R} (ho : Rs w v l) (hX : ∀ k, blk v k → ¬ X k) : Rs w1 v l := by
  obtain ⟨A, cap, rfl, h1, h2, h4⟩ := ho
  refine ⟨A, cap, rfl, h1, h2, fun hn => ?_⟩
  obtain ⟨b, off, rfl, hlt, hc⟩ := h4 hn
  have hx := hX b rfl
  refine ⟨b, off, rfl, Nat.lt_of_lt_of_le hlt h.size, fun j t ht => ?_⟩
  rw [h.cell (a := ⟨b, off + j * 4, none⟩) hlt hx, h.cell (a := ⟨b, off + j * 4 + 1, none⟩) hlt hx, h.cell (a := ⟨b, off + j * 4 + 2, none⟩) hlt hx, h.cell (a := ⟨b, off + j * 4 + 3, none⟩) hlt hx]
  exact hc j t ht

theorem NewOr.grown {w w1 w2 : World} {X : Nat → Prop} {u v : Value} (h : GrownIn X w w1) (hu : ∀ k, k < w.heap.size → blk u k → X k) (hn : NewOr w u v) (k : w1.grownBy w2 v.ownBlock) : GrownIn X w w2 :=
  h.step (GrownIn.of_own k) (fun b hb hv => by
    rcases hn with hn | ⟨g, h1, h2⟩
    · exact hu b hb (by unfold blk at hv ⊢; rw [← hn]; exact hv)
    · unfold blk at hv
      rw [h2] at hv
      cases hv
      omega)

theorem NewOr.sub {w : World} {u v : Value} (hn : NewOr w u v) : ∀ b, b < w.heap.size → blk v b → blk u b := fun b hb hv => by
  rcases hn with hn | ⟨g, h1, h2⟩
  · unfold blk at hv ⊢; rw [← hn]; exact hv
  · unfold blk at hv
    rw [h2] at hv
    cases hv
    omega

theorem GrownIn.draws {X : Nat → Prop} {w w1 : World} (h : GrownIn X w w1) (n : Nat) : GrownIn X w (w1.drewN n) := ⟨h.os, h.tape, h.output, h.size, h.block⟩

theorem NewOr.apart {w : World} {t u v : Value} (hn : NewOr w u v) (h : ∀ k, blk t k → ¬ blk u k) (ht : ∀ k, blk t k → k < w.heap.size) : ∀ k, blk t k → ¬ blk v k := fun k hk hv => by
  rcases hn with hn | ⟨g, h1, h2⟩
  · exact h k hk (by unfold blk at hv ⊢; rw [← hn]; exact hv)
  · unfold blk at hv
    rw [h2] at hv
    cases hv
    have := ht k hk
    omega

theorem own_blk {w : World} {base : Nat} {e : TypeId} {size : Nat} {v : Value} {n : Nat} {xs : List Value} (h : w.ownsRow base e size v n xs) : ∀ k, blk v k → base ≤ k ∧ k < w.heap.size := fun k hk => World.ownsRow.lt h k hk

end Go.Proofs.YthedglfocjljjaaGreatDoor.Rgn
namespace Go.Proofs.YthedglfocjljjaaGreatDoor.Rgn
open Go.RowKit Go.Maps
open Go.ChangeMaps Go.MapKept
open Go.WideElems (Fit rd rg pl rd_val rd_key)

abbrev DE := DataW (List E)

theorem flatE_inj : ∀ {l m : List E}, flatE l = flatE m → l = m
  | [], [], _ => rfl
  | [], _ :: _, h => by simp [flatE, cells3] at h
  | _ :: _, [], h => by simp [flatE, cells3] at h
  | p :: l, q :: m, h => by
    have e : ∀ (p : E) (l : List E), flatE (p :: l) = .int .i64 p.x :: .int .i64 p.a :: .int .i64 p.b :: flatE l := fun p l => by simp [flatE, cells3]
    rw [e, e] at h
    simp only [List.cons.injEq, Value.int.injEq, true_and] at h
    obtain ⟨h0, h1, h2, h3⟩ := h
    rw [flatE_inj h3]
    cases p
    cases q
    simp only at h0 h1 h2
    rw [h0, h1, h2]

theorem OwnE.unique {w : World} {base : Nat} {v : Value} {l l' : List E} (h : OwnE w base v l) (h' : OwnE w base v l') : l = l' := by
  obtain ⟨_, h2⟩ := h
  obtain ⟨_, h2'⟩ := h'
  rcases h2 with ⟨rfl, h0⟩ | ⟨g, cap, cur, rfl, _, hh, _, _, _, ht⟩
  · rcases h2' with ⟨_, h0'⟩ | ⟨g, cap, cur, hv, _⟩
    · rw [List.length_eq_zero_iff.1 h0, List.length_eq_zero_iff.1 h0']
    · cases hv
  · rcases h2' with ⟨hv, _⟩ | ⟨g', cap', cur', hv, _, hh', _, _, _, ht'⟩
    · cases hv
    · simp only [Value.slice.injEq, Option.some.injEq, Addr.mk.injEq] at hv
      obtain ⟨⟨rfl, _⟩, hl, _⟩ := hv
      rw [hh] at hh'
      simp only [Option.some.injEq, Obj.cells.injEq] at hh'
      obtain ⟨rfl, _⟩ := hh'
      rw [hl, ht'] at ht
      exact (flatE_inj ht).symm

open Classical in
noncomputable def rowE (w : World) (base : Nat) (v : Value) : Option (DE × List MemPlace) :=
  if h : ∃ l, OwnE w base v l then some (.held (Classical.choose h), []) else none

theorem rowE_mk {w : World} {base : Nat} {v : Value} {l : List E} (h : OwnE w base v l) : rowE w base v = some (.held l, []) := by
  have hex : ∃ l, OwnE w base v l := ⟨l, h⟩
  unfold rowE
  rw [dif_pos hex, (Classical.choose_spec hex).unique h]

theorem rowE_inv {w : World} {base : Nat} {v : Value} {z : DE × List MemPlace} (h : rowE w base v = some z) : ∃ l, OwnE w base v l ∧ z = (.held l, []) := by
  unfold rowE at h
  split at h
  · rename_i hex
    exact ⟨_, Classical.choose_spec hex, (Option.some.inj h).symm⟩
  · cases h

set_option maxRecDepth 100000 in
theorem key3 : Keyed Tryz.prog 3 := int_keyed Tryz.underlying3

def GrpE (w : World) (base b n : Nat) (D : DE) : Prop :=
  ∃ es clock, w.heap[b]? = some (.map es clock) ∧ Fit Tryz.prog 3 (rowE w base) es clock ∧ es.size ≤ n ∧ D = .map ((es.toList.map (rg Tryz.prog 3 (rowE w base))).foldr DataW.insert []) ∧ b < base ∧
    ∀ x ∈ es.toList, ∀ y ∈ es.toList, x.key ≠ y.key → ∀ k, blk x.val k → ¬ blk y.val k

theorem grp_made (w : World) {base : Nat} (h : w.heap.size < base) : GrpE (w.alloc (.map #[] 0)) base w.heap.size 0 (.map []) :=
  ⟨#[], 0, (MapKept.heap_alloc w _).1, ⟨by simp, stamped_empty 0, by simp⟩, Nat.le_refl _, rfl, h, by simp⟩

set_option maxRecDepth 100000 in
theorem GrpE.owns {w : World} {base b n : Nat} {D : DE} (h : GrpE w base b n D) : w.ownsMap Tryz.prog 3 (rowE w base) b n D := by
  obtain ⟨es, clock, h1, h2, h3, h4, _⟩ := h
  exact ⟨es, clock, h1, h2, h3, h4⟩

set_option maxRecDepth 100000 in
theorem fit_owned {w : World} {base clock : Nat} {es : Array MapEntry} (F : Fit Tryz.prog 3 (rowE w base) es clock) : ∀ x ∈ es.toList, ∃ l, OwnE w base x.val l := fun x hx => by
  obtain ⟨y, hy⟩ := F.reads x hx
  obtain ⟨z, hz, _⟩ := rd_val hy
  obtain ⟨l, ho, _⟩ := rowE_inv hz
  exact ⟨l, ho⟩

theorem GrpE.kept {w w1 : World} {base b n : Nat} {D : DE} (h : GrpE w base b n D) (hg : GrownIn (fun _ => False) w w1) : GrpE w1 base b n D := by
  obtain ⟨es, clock, h1, F, h3, h4, h5, h6⟩ := h
  have hs : ∀ x ∈ es.toList, ∀ z, rowE w base x.val = some z → rowE w1 base x.val = some z := fun x _ z hz => by
    obtain ⟨l, ho, rfl⟩ := rowE_inv hz
    exact rowE_mk (hg.own ho (fun _ _ h => h))
  obtain ⟨F2, hmap, _⟩ := F.stay hs
  exact ⟨es, clock, (hg.block b (Array.getElem?_eq_some_iff.1 h1).1 (fun h => h)).trans h1, F2, h3, by rw [hmap]; exact h4, h5, h6⟩

theorem pair_eq {α : Type} {r : α → α → Prop} : ∀ {l : List α}, l.Pairwise r → ∀ {a b : α}, a ∈ l → b ∈ l → a = b ∨ r a b ∨ r b a
  | [], _, _, _, ha, _ => by cases ha
  | x :: l, h, a, b, ha, hb => by
    obtain ⟨h1, h2⟩ := List.pairwise_cons.1 h
    rcases List.mem_cons.1 ha with ea | ma <;> rcases List.mem_cons.1 hb with eb | mb
    · exact .inl (ea.trans eb.symm)
    · exact .inr (.inl (ea ▸ h1 b mb))
    · exact .inr (.inr (eb ▸ h1 a ma))
    · exact pair_eq h2 ma mb

set_option maxRecDepth 100000 in
theorem fit_one {R : Value → Option (DE × List MemPlace)} {clock : Nat} {es : Array MapEntry} (F : Fit Tryz.prog 3 R es clock) {x y : MapEntry} (hx : x ∈ es.toList) (hy : y ∈ es.toList) (h : x.key = y.key) : x = y := by
  have e : (rg Tryz.prog 3 R x).1 = (rg Tryz.prog 3 R y).1 := by
    obtain ⟨p, hp⟩ := F.reads x hx
    obtain ⟨q, hq⟩ := F.reads y hy
    have h1 := rd_key hp
    have h2 := rd_key hq
    rw [h, h2] at h1
    rw [Go.WideElems.rg_of hp, Go.WideElems.rg_of hq]
    exact (Option.some.inj h1).symm
  rcases pair_eq (List.pairwise_map.1 (fit_apart key3 F)) hx hy with h1 | h1 | h1
  · exact h1
  · exact absurd e h1
  · exact absurd e.symm h1

def BackE (w : World) (base b n : Nat) (D : DE) (y : Int) (v : Value) : Prop :=
  ∀ (w1 : World) (v' : Value) (l' : List E), GrownIn (blk v) w w1 → OwnE w1 base v' l' → NewOr w v v' →
    ∃ w2, (Instr.mapUpdate 114 (.map (some b)) (.int .i64 y) v').run Tryz.prog w1 = .ok () w2 ∧ GrpE w2 base b (n + 1) (D.put (.int .i64 y) (.held l')) ∧ w1.grownBy w2 (some b)

set_option maxRecDepth 100000 in
theorem back_mk {w : World} {base b n clock : Nat} {es : Array MapEntry} {y : Int} (hy : (Lit.int .i64 y).wf = true) (hb : w.heap[b]? = some (.map es clock)) (F : Fit Tryz.prog 3 (rowE w base) es clock) (hn : es.size ≤ n) (hmax : n < maxLen) (hbb : b < base)
    (hap : ∀ x ∈ es.toList, ∀ y ∈ es.toList, x.key ≠ y.key → ∀ k, blk x.val k → ¬ blk y.val k) {v : Value} (hvb : ∀ k, blk v k → base ≤ k) (hv : ∀ x ∈ es.toList, x.key ≠ .int .i64 y → ∀ k, blk x.val k → ¬ blk v k) :
    BackE w base b n (.map ((es.toList.map (rg Tryz.prog 3 (rowE w base))).foldr DataW.insert [])) y v := by
  intro w1 v' l' hg ho' hno
  have hkey : keyOf Tryz.prog 3 (.int .i64 y) = some (.int .i64 y) := keyOf_int_mk Tryz.underlying3 hy
  have hblt : b < w.heap.size := (Array.getElem?_eq_some_iff.1 hb).1
  have hb1 : w1.heap[b]? = some (.map es clock) := (hg.block b hblt (fun h => by have := hvb b h; omega)).trans hb
  have own := fit_owned F
  have hs1 : ∀ x ∈ es.toList, x.key ≠ .int .i64 y → ∀ z, rowE w base x.val = some z → rowE w1 base x.val = some z := by
    intro x hx hne z hz
    obtain ⟨l, ho, rfl⟩ := rowE_inv hz
    exact rowE_mk (hg.own ho (fun k hk h => hv x hx hne k hk h))
  obtain ⟨es', clock', hrun, F', hput, _, _, hwho⟩ := Maps.fit_store (R' := rowE w1 base) key3 Tryz.underlying114 hb1 F (Nat.lt_of_le_of_lt hn hmax) hs1 hkey (rowE_mk ho')
  have hg2 : w1.grownBy (setBlock w1 b (.map es' clock')) (some b) := ⟨rfl, rfl, rfl, by simp [setBlock], fun i _ hi => heap_setBlock_other hb1 _ (fun e1 => hi (by rw [e1]))⟩
  have hs2 : ∀ x ∈ es'.toList, ∀ z, rowE w1 base x.val = some z → rowE (setBlock w1 b (.map es' clock')) base x.val = some z := by
    intro x _ z hz
    obtain ⟨l, ho, rfl⟩ := rowE_inv hz
    refine rowE_mk ((GrownIn.of_grown hg2).own ho (fun k hk h => ?_))
    have := (own_blk ho k hk).1
    cases h
    omega
  obtain ⟨F2, hmap2, _⟩ := F'.stay hs2
  have old_new : ∀ x ∈ es.toList, x.key ≠ .int .i64 y → ∀ k, blk x.val k → ¬ blk v' k := by
    intro x hx hne k hk h
    obtain ⟨l, ho⟩ := own x hx
    have hlt := (own_blk ho k hk).2
    exact hv x hx hne k hk (NewOr.sub hno k hlt h)
  refine ⟨_, hrun, ⟨es', clock', heap_setBlock_same hb1 _, F2, ?_, ?_, hbb, ?_⟩, hg2⟩
  · have e1 : es'.size = ((es'.toList.map (rg Tryz.prog 3 (rowE w1 base))).foldr DataW.insert []).length := by rw [length_sorted]; simp
    rw [e1, hput]
    unfold putKey
    rw [length_insert]
    have e2 := List.length_filter_le (notKey (Lit.int .i64 y)) ((es.toList.map (rg Tryz.prog 3 (rowE w base))).foldr DataW.insert [])
    rw [length_sorted] at e2
    simp at e2
    omega
  · rw [hmap2, DataW.put_eq, hput]
  · intro x hx z hz hne k hk h
    rcases hwho x hx with ⟨hx0, hxk⟩ | ⟨hxk, hxv⟩ <;> rcases hwho z hz with ⟨hz0, hzk⟩ | ⟨hzk, hzv⟩
    · exact hap x hx0 z hz0 hne k hk h
    · rw [hzv] at h
      exact old_new x hx0 hxk k hk h
    · rw [hxv] at hk
      exact old_new z hz0 hzk k h hk
    · exact hne (hxk.trans hzk.symm)

set_option maxRecDepth 100000 in
theorem GrpE.at {w : World} {base b n : Nat} {D : DE} (h : GrpE w base b n D) (hmax : n < maxLen) {y : Int} (hy : (Lit.int .i64 y).wf = true) :
    ∃ v l, (∀ W, W.heap[b]? = w.heap[b]? → (Instr.lookup 114 (.map (some b)) (.int .i64 y) false).run Tryz.prog W = .ok v W) ∧ D.atKey (.int .i64 y) (.held []) = .held l ∧ OwnE w base v l ∧ BackE w base b n D y v := by
  obtain ⟨es, clock, hb, F, hn, rfl, hbb, hap⟩ := h
  have hkey : keyOf Tryz.prog 3 (.int .i64 y) = some (.int .i64 y) := keyOf_int_mk Tryz.underlying3 hy
  have hz : ∀ W, (zeroValue 116).run Tryz.prog W = .ok (.slice none 0 0) W := fun W => by kernel_rfl
  have run : ∀ W, W.heap[b]? = some (.map es clock) → ∀ v, (Instr.lookup 114 (.map (some b)) (.int .i64 y) false).run Tryz.prog w = .ok v w → (Instr.lookup 114 (.map (some b)) (.int .i64 y) false).run Tryz.prog W = .ok v W := by
    intro W hW v hrun
    rcases Maps.fit_look (w := w) false key3 Tryz.underlying114 (hz w) hb F hkey with ⟨h1, h2, _⟩ | ⟨e0, z, hm0, h3, h1, hR, _, _⟩ <;> rcases Maps.fit_look (w := W) false key3 Tryz.underlying114 (hz W) hW F hkey with ⟨k1, k2, _⟩ | ⟨e1, z', km0, k3, k1, kR, _, _⟩
    · rw [h1] at hrun
      rw [k1]
      cases hrun
      rfl
    · exact absurd k3 (h2 e1 km0)
    · exact absurd h3 (k2 e0 hm0)
    · rw [h1] at hrun
      rw [k1]
      cases hrun
      have : e0 = e1 := fit_one F hm0 km0 (h3.trans k3.symm)
      rw [this]
  rcases Maps.fit_look (w := w) false key3 Tryz.underlying114 (hz w) hb F hkey with ⟨hrun, _, hat⟩ | ⟨e0, z, hm0, h3, hrun, hR, hat, _⟩
  · exact ⟨.slice none 0 0, [], fun W hW => run W (hW.trans hb) _ hrun, hat _, ownE_nil _ _, back_mk hy hb F hn hmax hbb hap (fun k hk => by simp [blk, Value.ownBlock] at hk) (fun x _ _ k _ hk => by simp [blk, Value.ownBlock] at hk)⟩
  · obtain ⟨l, ho, rfl⟩ := rowE_inv hR
    exact ⟨e0.val, l, fun W hW => run W (hW.trans hb) _ hrun, hat _, ho, back_mk hy hb F hn hmax hbb hap (fun k hk => (own_blk ho k hk).1) (fun x hx hne => hap x hx e0 hm0 (by rw [h3]; exact hne))⟩

structure Cont (D : DE) (f : Int → List E) (ks : Int → Prop) : Prop where
  map : IsMap D
  row : ∀ y, D.atKey (.int .i64 y) (.held []) = .held (f y)
  key : ∀ y, has D (.int .i64 y) = true ↔ ks y

theorem cont_start : Cont (.map []) (fun _ => []) (fun _ => False) := ⟨isMap_empty, fun _ => rfl, fun _ => by simp [has]⟩

set_option maxRecDepth 100000 in
theorem Cont.put {D : DE} {f g : Int → List E} {ks kt : Int → Prop} (h : Cont D f ks) {y : Int} (hy : (Lit.int .i64 y).wf = true) {l : List E} (hl : l = g y) (hg : ∀ z, z ≠ y → g z = f z) (hk : ∀ z, kt z ↔ z = y ∨ ks z) : Cont (D.put (.int .i64 y) (.held l)) g kt := by
  have hK : WideAt.IsKeyLit (.int .i64 y) := key3.key (keyOf_int_mk Tryz.underlying3 hy)
  refine ⟨h.map.put _ _, fun z => ?_, fun z => ?_⟩
  · by_cases e : z = y
    · subst e
      rw [atKey_put_same h.map hK, hl]
    · rw [atKey_put_other (fun h => e (by injection h)), h.row, hg z e]
  · rw [hk z]
    by_cases e : z = y
    · subst e
      simp [has_put_same h.map hK]
    · rw [has_put_other (fun h => e (by injection h)), h.key]
      simp [e]

theorem Cont.congr {D : DE} {f g : Int → List E} {ks kt : Int → Prop} (h : Cont D f ks) (hf : ∀ y, f y = g y) (hk : ∀ y, ks y ↔ kt y) : Cont D g kt :=
  ⟨h.map, fun y => by rw [h.row, hf], fun y => (h.key y).trans (hk y)⟩

set_option maxRecDepth 100000 in
theorem keys_sorted {w : World} {base b n : Nat} {D : DE} (h : GrpE w base b n D) {f : Int → List E} {ks : Int → Prop} (hc : Cont D f ks) {ss ys : List Int} (hp : ss.Perm (intKeys D)) (hys : ys.Pairwise (· < ·)) (hk : ∀ z, ks z ↔ z ∈ ys) : ss.mergeSort leI = ys := by
  have hown := h.owns
  obtain ⟨es, hD, hpw, _⟩ := hown.entries key3
  obtain ⟨es', hD', hko⟩ := hown.keysOf
  obtain rfl : es = es' := by rw [hD] at hD'; simpa using hD'
  have hint : ∀ p ∈ es, ∃ x, p.1 = Lit.int .i64 x := fun p hp => by
    obtain ⟨v, hv⟩ := hko p hp
    obtain ⟨x, _, hx, _⟩ := Maps.keyOf_i64 Tryz.underlying3 hv
    exact ⟨x, hx⟩
  have hnd : ys.Nodup := hys.imp (fun h e => by omega)
  have hp2 : ys.Perm (intKeys D) := by
    rw [hD]
    exact perm_intKeys hpw hint hnd (fun x => by rw [← hk x, ← hc.key x, hD])
  rw [mergeSort_of_perm_i (hp.trans hp2.symm)]
  exact List.mergeSort_of_pairwise (hys.imp (fun h => by simp only [leI, decide_eq_true_eq]; omega))

end Go.Proofs.YthedglfocjljjaaGreatDoor.Rgn
namespace Go.Proofs.YthedglfocjljjaaGreatDoor.Rgn
open Go.RowKit Go.Maps

def keyL (l : List R) (y : Int) : Prop := ∃ r ∈ l, empB r = false ∧ (y = r.y0 ∨ y = r.y1)

theorem keyL_nil (y : Int) : ¬ keyL [] y := fun ⟨_, h, _⟩ => by cases h
theorem keyL_miss {r : R} (h : empB r = true) (l : List R) (y : Int) : keyL (r :: l) y ↔ keyL l y := by
  constructor
  · rintro ⟨q, hq, h1, h2⟩
    rcases List.mem_cons.1 hq with rfl | hq
    · rw [h] at h1; cases h1
    · exact ⟨q, hq, h1, h2⟩
  · rintro ⟨q, hq, h1, h2⟩
    exact ⟨q, List.mem_cons_of_mem _ hq, h1, h2⟩
theorem keyL_hit {r : R} (h : empB r = false) (l : List R) (y : Int) : keyL (r :: l) y ↔ y = r.y1 ∨ y = r.y0 ∨ keyL l y := by
  constructor
  · rintro ⟨q, hq, h1, h2⟩
    rcases List.mem_cons.1 hq with rfl | hq
    · rcases h2 with h2 | h2
      · exact .inr (.inl h2)
      · exact .inl h2
    · exact .inr (.inr ⟨q, hq, h1, h2⟩)
  · rintro (h2 | h2 | ⟨q, hq, h1, h2⟩)
    · exact ⟨r, List.mem_cons_self, h, .inr h2⟩
    · exact ⟨r, List.mem_cons_self, h, .inl h2⟩
    · exact ⟨q, List.mem_cons_of_mem _ hq, h1, h2⟩

theorem chgL_miss {r : R} (h : empB r = true) (sa sb : Int) (l : List R) (y : Int) : chgL sa sb (r :: l) y = chgL sa sb l y := by
  simp [chgL, chgR, h]

theorem chgL_hit {r : R} (h : empB r = false) (sa sb : Int) (l : List R) (y : Int) (c : List E) :
    c ++ chgL sa sb (r :: l) y = (if y = r.y1 then (if y = r.y0 then c ++ [⟨r.x0, sa, sb⟩, ⟨r.x1, -sa, -sb⟩] else c) ++ [⟨r.x0, -sa, -sb⟩, ⟨r.x1, sa, sb⟩] else if y = r.y0 then c ++ [⟨r.x0, sa, sb⟩, ⟨r.x1, -sa, -sb⟩] else c) ++ chgL sa sb l y := by
  have h01 : r.y0 < r.y1 := by have := (emp_no r).1 h; omega
  have e : chgL sa sb (r :: l) y = chgR sa sb y r ++ chgL sa sb l y := by simp [chgL]
  rw [e]
  unfold chgR
  simp only [h, Bool.false_eq_true, if_false]
  by_cases h0 : y = r.y0
  · have h1 : ¬ y = r.y1 := by omega
    rw [if_pos h0.symm, if_neg h1, if_pos h0]
    simp
  · rw [if_neg (fun e => h0 e.symm)]
    by_cases h1 : y = r.y1
    · rw [if_pos h1.symm, if_pos h1, if_neg h0]
      simp
    · rw [if_neg (fun e => h1 e.symm), if_neg h1, if_neg h0]
      simp

def Bx (W : World) (k : Nat) (cs : Array Value) (t : TypeId) : Prop := W.heap[k]? = some (.cells cs t (0, 0))

theorem Bx.new (w : World) (cs : Array Value) (t : TypeId) : Bx (w.alloc (.cells cs t)) w.heap.size cs t := World.alloc_heap_new w _
theorem Bx.kept {W w1 : World} {k : Nat} {cs : Array Value} {t : TypeId} {X : Nat → Prop} (h : Bx W k cs t) (hg : GrownIn X W w1) (hX : ¬ X k) : Bx w1 k cs t :=
  (hg.block k (Array.getElem?_eq_some_iff.1 h).1 hX).trans h
theorem Bx.cell {W : World} {k : Nat} {cs : Array Value} {t : TypeId} (h : Bx W k cs t) (i : Nat) : W.cell? ⟨k, i, none⟩ = cs[i]? := by
  have h' : W.heap[k]? = some (.cells cs t (0, 0)) := h
  simp [World.cell?, h']
theorem Bx.lt {W : World} {k : Nat} {cs : Array Value} {t : TypeId} (h : Bx W k cs t) : k < W.heap.size := (Array.getElem?_eq_some_iff.1 h).1
theorem Bx.far {W : World} {k base n : Nat} {cs : Array Value} {t e : TypeId} {size : Nat} {v : Value} {xs : List Value} (h : Bx W k cs t) (ho : W.ownsRow base e size v n xs) (hne : t ≠ e) : ¬ blk v k := by
  intro hk
  have h' : W.heap[k]? = some (.cells cs t (0, 0)) := h
  rcases ho.2 with ⟨rfl, _⟩ | ⟨g, cap, cur, rfl, _, hh, _⟩
  · simp [blk, Value.ownBlock] at hk
  · simp only [blk, Value.ownBlock, Option.some.injEq] at hk
    subst hk
    rw [h'] at hh
    simp only [Option.some.injEq, Obj.cells.injEq] at hh
    exact hne hh.2.1

def Added (base b n : Nat) (l : List R) (sa sb : Int) (f : Int → List E) (ks : Int → Prop) (w : World) (e : Ending) (w' : World) : Prop :=
  e = .returned (.tuple #[]) ∧ ∃ D' n', GrpE w' base b n' D' ∧ Cont D' (fun y => f y ++ chgL sa sb l y) (fun y => ks y ∨ keyL l y) ∧ n' ≤ n + 2 * l.length ∧ GrownIn (fun k => k = b ∨ base ≤ k) w w'

theorem wf_of {y : Int} (h0 : -16384 ≤ y) (h1 : y ≤ 16384) : (Lit.int .i64 y).wf = true := WalkArith.wf_i64 (by omega)

theorem len_if {p : Prop} [Decidable p] {a b : List E} {n : Nat} (ha : a.length ≤ n) (hb : b.length ≤ n) : (if p then a else b).length ≤ n := by
  split
  · exact ha
  · exact hb

theorem or_move (a b c d : Prop) : (a ∨ b ∨ c) ∨ d ↔ c ∨ a ∨ b ∨ d := by
  by_cases a <;> by_cases b <;> by_cases c <;> by_cases d <;> simp [*]

theorem newor_alloc {w : World} {v v' : Value} {o : Obj} (h : v'.ownBlock = v.ownBlock ∨ v'.ownBlock = some ((w.alloc o).drew).heap.size) : NewOr w v v' := by
  rcases h with h | h
  · exact .inl h
  · exact .inr ⟨_, by simp, h⟩

def Reads (W : World) (Bm b B4 B5 B7 : Nat) (sa sb : Int) (r : R) : Prop :=
  W.cell? ⟨Bm, 0, none⟩ = some (.map (some b)) ∧ W.cell? ⟨B4, 0, none⟩ = some (.int .i64 sa) ∧ W.cell? ⟨B4, 1, none⟩ = some (.int .i64 sb) ∧ W.cell? ⟨B5, 0, none⟩ = some (.int .i64 (-sa)) ∧ W.cell? ⟨B5, 1, none⟩ = some (.int .i64 (-sb)) ∧
  W.cell? ⟨B7, 0, none⟩ = some (.int .i64 r.x0) ∧ W.cell? ⟨B7, 1, none⟩ = some (.int .i64 r.y0) ∧ W.cell? ⟨B7, 2, none⟩ = some (.int .i64 r.x1) ∧ W.cell? ⟨B7, 3, none⟩ = some (.int .i64 r.y1)

def Blocks (W : World) (Bm b B4 B5 B7 : Nat) (sa sb : Int) (r : R) : Prop :=
  W.cell? ⟨Bm, 0, none⟩ = some (.map (some b)) ∧ Bx W B4 #[.int .i64 sa, .int .i64 sb] 126 ∧ Bx W B5 #[.int .i64 (-sa), .int .i64 (-sb)] 126 ∧ Bx W B7 #[.int .i64 r.x0, .int .i64 r.y0, .int .i64 r.x1, .int .i64 r.y1] 53

theorem Blocks.reads {W : World} {Bm b B4 B5 B7 : Nat} {sa sb : Int} {r : R} (h : Blocks W Bm b B4 B5 B7 sa sb r) : Reads W Bm b B4 B5 B7 sa sb r :=
  ⟨h.1, h.2.1.cell 0, h.2.1.cell 1, h.2.2.1.cell 0, h.2.2.1.cell 1, h.2.2.2.cell 0, h.2.2.2.cell 1, h.2.2.2.cell 2, h.2.2.2.cell 3⟩

theorem Blocks.kept {X : Nat → Prop} {W w1 : World} {Bm b B4 B5 B7 : Nat} {sa sb : Int} {r : R} (h : Blocks W Bm b B4 B5 B7 sa sb r) (hg : GrownIn X W w1) (hm : ¬ X Bm) (h4 : ¬ X B4) (h5 : ¬ X B5) (h7 : ¬ X B7) : Blocks w1 Bm b B4 B5 B7 sa sb r :=
  ⟨(hg.cell (a := ⟨Bm, 0, none⟩) (World.block_lt_of_cell? W _ h.1) hm).trans h.1, h.2.1.kept hg h4, h.2.2.1.kept hg h5, h.2.2.2.kept hg h7⟩

theorem Blocks.row {W w1 : World} {base Bm b B4 B5 B7 : Nat} {sa sb : Int} {r : R} (h : Blocks W Bm b B4 B5 B7 sa sb r) {v : Value} {l : List E} (ho : OwnE W base v l) (hg : GrownIn (blk v) W w1) (hb : Bm < base) : Blocks w1 Bm b B4 B5 B7 sa sb r :=
  h.kept hg (fun hk => by have := (own_blk ho _ hk).1; omega) (h.2.1.far ho (by decide)) (h.2.2.1.far ho (by decide)) (h.2.2.2.far ho (by decide))

theorem Blocks.store {W w1 : World} {Bm b B4 B5 B7 : Nat} {sa sb : Int} {r : R} (h : Blocks W Bm b B4 B5 B7 sa sb r) (hg : W.grownBy w1 (some b)) (hb : Bm ≠ b) (h4 : b < B4) (h5 : b < B5) (h7 : b < B7) : Blocks w1 Bm b B4 B5 B7 sa sb r :=
  h.kept (GrownIn.of_grown hg) (fun e => hb (Option.some.inj e).symm) (fun e => by have := Option.some.inj e; omega) (fun e => by have := Option.some.inj e; omega) (fun e => by have := Option.some.inj e; omega)

theorem Es.drew {w : World} {v : Value} {l : List E} (h : Es w v l) : Es w.drew v l := h

set_option maxRecDepth 100000 in
set_option maxHeartbeats 8000000 in
theorem adds_any {w : World} {base b Bm n N : Nat} {vl : Value} {l : List R} (hl : Rs w vl l) (hvl : 0 < l.length → ∀ k, blk vl k → k ≠ b ∧ k < base) {D : DE} (hG : GrpE w base b n D) {f : Int → List E} {ks : Int → Prop} (hc : Cont D f ks) (hBm : w.cell? ⟨Bm, 0, none⟩ = some (.map (some b))) (hbm : Bm ≠ b ∧ Bm < base) (hbase : base ≤ w.heap.size)
    {sa sb : Int} (hs : sa.natAbs ≤ 1 ∧ sb.natAbs ≤ 1) (hN : ∀ y, (f y).length ≤ N) (hlen : n + N + 4 * l.length ≤ 100000) :
    Calls Tryz.prog 122 #[vl, .agg #[.int .i64 sa, .int .i64 sb], .pointer (some ⟨Bm, 0, none⟩)] w (Added base b n l sa sb f ks w) := by
  obtain ⟨Al, cl, rfl, hcl, hml, hcell⟩ := hl
  simp only [maxLen] at hml
  obtain ⟨nl, hnl⟩ : ∃ nl, l.length = nl := ⟨_, rfl⟩
  rw [hnl] at hcl hlen hvl
  rw [hnl]
  have HNL := Lib.hid hnl
  have HC := Lib.hid hcell
  have HV := Lib.hid hvl
  have HNN := Lib.hid hN
  have HG0 := Lib.hid hG
  have HC0 := Lib.hid hc
  have hbl : b < base := by obtain ⟨_, _, _, _, _, _, h, _⟩ := hG; exact h
  have CN := fun W => Lib.hid (negative_any (a := sa) (b := sb) (by omega) (by omega) W)
  obtain ⟨res, hres⟩ : ∃ res : Int → List E, res = fun y => f y ++ chgL sa sb l y := ⟨_, rfl⟩
  obtain ⟨kres, hkres⟩ : ∃ kres : Int → Prop, kres = fun y => ks y ∨ keyL l y := ⟨_, rfl⟩
  have HRES := Lib.hid hres
  have HKRES := Lib.hid hkres
  unfold Added
  rw [← hres, ← hkres]
  clear hnl hcell hvl hN hG hc hres hkres
  go_enter Tryz.func122, Tryz.ntmps122
  go_wp2_with fail
  have hb0 : Bm < w.heap.size := World.block_lt_of_cell? w _ hBm
  have B4 : Bx (w.alloc (.cells #[.int .i64 sa, .int .i64 sb] 126)) w.heap.size #[.int .i64 sa, .int .i64 sb] 126 := Bx.new w _ _
  have G4 : GrownIn (fun _ => False) w (w.alloc (.cells #[.int .i64 sa, .int .i64 sb] 126)) := (GrownIn.refl _ w).alloc _
  generalize w.alloc (.cells #[.int .i64 sa, .int .i64 sb] 126) = w1 at *
  have x0 := B4.cell 0
  have x1 := B4.cell 1
  simp only [List.getElem?_toArray, List.getElem?_cons_zero, List.getElem?_cons_succ] at x0 x1
  go_wp2_with fail
  refine (CN _).out.mono ?_
  rintro e w2 ⟨rfl, hb2⟩
  have B42 : Bx w2 w.heap.size #[.int .i64 sa, .int .i64 sb] 126 := B4.kept (GrownIn.of_below (X := fun _ => False) hb2) (fun h => h)
  have G2 : GrownIn (fun _ => False) w w2 := G4.trans (GrownIn.of_below hb2)
  have hz0 : w.heap.size < w2.heap.size := B42.lt
  clear x0 x1 B4 G4 hb2 CN
  go_wp2_with fail
  have B53 : Bx (w2.alloc (.cells #[.int .i64 (-sa), .int .i64 (-sb)] 126)) w2.heap.size #[.int .i64 (-sa), .int .i64 (-sb)] 126 := Bx.new w2 _ _
  have g23 : GrownIn (fun _ => False) w2 (w2.alloc (.cells #[.int .i64 (-sa), .int .i64 (-sb)] 126)) := (GrownIn.refl _ w2).alloc _
  generalize w2.alloc (.cells #[.int .i64 (-sa), .int .i64 (-sb)] 126) = w3 at *
  have HB0 : Hid (w3.cell? ⟨Bm, 0, none⟩ = some (.map (some b)) ∧ Bx w3 w.heap.size #[.int .i64 sa, .int .i64 sb] 126 ∧ Bx w3 w2.heap.size #[.int .i64 (-sa), .int .i64 (-sb)] 126) := Lib.hid ⟨((G2.trans g23).cell (a := ⟨Bm, 0, none⟩) hb0 (fun h => h)).trans hBm, B42.kept g23 (fun h => h), B53⟩
  have HG3 : Hid (GrpE w3 base b n D) := Lib.hid (HG0.out.kept (G2.trans g23))
  have HW3 : Hid (GrownIn (fun _ => False) w w3) := Lib.hid (G2.trans g23)
  obtain ⟨B4, hB4⟩ : ∃ B4, w.heap.size = B4 := ⟨_, rfl⟩
  obtain ⟨B5, hB5⟩ : ∃ B5, w2.heap.size = B5 := ⟨_, rfl⟩
  rw [hB4, hB5] at HB0
  have hz4 : base ≤ B4 := by omega
  have hz5 : B4 < B5 := by omega
  clear B42 B53 g23 HG0 hBm
  simp only [hB4, hB5]
  clear G2 hz0 hB5
  go_loopw [12] (fun k wr => ∃ (j m : Nat) (Dj : DE) (fj : Int → List E) (kj : Int → Prop), j ≤ nl ∧ k = .int .i64 (j : Int) ∧ Hid (GrpE wr base b m Dj ∧ Cont Dj fj kj ∧ GrownIn (fun k => k = b ∨ base ≤ k) w3 wr ∧ (wr.cell? ⟨Bm, 0, none⟩ = some (.map (some b)) ∧ Bx wr B4 #[.int .i64 sa, .int .i64 sb] 126 ∧ Bx wr B5 #[.int .i64 (-sa), .int .i64 (-sb)] 126) ∧ (∀ y, fj y ++ chgL sa sb (l.drop j) y = res y) ∧ (∀ y, kj y ∨ keyL (l.drop j) y ↔ kres y) ∧ m ≤ n + 2 * j ∧ ∀ y, (fj y).length ≤ N + 4 * j)) (fun k _ => nl - (RowKit.intOf k).toNat)
  case atStart => exact ⟨0, n, D, f, ks, by omega, rfl, HG3.out, HC0.out, GrownIn.refl _ _, HB0.out, fun y => by rw [HRES.out, List.drop_zero], fun y => by rw [HKRES.out, List.drop_zero], by omega, fun y => by have := HNN.out y; omega⟩
  case round =>
    obtain ⟨j, m, Dj, fj, kj, hj, rfl, hrel⟩ := hrel
    by_cases hlt : j < nl
    · obtain ⟨r, hr⟩ : ∃ r, l[j]? = some r := ⟨_, List.getElem?_eq_getElem (by rw [HNL.out]; exact hlt)⟩
      obtain ⟨be, oe, rfl, hbe, hcs⟩ := HC.out (by rw [HNL.out]; omega)
      have T := Lib.hid (hcs j r hr)
      have hbx := HV.out (by omega) be rfl
      have HG := Lib.hid hrel.out.1
      have HCj := Lib.hid hrel.out.2.1
      have HW := Lib.hid hrel.out.2.2.1
      have HBs := Lib.hid hrel.out.2.2.2.1
      have HD := Lib.hid (drop_at hr)
      have HR : Hid (∀ y, fj y ++ chgL sa sb (r :: l.drop (j + 1)) y = res y) := Lib.hid (by rw [← HD.out]; exact hrel.out.2.2.2.2.1)
      have HKR : Hid (∀ y, kj y ∨ keyL (r :: l.drop (j + 1)) y ↔ kres y) := Lib.hid (by rw [← HD.out]; exact hrel.out.2.2.2.2.2.1)
      have HM := Lib.hid hrel.out.2.2.2.2.2.2.1
      have HL := Lib.hid hrel.out.2.2.2.2.2.2.2
      have gc : ∀ o, wr.cell? ⟨be, o, none⟩ = w.cell? ⟨be, o, none⟩ := fun o => (HW.out.cell (a := ⟨be, o, none⟩) (Nat.lt_of_lt_of_le hbe HW3.out.size) (fun h => by rcases h with h | h; exact hbx.1 h; have h : base ≤ be := h; omega)).trans (HW3.out.cell (a := ⟨be, o, none⟩) hbe (fun h => h))
      have t0 := (gc (oe + j * 4)).trans T.out.1
      have t1 := (gc (oe + j * 4 + 1)).trans T.out.2.1
      have t2 := (gc (oe + j * 4 + 2)).trans T.out.2.2.1
      have t3 := (gc (oe + j * 4 + 3)).trans T.out.2.2.2
      have q0 : (j : Int) < nl := by omega
      have q1 : (0 : Int) ≤ j := by omega
      have C1 := fun W => Lib.hid (empty_any r W)
      clear hr hcs hrel gc HD
      cases he : empB r
      · rw [he] at C1
        have HE := Lib.hid he
        have HRD := Lib.hid ((emp_no r).1 he)
        clear he
        go_wp2_with fail
        refine (C1 _).out.mono ?_
        rintro e w4 ⟨rfl, hb4⟩
        have g4 : Hid (GrownIn (fun _ => False) wr w4) := Lib.hid (((GrownIn.refl _ wr).alloc _).trans (GrownIn.of_below hb4))
        have HG4 : Hid (GrpE w4 base b m Dj) := Lib.hid (HG.out.kept g4.out)
        have HW4 : Hid (GrownIn (fun k => k = b ∨ base ≤ k) w3 w4) := Lib.hid (HW.out.trans (g4.out.mono (fun _ _ h => h.elim)))
        have HB4 : Hid (Blocks w4 Bm b B4 B5 wr.heap.size sa sb r) := Lib.hid ⟨(g4.out.cell (a := ⟨Bm, 0, none⟩) (World.block_lt_of_cell? wr _ HBs.out.1) (fun h => h)).trans HBs.out.1, HBs.out.2.1.kept g4.out (fun h => h), HBs.out.2.2.kept g4.out (fun h => h), (Bx.new wr _ _).kept (GrownIn.of_below (X := fun _ => False) hb4) (fun h => h)⟩
        have hbw : base ≤ w4.heap.size := by have := HB4.out.2.2.1.lt; omega
        obtain ⟨B7, hB7⟩ : ∃ B7, wr.heap.size = B7 := ⟨_, rfl⟩
        rw [hB7] at HB4
        simp only [hB7]
        clear t0 t1 t2 t3 hb4 C1 HG HBs g4
        go_wp2_with fail
        have hz7 : B5 < B7 := by rw [← hB7]; exact Nat.lt_of_lt_of_le HB0.out.2.2.lt HW.out.size
        clear HW hB7
        obtain ⟨va, lv, hlk, hat, hov, hbk⟩ := HG4.out.at (y := r.y0) (by have := HM.out; simp only [maxLen]; omega) (wf_of (by have := HRD.out; omega) (by have := HRD.out; omega))
        have hlv : lv = fj r.y0 := by have hat' := (HCj.out.row _).symm.trans hat; injection hat' with hat'; exact hat'.symm
        subst hlv
        obtain ⟨ca, hca⟩ : ∃ c, fj r.y0 = c := ⟨_, rfl⟩
        have HCa := Lib.hid hca
        rw [hca] at hov
        have HBK := Lib.hid hbk
        have hlc : ca.length ≤ 500000 := by rw [← hca]; have := HL.out r.y0; omega
        have L1 := hlk w4.drew rfl
        have L2 : ∀ o, (Instr.lookup 114 (.map (some b)) (.int .i64 r.y0) false).run Tryz.prog (w4.alloc o).drew = .ok va (w4.alloc o).drew := fun o => hlk _ (Below.heap_alloc w4 o b (by omega))
        obtain ⟨r0, r1, r2, r3, r4, r5, r6, r7, r8⟩ := id HB4.out.reads
        have s0 : Hid (Reads w4 Bm b B4 B5 B7 sa sb r) := Lib.hid HB4.out.reads
        clear hat hbk hlk hca
        go_region_held3 (fun W => W.cell? ⟨Bm, 0, none⟩ = some (.map (some b)) ∧ W.cell? ⟨B4, 0, none⟩ = some (.int .i64 sa) ∧ W.cell? ⟨B4, 1, none⟩ = some (.int .i64 sb) ∧ W.cell? ⟨B5, 0, none⟩ = some (.int .i64 (-sa)) ∧ W.cell? ⟨B5, 1, none⟩ = some (.int .i64 (-sb)) ∧
  W.cell? ⟨B7, 0, none⟩ = some (.int .i64 r.x0) ∧ W.cell? ⟨B7, 1, none⟩ = some (.int .i64 r.y0) ∧ W.cell? ⟨B7, 2, none⟩ = some (.int .i64 r.x1) ∧ W.cell? ⟨B7, 3, none⟩ = some (.int .i64 r.y1))
          (first
            | exact s7
            | exact s6
            | go_keep)
          (first
            | (refine step_appE (by rfl) _ _ (by rfl) (base := base) (l := ca) (m := [⟨r.x0, sa, sb⟩, ⟨r.x1, -sa, -sb⟩]) (by rfl) (World.ownsRow.drew (World.ownsRow.alloc hov _)) (by rfl) (es_two w4 ⟨r.x0, sa, sb⟩ ⟨r.x1, -sa, -sb⟩).drew (by simp only [List.length_cons, List.length_nil]; omega) (by simp; omega) ?_; intro v6 w6 ho6 hg6 hl6 _; have hgr6 : GrownIn (blk va) w4 w6 := (((GrownIn.refl _ w4).alloc _).drew).trans (GrownIn.of_own hg6); obtain ⟨w7, hrun7, hG7, hg7⟩ := HBK.out w6 v6 _ hgr6 ho6 (newor_alloc hl6); have s6 := (HB4.out.row hov hgr6 hbm.2).reads; have s7 := ((HB4.out.row hov hgr6 hbm.2).store hg7 hbm.1 (by omega) (by omega) (by omega)).reads))
        all_goals
          have HB8 : Hid (Blocks w7 Bm b B4 B5 B7 sa sb r) := Lib.hid ((HB4.out.row hov hgr6 hbm.2).store hg7 hbm.1 (by omega) (by omega) (by omega))
          have HW8 : Hid (GrownIn (fun k => k = b ∨ base ≤ k) w3 w7) := Lib.hid (HW4.out.trans ((hgr6.mono (fun k _ h => .inr (own_blk hov k h).1)).trans ((GrownIn.of_grown hg7).mono (fun k _ h => .inl (Option.some.inj h).symm))))
          have HG8 := Lib.hid hG7
          obtain ⟨g1, hg1⟩ : ∃ g1 : Int → List E, g1 = fun y => if y = r.y0 then fj y ++ [⟨r.x0, sa, sb⟩, ⟨r.x1, -sa, -sb⟩] else fj y := ⟨_, rfl⟩
          obtain ⟨k1, hk1⟩ : ∃ k1 : Int → Prop, k1 = fun z => z = r.y0 ∨ kj z := ⟨_, rfl⟩
          have HCg : Hid (Cont _ g1 k1) := Lib.hid (HCj.out.put (y := r.y0) (l := ca ++ [⟨r.x0, sa, sb⟩, ⟨r.x1, -sa, -sb⟩]) (wf_of (by have := HRD.out; omega) (by have := HRD.out; omega)) (by rw [hg1]; simp only [if_pos, HCa.out]) (fun z hz => by rw [hg1]; exact if_neg hz) (fun z => by rw [hk1]))
          have Hg1 := Lib.hid hg1
          have HLg : Hid (∀ y, (g1 y).length ≤ N + 4 * j + 2) := Lib.hid (fun y => by have h2 := HL.out y; rw [hg1]; exact len_if (by simp only [List.length_append, List.length_cons, List.length_nil]; omega) (by omega))
          have Hk1 := Lib.hid hk1
          obtain ⟨w8, rfl⟩ : ∃ w8, w8 = w7 := ⟨_, rfl⟩
          have hsw8 : w3.heap.size ≤ w8.heap.size := HW8.out.size
          clear hg1 hk1 hrun7 hG7 hg7 s6 s7 ho6 hg6 hl6 hgr6 r0 r1 r2 r3 r4 r5 r6 r7 r8 L1 L2 HBK s0 hov
          have hbw8 : base ≤ w8.heap.size := by have := HB8.out.2.2.1.lt; omega
          go_wp2_with fail
          obtain ⟨vb, lv, hlk, hat, hov, hbk⟩ := HG8.out.at (y := r.y1) (by have := HM.out; simp only [maxLen]; omega) (wf_of (by have := HRD.out; omega) (by have := HRD.out; omega))
          have hlv : lv = g1 r.y1 := by have hat' := (HCg.out.row _).symm.trans hat; injection hat' with hat'; exact hat'.symm
          subst hlv
          obtain ⟨cb, hcb⟩ : ∃ c, g1 r.y1 = c := ⟨_, rfl⟩
          have HCb := Lib.hid hcb
          rw [hcb] at hov
          have HBK := Lib.hid hbk
          have hlc : cb.length ≤ 500000 := by rw [← hcb]; have h2 := HLg.out r.y1; omega
          have L1 := hlk w8.drew rfl
          have L2 : ∀ o, (Instr.lookup 114 (.map (some b)) (.int .i64 r.y1) false).run Tryz.prog (w8.alloc o).drew = .ok vb (w8.alloc o).drew := fun o => hlk _ (Below.heap_alloc w8 o b (by omega))
          obtain ⟨r0, r1, r2, r3, r4, r5, r6, r7, r8⟩ := id HB8.out.reads
          have s0 : Hid (Reads w8 Bm b B4 B5 B7 sa sb r) := Lib.hid HB8.out.reads
          clear hat hbk hlk hcb
          go_region_held3 (fun W => W.cell? ⟨Bm, 0, none⟩ = some (.map (some b)) ∧ W.cell? ⟨B4, 0, none⟩ = some (.int .i64 sa) ∧ W.cell? ⟨B4, 1, none⟩ = some (.int .i64 sb) ∧ W.cell? ⟨B5, 0, none⟩ = some (.int .i64 (-sa)) ∧ W.cell? ⟨B5, 1, none⟩ = some (.int .i64 (-sb)) ∧
    W.cell? ⟨B7, 0, none⟩ = some (.int .i64 r.x0) ∧ W.cell? ⟨B7, 1, none⟩ = some (.int .i64 r.y0) ∧ W.cell? ⟨B7, 2, none⟩ = some (.int .i64 r.x1) ∧ W.cell? ⟨B7, 3, none⟩ = some (.int .i64 r.y1))
            (first
              | exact s7
              | exact s6
              | go_keep)
            (first
              | (refine step_appE (by rfl) _ _ (by rfl) (base := base) (l := cb) (m := [⟨r.x0, -sa, -sb⟩, ⟨r.x1, sa, sb⟩]) (by rfl) (World.ownsRow.drew (World.ownsRow.alloc hov _)) (by rfl) (es_two w8 ⟨r.x0, -sa, -sb⟩ ⟨r.x1, sa, sb⟩).drew (by simp only [List.length_cons, List.length_nil]; omega) (by simp; omega) ?_; intro v6 w6 ho6 hg6 hl6 _; have hgr6 : GrownIn (blk vb) w8 w6 := (((GrownIn.refl _ w8).alloc _).drew).trans (GrownIn.of_own hg6); obtain ⟨w7, hrun7, hG7, hg7⟩ := HBK.out w6 v6 _ hgr6 ho6 (newor_alloc hl6); have s6 := (HB8.out.row hov hgr6 hbm.2).reads; have s7 := ((HB8.out.row hov hgr6 hbm.2).store hg7 hbm.1 (by omega) (by omega) (by omega)).reads))
          all_goals
            have HB9 : Hid (Blocks w7 Bm b B4 B5 B7 sa sb r) := Lib.hid ((HB8.out.row hov hgr6 hbm.2).store hg7 hbm.1 (by omega) (by omega) (by omega))
            have HW9 : Hid (GrownIn (fun k => k = b ∨ base ≤ k) w3 w7) := Lib.hid (HW8.out.trans ((hgr6.mono (fun k _ h => .inr (own_blk hov k h).1)).trans ((GrownIn.of_grown hg7).mono (fun k _ h => .inl (Option.some.inj h).symm))))
            have HG9 := Lib.hid hG7
            obtain ⟨g2, hg2⟩ : ∃ g2 : Int → List E, g2 = fun y => if y = r.y1 then g1 y ++ [⟨r.x0, -sa, -sb⟩, ⟨r.x1, sa, sb⟩] else g1 y := ⟨_, rfl⟩
            obtain ⟨k2, hk2⟩ : ∃ k2 : Int → Prop, k2 = fun z => z = r.y1 ∨ k1 z := ⟨_, rfl⟩
            have HCf : Hid (Cont _ g2 k2) := Lib.hid (HCg.out.put (y := r.y1) (l := cb ++ [⟨r.x0, -sa, -sb⟩, ⟨r.x1, sa, sb⟩]) (wf_of (by have := HRD.out; omega) (by have := HRD.out; omega)) (by rw [hg2]; simp only [if_pos, HCb.out]) (fun z hz => by rw [hg2]; exact if_neg hz) (fun z => by rw [hk2]))
            have Hg2 := Lib.hid hg2
            have Hk2 := Lib.hid hk2
            obtain ⟨w9, rfl⟩ : ∃ w9, w9 = w7 := ⟨_, rfl⟩
            have hsw9 : w3.heap.size ≤ w9.heap.size := HW9.out.size
            clear hg2 hk2 hrun7 hG7 hg7 s6 s7 ho6 hg6 hl6 hgr6 r0 r1 r2 r3 r4 r5 r6 r7 r8 L1 L2 HBK s0 hov
            have HR9 : Hid (∀ y, g2 y ++ chgL sa sb (l.drop (j + 1)) y = res y) := Lib.hid (fun y => by rw [← HR.out y, chgL_hit HE.out, Hg2.out, Hg1.out])
            have HK9 : Hid (∀ y, k2 y ∨ keyL (l.drop (j + 1)) y ↔ kres y) := Lib.hid (fun y => by rw [← HKR.out y, keyL_hit HE.out, Hk2.out, Hk1.out]; exact or_move _ _ _ _)
            have HL9 : Hid (∀ y, (g2 y).length ≤ N + 4 * (j + 1)) := Lib.hid (fun y => by have h2 := HLg.out y; rw [Hg2.out]; exact len_if (by simp only [List.length_append, List.length_cons, List.length_nil]; omega) (by omega))
            clear HR HKR HL HCj HCg HB8 HG8 HW8 HB4 HG4 HW4 HCa HCb Hg1 Hg2 Hk1 Hk2
            go_wp2_with fail
            go_roundw
            case rel => exact ⟨j + 1, m + 1 + 1, _, g2, k2, by omega, by go_num, HG9.out, HCf.out, HW9.out, ⟨HB9.out.1, HB9.out.2.1, HB9.out.2.2.1⟩, HR9.out, HK9.out, by have := HM.out; omega, HL9.out⟩
            case measure => simp [RowKit.intOf]; omega
      · rw [he] at C1
        have HE := Lib.hid he
        clear he
        go_wp2_with fail
        refine (C1 _).out.mono ?_
        rintro e w4 ⟨rfl, hb4⟩
        have g4 : Hid (GrownIn (fun _ => False) wr w4) := Lib.hid (((GrownIn.refl _ wr).alloc _).trans (GrownIn.of_below hb4))
        have HG4 : Hid (GrpE w4 base b m Dj) := Lib.hid (HG.out.kept g4.out)
        have HW4 : Hid (GrownIn (fun k => k = b ∨ base ≤ k) w3 w4) := Lib.hid (HW.out.trans (g4.out.mono (fun _ _ h => h.elim)))
        have HB4 := Lib.hid (And.intro ((g4.out.cell (a := ⟨Bm, 0, none⟩) (World.block_lt_of_cell? wr _ HBs.out.1) (fun h => h)).trans HBs.out.1) (And.intro (HBs.out.2.1.kept g4.out (fun h => h)) (HBs.out.2.2.kept g4.out (fun h => h))))
        have HR9 : Hid (∀ y, fj y ++ chgL sa sb (l.drop (j + 1)) y = res y) := Lib.hid (fun y => by rw [← HR.out y, chgL_miss HE.out])
        have HK9 : Hid (∀ y, kj y ∨ keyL (l.drop (j + 1)) y ↔ kres y) := Lib.hid (fun y => by rw [← HKR.out y, keyL_miss HE.out])
        have HL9 : Hid (∀ y, (fj y).length ≤ N + 4 * (j + 1)) := Lib.hid (fun y => by have := HL.out y; omega)
        clear t0 t1 t2 t3 hb4 C1 HG HW HBs g4 HR HKR HL
        go_wp2_with fail
        go_roundw
        case rel => exact ⟨j + 1, m, Dj, fj, kj, by omega, by go_num, HG4.out, HCj.out, HW4.out, HB4.out, HR9.out, HK9.out, by have := HM.out; omega, HL9.out⟩
        case measure => simp [RowKit.intOf]; omega
    · have q0 : (nl : Int) ≤ (j : Int) := by omega
      have hdr : l.drop j = [] := List.drop_eq_nil_of_le (by rw [HNL.out]; omega)
      have HF : Hid (GrpE wr base b m Dj ∧ Cont Dj res kres ∧ m ≤ n + 2 * nl ∧ GrownIn (fun k => k = b ∨ base ≤ k) w wr) := Lib.hid ⟨hrel.out.1, hrel.out.2.1.congr (fun y => by have h := hrel.out.2.2.2.2.1 y; rw [hdr] at h; rw [← h]; simp [chgL]) (fun y => by have h := hrel.out.2.2.2.2.2.1 y; rw [hdr] at h; rw [← h]; simp [keyL_nil]), by have := hrel.out.2.2.2.2.2.2.1; omega, (HW3.out.mono (fun _ _ h => h.elim)).trans hrel.out.2.2.1⟩
      clear hrel hdr
      go_wp2_with fail
      go_end0
      exact ⟨rfl, Dj, m, HF.out.1, HF.out.2.1, by rw [HNL.out]; exact HF.out.2.2.1, HF.out.2.2.2⟩

end Go.Proofs.YthedglfocjljjaaGreatDoor.Rgn
