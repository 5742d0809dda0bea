/-
  Equal and Area of package region.
-/
import Derived.Test.YtclnepijbnhdfaaCanon
import Derived.Test.YtclnepijbnhdfaaRtop3
namespace Go.Proofs.Ytclnepijbnhdfaa
open Go.RowKit Go.Shelf
attribute [local go_sem] Oper.semAt_some

theorem stripsL_strips {op : Op2} (h0 : op false false = false) (a b : List R) : Strips (setS op a b) (stripsL op a b) := by
  obtain ⟨ys, hys⟩ : ∃ ys, ysP a b = ys := ⟨_, rfl⟩
  have hp := ysP_inc a b
  have ha : ∀ r ∈ a, empB r = false → r.y0 ∈ ys ∧ r.y1 ∈ ys := fun r h he => by rw [← hys]; exact ⟨ysP_mem.2 (.inl ⟨r, h, he, .inl rfl⟩), ysP_mem.2 (.inl ⟨r, h, he, .inr rfl⟩)⟩
  have hb : ∀ r ∈ b, empB r = false → r.y0 ∈ ys ∧ r.y1 ∈ ys := fun r h he => by rw [← hys]; exact ⟨ysP_mem.2 (.inr ⟨r, h, he, .inl rfl⟩), ysP_mem.2 (.inr ⟨r, h, he, .inr rfl⟩)⟩
  have hr := rrP_ok h0 a b
  unfold stripsL stripsAt
  rw [hys, List.drop_zero]
  rw [hys] at hp
  obtain ⟨t, ht1, ht2⟩ : ∃ t : Int, t < -16384 ∧ ∀ y ∈ ys, t < y := by
    obtain ⟨B, hB⟩ := low_runs (ys.map fun y => (y, y))
    refine ⟨min B (-16385), by omega, fun y hy => ?_⟩
    have := hB (y, y) (List.mem_map.2 ⟨y, hy, rfl⟩)
    simp only at this
    omega
  have hs := stripsY_strips h0 hr (ys := ys) (t := t) (List.pairwise_cons.2 ⟨ht2, hp⟩) (fun r h he => ⟨.inr (ha r h he).1, .inr (ha r h he).2⟩) (fun r h he => ⟨.inr (hb r h he).1, .inr (hb r h he).2⟩) ht1
  have hz : rrP op a b t = [] := runs_unique (hr t) (runs_nil fun x => by
    cases e : setS op a b x t
    · rfl
    · have := setS_inside h0 a b x t e; omega)
  cases ys with
  | nil => simpa [stripsY] using hs
  | cons y ys =>
    simp only [stripsY, hz, if_true] at hs
    exact hs

theorem strips_sum (a : List R) : sumP (flatB (stripsL orB a [])) = sumP (combP orB a []) := by
  have h1 := area_strips (n := 32768) (A := -16384) (stripsL_strips (op := orB) rfl a []) (fun x y hs => by have := setS_inside (op := orB) rfl a [] x y hs; omega)
  have h2 := (region_area (combP_ok (op := orB) rfl a []) (setS_inside rfl a [])).1
  rw [h1, h2]

theorem strips_full {op : Op2} (h0 : op false false = false) {a b : List R} {p : Band} (hp : p ∈ stripsL op a b) : ∀ r ∈ bandR p, empB r = false := by
  intro r hr
  obtain ⟨⟨h1, h2, h3⟩, _, h4, _⟩ := strips_within (stripsL_strips h0 a b) (setS_inside h0 a b) p hp
  obtain ⟨q, hq, rfl⟩ := List.mem_map.1 hr
  have := h4 q hq
  rw [emp_no]
  simp only
  omega

theorem region_none {S : Int → Int → Bool} {l : List R} (h : Region S l) (hi : Inside S) : l = [] ↔ ∀ x y, S x y = false := by
  constructor
  · intro e x y
    rw [← region_in h hi, e]
    rfl
  · intro hs
    cases l with
    | nil => rfl
    | cons r l =>
      have h1 := region_full h hi r List.mem_cons_self
      have h2 := region_in h hi r.x0 r.y0
      rw [hs] at h2
      have h3 : inL (r :: l) r.x0 r.y0 = true := (inL_iff _ _ _).2 ⟨r, List.mem_cons_self, (con_iff r _ _).2 ⟨h1, by have := (emp_no r).1 h1; omega⟩⟩
      rw [h2] at h3
      cases h3

theorem strips_none {op : Op2} (h0 : op false false = false) (a b : List R) : stripsL op a b = [] ↔ ∀ x y, setS op a b x y = false := by
  rw [← region_none (combP_ok h0 a b) (setS_inside h0 a b)]
  have h1 := comb_start op a b
  constructor
  · intro e
    unfold stripsL at e
    rw [e] at h1
    rw [← h1]
    rfl
  · intro e
    cases hL : stripsL op a b with
    | nil => rfl
    | cons p L =>
      have hne := stripsL_ne p (by rw [hL]; exact List.mem_cons_self)
      unfold stripsL at hL
      rw [hL, tailC_start, e] at h1
      have h2 : p.2.2.length ≤ (flatB (comps (p :: L))).length := by
        obtain ⟨lo, hi, v⟩ := p
        exact comp_len
      rw [h1] at h2
      exact absurd (List.eq_nil_of_length_eq_zero (by simpa using h2)) hne

theorem comb_eq_iff (a b : List R) : combP orB a [] = combP orB b [] ↔ ∀ x y, inL a x y = inL b x y := by
  have e : ∀ (l : List R) x y, setS orB l [] x y = inL l x y := fun l x y => by simp [setS, inL]
  constructor
  · intro h x y
    have h1 := region_in (combP_ok (op := orB) rfl a []) (setS_inside rfl a []) x y
    have h2 := region_in (combP_ok (op := orB) rfl b []) (setS_inside rfl b []) x y
    rw [e] at h1 h2
    rw [← h1, ← h2, h]
  · intro h
    refine region_unique (combP_ok (op := orB) rfl a []) ((combP_ok (op := orB) rfl b []).congr fun x y => ?_)
    rw [e, e, h]

/-- whether two lists have the same points -/
def eqP (a b : List R) : Bool := (stripsL (fun x y => x != y) a b).isEmpty

theorem eqP_iff (a b : List R) : eqP a b = true ↔ ∀ x y, inL a x y = inL b x y := by
  unfold eqP
  rw [List.isEmpty_iff, strips_none rfl]
  constructor
  · intro h x y
    have := h x y
    simpa [setS] using this
  · intro h x y
    simp [setS, h x y]

theorem eqP_ref (a b : List R) : eqP a b = sameL (combP orB a []) (combP orB b []) := by
  cases h : sameL (combP orB a []) (combP orB b [])
  · cases h2 : eqP a b
    · rfl
    · have := sameL_iff.2 ((comb_eq_iff a b).2 ((eqP_iff a b).1 h2))
      rw [h] at this
      cases this
  · exact (eqP_iff a b).2 ((comb_eq_iff a b).1 (sameL_iff.1 h))

/-- Equal ahead of the first strip -/
def EqI (w : World) (B : Nat) (X : Nat → Prop) (pre : List Band) (W : World) : Prop := pre = [] ∧ Bx W B #[.bool false] 4 ∧ Below w.heap.size w W ∧ ∀ k, X k → B < k
def EqX (w : World) (B : Nat) (pre : List Band) (W : World) : Prop := pre ≠ [] ∧ Bx W B #[.bool false] 4 ∧ Below w.heap.size w W

theorem eqI_own {w : World} {B n : Nat} (_ : w.heap.size ≤ B) (_ : B < n) (X X' : Nat → Prop) (pre : List Band) (U V : World) (h : EqI w B X pre U) (hg : GrownIn (fun k => X k ∨ Own' n U k) U V) (hX : ∀ k, X' k → X k ∨ U.heap.size ≤ k) : EqI w B X' pre V := by
  obtain ⟨h1, h2, h3, h4⟩ := h
  have hlt := h2.lt
  refine ⟨h1, h2.kept hg (fun hk => ?_), h3.trans (hg.below h3.size (fun k hk => ?_)), fun k hk => ?_⟩
  · rcases hk with hk | hk
    · have := h4 _ hk; omega
    · exact bx_own h2 hk
  · rcases hk with hk | hk
    · have := h4 k hk; omega
    · have := hk.1; omega
  · rcases hX k hk with h | h
    · exact h4 k h
    · omega

theorem eqX_own {w : World} {B n : Nat} (_ : w.heap.size ≤ n) (pre : List Band) (U V : World) (h : EqX w B pre U) (hg : GrownIn (Own' n U) U V) : EqX w B pre V :=
  ⟨h.1, h.2.1.kept hg (bx_own h.2.1), h.2.2.trans (hg.below h.2.2.size (fun k hk => by have := hk.1; omega))⟩

set_option maxRecDepth 100000 in
set_option maxHeartbeats 4000000 in
theorem equals_any {w : World} {va vb : Value} {a b : List R} (ha : Rs w va a) (hb : Rs w vb b) (hl : a.length + b.length ≤ 1000) :
    Calls Try.prog 28 #[va, vb] w fun e w' => e = .returned (.bool (eqP a b)) ∧ Below w.heap.size w w' := by
  obtain ⟨Aa, ca, ea, hca, hma, jk1⟩ := id ha
  obtain ⟨Ab, cb, eb, hcb, hmb, jk2⟩ := id hb
  obtain ⟨L, hL⟩ : ∃ L, stripsL (fun x y => x != y) a b = L := ⟨_, rfl⟩
  have HL := Lib.hid hL
  have HA := Lib.hid ha
  have HB := Lib.hid hb
  have HEA := Lib.hid ea
  have HEB := Lib.hid eb
  unfold eqP
  rw [hL]
  clear hL ha hb ea eb jk1 jk2
  refine (callsIn_wide (n := 9)).1 ?_
  refine callsIn_of_wp_marks Try.func28 rfl trivial ?_ rfl
  simp only [Try.ntmps28, List.size_toArray, List.length_cons, List.length_nil, Nat.reduceAdd, Nat.reduceSub, Array.replicate_succ, Array.replicate_zero, List.push_toArray, List.append_toArray, List.nil_append, List.cons_append]
  gi_wp2
  refine ⟨trivial, ?_⟩
  refine (callsIn_wide.2 (strips_any _ HEA.out HEB.out 47)).mono ?_
  rintro e w1 ⟨rfl, hb1, hz1, hA1, hB1, hK1⟩
  obtain ⟨B, hB⟩ : ∃ B, w.heap.size = B := ⟨_, rfl⟩
  have x4 : Bx (w.alloc (.cells #[.bool false] 4)) B #[.bool false] 4 := by rw [← hB]; exact Bx.new w _ _
  have hz0 : (w.alloc (.cells #[.bool false] 4)).heap.size = B + 1 := by simp [hB]
  have g0 : GrownIn (fun _ => False) w (w.alloc (.cells #[.bool false] 4)) := (GrownIn.refl _ w).alloc _
  generalize w.alloc (.cells #[.bool false] 4) = w0 at *
  have g01 : GrownIn (fun _ => False) w0 w1 := GrownIn.of_below hb1
  have gw : Below w.heap.size w w1 := (g0.trans g01).below (Nat.le_refl _) (fun _ h => h.elim)
  rw [hz0] at hz1 hA1 hB1 hK1
  simp only [hz0, hB, Nat.add_assoc, Nat.reduceAdd]
  simp only [Nat.add_assoc, Nat.reduceAdd] at hA1 hB1 hK1 hz1
  have HI0 : Hid (EqI w B (fun j => j = B + 3) [] w1) := Lib.hid ⟨rfl, x4.kept g01 (fun h => h), gw, fun k hk => by omega⟩
  have HSQ := Lib.hid (strips_seq 8 (by omega) (B + 1) (B + 2) (B + 3) 47 keeps_one rfl w1 hA1 hB1 hK1 (HA.out.below gw) (HB.out.below gw) hl)
  rw [HL.out] at HSQ
  have hw1 : w1.heap.size = B + 4 := hz1
  clear x4 g0 g01 hb1 hA1 hB1 hK1 hz1
  gi_wp2
  refine wpIn_rangeX (by omega) (gf := 57) (lb := #[.pointer (some ⟨B + 1, 0, none⟩), .pointer (some ⟨B + 2, 0, none⟩), .pointer (some ⟨B + 3, 0, none⟩)]) rfl (enters_of Try.func57 (by kernel_rfl) rfl) HSQ.out (Below.refl _ _) rfl (fun j hj => by omega)
    (EqI w B) (EqX w B) (eqI_own (by omega) (by omega)) (eqX_own (by omega)) HI0.out
    (fun v => { tmps := #[va, vb, undef, undef, .pointer (some ⟨B, 0, none⟩), va, vb, .func (.func 57) #[] #[.pointer (some ⟨B + 1, 0, none⟩), .pointer (some ⟨B + 2, 0, none⟩), .pointer (some ⟨B + 3, 0, none⟩)], v], defers := [] }) ?assign ?body ?done ?stop
  case assign =>
    intro l v W K hK
    gi_wp2
    simp
    exact hK
  case body =>
    rintro l X pre bd v W ⟨rfl, hx, hbl, hX⟩ hpre hrs hvX hXs
    have x4 := hx.cell 0
    have f4 := hx.frozen 0
    simp only [List.getElem?_toArray, List.getElem?_cons_zero] at x4
    clear hrs
    gi_wp2
    exact ⟨(KeepsOthers.setCell _ _ _).from _, by simp, hx.set _, hbl.setCell (p := ⟨B, 0, none⟩) (show w.heap.size ≤ B by omega) _⟩
  case done =>
    rintro D X W hD ⟨hp, hx, hbl, _⟩ hK
    have x4 := hx.cell 0
    have f4 := hx.frozen 0
    simp only [List.getElem?_toArray, List.getElem?_cons_zero] at x4
    subst hp
    gi_wp2
    have hBD : B ≠ D := by omega
    have hk2 := (KeepsOthers.setCell W ⟨B, 0, none⟩ (.bool true)).same D _ hK rfl
    refine ⟨by simp, .inl ⟨_, _, rfl, run_takeDeferred hk2, ?_⟩⟩
    have gp := GrownIn.of_grown (grownBy_putObj' (W.setCell ⟨B, 0, none⟩ (.bool true)) D (.deferred none))
    have r4 := ((hx.set (.bool true)).kept gp (fun e => hBD (Option.some.inj e).symm)).cell 0
    simp only [List.getElem?_toArray, List.getElem?_cons_zero] at r4
    refine ⟨.bool true, ?_, rfl, ?_⟩
    · simp [results, Try.f28, go_sem, r4]
    · exact (hbl.setCell (p := ⟨B, 0, none⟩) (show w.heap.size ≤ B by omega) _).trans (gp.below (by simpa using hbl.size) (fun k h => by have := Option.some.inj h; omega))
  case stop =>
    rintro D pre W hD hpre ⟨hp, hx, hbl⟩ hK
    gi_wp2
    have hBD : B ≠ D := by omega
    refine ⟨by simp, .inl ⟨_, _, rfl, run_takeDeferred hK, ?_⟩⟩
    have gp := GrownIn.of_grown (grownBy_putObj' W D (.deferred none))
    have r4 := (hx.kept gp (fun e => hBD (Option.some.inj e).symm)).cell 0
    simp only [List.getElem?_toArray, List.getElem?_cons_zero] at r4
    refine ⟨.bool false, ?_, ?_, ?_⟩
    · simp [results, Try.f28, go_sem, r4]
    · have : L.isEmpty = false := by
        cases L with
        | nil => exact absurd (List.prefix_nil.1 hpre) hp
        | cons _ _ => rfl
      rw [this]
    · exact hbl.trans (gp.below hbl.size (fun k h => by have := Option.some.inj h; omega))

theorem flatB_append (L M : List Band) : flatB (L ++ M) = flatB L ++ flatB M := by simp [flatB]

/-- Area between two strips -/
def ArI (w : World) (B : Nat) (L : List Band) (X : Nat → Prop) (pre : List Band) (W : World) : Prop := (∃ rest, L = pre ++ rest) ∧ Bx W B #[.int .i64 (sumP (flatB pre))] 3 ∧ Below w.heap.size w W ∧ ∀ k, X k → B < k

theorem arI_own {w : World} {B n : Nat} {L : List Band} (_ : w.heap.size ≤ B) (_ : B < n) (X X' : Nat → Prop) (pre : List Band) (U V : World) (h : ArI w B L X pre U) (hg : GrownIn (fun k => X k ∨ Own' n U k) U V) (hX : ∀ k, X' k → X k ∨ U.heap.size ≤ k) : ArI w B L X' pre V := by
  obtain ⟨h1, h2, h3, h4⟩ := h
  have hlt := h2.lt
  refine ⟨h1, h2.kept hg (fun hk => ?_), h3.trans (hg.below h3.size (fun k hk => ?_)), fun k hk => ?_⟩
  · rcases hk with hk | hk
    · have := h4 _ hk; omega
    · exact bx_own h2 hk
  · rcases hk with hk | hk
    · have := h4 k hk; omega
    · have := hk.1; omega
  · rcases hX k hk with h | h
    · exact h4 k h
    · omega

theorem areaI_full {r : R} (h : empB r = false) : areaI r = areaP r := by
  unfold areaI areaP
  rw [can_full h]

set_option maxRecDepth 100000 in
set_option maxHeartbeats 8000000 in
theorem areas_any {w : World} {va : Value} {a : List R} (ha : Rs w va a) (hl : a.length ≤ 1000) :
    Calls Try.prog 18 #[va] w fun e w' => e = .returned (.int .i64 (sumP (combP orB a []))) ∧ Below w.heap.size w w' := by
  obtain ⟨Aa, ca, ea, hca, hma, jk1⟩ := id ha
  obtain ⟨L, hL⟩ : ∃ L, stripsL orB a [] = L := ⟨_, rfl⟩
  have HFU : Hid (∀ p ∈ L, ∀ r ∈ bandR p, empB r = false) := Lib.hid (fun p hp => strips_full (op := orB) rfl (by rw [hL]; exact hp))
  have HTOT : Hid (sumP (flatB L) ≤ 1073741824) := Lib.hid (by rw [← hL, strips_sum]; exact (region_area (combP_ok (op := orB) rfl a []) (setS_inside rfl a [])).2)
  have HLEN : Hid (∀ p ∈ L, p.2.2.length ≤ 2000) := Lib.hid (fun p hp => by have h := stripsL_len (op := orB) (a := a) (b := []) p (by rw [hL]; exact hp); simp at h; omega)
  rw [← strips_sum, hL]
  have HL := Lib.hid hL
  have HA := Lib.hid ha
  have HEA := Lib.hid ea
  clear hL ha ea jk1
  refine (callsIn_wide (n := 9)).1 ?_
  refine callsIn_of_wp_marks Try.func18 rfl trivial ?_ rfl
  simp only [Try.ntmps18, List.size_toArray, List.length_cons, List.length_nil, Nat.reduceAdd, Nat.reduceSub, Array.replicate_succ, Array.replicate_zero, List.push_toArray, List.append_toArray, List.nil_append, List.cons_append]
  gi_wp2
  refine ⟨trivial, ?_⟩
  refine (callsIn_wide.2 (strips_any _ HEA.out (rfl : Value.slice none 0 0 = .slice none 0 0) 34)).mono ?_
  rintro e w1 ⟨rfl, hb1, hz1, hA1, hB1, hK1⟩
  obtain ⟨B, hB⟩ : ∃ B, w.heap.size = B := ⟨_, rfl⟩
  have x4 : Bx (w.alloc (.cells #[.int .i64 0] 3)) B #[.int .i64 0] 3 := by rw [← hB]; exact Bx.new w _ _
  have hz0 : (w.alloc (.cells #[.int .i64 0] 3)).heap.size = B + 1 := by simp [hB]
  have g0 : GrownIn (fun _ => False) w (w.alloc (.cells #[.int .i64 0] 3)) := (GrownIn.refl _ w).alloc _
  generalize w.alloc (.cells #[.int .i64 0] 3) = w0 at *
  have g01 : GrownIn (fun _ => False) w0 w1 := GrownIn.of_below hb1
  have gw : Below w.heap.size w w1 := (g0.trans g01).below (Nat.le_refl _) (fun _ h => h.elim)
  rw [hz0] at hz1 hA1 hB1 hK1
  simp only [hz0, hB, Nat.add_assoc, Nat.reduceAdd]
  simp only [Nat.add_assoc, Nat.reduceAdd] at hA1 hB1 hK1 hz1
  have HI0 : Hid (ArI w B L (fun j => j = B + 3) [] w1) := Lib.hid ⟨⟨L, rfl⟩, x4.kept g01 (fun h => h), gw, fun k hk => by omega⟩
  have HSQ := Lib.hid (strips_seq 8 (by omega) (B + 1) (B + 2) (B + 3) 34 keeps_either rfl w1 hA1 hB1 hK1 (HA.out.below gw) (rs_nil w1) (by simpa using hl))
  have HSQ2 : Hid (SeqX 8 57 #[.pointer (some ⟨B + 1, 0, none⟩), .pointer (some ⟨B + 2, 0, none⟩), .pointer (some ⟨B + 3, 0, none⟩)] L (fun j => j = B + 3) w1) := Lib.hid (by rw [← HL.out]; exact HSQ.out)
  have hw1 : w1.heap.size = B + 4 := hz1
  clear x4 g0 g01 hb1 hA1 hB1 hK1 hz1 HSQ
  gi_wp2
  refine wpIn_rangeX (by omega) (gf := 57) (lb := #[.pointer (some ⟨B + 1, 0, none⟩), .pointer (some ⟨B + 2, 0, none⟩), .pointer (some ⟨B + 3, 0, none⟩)]) rfl (enters_of Try.func57 (by kernel_rfl) rfl) HSQ2.out (Below.refl _ _) rfl (fun j hj => by omega)
    (ArI w B L) (fun _ _ => False) (arI_own (by omega) (by omega)) (fun _ _ _ h _ => h) HI0.out
    (fun v => { tmps := #[va, undef, .int .i64 0, .pointer (some ⟨B, 0, none⟩), v, undef, undef, va, .func (.func 57) #[] #[.pointer (some ⟨B + 1, 0, none⟩), .pointer (some ⟨B + 2, 0, none⟩), .pointer (some ⟨B + 3, 0, none⟩)], v, undef, undef, undef, undef, undef, undef, undef, undef, undef, undef, undef, undef], defers := [] }) ?assign ?body ?done ?stop
  case assign =>
    intro l v W K hK
    gi_wp2
    exact hK
  case body =>
    rintro l X pre bd v W ⟨⟨rest, hLr⟩, hx, hbl, hX⟩ hpre hrs hvX hXs
    obtain ⟨rest', rfl⟩ : ∃ r, rest = bd :: r := by
      obtain ⟨r, hr⟩ := hpre
      rw [hLr, List.append_assoc] at hr
      exact ⟨r, (List.append_cancel_left hr).symm⟩
    have hbm : bd ∈ L := by rw [hLr]; simp
    have HFB := Lib.hid (HFU.out bd hbm)
    have hnu0 := HLEN.out bd hbm
    obtain ⟨s0, hs0⟩ : ∃ s0, sumP (flatB pre) = s0 := ⟨_, rfl⟩
    have hsum : sumP (flatB L) = s0 + sumP (bandR bd) + sumP (flatB rest') := by rw [hLr, flatB_append, sumP_append, flatB_cons, sumP_append, hs0]; omega
    have hfl : ∀ (M : List Band), (∀ p ∈ M, p ∈ L) → 0 ≤ sumP (flatB M) := fun M hM => sumP_nonneg (fun r hr => by
      obtain ⟨p, hp, hr⟩ := List.mem_flatMap.1 hr
      exact HFU.out p (hM p hp) r hr)
    have HBD : Hid (0 ≤ s0 ∧ s0 + sumP (bandR bd) ≤ 1073741824) := Lib.hid ⟨by rw [← hs0]; exact hfl pre (fun p hp => by rw [hLr]; exact List.mem_append_left _ hp), by have h1 := HTOT.out; have h2 := hfl rest' (fun p hp => by rw [hLr]; exact List.mem_append_right _ (List.mem_cons_of_mem _ hp)); omega⟩
    have HS0 := Lib.hid hs0
    rw [hs0] at hx
    have HLR := Lib.hid hLr
    have HX := Lib.hid hX
    have HVX := Lib.hid hvX
    have HBL := Lib.hid hbl
    have HXB := Lib.hid hx
    obtain ⟨As, cs, rfl, hcs, hms, hcell⟩ := id hrs
    have HC := Lib.hid hcell
    obtain ⟨nu, hnu⟩ : ∃ nu, (bandR bd).length = nu := ⟨_, rfl⟩
    have HNU := Lib.hid hnu
    have hnul : nu ≤ 2000 := by rw [← hnu, bandR_len]; exact hnu0
    rw [hnu] at hcs HVX
    rw [hnu]
    simp only [maxLen] at hms
    have hBW := hx.lt
    have hd7 : 1 ≤ 9 - 1 - 1 := by omega
    clear hLr hx hbl hX hrs hvX hXs hpre hbm hnu0 hs0 hsum hfl hcell hnu
    gi_wp2
    gi_loopw [12] (fun k wr => ∃ j, j ≤ nu ∧ k = .int .i64 (j : Int) ∧ Hid (Bx wr B #[.int .i64 (s0 + sumP ((bandR bd).take j))] 3 ∧ GrownIn (fun k => k = B) W wr ∧ KeepsFrom w1.heap.size W wr)) (fun k _ => nu - (RowKit.intOf k).toNat)
    case atStart => exact ⟨0, by omega, rfl, by simpa [sumP] using HXB.out, GrownIn.refl _ _, KeepsFrom.refl _ _⟩
    case round =>
      obtain ⟨j, hj, rfl, hrel⟩ := hrel
      by_cases hlt : j < nu
      · obtain ⟨r, hr⟩ : ∃ r, (bandR bd)[j]? = some r := ⟨_, List.getElem?_eq_getElem (by rw [HNU.out]; exact hlt)⟩
        obtain ⟨bs, os, rfl, hbs, hcs2⟩ := HC.out (by rw [HNU.out]; omega)
        have hbB : bs ≠ B := fun e => by have := HX.out bs (HVX.out bs rfl); omega
        obtain ⟨t0, t1, t2, t3⟩ := hcs2 j r hr
        have HG := Lib.hid hrel.out.2.1
        replace t0 := (HG.out.cell (a := ⟨bs, os + j * 4, none⟩) hbs hbB).trans t0
        replace t1 := (HG.out.cell (a := ⟨bs, os + j * 4 + 1, none⟩) hbs hbB).trans t1
        replace t2 := (HG.out.cell (a := ⟨bs, os + j * 4 + 2, none⟩) hbs hbB).trans t2
        replace t3 := (HG.out.cell (a := ⟨bs, os + j * 4 + 3, none⟩) hbs hbB).trans t3
        have hbr : bs < wr.heap.size := Nat.lt_of_lt_of_le hbs HG.out.size
        have hBr : B < wr.heap.size := Nat.lt_of_lt_of_le hBW HG.out.size
        have hru := HFB.out r (List.mem_of_getElem? hr)
        obtain ⟨z0, z1, z2⟩ := sumP_take HFB.out hr
        have had := areaP_bd hru
        obtain ⟨sj, hsj⟩ : ∃ sj, sumP ((bandR bd).take j) = sj := ⟨_, rfl⟩
        obtain ⟨ar, har⟩ : ∃ ar, areaI r = ar := ⟨_, rfl⟩
        have C1 := fun U => Lib.hid (area_any r U)
        have HSJ : Hid (sumP ((bandR bd).take (j + 1)) = sj + ar) := Lib.hid (by rw [z2, hsj, ← har, areaI_full hru])
        rw [har] at C1
        have har2 : ar = areaP r := by rw [← har, areaI_full hru]
        rw [hsj] at z0 z1
        have hbd := HBD.out
        obtain ⟨sn, hsn⟩ : ∃ sn, s0 + sj = sn := ⟨_, rfl⟩
        have hX0 : Bx wr B #[.int .i64 sn] 3 := by have h := hrel.out.1; rw [hsj, hsn] at h; exact h
        have f4 : IntKind.i64.wrap (sn + ar) = sn + ar := IntWalk.i64_in _ (by omega)
        have HSN : Hid (s0 + sumP ((bandR bd).take (j + 1)) = sn + ar) := Lib.hid (by rw [HSJ.out]; omega)
        have HKF := Lib.hid hrel.out.2.2
        have HX0 := Lib.hid hX0
        have x4 := hX0.cell 0
        have f5 := hX0.frozen 0
        simp only [List.getElem?_toArray, List.getElem?_cons_zero] at x4
        have q0 : (j : Int) < nu := by omega
        have q1 : (0 : Int) ≤ j := by omega
        have hmx : Try.prog.follows .mixedOrders = true := by kernel_rfl
        clear hrel hr hcs2 hru z0 z1 z2 had hsj har HSJ har2 hbd hsn hX0
        gi_wp2
        gi_region_with_o (refine ⟨trivial, ?_⟩; refine (CallsIn.inRound l (callsIn_wide.2 (C1 _).out)).mono ?_; rintro e w4 ⟨rfl, hb4⟩; have b4 := HX0.out.kept ((((GrownIn.refl (fun _ => False) wr).alloc _).drew).trans (GrownIn.of_below hb4)) (fun h => h); have y4 := b4.cell 0; have g4 := b4.frozen 0; simp only [List.getElem?_toArray, List.getElem?_cons_zero] at y4)
        all_goals
          have g4w : GrownIn (fun _ => False) wr w4 := (((GrownIn.refl _ wr).alloc _).drew).trans (GrownIn.of_below hb4)
          have HB5 : Hid (Bx (w4.setCell ⟨B, 0, none⟩ (.int .i64 (sn + ar))) B #[.int .i64 (s0 + sumP ((bandR bd).take (j + 1)))] 3) := Lib.hid (by rw [HSN.out]; exact b4.set _)
          have HG5 : Hid (GrownIn (fun k => k = B) W (w4.setCell ⟨B, 0, none⟩ (.int .i64 (sn + ar)))) := Lib.hid ((HG.out.trans (g4w.mono (fun _ _ h => h.elim))).trans ((GrownIn.of_grown (grown_set w4 B 0 _)).mono (fun k _ e => (Option.some.inj e).symm)))
          have HK5 : Hid (KeepsFrom w1.heap.size W (w4.setCell ⟨B, 0, none⟩ (.int .i64 (sn + ar)))) := Lib.hid ((HKF.out.trans (keeps_same g4w)).trans ((KeepsOthers.setCell _ _ _).from _))
          clear hb4 b4 y4 g4 g4w x4 f5 t0 t1 t2 t3 C1 f4 HG HKF HX0
          generalize w4.setCell ⟨B, 0, none⟩ (.int .i64 (sn + ar)) = wz at *
          gi_wp2
          go_roundw
          case rel => exact ⟨j + 1, by omega, by go_num, HB5.out, HG5.out, HK5.out⟩
          case measure => simp [RowKit.intOf]; omega
      · have q0 : (nu : Int) ≤ (j : Int) := by omega
        have HRL := Lib.hid hrel.out
        clear hrel
        gi_wp2
        have e1 : (bandR bd).take j = bandR bd := List.take_of_length_le (by rw [HNU.out]; omega)
        have hB1 := HRL.out.1
        rw [e1] at hB1
        refine ⟨HRL.out.2.2, HRL.out.2.1.mono (fun k _ e hk => by have := HX.out k hk; omega), ⟨rest', by rw [HLR.out]; simp⟩, ?_, HBL.out.trans (HRL.out.2.1.below HBL.out.size (fun k e => by omega)), HX.out⟩
        rw [flatB_append, sumP_append, HS0.out, show flatB [bd] = bandR bd by simp [flatB]]
        exact hB1
  case done =>
    rintro D X W hD ⟨_, hx, hbl, _⟩ hK
    have x4 := hx.cell 0
    simp only [List.getElem?_toArray, List.getElem?_cons_zero] at x4
    obtain ⟨sn, hsn⟩ : ∃ sn, sumP (flatB L) = sn := ⟨_, rfl⟩
    rw [hsn] at x4 hx
    have HSN := Lib.hid hsn
    clear hsn
    gi_wp2
    refine ⟨by simp, .inl ⟨_, _, rfl, run_takeDeferred hK, ?_⟩⟩
    exact ⟨_, results_tmp rfl _ _ _, by rw [HSN.out]; rfl, hbl.trans ((GrownIn.of_grown (grownBy_putObj' W D (.deferred none))).below hbl.size (fun k h => by have := Option.some.inj h; omega))⟩
  case stop =>
    rintro D pre W _ _ h _
    exact h.elim

end Go.Proofs.Ytclnepijbnhdfaa
