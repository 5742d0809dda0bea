/-
  The table that is laid when a call begins, and a world in which it is laid; a state as an argument, opened.
-/
import Derived.Test.YthedglfocjljjaaGreatDoorExm
import Derived.Test.YthedglfocjljjaaGreatDoorTie
import Derived.Test.YthedglfocjljjaaGreatDoorCards
import Derived.ProofKit
import Derived.OpenShut
import Derived.LaidMore
import Derived.Lay
import Derived.SevenTiedAt
import Derived.Stop.Joined
import Derived.Stop.LaidErr
import Derived.Deep.Slices
namespace Go.Proofs.YthedglfocjljjaaGreatDoor
open Go.ChangeShapes Go.WideShapes Go.ChangeAt Go.RowKit

theorem own : ownKnob Tryz.prog.godebug = none := by kernel_rfl
theorem laidOut : laidOutB Tryz.prog = true := by kernel_rfl

def laidL : List (String × DataW Unit) := Rows.stateChecksRow.laid

def tabRow (i : Nat) : List Int := (List.range 8).map fun (j : Nat) => Trf.comp8 (i : Int) (j : Int)

theorem tab_rows : (Rows.laid_compositor_transform_products : DataW Unit) = .agg ((List.range 8).map fun i => Lib.tabData .i64 (tabRow i)) := by kernel_rfl

theorem rows_of {H : Type} {enc : TypeId × Value → H} {P : Program} {w : World} {base : Nat} {sp : Nat → Bool} {held : Bool} {fuel : Nat} {t e : TypeId} {n m : Nat} {cs : List Value} {ds : List (DataW H)} {p : List MemPlace}
    (ht : P.underlying t = some (.array n e)) (hce : P.cellsOf e = m) (h : DataW.trod enc P w base sp held fuel t cs = some (.agg ds, p)) :
    ∃ f, ∀ i d, ds[i]? = some d → ∃ q, DataW.trod enc P w base sp held f e ((cs.drop (i * m)).take m) = some (d, q) := by
  cases fuel with
  | zero => simp [DataW.trod] at h
  | succ fuel =>
    simp only [DataW.trod, ht, hce] at h
    split at h
    · obtain ⟨xs, hm, hx⟩ := Option.map_eq_some_iff.1 h
      have hxs : xs.map (·.1) = ds := by
        have := congrArg Prod.fst hx
        simpa using this
      have hxl : xs.length = n := by simpa using Lib.mapM_length hm
      refine ⟨fuel, fun i d hd => ?_⟩
      rw [← hxs] at hd
      have hi : i < n := by
        have := (List.getElem?_eq_some_iff.1 hd).1
        simp at this
        omega
      obtain ⟨b, hb, hf⟩ := Lib.mapM_at hm i i (by simp [hi])
      simp [hb] at hd
      subst hd
      exact ⟨b.2, hf⟩
    · cases h

theorem gTab : Tryz.prog.globalNamed "compositor/transform.products" = some 0 := by kernel_rfl

theorem tab_of {W : World} (h : laidMetH Tryz.prog laidL W) : Trf.Tab W := by
  rw [MakeChecks.laidMetH_plain _ _ _ (by kernel_rfl)] at h
  have h1 : laidMet Tryz.prog [("compositor/transform.products", Rows.laid_compositor_transform_products)] W := h
  rw [tab_rows] at h1
  obtain ⟨ps, ⟨g', t', cs, fuel, p, q, hg', ht', hvar, hd, _, _⟩, _⟩ := h1
  obtain rfl := Option.some.inj (gTab.symm.trans hg')
  obtain rfl : (103 : TypeId) = t' := Option.some.inj ((show (Tryz.prog.globals[0]?).map (·.type) = some 103 by kernel_rfl).symm.trans ht')
  obtain ⟨f, hr⟩ := rows_of (t := 103) (e := 102) (n := 8) (m := 8) (by kernel_rfl) (by kernel_rfl) hd
  have hc : ∀ i j : Nat, i < 8 → j < 8 → cs.toList[i * 8 + j]? = some (.int .i64 (Trf.comp8 i j)) := by
    intro i j hi hj
    obtain ⟨q, hq⟩ := hr i (Lib.tabData .i64 (tabRow i)) (by simp [hi])
    have hrow := Lib.cells_of_tab (t := 102) (e := 3) (n := 8) (k := .i64) (by kernel_rfl) (by kernel_rfl) (by kernel_rfl) (by kernel_rfl) hq
    have := congrArg (·[j]?) hrow
    simp only [List.getElem?_take, List.getElem?_drop, hj, if_true] at this
    rw [this]
    simp [tabRow, hj]
  have hcell : ∀ i j : Nat, i < 8 → j < 8 → W.cell? ⟨0, i * 8 + j, none⟩ = some (.int .i64 (Trf.comp8 i j)) := by
    intro i j hi hj
    have := World.var?_cell gTab hvar (i * 8 + j)
    rw [this]
    simpa using hc i j hi hj
  exact ⟨World.block_lt_of_cell? _ _ (hcell 0 0 (by omega) (by omega)), hcell⟩

theorem world_met (os : Os) (args : Array Value) : laidMetH Tryz.prog laidL ((World.laidAll Tryz.prog os laidL).forCall (fun _ _ => 0) ⟨#[], args, []⟩).memory := by
  rw [MakeChecks.laidMetH_plain _ _ _ (by kernel_rfl)]
  exact laidMet_laidAll _ (by kernel_rfl) (by kernel_rfl)

theorem world_shaped (os : Os) : (World.laidAll Tryz.prog os laidL).Shaped Tryz.prog := World.shaped_of_ZipB (by kernel_rfl) (by kernel_rfl)

theorem cellsOf3 : Tryz.prog.cellsOf 3 = 1 := by kernel_rfl
theorem co_int : Tryz.prog.cellsOf 3 = 1 := by kernel_rfl
theorem co_bool : Tryz.prog.cellsOf 4 = 1 := by kernel_rfl
theorem co_u32 : Tryz.prog.cellsOf 50 = 1 := by kernel_rfl
theorem co_us : Tryz.prog.cellsOf 26 = 1 := by kernel_rfl
theorem co_rects : Tryz.prog.cellsOf 23 = 1 := by kernel_rfl
theorem co_bufs : Tryz.prog.cellsOf 22 = 1 := by kernel_rfl
theorem co_point : Tryz.prog.cellsOf 25 = 2 := by kernel_rfl
theorem co_buffer : Tryz.prog.cellsOf 42 = 3 := by kernel_rfl
theorem co_state : Tryz.prog.cellsOf 28 = 11 := by kernel_rfl
theorem cellsOf25 : Tryz.prog.cellsOf 25 = 2 := by kernel_rfl
theorem cellsOf53 : Tryz.prog.cellsOf 53 = 4 := by kernel_rfl
theorem cellsOf5 : Tryz.prog.cellsOf 5 = 1 := by kernel_rfl
theorem cellsOf40 : Tryz.prog.cellsOf 40 = 1 := by kernel_rfl
theorem cellsOf58 : Tryz.prog.cellsOf 58 = 4 := by kernel_rfl
theorem wf_u32 {m : Int} (h : (Lit.int .u32 m).wf = true) : 0 ≤ m ∧ m ≤ 4294967295 := by
  have g1 : IntKind.u32.min = 0 := rfl
  have g2 : IntKind.u32.max = 4294967295 := rfl
  simpa only [Lit.wf, Bool.and_eq_true, decide_eq_true_eq, g1, g2] using h
theorem wf_u8 {m : Int} (h : (Lit.int .u8 m).wf = true) : 0 ≤ m ∧ m ≤ 255 := by
  have g1 : IntKind.u8.min = 0 := rfl
  have g2 : IntKind.u8.max = 255 := rfl
  simpa only [Lit.wf, Bool.and_eq_true, decide_eq_true_eq, g1, g2] using h
theorem wf_i64 {m : Int} (h : (Lit.int .i64 m).wf = true) : -9223372036854775808 ≤ m ∧ m ≤ 9223372036854775807 := by
  have g1 : IntKind.i64.min = -9223372036854775808 := rfl
  have g2 : IntKind.i64.max = 9223372036854775807 := rfl
  simpa only [Lit.wf, Bool.and_eq_true, decide_eq_true_eq, g1, g2] using h
theorem list_of {α : Type} {P : Nat → α → Prop} : ∀ (n : Nat), (∀ i, i < n → ∃ t, P i t) → ∃ l : List α, l.length = n ∧ ∀ i t, l[i]? = some t → P i t
  | 0, _ => ⟨[], rfl, fun i t h => by simp at h⟩
  | n + 1, h => by
    obtain ⟨l, hl, hp⟩ := list_of n (fun i hi => h i (by omega))
    obtain ⟨t, ht⟩ := h n (by omega)
    refine ⟨l ++ [t], by simp [hl], fun i u hu => ?_⟩
    rcases Nat.lt_or_ge i l.length with hi | hi
    · rw [List.getElem?_append_left hi] at hu
      exact hp i u hu
    · rw [List.getElem?_append_right hi] at hu
      have h0 : i - l.length = 0 := by
        have := (List.getElem?_eq_some_iff.1 hu).1
        simp at this
        omega
      rw [h0] at hu
      simp only [List.getElem?_cons_zero, Option.some.injEq] at hu
      subst hu
      rw [show i = n by omega]
      exact ht

section
variable {H : Type} {enc : TypeId × Value → H} {W : World} {fuel : Nat}

theorem cells_int {cs : List Value} {x : DataW H × List MemPlace} (h : DataW.trod enc Tryz.prog W 0 (fun _ => true) true fuel 3 cs = some x) : ∃ m : Int, cs = [.int .i64 m] := by
  obtain ⟨m, e, _, _⟩ := DataW.trod_int Tryz.underlying3 h
  exact ⟨m, e⟩

theorem cells_point {cs : List Value} {x : DataW H × List MemPlace} (h : DataW.trod enc Tryz.prog W 0 (fun _ => true) true fuel 25 cs = some x) :
    ∃ x y : Int, cs = [.int .i64 x, .int .i64 y] := by
  obtain ⟨xs, n, _, _, hlen, hxl, hg⟩ := DataW.trod_struct Tryz.underlying25 h
  rw [cellsOf25] at hlen
  have hc : ∀ l : List Value, l.length = 2 → ∃ a b, l = [a, b] := fun l hl => by
    match l, hl with
    | [a, b], _ => exact ⟨a, b, rfl⟩
  obtain ⟨c0, c1, rfl⟩ := hc _ hlen
  match xs, hxl with
  | [x0, x1], _ =>
    have h0 : DataW.trod enc Tryz.prog W 0 (fun _ => true) true n 3 (([c0, c1].drop 0).take (Tryz.prog.cellsOf 3)) = some x0 := hg 0 _ rfl
    have h1 : DataW.trod enc Tryz.prog W 0 (fun _ => true) true n 3 (([c0, c1].drop 1).take (Tryz.prog.cellsOf 3)) = some x1 := hg 1 _ rfl
    rw [cellsOf3] at h0 h1
    simp only [List.drop_zero, List.drop_succ_cons, List.take_succ_cons, List.take_zero] at h0 h1
    obtain ⟨m0, e0⟩ := cells_int h0
    obtain ⟨m1, e1⟩ := cells_int h1
    injection e0 with e0
    injection e1 with e1
    subst e0 e1
    exact ⟨m0, m1, rfl⟩

theorem cells_rect {cs : List Value} {x : DataW H × List MemPlace} (h : DataW.trod enc Tryz.prog W 0 (fun _ => true) true fuel 53 cs = some x) :
    ∃ r : R, cs = [.int .i64 r.x0, .int .i64 r.y0, .int .i64 r.x1, .int .i64 r.y1] := by
  obtain ⟨xs, n, _, _, hlen, hxl, hg⟩ := DataW.trod_struct Tryz.underlying53 h
  rw [cellsOf53] at hlen
  have hc : ∀ l : List Value, l.length = 4 → ∃ a b c d, l = [a, b, c, d] := fun l hl => by
    match l, hl with
    | [a, b, c, d], _ => exact ⟨a, b, c, d, rfl⟩
  obtain ⟨c0, c1, c2, c3, rfl⟩ := hc _ hlen
  match xs, hxl with
  | [x0, x1, x2, x3], _ =>
    have h0 : DataW.trod enc Tryz.prog W 0 (fun _ => true) true n 3 (([c0, c1, c2, c3].drop 0).take (Tryz.prog.cellsOf 3)) = some x0 := hg 0 _ rfl
    have h1 : DataW.trod enc Tryz.prog W 0 (fun _ => true) true n 3 (([c0, c1, c2, c3].drop 1).take (Tryz.prog.cellsOf 3)) = some x1 := hg 1 _ rfl
    have h2 : DataW.trod enc Tryz.prog W 0 (fun _ => true) true n 3 (([c0, c1, c2, c3].drop 2).take (Tryz.prog.cellsOf 3)) = some x2 := hg 2 _ rfl
    have h3 : DataW.trod enc Tryz.prog W 0 (fun _ => true) true n 3 (([c0, c1, c2, c3].drop 3).take (Tryz.prog.cellsOf 3)) = some x3 := hg 3 _ rfl
    rw [cellsOf3] at h0 h1 h2 h3
    simp only [List.drop_zero, List.drop_succ_cons, List.take_succ_cons, List.take_zero] at h0 h1 h2 h3
    obtain ⟨m0, e0⟩ := cells_int h0
    obtain ⟨m1, e1⟩ := cells_int h1
    obtain ⟨m2, e2⟩ := cells_int h2
    obtain ⟨m3, e3⟩ := cells_int h3
    injection e0 with e0
    injection e1 with e1
    injection e2 with e2
    injection e3 with e3
    subst e0 e1 e2 e3
    exact ⟨⟨m0, m1, m2, m3⟩, rfl⟩


theorem slice_of {α : Type} {size : Nat} {t e : TypeId} (ht : Tryz.prog.underlying t = some (.slice e)) (hce : Tryz.prog.cellsOf e = size) (hs : 0 < size) (C : α → List Value) (hC : ∀ a, (C a).length = size) (Q : α → Prop)
    (hone : ∀ {cs : List Value} {x : DataW H × List MemPlace} {fuel : Nat}, DataW.trod enc Tryz.prog W 0 (fun _ => true) true fuel e cs = some x → ∃ a, cs = C a ∧ Q a)
    {cs : List Value} {x : DataW H × List MemPlace} (hf : DataW.trod enc Tryz.prog W 0 (fun _ => true) true fuel t cs = some x) : ∃ (v : Value) (l : List α), cs = [v] ∧ Sn W size v l.length (l.flatMap C) ∧ ∀ a ∈ l, Q a := by
  rcases Deep.open_slice ht hf with ⟨e, _⟩ | ⟨a, len, cap, m, _, D, Pl, e, _, hl, hm, hmm, _, hi⟩
  · exact ⟨_, [], e, sn_nil W size, fun _ h => by simp at h⟩
  · simp only [if_true] at hmm
    rw [hce] at hi
    obtain ⟨l, hll, hp⟩ := list_of (α := α) (P := fun i r => (∀ j, j < size → ∀ u, (C r)[j]? = some u → W.cell? (a.add (i * size + j)) = some u) ∧ Q r) len (fun i hlt => by
      obtain ⟨cs', hc, ht⟩ := hi i (by omega)
      obtain ⟨r, hcs, hq⟩ := hone ht
      obtain ⟨_, _, hat⟩ := World.cells?_some hc
      refine ⟨r, fun j hj u hu => ?_, hq⟩
      have h0 := hat j hj
      rw [Deep.add_add, hcs] at h0
      rw [h0]
      simpa using hu)
    subst hll
    have hmem : ∀ r ∈ l, Q r := fun r hr => by
      obtain ⟨i, hi2⟩ := List.mem_iff_getElem?.1 hr
      exact (hp i r hi2).2
    have hfl : ∀ (l : List α), (l.flatMap C).length = l.length * size := fun l => by
      induction l with
      | nil => simp
      | cons q l ih => rw [List.flatMap_cons, List.length_append, hC, ih, List.length_cons, Nat.succ_mul, Nat.add_comm]
    have hat2 : ∀ (l : List α) (j : Nat) (u : Value), (l.flatMap C)[j]? = some u → ∃ r, l[j / size]? = some r ∧ (C r)[j % size]? = some u := fun l => by
      induction l with
      | nil => intro j u h; simp at h
      | cons q l ih =>
        intro j u h
        rw [List.flatMap_cons] at h
        rcases Nat.lt_or_ge j size with hj | hj
        · rw [List.getElem?_append_left (by rw [hC]; exact hj)] at h
          exact ⟨q, by rw [Nat.div_eq_of_lt hj]; rfl, by rw [Nat.mod_eq_of_lt hj]; exact h⟩
        · rw [List.getElem?_append_right (by rw [hC]; exact hj), hC] at h
          obtain ⟨r, h1, h2⟩ := ih _ _ h
          refine ⟨r, ?_, ?_⟩
          · rw [Nat.div_eq_sub_div hs hj, List.getElem?_cons_succ]
            exact h1
          · rw [Nat.mod_eq_sub_mod hj]
            exact h2
    refine ⟨_, l, e, ⟨some a, cap, rfl, hl, hm, hfl l, fun hn => ?_⟩, hmem⟩
    obtain ⟨b, off, spot⟩ := a
    have hlen := hfl l
    obtain ⟨u0, hu0⟩ : ∃ u, (l.flatMap C)[0]? = some u := ⟨_, List.getElem?_eq_getElem (by rw [hlen]; exact Nat.mul_pos hn hs)⟩
    have hget : ∀ (j : Nat) (u : Value), (l.flatMap C)[j]? = some u → W.cell? ((⟨b, off, spot⟩ : Addr).add j) = some u := fun j u hu => by
      obtain ⟨r, h1, h2⟩ := hat2 l j u hu
      have := (hp (j / size) r h1).1 (j % size) (Nat.mod_lt _ hs) u h2
      rw [Nat.mul_comm, Nat.div_add_mod] at this
      exact this
    have h0 := hget 0 u0 hu0
    have hspot : spot = none := by simpa [Addr.add] using World.cell?_spot h0
    subst hspot
    refine ⟨b, off, rfl, ?_, fun j u hu => ?_⟩
    · have := World.block_lt_of_cell? W _ h0
      rw [add_at] at this
      exact this
    · have := hget j u hu
      rw [add_at] at this
      exact this

theorem us_flat : ∀ l : List Nat, l.flatMap (fun n : Nat => [Value.int .u32 (n : Int)]) = uL l
  | [] => rfl
  | a :: l => by
    rw [List.flatMap_cons, us_flat l]
    rfl
theorem cells_us {cs : List Value} {x : DataW H × List MemPlace} (h : DataW.trod enc Tryz.prog W 0 (fun _ => true) true fuel 26 cs = some x) : ∃ (v : Value) (l : List Nat), cs = [v] ∧ Sn W 1 v l.length (uL l) := by
  obtain ⟨v, l, e, hs, _⟩ := slice_of (α := Nat) Tryz.underlying26 co_u32 (by omega) (fun n : Nat => [.int .u32 (n : Int)]) (fun _ => rfl) (fun _ => True) (fun {cs x fuel} h => by
    obtain ⟨m, e, _, w⟩ := DataW.trod_int Tryz.underlying50 h
    obtain ⟨r0, r1⟩ := wf_u32 w
    exact ⟨m.toNat, by rw [e, Int.toNat_of_nonneg r0], trivial⟩) h
  rw [us_flat] at hs
  exact ⟨v, l, e, hs⟩
theorem cells_rects {cs : List Value} {x : DataW H × List MemPlace} (h : DataW.trod enc Tryz.prog W 0 (fun _ => true) true fuel 23 cs = some x) : ∃ (v : Value) (l : List R), cs = [v] ∧ Sn W 4 v l.length (rflat l) := by
  obtain ⟨v, l, e, hs, _⟩ := slice_of (α := R) Tryz.underlying23 cellsOf53 (by omega) (fun r : R => [.int .i64 r.x0, .int .i64 r.y0, .int .i64 r.x1, .int .i64 r.y1]) (fun _ => rfl) (fun _ => True) (fun {cs x fuel} h => by
    obtain ⟨r, e⟩ := cells_rect h
    exact ⟨r, e, trivial⟩) h
  exact ⟨v, l, e, hs⟩
theorem cells_u8 {cs : List Value} {x : DataW H × List MemPlace} (h : DataW.trod enc Tryz.prog W 0 (fun _ => true) true fuel 5 cs = some x) : ∃ m : Nat, cs = [.int .u8 (m : Int)] := by
  obtain ⟨m, e, _, w⟩ := DataW.trod_int Tryz.underlying5 h
  obtain ⟨r0, r1⟩ := wf_u8 w
  exact ⟨m.toNat, by rw [e, Int.toNat_of_nonneg r0]⟩
theorem cells_px {cs : List Value} {x : DataW H × List MemPlace} (h : DataW.trod enc Tryz.prog W 0 (fun _ => true) true fuel 58 cs = some x) :
    ∃ p : Px, cs = [.int .u8 (p.r : Int), .int .u8 (p.g : Int), .int .u8 (p.b : Int), .int .u8 (p.a : Int)] := by
  obtain ⟨xs, n, _, _, hlen, hxl, hg⟩ := DataW.trod_struct Tryz.underlying58 h
  rw [cellsOf58] at hlen
  have hc : ∀ l : List Value, l.length = 4 → ∃ c0 c1 c2 c3, l = [c0, c1, c2, c3] := fun l hl => by
    match l, hl with
    | [c0, c1, c2, c3], _ => exact ⟨c0, c1, c2, c3, rfl⟩
  obtain ⟨c0, c1, c2, c3, rfl⟩ := hc _ hlen
  match xs, hxl with
  | [x0, x1, x2, x3], _ =>
    have h0 : DataW.trod enc Tryz.prog W 0 (fun _ => true) true n 5 (([c0, c1, c2, c3].drop 0).take (Tryz.prog.cellsOf 5)) = some x0 := hg 0 _ rfl
    have h1 : DataW.trod enc Tryz.prog W 0 (fun _ => true) true n 5 (([c0, c1, c2, c3].drop 1).take (Tryz.prog.cellsOf 5)) = some x1 := hg 1 _ rfl
    have h2 : DataW.trod enc Tryz.prog W 0 (fun _ => true) true n 5 (([c0, c1, c2, c3].drop 2).take (Tryz.prog.cellsOf 5)) = some x2 := hg 2 _ rfl
    have h3 : DataW.trod enc Tryz.prog W 0 (fun _ => true) true n 5 (([c0, c1, c2, c3].drop 3).take (Tryz.prog.cellsOf 5)) = some x3 := hg 3 _ rfl
    rw [cellsOf5] at h0 h1 h2 h3
    simp only [List.drop_zero, List.drop_succ_cons, List.take_succ_cons, List.take_zero] at h0 h1 h2 h3
    obtain ⟨m0, e0⟩ := cells_u8 h0
    obtain ⟨m1, e1⟩ := cells_u8 h1
    obtain ⟨m2, e2⟩ := cells_u8 h2
    obtain ⟨m3, e3⟩ := cells_u8 h3
    injection e0 with e0
    subst e0
    injection e1 with e1
    subst e1
    injection e2 with e2
    subst e2
    injection e3 with e3
    subst e3
    exact ⟨⟨m0, m1, m2, m3⟩, rfl⟩
theorem cells_pxs {cs : List Value} {x : DataW H × List MemPlace} (h : DataW.trod enc Tryz.prog W 0 (fun _ => true) true fuel 40 cs = some x) : ∃ (v : Value) (l : List Px), cs = [v] ∧ Pxs W v l := by
  obtain ⟨v, l, e, hs, _⟩ := slice_of (α := Px) Tryz.underlying40 cellsOf58 (by omega) (fun p : Px => [.int .u8 (p.r : Int), .int .u8 (p.g : Int), .int .u8 (p.b : Int), .int .u8 (p.a : Int)]) (fun _ => rfl) (fun _ => True) (fun {cs x fuel} h => by
    obtain ⟨r, e⟩ := cells_px h
    exact ⟨r, e, trivial⟩) h
  exact ⟨v, l, e, sn_pxs hs⟩
theorem cells_buffer {cs : List Value} {x : DataW H × List MemPlace} (h : DataW.trod enc Tryz.prog W 0 (fun _ => true) true fuel 42 cs = some x) :
    ∃ q : Bv, cs = bfC q ∧ Pxs W q.2 q.1.l := by
  obtain ⟨xs, n, _, _, hlen, hxl, hg⟩ := DataW.trod_struct Tryz.underlying42 h
  rw [co_buffer] at hlen
  have hc : ∀ l : List Value, l.length = 3 → ∃ c0 c1 c2, l = [c0, c1, c2] := fun l hl => by
    match l, hl with
    | [c0, c1, c2], _ => exact ⟨c0, c1, c2, rfl⟩
  obtain ⟨c0, c1, c2, rfl⟩ := hc _ hlen
  match xs, hxl with
  | [x0, x1, x2], _ =>
    have h0 : DataW.trod enc Tryz.prog W 0 (fun _ => true) true n 3 (([c0, c1, c2].drop 0).take (Tryz.prog.cellsOf 3)) = some x0 := hg 0 _ rfl
    have h1 : DataW.trod enc Tryz.prog W 0 (fun _ => true) true n 3 (([c0, c1, c2].drop 1).take (Tryz.prog.cellsOf 3)) = some x1 := hg 1 _ rfl
    have h2 : DataW.trod enc Tryz.prog W 0 (fun _ => true) true n 40 (([c0, c1, c2].drop 2).take (Tryz.prog.cellsOf 40)) = some x2 := hg 2 _ rfl
    rw [co_int] at h0 h1
    rw [cellsOf40] at h2
    simp only [List.drop_zero, List.drop_succ_cons, List.take_succ_cons, List.take_zero] at h0 h1 h2
    obtain ⟨m0, e0⟩ := cells_int h0
    obtain ⟨m1, e1⟩ := cells_int h1
    obtain ⟨u, l, e2, hp⟩ := cells_pxs h2
    injection e0 with e0
    subst e0
    injection e1 with e1
    subst e1
    injection e2 with e2
    subst e2
    exact ⟨(⟨m0, m1, l⟩, _), rfl, hp⟩
theorem cells_bufs {cs : List Value} {x : DataW H × List MemPlace} (h : DataW.trod enc Tryz.prog W 0 (fun _ => true) true fuel 22 cs = some x) : ∃ (v : Value) (L : List Bv), cs = [v] ∧ Sn W 3 v L.length (bfL L) ∧ ∀ q ∈ L, Pxs W q.2 q.1.l := by
  obtain ⟨v, l, e, hs, hq⟩ := slice_of (α := Bv) Tryz.underlying22 co_buffer (by omega) bfC (fun _ => rfl) (fun q => Pxs W q.2 q.1.l) (fun {cs x fuel} h => cells_buffer h) h
  exact ⟨v, l, e, hs, hq⟩
theorem cells_bool {cs : List Value} {x : DataW H × List MemPlace} (h : DataW.trod enc Tryz.prog W 0 (fun _ => true) true fuel 4 cs = some x) : ∃ b : Bool, cs = [.bool b] := by
  obtain ⟨b, e, _⟩ := DataW.trod_bool Tryz.underlying4 h
  exact ⟨b, e⟩
theorem cells_state {cs : List Value} {x : DataW H × List MemPlace} (h : DataW.trod enc Tryz.prog W 0 (fun _ => true) true fuel 28 cs = some x) :
    ∃ (s : St) (L : List Bv) (vb vd vo vi vc : Value), cs = stC s vb vd vo vi vc ∧ StAt W s L vb vd vo vi vc := by
  obtain ⟨xs, n, _, _, hlen, hxl, hg⟩ := DataW.trod_struct Tryz.underlying28 h
  rw [co_state] at hlen
  have hc : ∀ l : List Value, l.length = 11 → ∃ c0 c1 c2 c3 c4 c5 c6 c7 c8 c9 c10, l = [c0, c1, c2, c3, c4, c5, c6, c7, c8, c9, c10] := fun l hl => by
    match l, hl with
    | [c0, c1, c2, c3, c4, c5, c6, c7, c8, c9, c10], _ => exact ⟨c0, c1, c2, c3, c4, c5, c6, c7, c8, c9, c10, rfl⟩
  obtain ⟨c0, c1, c2, c3, c4, c5, c6, c7, c8, c9, c10, rfl⟩ := hc _ hlen
  match xs, hxl with
  | [x0, x1, x2, x3, x4, x5, x6, x7, x8, x9], _ =>
    have h0 : DataW.trod enc Tryz.prog W 0 (fun _ => true) true n 3 (([c0, c1, c2, c3, c4, c5, c6, c7, c8, c9, c10].drop 0).take (Tryz.prog.cellsOf 3)) = some x0 := hg 0 _ rfl
    have h1 : DataW.trod enc Tryz.prog W 0 (fun _ => true) true n 22 (([c0, c1, c2, c3, c4, c5, c6, c7, c8, c9, c10].drop 1).take (Tryz.prog.cellsOf 22)) = some x1 := hg 1 _ rfl
    have h2 : DataW.trod enc Tryz.prog W 0 (fun _ => true) true n 3 (([c0, c1, c2, c3, c4, c5, c6, c7, c8, c9, c10].drop 2).take (Tryz.prog.cellsOf 3)) = some x2 := hg 2 _ rfl
    have h3 : DataW.trod enc Tryz.prog W 0 (fun _ => true) true n 3 (([c0, c1, c2, c3, c4, c5, c6, c7, c8, c9, c10].drop 3).take (Tryz.prog.cellsOf 3)) = some x3 := hg 3 _ rfl
    have h4 : DataW.trod enc Tryz.prog W 0 (fun _ => true) true n 23 (([c0, c1, c2, c3, c4, c5, c6, c7, c8, c9, c10].drop 4).take (Tryz.prog.cellsOf 23)) = some x4 := hg 4 _ rfl
    have h5 : DataW.trod enc Tryz.prog W 0 (fun _ => true) true n 23 (([c0, c1, c2, c3, c4, c5, c6, c7, c8, c9, c10].drop 5).take (Tryz.prog.cellsOf 23)) = some x5 := hg 5 _ rfl
    have h6 : DataW.trod enc Tryz.prog W 0 (fun _ => true) true n 4 (([c0, c1, c2, c3, c4, c5, c6, c7, c8, c9, c10].drop 6).take (Tryz.prog.cellsOf 4)) = some x6 := hg 6 _ rfl
    have h7 : DataW.trod enc Tryz.prog W 0 (fun _ => true) true n 23 (([c0, c1, c2, c3, c4, c5, c6, c7, c8, c9, c10].drop 7).take (Tryz.prog.cellsOf 23)) = some x7 := hg 7 _ rfl
    have h8 : DataW.trod enc Tryz.prog W 0 (fun _ => true) true n 25 (([c0, c1, c2, c3, c4, c5, c6, c7, c8, c9, c10].drop 8).take (Tryz.prog.cellsOf 25)) = some x8 := hg 8 _ rfl
    have h9 : DataW.trod enc Tryz.prog W 0 (fun _ => true) true n 26 (([c0, c1, c2, c3, c4, c5, c6, c7, c8, c9, c10].drop 10).take (Tryz.prog.cellsOf 26)) = some x9 := hg 9 _ rfl
    rw [co_int] at h0 h2 h3
    rw [co_bufs] at h1
    rw [co_rects] at h4 h5 h7
    rw [co_bool] at h6
    rw [co_point] at h8
    rw [co_us] at h9
    simp only [List.drop_zero, List.drop_succ_cons, List.take_succ_cons, List.take_zero] at h0 h1 h2 h3 h4 h5 h6 h7 h8 h9
    obtain ⟨m0, e0⟩ := cells_int h0
    obtain ⟨u1, L, e1, hs1, hq1⟩ := cells_bufs h1
    obtain ⟨m2, e2⟩ := cells_int h2
    obtain ⟨m3, e3⟩ := cells_int h3
    obtain ⟨u4, l4, e4, hs4⟩ := cells_rects h4
    obtain ⟨u5, l5, e5, hs5⟩ := cells_rects h5
    obtain ⟨b6, e6⟩ := cells_bool h6
    obtain ⟨u7, l7, e7, hs7⟩ := cells_rects h7
    obtain ⟨m8, m9, e8⟩ := cells_point h8
    obtain ⟨u10, l10, e9, hs10⟩ := cells_us h9
    injection e0 with e0
    subst e0
    injection e1 with e1
    subst e1
    injection e2 with e2
    subst e2
    injection e3 with e3
    subst e3
    injection e4 with e4
    subst e4
    injection e5 with e5
    subst e5
    injection e6 with e6
    subst e6
    injection e7 with e7
    subst e7
    injection e8 with e8 f8
    injection f8 with f8
    subst e8 f8
    injection e9 with e9
    subst e9
    exact ⟨⟨m0, L.map Prod.fst, m2, m3, l4, l5, b6, l7, m8, m9, l10⟩, L, _, _, _, _, _, rfl, ⟨hs1, hq1, rfl, hs4, hs5, hs7, hs10⟩⟩
set_option maxRecDepth 100000 in
theorem open_state {base : Nat} {v : Value} {d : DataW H} {p : List MemPlace} (hval : Value.okWide Tryz.prog W .any base 28 v) (h : DataW.Trod enc Tryz.prog W 0 (fun _ => true) true 28 v d p) :
    ∃ (s : St) (L : List Bv) (vb vd vo vi vc : Value), v = stV s vb vd vo vi vc ∧ StAt W s L vb vd vo vi vc := by
  obtain ⟨cs, rfl, _⟩ := okWide_struct Tryz.underlying28 hval
  obtain ⟨fuel, hf⟩ := h
  obtain ⟨s, L, vb, vd, vo, vi, vc, e, hs⟩ := cells_state hf
  exact ⟨s, L, vb, vd, vo, vi, vc, congrArg Value.agg (Array.ext' e), hs⟩

end
end Go.Proofs.YthedglfocjljjaaGreatDoor
