/-
  cmp.Compare at ints, the order that appendSum sorts by, and the sort of a row of edges.
-/
import Derived.Test.YthedglfocjljjaaGreatDoorRoe
import Derived.Test.YthedglfocjljjaaGreatDoorRof
import Derived.Test.YthedglfocjljjaaGreatDoorRod
namespace Go.Proofs.YthedglfocjljjaaGreatDoor.Rgn
open Go.RowKit Go.Sort

def cmpI (x y : Int) : Int := if x < y then -1 else if y < x then 1 else 0

set_option maxRecDepth 100000 in
theorem nan_any (x : Int) (w : World) : Calls Tryz.prog 138 #[.int .i64 x] w fun e w' => e = .returned (.bool false) ∧ w = w' := by
  go_enter Tryz.func138, Tryz.ntmps138
  go_wp2
  go_ret
  exact ⟨rfl, rfl⟩

set_option maxRecDepth 100000 in
theorem cmp_any (x y : Int) (w : World) : Calls Tryz.prog 131 #[.int .i64 x, .int .i64 y] w fun e w' => e = .returned (.int .i64 (cmpI x y)) ∧ w = w' := by
  have C := fun z W => Lib.hid (nan_any z W)
  rcases (by omega : x < y ∨ (y ≤ x ∧ y < x) ∨ (y ≤ x ∧ x ≤ y)) with h | ⟨h, h'⟩ | ⟨h, h'⟩
  · have e : cmpI x y = -1 := by unfold cmpI; rw [if_pos h]
    rw [e]
    go_enter Tryz.func131, Tryz.ntmps131
    go_wp2_with (first
      | (go_at_call 138; (with_reducible refine (C x _).out.mono ?_); rintro e w' ⟨rfl, rfl⟩)
      | (go_at_call 138; (with_reducible refine (C y _).out.mono ?_); rintro e w' ⟨rfl, rfl⟩))
    go_ret
    exact ⟨rfl, rfl⟩
  · have e : cmpI x y = 1 := by unfold cmpI; rw [if_neg (by omega), if_pos h']
    rw [e]
    go_enter Tryz.func131, Tryz.ntmps131
    go_wp2_with (first
      | (go_at_call 138; (with_reducible refine (C x _).out.mono ?_); rintro e w' ⟨rfl, rfl⟩)
      | (go_at_call 138; (with_reducible refine (C y _).out.mono ?_); rintro e w' ⟨rfl, rfl⟩))
    go_ret
    exact ⟨rfl, rfl⟩
  · have e : cmpI x y = 0 := by unfold cmpI; rw [if_neg (by omega), if_neg (by omega)]
    rw [e]
    go_enter Tryz.func131, Tryz.ntmps131
    go_wp2_with (first
      | (go_at_call 138; (with_reducible refine (C x _).out.mono ?_); rintro e w' ⟨rfl, rfl⟩)
      | (go_at_call 138; (with_reducible refine (C y _).out.mono ?_); rintro e w' ⟨rfl, rfl⟩))
    go_ret
    exact ⟨rfl, rfl⟩

set_option maxRecDepth 100000 in
theorem order_any (p q : E) (W : World) : Calls Tryz.prog 130 #[.agg #[.int .i64 p.x, .int .i64 p.a, .int .i64 p.b], .agg #[.int .i64 q.x, .int .i64 q.a, .int .i64 q.b]] W fun e w' => e = .returned (.int .i64 (cmpI p.x q.x)) ∧ ∃ q os', w' = grow (W.drewN q) os' := by
  have C := fun z y W => Lib.hid (cmp_any z y W)
  go_enter Tryz.func130, Tryz.ntmps130
  go_wp2_with (first
      | (go_at_call 131; (with_reducible refine (C _ _ _).out.mono ?_); rintro e w' ⟨rfl, rfl⟩))
  go_ret
  exact ⟨rfl, 0, _, by rw [alloc_eq_grow, alloc_eq_grow, grow_grow]; rfl⟩

instance : Inhabited E := ⟨⟨0, 0, 0⟩⟩

set_option maxRecDepth 100000 in
theorem order_lays (blk off size : Nat) (w : World) : CmpLays Tryz.prog 130 #[] cells3 3 (fun p q : E => cmpI p.x q.x) blk off size w :=
  fun _ _ _ _ x y => order_any x y _

theorem lt_cmp (p q : E) : ltOf (fun p q : E => cmpI p.x q.x) p q = decide (p.x < q.x) := by
  unfold ltOf cmpI
  by_cases h1 : p.x < q.x
  · simp [h1]
  · by_cases h2 : q.x < p.x <;> simp [h1, h2]

theorem swo_cmp : SWO (ltOf fun p q : E => cmpI p.x q.x) where
  irrefl x := by rw [lt_cmp]; simp
  trans x y z h1 h2 := by rw [lt_cmp] at *; simp at *; omega
  ntrans x y z h1 h2 := by rw [lt_cmp] at *; simp at *; omega

theorem flatK_E (d : Array E) : (flatK cells3 3 d).toList = flatE d.toList := by
  apply List.ext_getElem?
  intro t
  by_cases ht : t < d.size * 3
  · have h1 := get_flatK cells3 3 d t ht
    obtain ⟨p, hp⟩ : ∃ p, d.toList[t / 3]? = some p := ⟨_, List.getElem?_eq_getElem (by simp; omega)⟩
    obtain ⟨e0, e1, e2⟩ := flatE_at d.toList (t / 3) p hp
    have hd : d[t / 3]! = p := by
      have hlt : t / 3 < d.size := by omega
      rw [Array.getElem?_toList, Array.getElem?_eq_getElem hlt] at hp
      have e := getElem!_pos d (t / 3) hlt
      exact e.trans (Option.some.inj hp)
    rw [hd] at h1
    have hs : t < (flatK cells3 3 d).size := by simpa using ht
    rw [Array.getElem?_toList, Array.getElem?_eq_getElem hs]
    have eh := getElem!_pos (flatK cells3 3 d) t hs
    rw [eh] at h1
    rw [h1]
    rcases (by omega : t = t / 3 * 3 ∨ t = t / 3 * 3 + 1 ∨ t = t / 3 * 3 + 2) with hh | hh | hh
    · rw [show t % 3 = 0 by omega]
      conv => rhs; rw [hh]
      rw [e0]
      rfl
    · rw [show t % 3 = 1 by omega]
      conv => rhs; rw [hh]
      rw [e1]
      rfl
    · rw [show t % 3 = 2 by omega]
      conv => rhs; rw [hh]
      rw [e2]
      rfl
  · rw [List.getElem?_eq_none (by simp; omega), List.getElem?_eq_none (by rw [flatE_length]; simp; omega)]

theorem owns_put {w : World} {base : Nat} {e : TypeId} {size g n cap q : Nat} {xs : List Value} {ys : Array Value} (h : w.ownsRow base e size (.slice (some ⟨g, 0, none⟩) n cap) n xs) (hy : ys.size = n * size) (os : Array Obj) :
    (grow (putRow id (Sort.ahead w q) g 0 ys) os).ownsRow base e size (.slice (some ⟨g, 0, none⟩) n cap) n ys.toList := by
  rcases h.2 with ⟨e0, _⟩ | ⟨g', cap', cur, e0, hb, hg, hn, hm, hs, ht⟩
  · cases e0
  · injection e0 with e1 _ e3
    injection e1 with e1
    injection e1 with e1
    subst e1; subst e3
    have hgz : g < w.heap.size := (Array.getElem?_eq_some_iff.1 hg).1
    have hnc : n * size ≤ cap * size := Nat.mul_le_mul_right _ hn
    refine ⟨by simpa using hy, .inr ⟨g, cap, putCells id 0 ys cur, rfl, hb, ?_, by omega, hm, by simpa [putCells] using hs, ?_⟩⟩
    · simp only [grow]
      rw [Array.getElem?_append_left (by simpa [putRow, mapBlock, Sort.ahead] using hgz)]
      simp [putRow, mapBlock, Sort.ahead, Array.getElem?_modify, hg, onCells]
    · apply List.ext_getElem?
      intro j
      rw [List.getElem?_take, Array.getElem?_toList, Array.getElem?_toList]
      by_cases hj : j < n * size
      · have hjc : j < cur.size := by omega
        simp only [if_pos hj, putCells, Array.getElem?_mapIdx, Array.getElem?_eq_getElem hjc, Option.map_some]
        rw [if_pos (by omega), Array.getElem?_eq_getElem (by omega)]
        simp [getElem!_pos, show j < ys.size by omega]
      · rw [if_neg hj, Array.getElem?_eq_none (by omega)]

theorem grown_put (w : World) (g q : Nat) (ys : Array Value) (os : Array Obj) : w.grownBy (grow (putRow id (Sort.ahead w q) g 0 ys) os) (some g) :=
  ⟨rfl, rfl, rfl, by simp [grow, putRow, mapBlock, Sort.ahead], fun k hk hne => by
    have hne' : g ≠ k := fun e => hne (by rw [e])
    simp only [grow]
    rw [Array.getElem?_append_left (by simpa [putRow, mapBlock, Sort.ahead] using hk)]
    simp [putRow, mapBlock, Sort.ahead, Array.getElem?_modify, hne']⟩

set_option maxRecDepth 100000 in
theorem sort_any {w : World} {base : Nat} {v : Value} {l : List E} (hown : OwnE w base v l) (hl : l.length ≤ 1000000) :
    Calls Tryz.prog 129 #[v, .func (.func 130) #[] #[]] w fun e w' => e = .returned (.tuple #[]) ∧ ∃ l' : List E, l'.Perm l ∧ l'.Pairwise (fun p q => p.x ≤ q.x) ∧ OwnE w' base v l' ∧ w.grownBy w' v.ownBlock := by
  by_cases h0 : l = []
  · subst h0
    obtain ⟨A, c, rfl, hc, hm, _⟩ := id hown.es
    refine (AnyF.slices_SortFunc_none (ρ := LsortE_ren) LsortE A c (.func (.func 130) #[] #[]) w).mono ?_
    rintro e w' ⟨rfl, rfl⟩
    exact ⟨rfl, [], List.Perm.refl _, List.Pairwise.nil, hown, World.grownBy.refl _ _⟩
  · have hpos : 0 < l.length := List.length_pos_iff.2 h0
    obtain ⟨g, cap, rfl, hg1, hg2, hg3, hg4⟩ := owns_shape hown hpos
    have eg : ∀ args w, (callFunc 130 args).run Tryz.prog w = .ok (.enter 130 args) w := enters_of Tryz.func130 (by kernel_rfl) rfl
    have hH : HoldsK cells3 3 w g 0 l.toArray := by
      intro j hj
      have hj' : j < l.length * 3 := by simpa using hj
      have e1 : (flatK cells3 3 l.toArray)[j]? = (flatE l)[j]? := by rw [← Array.getElem?_toList, flatK_E]
      have e2 := getElem!_pos (flatK cells3 3 l.toArray) j hj
      rw [Array.getElem?_eq_getElem hj] at e1
      obtain ⟨h1, h2⟩ := owns_cells hown
      rw [e2, Nat.zero_add]
      exact ⟨h1 j _ e1.symm, h2 j⟩
    have hcon := AnyQ.slices_SortFunc (ρ := LsortE_ren) LsortE 3 Tryz.isAgg129 Tryz.sizeOf129 cells3 (fun _ => rfl) (fun x v hv => by simp [cells3] at hv; rcases hv with rfl | rfl | rfl <;> rfl) (fun p q : E => cmpI p.x q.x) swo_cmp 130 #[] g 0 cap l.toArray w eg (order_lays _ _ _ _) hH hg2 (by simp; omega)
    simp only [List.size_toArray] at hcon
    refine hcon.mono ?_
    rintro e w' ⟨rfl, d', n, os, hp, hs, rfl⟩
    obtain ⟨hp1, _, hp2⟩ := hp
    have hsz : d'.size = l.length := by simpa using hp1
    have hp3 : d'.toList.Perm l := by
      have e1 : d'.extract 0 l.length = d' := by rw [← hsz]; simp
      have e2 : l.toArray.extract 0 l.length = l.toArray := by simp
      rw [e1, e2] at hp2
      simpa using hp2
    refine ⟨rfl, d'.toList, hp3, ?_, ?_, grown_put w g n _ os⟩
    · rw [List.pairwise_iff_getElem]
      intro i j hi hj hij
      have h1 := hs i j (Nat.zero_le _) hij (by simpa [hsz] using hj)
      rw [lt_cmp, decide_eq_false_iff_not] at h1
      rw [getElem!_pos d' j (by simpa using hj), getElem!_pos d' i (by simpa using hi)] at h1
      simp only [Array.getElem_toList]
      omega
    · have h1 := owns_put (q := n) (ys := flatK cells3 3 d') hown (by simp [hsz]) os
      rw [flatK_E] at h1
      unfold OwnE
      rw [hp3.length_eq]
      exact h1

end Go.Proofs.YthedglfocjljjaaGreatDoor.Rgn
namespace Go.Proofs.YthedglfocjljjaaGreatDoor.Rgn
open Go.RowKit

structure KeepsOp (k : Nat) (op : Op2) : Prop where
  enter : ∀ args w, (callFunc k args).run Tryz.prog w = .ok (.enter k args) w
  call : ∀ x y w, Calls Tryz.prog k #[.bool x, .bool y] w fun e w' => e = .returned (.bool (op x y)) ∧ w = w'

set_option maxRecDepth 100000 in
theorem keeps_either : KeepsOp 94 (fun x y => x || y) := ⟨enters_of Tryz.func94 (by kernel_rfl) rfl, fun x y w => by
  cases x <;> cases y <;> (go_enter Tryz.func94, Tryz.ntmps94; go_wp2; go_ret; exact ⟨rfl, rfl⟩)⟩
set_option maxRecDepth 100000 in
theorem keeps_both : KeepsOp 92 (fun x y => x && y) := ⟨enters_of Tryz.func92 (by kernel_rfl) rfl, fun x y w => by
  cases x <;> cases y <;> (go_enter Tryz.func92, Tryz.ntmps92; go_wp2; go_ret; exact ⟨rfl, rfl⟩)⟩
def openR : Option Int → Runs
  | none => []
  | some s => [(s, 0)]

def restR (op : Op2) (x : Int) (es : List E) (ma mb : Int) : Option Int → Bool → Runs
  | none, true => runsGo op es ma mb (some x)
  | none, false => runsGo op es ma mb none
  | some s, true => runsGo op es ma mb (some s)
  | some s, false => (s, x) :: runsGo op es ma mb none

theorem runsGo_rest {op : Op2} {e : E} {es : List E} {na nb : Int} {st : Option Int} {kp : Bool} (h : op (decide (0 < na + e.a)) (decide (0 < nb + e.b)) = kp) :
    runsGo op (e :: es) na nb st = restR op e.x es (na + e.a) (nb + e.b) st kp := by
  cases st <;> cases kp <;> simp [runsGo, restR, h]

def Two (W : World) (B : Nat) (a b : Int) : Prop := W.cell? ⟨B, 0, none⟩ = some (.int .i64 a) ∧ W.cell? ⟨B, 1, none⟩ = some (.int .i64 b) ∧ ∀ i, W.frozen? ⟨B, i, none⟩ = false

theorem Two.new (w : World) (a b : Int) : Two (w.alloc (.cells #[.int .i64 a, .int .i64 b] 126)) w.heap.size a b := by
  refine ⟨?_, ?_, fun i => ?_⟩
  · rw [World.cell?_alloc_at _ _ _ _ rfl]; rfl
  · rw [World.cell?_alloc_at _ _ _ _ rfl]; rfl
  · unfold World.frozen?
    rw [World.alloc_heap_new]
    simp

theorem Two.kept {X : Nat → Prop} {w w1 : World} {B : Nat} {a b : Int} (h : Two w B a b) (hg : GrownIn X w w1) (hX : ¬ X B) : Two w1 B a b := by
  have hB : B < w.heap.size := World.block_lt_of_cell? w _ h.1
  exact ⟨(hg.cell (a := ⟨B, 0, none⟩) hB hX).trans h.1, (hg.cell (a := ⟨B, 1, none⟩) hB hX).trans h.2.1, fun i => (hg.frozen (a := ⟨B, i, none⟩) hB hX).trans (h.2.2 i)⟩

theorem Two.set {w : World} {B : Nat} {a b : Int} (h : Two w B a b) (c d : Int) : Two ((w.setCell ⟨B, 0, none⟩ (.int .i64 c)).setCell ⟨B, 1, none⟩ (.int .i64 d)) B c d := by
  obtain ⟨h0, h1, hf⟩ := h
  refine ⟨?_, ?_, fun i => ?_⟩
  · simp [go_sem, h0]
  · simp [go_sem, h1]
  · simp [go_sem, hf]

theorem grown_two (w : World) (B : Nat) (u v : Value) : GrownIn (fun k => k = B) w ((w.setCell ⟨B, 0, none⟩ u).setCell ⟨B, 1, none⟩ v) :=
  ((GrownIn.of_grown (grown_set w B 0 u)).trans (GrownIn.of_grown (grown_set _ B 1 v))).mono (fun _ _ h => (Option.some.inj h).symm)

theorem Three.kept {X : Nat → Prop} {w w1 : World} {B : Nat} {e : E} (h : Three w B e) (hg : GrownIn X w w1) (hX : ¬ X B) : Three w1 B e := by
  have hB : B < w.heap.size := World.block_lt_of_cell? w _ h.1
  exact ⟨(hg.cell (a := ⟨B, 0, none⟩) hB hX).trans h.1, (hg.cell (a := ⟨B, 1, none⟩) hB hX).trans h.2.1, (hg.cell (a := ⟨B, 2, none⟩) hB hX).trans h.2.2⟩

def Ran (w : World) (base : Nat) (vs : Value) (l : List R) (e : Ending) (w' : World) : Prop :=
  ∃ v', e = .returned v' ∧ OwnR w' base v' l ∧ GrownIn (blk vs) w w' ∧ NewOr w vs v'

set_option maxRecDepth 100000 in
set_option maxHeartbeats 4000000 in
theorem appendRuns_any {w : World} {base k : Nat} {op : Op2} (hop : KeepsOp k op) {vs ve : Value} {es : List E} (hs : OwnR w base vs []) (he : Es w ve es)
    (ase : ∀ k, blk ve k → ¬ blk vs k) (hbase : base ≤ w.heap.size) (y0 y1 : Int) (hl : wt es ≤ 100000 ∧ es.length ≤ 100000) :
    Calls Tryz.prog 118 #[vs, ve, .int .i64 y0, .int .i64 y1, .func (.func k) #[] #[]] w (Ran w base vs (bandR (y0, y1, runsGo op es 0 0 none))) := by
  obtain ⟨As, cs, rfl, hcs, hms, _⟩ := id hs.rs
  obtain ⟨Ae, ce, rfl, hce, hme, hcell⟩ := he
  simp only [maxLen, List.length_nil] at hms hme hcs hs ⊢
  obtain ⟨ne, hne⟩ : ∃ ne, es.length = ne := ⟨_, rfl⟩
  have HNE := Lib.hid hne
  have HC := Lib.hid hcell
  have HS := Lib.hid hs
  have HL := Lib.hid hl
  rw [hne] at hce ase
  rw [hne]
  have ASE := Lib.hid ase
  have HOP := Lib.hid hop
  have heg := hop.enter
  obtain ⟨res, hres⟩ : ∃ res, runsGo op es 0 0 none = res := ⟨_, rfl⟩
  have HRES := Lib.hid hres
  rw [hres]
  clear hne hs hcell hl ase hres hop
  go_enter Tryz.func118, Tryz.ntmps118
  go_wp2_with fail
  have HT0 := Lib.hid (Two.new w 0 0)
  have HS1 : Hid (OwnR (w.alloc (.cells #[.int .i64 0, .int .i64 0] 126)) base (.slice As 0 cs) []) := Lib.hid (World.ownsRow.alloc HS.out _)
  have HG1 : Hid (GrownIn (fun _ => False) w (w.alloc (.cells #[.int .i64 0, .int .i64 0] 126))) := Lib.hid ((GrownIn.refl _ w).alloc _)
  have HSB : Hid (∀ k, blk (.slice As 0 cs) k → base ≤ k ∧ k < w.heap.size) := Lib.hid (own_blk HS.out)
  have HZ : Hid (w.heap.size < (w.alloc (.cells #[.int .i64 0, .int .i64 0] 126)).heap.size) := Lib.hid (by simp)
  generalize w.alloc (.cells #[.int .i64 0, .int .i64 0] 126) = w1 at *
  obtain ⟨X, hX⟩ : ∃ X : Nat → Prop, X = fun k => blk (.slice As 0 cs) k ∨ k = w.heap.size := ⟨_, rfl⟩
  have HX := Lib.hid hX
  clear hX
  go_loopw [0, 12, 18] (fun ov ins k wr => ∃ (j : Nat) (na nb : Int) (st : Option Int) (done : Runs), j ≤ ne ∧ k = .int .i64 (j : Int) ∧ ins = .bool st.isSome ∧ Hid (OwnR wr base ov (bandR (y0, y1, done ++ openR st)) ∧ NewOr w1 (.slice As 0 cs) ov ∧ GrownIn X w1 wr ∧ Two wr w.heap.size na nb ∧ done ++ runsGo op (es.drop j) na nb st = res ∧ na.natAbs + nb.natAbs + wt (es.drop j) ≤ 100000 ∧ done.length + (openR st).length ≤ 2 * j)) (fun _ _ k _ => ne - (RowKit.intOf k).toNat)
  case atStart => exact ⟨0, 0, 0, none, [], by omega, rfl, rfl, HS1.out, .inl rfl, GrownIn.refl _ _, HT0.out, by rw [List.drop_zero]; exact HRES.out, by rw [List.drop_zero]; have := HL.out.1; simpa using this, by simp [openR]⟩
  case round =>
    obtain ⟨j, na, nb, st, done, hj, rfl, rfl, hrel⟩ := hrel
    obtain ⟨w3, rfl⟩ : ∃ w3, w3 = wr := ⟨_, rfl⟩
    by_cases hlt : j < ne
    · obtain ⟨e, hej⟩ : ∃ e, es[j]? = some e := ⟨_, List.getElem?_eq_getElem (by rw [HNE.out]; exact hlt)⟩
      obtain ⟨be, oe, rfl, hbe, hcs3⟩ := HC.out (by rw [HNE.out]; omega)
      have T := Lib.hid (hcs3 j e hej)
      have hbe1 : be < w1.heap.size := Nat.lt_of_lt_of_le hbe HG1.out.size
      have hnx : ¬ X be := by
        rw [HX.out]
        rintro (h | h)
        · exact ASE.out be rfl h
        · omega
      have gc : ∀ o, w3.cell? ⟨be, o, none⟩ = w.cell? ⟨be, o, none⟩ := fun o => (hrel.out.2.2.1.cell (a := ⟨be, o, none⟩) hbe1 hnx).trans (HG1.out.cell (a := ⟨be, o, none⟩) hbe (fun h => h))
      have e0 := (gc (oe + j * 3)).trans T.out.1
      have e1 := (gc (oe + j * 3 + 1)).trans T.out.2.1
      have e2 := (gc (oe + j * 3 + 2)).trans T.out.2.2
      have HD := Lib.hid (drop_at hej)
      have q0 : (j : Int) < ne := by omega
      have q1 : (0 : Int) ≤ j := by omega
      obtain ⟨A2, c2', rfl, hcs2, hms2, _⟩ := id hrel.out.1.rs
      have HO := Lib.hid hrel.out.1
      have HNO := Lib.hid hrel.out.2.1
      have HG := Lib.hid hrel.out.2.2.1
      have HT := Lib.hid hrel.out.2.2.2.1
      have HR : Hid (done ++ runsGo op (e :: es.drop (j + 1)) na nb st = res) := Lib.hid (by rw [← HD.out]; exact hrel.out.2.2.2.2.1)
      have HW : Hid (na.natAbs + nb.natAbs + wt (e :: es.drop (j + 1)) ≤ 100000 ∧ done.length + (openR st).length ≤ 2 * j) := Lib.hid (by rw [← HD.out]; exact hrel.out.2.2.2.2.2)
      simp only [maxLen] at hms2
      have hbnd : na.natAbs ≤ 100000 ∧ nb.natAbs ≤ 100000 ∧ e.a.natAbs ≤ 100000 ∧ e.b.natAbs ≤ 100000 := by have := HW.out.1; simp only [wt] at this; omega
      have CP := fun W => Lib.hid (plus_any (a := na) (b := nb) (c := e.a) (d := e.b) (by omega) (by omega) (by omega) (by omega) W)
      obtain ⟨t0, t1, tf⟩ := id HT.out
      have hz3 : w.heap.size < w3.heap.size := World.block_lt_of_cell? w3 _ t0
      clear hrel hej hcs3 gc hbnd
      go_wp2_with fail
      refine (CP _).out.mono ?_
      rintro e4 w4 ⟨rfl, hb4⟩
      have hz4 : w3.heap.size < w4.heap.size := by have := hb4.size; simp at this; omega
      have g34 : Hid (GrownIn (fun _ => False) w3 w4) := Lib.hid (((GrownIn.refl _ w3).alloc _).trans (GrownIn.of_below hb4))
      have HT4 := Lib.hid (HT.out.kept g34.out (fun h => h))
      have HE4 : Hid (Three w4 w3.heap.size e) := Lib.hid ((Three.new w3 e 0).keep hb4 (by simp))
      obtain ⟨ma, hma⟩ : ∃ ma, na + e.a = ma := ⟨_, rfl⟩
      obtain ⟨mb, hmb⟩ : ∃ mb, nb + e.b = mb := ⟨_, rfl⟩
      have HMA := Lib.hid hma
      have HMB := Lib.hid hmb
      rw [hma, hmb]
      clear t0 t1 tf e0 e1 e2 hma hmb CP hb4 HT
      obtain ⟨t0, t1, tf⟩ := id HT4.out
      have tf0 := tf 0
      have tf1 := tf 1
      have hz5 : w.heap.size < w4.heap.size := by omega
      clear tf
      go_wp2_with fail
      have hob : ¬ blk (.slice A2 (bandR (y0, y1, done ++ openR st)).length c2') w.heap.size := fun h => by
        have h1 := NewOr.sub HNO.out _ HZ.out h
        have := (HSB.out _ h1).2
        omega
      have HT5 : Hid (Two ((w4.setCell ⟨w.heap.size, 0, none⟩ (.int .i64 ma)).setCell ⟨w.heap.size, 1, none⟩ (.int .i64 mb)) w.heap.size ma mb) := Lib.hid (HT4.out.set ma mb)
      have g45 : Hid (GrownIn (fun k => k = w.heap.size) w4 ((w4.setCell ⟨w.heap.size, 0, none⟩ (.int .i64 ma)).setCell ⟨w.heap.size, 1, none⟩ (.int .i64 mb))) := Lib.hid (grown_two w4 w.heap.size _ _)
      generalize (w4.setCell ⟨w.heap.size, 0, none⟩ (.int .i64 ma)).setCell ⟨w.heap.size, 1, none⟩ (.int .i64 mb) = w5 at *
      have g35 : Hid (GrownIn X w3 w5) := Lib.hid ((g34.out.mono (fun _ _ h => h.elim)).trans (g45.out.mono (fun k _ h => by rw [HX.out]; exact .inr h)))
      have HE5 : Hid (Three w5 w3.heap.size e) := Lib.hid (HE4.out.kept g45.out (by omega))
      have HO5 : Hid (OwnR w5 base (.slice A2 (bandR (y0, y1, done ++ openR st)).length c2') (bandR (y0, y1, done ++ openR st))) := Lib.hid (g45.out.own (g34.out.own HO.out (fun _ _ h => h)) (fun k hk h => hob (h ▸ hk)))
      have HG5 : Hid (GrownIn X w1 w5) := Lib.hid (HG.out.trans g35.out)
      obtain ⟨kp, hkp⟩ : ∃ kp, op (decide (0 < ma)) (decide (0 < mb)) = kp := ⟨_, rfl⟩
      have HKP := Lib.hid hkp
      have CK : ∀ W, Hid (Calls Tryz.prog k #[.bool (decide (0 < ma)), .bool (decide (0 < mb))] W fun e w' => e = .returned (.bool kp) ∧ W = w') := fun W => Lib.hid (hkp ▸ HOP.out.call _ _ W)
      have hz7 : w3.heap.size < w5.heap.size := Nat.lt_of_lt_of_le hz4 g45.out.size
      have hbz : base ≤ w5.heap.size := by have := HG5.out.size; have := HZ.out; omega
      have HWS : Hid (w1.heap.size ≤ w5.heap.size) := Lib.hid HG5.out.size
      clear t0 t1 tf0 tf1 hkp hob g34 HT4 HE4 g45 g35 HO HG hz4 hz5
      refine (CK _).out.mono ?_
      rintro e6 w6 ⟨rfl, rfl⟩
      have HR2 : Hid (done ++ restR op e.x (es.drop (j + 1)) ma mb st kp = res) := Lib.hid (by
        have h1 := HR.out
        rw [runsGo_rest (kp := kp) (by rw [HMA.out, HMB.out]; exact HKP.out), HMA.out, HMB.out] at h1
        exact h1)
      have HW2 : Hid (ma.natAbs + mb.natAbs + wt (es.drop (j + 1)) ≤ 100000) := Lib.hid (by have h := HW.out.1; rw [← HMA.out, ← HMB.out]; simp only [wt] at h; omega)
      have HW3 := Lib.hid HW.out.2
      obtain ⟨no, hno⟩ : ∃ no, (bandR (y0, y1, done ++ openR st)).length = no := ⟨_, rfl⟩
      have HNL := Lib.hid hno
      rw [hno] at HO5 hcs2 HNO
      rw [hno]
      have HO6 : Hid (w5.ownsRow base 53 4 (.slice A2 no c2') no (flat (bandR (y0, y1, done ++ openR st)))) := Lib.hid (by have h := HO5.out; unfold OwnR at h; rw [hno] at h; exact h)
      clear CK HKP HR HW HMA HMB hno HO5
      have HOc : Hid (OwnR w5 base (.slice A2 no c2') (bandR (y0, y1, done ++ openR st))) := Lib.hid (by unfold OwnR; rw [HNL.out]; exact HO6.out)
      have HOB : Hid (¬ blk (.slice A2 no c2') w.heap.size) := Lib.hid (fun h => by
        have h1 := NewOr.sub HNO _ HZ.out h
        have := (HSB.out _ h1).2
        omega)
      have HNO2 := Lib.hid HNO
      clear HNO
      cases st with
      | none =>
        cases kp
        · simp only [restR] at HR2
          go_wp2_with fail
          go_roundw
          case rel => exact ⟨j + 1, ma, mb, none, done, by omega, by go_num, rfl, HOc.out, HNO2.out, HG5.out, HT5.out, HR2.out, HW2.out, by have := HW3.out; omega⟩
          case measure => simp [RowKit.intOf]; omega
        · simp only [restR] at HR2
          have x0 := HE5.out.1
          have hOc := HOc.out
          have hlb : (bandR (y0, y1, done ++ openR none)).length ≤ 2000000 := by have h1 := HW3.out; have h2 := HL.out.2; rw [HNE.out] at h2; simp only [bandR_len, List.length_append, openR, List.length_nil] at h1 ⊢; omega
          go_wp2_with (at_builtin; refine wpList_appR rfl _ _ rfl (base := base) (l := bandR (y0, y1, done ++ openR none)) (m := [⟨e.x, y0, 0, y1⟩]) rfl (World.ownsRow.alloc hOc _) rfl (rs_one w5 ⟨e.x, y0, 0, y1⟩) (by simp only [List.length_singleton]; omega) (by simp; omega) ?_; intro v6 w6 ho6 hg6 hl6 _)
          have HO7 : Hid (OwnR w6 base v6 (bandR (y0, y1, done ++ openR (some e.x)))) := Lib.hid (by
            have h := ho6
            have e1 : bandR (y0, y1, done ++ openR none) ++ [⟨e.x, y0, 0, y1⟩] = bandR (y0, y1, done ++ openR (some e.x)) := by simp [bandR, openR]
            rw [e1] at h
            exact h)
          have HN6 : Hid (NewOr w1 (.slice As 0 cs) v6) := Lib.hid (NewOr.trans HNO2.out (by
            rcases hl6 with h | h
            · exact .inl h
            · exact .inr ⟨_, by have := HWS.out; simp; omega, h⟩))
          have HG6 : Hid (GrownIn X w1 w6) := Lib.hid (NewOr.grown (HG5.out.alloc _) (fun k _ h => by rw [HX.out]; exact .inl h) HNO2.out hg6)
          have HT6 : Hid (Two w6 w.heap.size ma mb) := Lib.hid ((HT5.out.kept ((GrownIn.refl (fun _ => False) w5).alloc _) (fun h => h)).kept (GrownIn.of_own hg6) HOB.out)
          clear ho6 hg6 hl6 hOc x0
          go_roundw
          case rel => exact ⟨j + 1, ma, mb, some e.x, done, by omega, by go_num, rfl, HO7.out, HN6.out, HG6.out, HT6.out, HR2.out, HW2.out, by have := HW3.out; simp only [openR, List.length_nil, List.length_cons] at this ⊢; omega⟩
          case measure => simp [RowKit.intOf]; omega
      | some s =>
        cases kp
        · simp only [restR] at HR2
          have x0 := HE5.out.1
          obtain ⟨md, hmd⟩ : ∃ md, done.length = md := ⟨_, rfl⟩
          have hat : (bandR (y0, y1, done ++ openR (some s)))[md]? = some ⟨s, y0, 0, y1⟩ := bandR_at (p := (s, 0)) (by rw [← hmd]; simp [openR])
          have hnm : no = md + 1 := by rw [← HNL.out, bandR_len, ← hmd]; simp [openR]
          obtain ⟨g, cap, eg, hg1, hg2, hg3, hg4⟩ := owns_shape HO6.out (by omega)
          injection eg with eg1 eg2 eg3
          subst eg1 eg3
          obtain ⟨⟨_, _, r2, _⟩, rf⟩ := OwnR.cells HO6.out hat
          have HS6 := Lib.hid (OwnR.set_x1 HO6.out hat e.x)
          have rf2 := rf (md * 4 + 2)
          have HMD := Lib.hid hmd
          have HNM := Lib.hid hnm
          have f0 : IntKind.i64.wrap ((no : Int) - 1) = (md : Int) := by rw [show (no : Int) - 1 = md by omega]; exact IntWalk.i64_in _ (by omega)
          have f1 : (0 : Int) ≤ md := by omega
          have f2 : (md : Int) < no := by omega
          clear hat hnm hmd rf
          go_wp2_with fail
          have e1 : (bandR (y0, y1, done ++ openR (some s))).set md ⟨s, y0, e.x, y1⟩ = bandR (y0, y1, (done ++ [(s, e.x)]) ++ openR none) := by
            rw [← HMD.out]
            simp [bandR, openR]
          rw [e1] at HS6
          have HS7 : Hid (OwnR (w5.setCell ⟨g, md * 4 + 2, none⟩ (.int .i64 e.x)) base (.slice (some ⟨g, 0, none⟩) no c2') (bandR (y0, y1, (done ++ [(s, e.x)]) ++ openR none))) := Lib.hid (by
            unfold OwnR
            have h2 : (bandR (y0, y1, (done ++ [(s, e.x)]) ++ openR none)).length = no := by rw [bandR_len, HNM.out, ← HMD.out]; simp [openR]
            rw [h2]
            exact HS6.out)
          have hg6 := grown_set w5 g (md * 4 + 2) (.int .i64 e.x)
          have HG6 : Hid (GrownIn X w1 (w5.setCell ⟨g, md * 4 + 2, none⟩ (.int .i64 e.x))) := Lib.hid (NewOr.grown HG5.out (fun k _ h => by rw [HX.out]; exact .inl h) HNO2.out hg6)
          have HT6 : Hid (Two (w5.setCell ⟨g, md * 4 + 2, none⟩ (.int .i64 e.x)) w.heap.size ma mb) := Lib.hid (HT5.out.kept (GrownIn.of_grown hg6) (fun h => HOB.out h))
          clear hg6 x0 r2 rf2 e1
          go_roundw
          case rel => exact ⟨j + 1, ma, mb, none, done ++ [(s, e.x)], by omega, by go_num, rfl, HS7.out, HNO2.out, HG6.out, HT6.out, by rw [List.append_assoc]; exact HR2.out, HW2.out, by have := HW3.out; simp only [openR, List.length_nil, List.length_cons, List.length_append] at this ⊢; omega⟩
          case measure => simp [RowKit.intOf]; omega
        · simp only [restR] at HR2
          go_wp2_with fail
          go_roundw
          case rel => exact ⟨j + 1, ma, mb, some s, done, by omega, by go_num, rfl, HOc.out, HNO2.out, HG5.out, HT5.out, HR2.out, HW2.out, by have := HW3.out; omega⟩
          case measure => simp [RowKit.intOf]; omega
    · have q0 : (ne : Int) ≤ (j : Int) := by omega
      have HNO := Lib.hid hrel.out.2.1
      have HG := Lib.hid hrel.out.2.2.1
      have HO := Lib.hid hrel.out.1
      have HR : Hid (done ++ openR st = res) := Lib.hid (by
        have h1 := hrel.out.2.2.2.2.1
        rw [List.drop_eq_nil_of_le (by rw [HNE.out]; omega)] at h1
        rw [← h1]
        cases st <;> rfl)
      clear hrel
      go_wp2_with fail
      go_ret
      refine ⟨_, rfl, by rw [← HR.out]; exact HO.out, ?_, NewOr.mono HNO.out HG1.out.size⟩
      exact (HG1.out.mono (fun _ _ h => h.elim)).step HG.out (fun b hb h => by
        rw [HX.out] at h
        rcases h with h | h
        · exact h
        · omega)

theorem addAll_take {acc es ch : List E} {e c : E} (h : e.x ≤ c.x) : addAll acc (e :: es) (c :: ch) = addAll (acc ++ [e]) es (c :: ch) := by
  simp only [addAll, takeLe, dropLe]
  rw [List.takeWhile_cons_of_pos (by simpa using h), List.dropWhile_cons_of_pos (by simpa using h)]
  simp

theorem addAll_stop {acc es ch : List E} {c : E} (h : ∀ e, es[0]? = some e → ¬ e.x ≤ c.x) : addAll acc es (c :: ch) = addAll (addLastP acc c) es ch := by
  cases es with
  | nil => simp [addAll, takeLe, dropLe]
  | cons e es =>
    have := h e rfl
    simp only [addAll, takeLe, dropLe]
    rw [List.takeWhile_cons_of_neg (by simpa using this), List.dropWhile_cons_of_neg (by simpa using this)]
    simp

theorem Es.tail {w : World} {b off n c : Nat} {e : E} {l : List E} (h : Es w (.slice (some ⟨b, off, none⟩) n c) (e :: l)) : Es w (.slice (some ⟨b, off + 3, none⟩) (n - 1) (c - 1)) l := by
  obtain ⟨A, cap, hv, h1, h2, h4⟩ := h
  injection hv with e1 e2 e3
  subst e1 e3
  simp only [List.length_cons] at e2 h1 h4
  obtain ⟨b', off', e1, hlt, hc⟩ := h4 (by omega)
  injection e1 with e1
  injection e1 with e1 e1'
  subst e1 e1'
  refine ⟨_, c - 1, by rw [e2]; rfl, by omega, by omega, fun hn => ⟨b, off + 3, rfl, hlt, fun j r hj => ?_⟩⟩
  have := hc (j + 1) r (by simpa using hj)
  rw [show off + (j + 1) * 3 = off + 3 + j * 3 by omega] at this
  exact this

theorem Es.tail_if {w : World} {b off n c : Nat} {e : E} {l : List E} (h : Es w (.slice (some ⟨b, off, none⟩) n c) (e :: l)) :
    Es w (.slice (if c = 1 then some ⟨b, off, none⟩ else some ⟨b, off + 3, none⟩) (n - 1) (c - 1)) l ∧ ∀ k, blk (.slice (if c = 1 then some ⟨b, off, none⟩ else some ⟨b, off + 3, none⟩) (n - 1) (c - 1)) k → k = b := by
  have ht := h.tail
  by_cases h1 : c = 1
  · rw [if_pos h1]
    obtain ⟨A, cap, hv, k1, k2, k4⟩ := h
    injection hv with e1 e2 e3
    subst e3
    simp only [List.length_cons] at k1 e2
    have hl : l = [] := List.eq_nil_of_length_eq_zero (by omega)
    subst hl
    exact ⟨⟨_, c - 1, by rw [e2]; rfl, by simp, by omega, fun hn => by simp at hn⟩, fun k hk => by simpa [blk, Value.ownBlock, eq_comm] using hk⟩
  · rw [if_neg h1]
    exact ⟨ht, fun k hk => by simpa [blk, Value.ownBlock, eq_comm] using hk⟩

def lenV : Value → Nat
  | .slice _ n _ => n
  | _ => 0

def Summed (w : World) (base : Nat) (vs vc : Value) (es ch : List E) (e : Ending) (w' : World) : Prop :=
  ∃ v' ch', e = .returned v' ∧ List.Perm ch' ch ∧ ch'.Pairwise (fun p q => p.x ≤ q.x) ∧ OwnE w' base v' (addAll [] es ch') ∧ GrownIn (fun k => blk vs k ∨ blk vc k) w w' ∧ NewOr w vs v'

set_option maxRecDepth 100000 in
set_option maxHeartbeats 4000000 in
theorem appendSum_any {w : World} {base bs bc : Nat} {vs ve vc : Value} {es ch : List E} (hs : OwnE w base vs []) (he : OwnE w bs ve es) (hc : OwnE w bc vc ch)
    (ase : ∀ k, blk ve k → ¬ blk vs k) (asc : ∀ k, blk vc k → ¬ blk vs k) (aec : ∀ k, blk ve k → ¬ blk vc k) (hbase : base ≤ w.heap.size) (hl : wt es + wt ch ≤ 100000 ∧ es.length + ch.length ≤ 100000) :
    Calls Tryz.prog 119 #[vs, ve, vc] w (Summed w base vs vc es ch) := by
  have C := Lib.hid (sort_any hc (by omega))
  obtain ⟨As, cs, rfl, hcs, hms, _⟩ := id hs.es
  obtain ⟨Ae, ce, rfl, hce, hme, _⟩ := id he.es
  obtain ⟨Ac, cc, rfl, hcc, hmc, _⟩ := id hc.es
  simp only [maxLen, List.length_nil] at hms hme hmc hcs C hs ⊢
  obtain ⟨ne, hne⟩ : ∃ ne, es.length = ne := ⟨_, rfl⟩
  obtain ⟨nc, hnc⟩ : ∃ nc, ch.length = nc := ⟨_, rfl⟩
  have HNE := Lib.hid hne
  have HNC := Lib.hid hnc
  have HL := Lib.hid hl
  rw [hne] at hce he ase aec
  rw [hnc] at hcc C asc aec hc
  rw [hne, hnc]
  have HS := Lib.hid hs
  have HE := Lib.hid he
  have HCB := Lib.hid (own_blk hc)
  have ASE := Lib.hid ase
  have ASC := Lib.hid asc
  have AEC := Lib.hid aec
  clear hne hnc hs he hl ase asc aec hc
  go_enter Tryz.func119, Tryz.ntmps119
  go_wp2_with fail
  refine C.out.mono ?_
  rintro e w1 ⟨rfl, ch', hp, hpw, hc1, hg1⟩
  obtain ⟨X, hX⟩ : ∃ X : Nat → Prop, X = fun k => blk (.slice As 0 cs) k ∨ blk (.slice Ac nc cc) k := ⟨_, rfl⟩
  have HX := Lib.hid hX
  have HP := Lib.hid hp
  have HPW := Lib.hid hpw
  have HCL := Lib.hid (show ch'.length = nc by rw [hp.length_eq, HNC.out])
  have HC1 : Hid (w1.ownsRow bc 129 3 (.slice Ac nc cc) nc (flatE ch')) := Lib.hid (by have h := hc1; unfold OwnE at h; rw [HCL.out] at h; exact h)
  have HE1 : Hid (OwnE w1 bs (.slice Ae ne ce) es) := Lib.hid ((GrownIn.of_own hg1).own HE.out AEC.out)
  have HS1 : Hid (OwnE w1 base (.slice As 0 cs) []) := Lib.hid ((GrownIn.of_own hg1).own HS.out (fun k hk hk' => ASC.out k hk' hk))
  have HG1 : Hid (GrownIn X w w1) := Lib.hid ((GrownIn.of_own hg1).mono (fun k _ h => by rw [hX]; exact .inr h))
  obtain ⟨res, hres⟩ : ∃ res, addAll [] es ch' = res := ⟨_, rfl⟩
  have HRES := Lib.hid hres
  have HEB := Lib.hid (own_blk HE.out)
  have HL2 : Hid (wt es + wt ch' ≤ 100000 ∧ ne + nc ≤ 100000) := Lib.hid ⟨by rw [wt_perm hp]; exact HL.out.1, by rw [← HNE.out, ← HNC.out]; exact HL.out.2⟩
  clear hX hp hpw hc1 hg1 hres HE HS C HL HNC
  go_wp2_with fail
  go_loopw [0, 1, 13] (fun sv ev k wr => ∃ (j : Nat) (acc rest : List E), j ≤ nc ∧ k = .int .i64 (j : Int) ∧ Hid (OwnE wr base sv acc ∧ NewOr w (.slice As 0 cs) sv ∧ Es wr ev rest ∧ (∀ k, blk ev k → blk (.slice Ae ne ce) k) ∧ wr.ownsRow bc 129 3 (.slice Ac nc cc) nc (flatE ch') ∧ GrownIn X w wr ∧ addAll acc rest (ch'.drop j) = res ∧ wt acc + wt rest + wt (ch'.drop j) ≤ 100000 ∧ acc.length + rest.length + (nc - j) ≤ 100000)) (fun _ _ k _ => nc - (RowKit.intOf k).toNat)
  case atStart => exact ⟨0, [], es, by omega, rfl, HS1.out, .inl rfl, HE1.out.es, fun _ h => h, HC1.out, HG1.out, HRES.out, by simp only [wt, List.drop_zero]; have := HL2.out.1; omega, by simp only [List.length_nil]; have := HL2.out.2; have := HNE.out; omega⟩
  case round =>
    obtain ⟨j, acc, rest, hj, rfl, hrel⟩ := hrel
    obtain ⟨w3, rfl⟩ : ∃ w3, w3 = wr := ⟨_, rfl⟩
    by_cases hlt : j < nc
    · obtain ⟨c, hcj⟩ : ∃ c, ch'[j]? = some c := ⟨_, List.getElem?_eq_getElem (by rw [HCL.out]; exact hlt)⟩
      obtain ⟨gc, capc, ec, hgc1, hgc2, _, _⟩ := owns_shape hrel.out.2.2.2.2.1 (by omega)
      injection ec with ec1 ec2 ec3
      subst ec1 ec3
      obtain ⟨⟨c0, c1, c2⟩, _⟩ := OwnE.cells hrel.out.2.2.2.2.1 hcj
      have HD := Lib.hid (drop_at hcj)
      have q0 : (j : Int) < nc := by omega
      have q1 : (0 : Int) ≤ j := by omega
      obtain ⟨A2, c2', rfl, hcs2, hms2, _⟩ := id hrel.out.1.es
      obtain ⟨A3, c3', rfl, hcs3, hms3, _⟩ := id hrel.out.2.2.1
      have HSV := Lib.hid hrel.out.1
      have HNO := Lib.hid hrel.out.2.1
      have HEV := Lib.hid hrel.out.2.2.1
      have HEVB := Lib.hid hrel.out.2.2.2.1
      have HCR := Lib.hid hrel.out.2.2.2.2.1
      have HG := Lib.hid hrel.out.2.2.2.2.2.1
      have HR : Hid (addAll acc rest (c :: ch'.drop (j + 1)) = res) := Lib.hid (by rw [← HD.out]; exact hrel.out.2.2.2.2.2.2.1)
      have HW : Hid (wt acc + wt rest + wt (c :: ch'.drop (j + 1)) ≤ 100000 ∧ acc.length + rest.length + (nc - j) ≤ 100000) := Lib.hid (by rw [← HD.out]; exact hrel.out.2.2.2.2.2.2.2)
      simp only [maxLen] at hms2 hms3
      clear hrel hcj
      go_wp2_with fail
      generalize hWb : w3.alloc (.cells #[.int .i64 c.x, .int .i64 c.a, .int .i64 c.b] 129) = wb at *
      have HBX : Hid (Three wb w3.heap.size c) := Lib.hid (by rw [← hWb]; exact Three.new w3 c 0)
      have HBZ : Hid (w3.heap.size < wb.heap.size) := Lib.hid (by rw [← hWb]; simp)
      have HSVb : Hid (wb.ownsRow base 129 3 (.slice A2 acc.length c2') acc.length (flatE acc)) := Lib.hid (by rw [← hWb]; exact World.ownsRow.alloc HSV.out _)
      have HGb : Hid (GrownIn X w wb) := Lib.hid (by rw [← hWb]; exact HG.out.alloc _)
      have HGr : Hid (GrownIn (fun _ => False) w3 wb) := Lib.hid (by rw [← hWb]; exact (GrownIn.refl _ w3).alloc _)
      have HEVb : Hid (Es wb (.slice A3 rest.length c3') rest) := Lib.hid (HGr.out.es HEV.out (fun _ _ h => h))
      have HSB : Hid (∀ k, blk (.slice A2 acc.length c2') k → base ≤ k ∧ k < w3.heap.size) := Lib.hid (own_blk HSV.out)
      have HVE : Hid (∀ k, blk (.slice Ae ne ce) k → ¬ blk (.slice A2 acc.length c2') k) := Lib.hid (NewOr.apart HNO.out ASE.out (fun k hk => (HEB.out k hk).2))
      obtain ⟨nr, hnr⟩ : ∃ nr, rest.length = nr := ⟨_, rfl⟩
      obtain ⟨na, hna⟩ : ∃ na, acc.length = na := ⟨_, rfl⟩
      rw [hnr] at HEVb hcs3 HEVB
      rw [hna] at HSVb hcs2 HSB HVE HNO
      rw [hnr, hna]
      have HSVc : Hid (OwnE wb base (.slice A2 na c2') acc) := Lib.hid (by unfold OwnE; rw [hna]; exact HSVb.out)
      clear hnr hna hWb c0 c1 c2 HSV HEV HSVb HD
      go_loopw [0, 1] (fun sv ev wq => ∃ acc rest : List E, Hid (OwnE wq base sv acc ∧ NewOr wb (.slice A2 na c2') sv ∧ GrownIn (blk (.slice A2 na c2')) wb wq ∧ Es wb ev rest ∧ (∀ k, blk ev k → blk (.slice Ae ne ce) k) ∧ addAll acc rest (c :: ch'.drop (j + 1)) = res ∧ wt acc + wt rest + wt (c :: ch'.drop (j + 1)) ≤ 100000 ∧ acc.length + rest.length + (nc - j) ≤ 100000)) (fun _ ev _ => lenV ev)
      case atStart => exact ⟨acc, rest, HSVc.out, .inl rfl, GrownIn.refl _ _, HEVb.out, HEVB.out, HR.out, HW.out⟩
      case round =>
        clear HR HW HEVb HEVB HSVc
        obtain ⟨acc, rest, hin⟩ := hrel
        obtain ⟨A4, c4, rfl, hcs4, hms4, _⟩ := id hin.out.1.es
        obtain ⟨A5, c5, rfl, hcs5, hms5, hc5⟩ := id hin.out.2.2.2.1
        simp only [maxLen] at hms4 hms5
        have HI := hin
        have HBN : Hid (¬ blk (.slice A2 na c2') w3.heap.size) := Lib.hid (fun h => by have := (HSB.out _ h).2; omega)
        have x0 := (hin.out.2.2.1.cell (a := ⟨w3.heap.size, 0, none⟩) HBZ.out HBN.out).trans HBX.out.1
        have x1 := (hin.out.2.2.1.cell (a := ⟨w3.heap.size, 1, none⟩) HBZ.out HBN.out).trans HBX.out.2.1
        have x2 := (hin.out.2.2.1.cell (a := ⟨w3.heap.size, 2, none⟩) HBZ.out HBN.out).trans HBX.out.2.2
        cases rest with
        | nil =>
          simp only [List.length_nil] at hcs5 hc5 ⊢
          clear hc5
          go_wp2_with fail
          go_quiet (fail)
          have HGq := Lib.hid (HI.out.2.2.1.draws nq)
          have HOq : Hid (OwnE (wr.drewN nq) base (.slice A4 acc.length c4) acc) := Lib.hid ((GrownIn.refl (fun _ => False) wr).draws nq |>.own HI.out.1 (fun _ _ h => h))
          have x0' : World.cell? (wr.drewN nq) ⟨w3.heap.size, 0, none⟩ = some (.int .i64 c.x) := x0
          have x1' : World.cell? (wr.drewN nq) ⟨w3.heap.size, 1, none⟩ = some (.int .i64 c.a) := x1
          have x2' : World.cell? (wr.drewN nq) ⟨w3.heap.size, 2, none⟩ = some (.int .i64 c.b) := x2
          have HAL := Lib.hid (addLast_any HOq.out (by have := HGq.out.size; have := HBZ.out; have := HGb.out.size; omega) (by have := HI.out.2.2.2.2.2.2.2; omega) c (by have := HI.out.2.2.2.2.2.2.1; simp only [wt] at this ⊢; omega))
          have HWQ := Lib.hid (show World.heap wr = World.heap (wr.drewN nq) from rfl)
          generalize wr.drewN nq = wd at *
          go_wp2_with fail
          refine HAL.out.mono ?_
          rintro e5 w5 ⟨v5, rfl, ho5, hg5, hn5⟩
          have HGG : Hid (GrownIn (blk (.slice A2 na c2')) wb w5) := Lib.hid (NewOr.grown HGq.out (fun _ _ h => h) HI.out.2.1 hg5)
          have HN5 : Hid (NewOr w (.slice As 0 cs) v5) := Lib.hid (NewOr.trans HNO.out (NewOr.trans (NewOr.mono HI.out.2.1 HGb.out.size) (NewOr.mono hn5 (Nat.le_trans HGb.out.size HGq.out.size))))
          have HG5 : Hid (GrownIn X w w5) := Lib.hid (HGb.out.step HGG.out (fun b hb h => by have h1 := NewOr.sub HNO.out b hb h; have h2 := HX.out; rw [h2]; exact .inl h1))
          have HC5 : Hid (w5.ownsRow bc 129 3 (.slice (some ⟨gc, 0, none⟩) nc cc) nc (flatE ch')) := Lib.hid (HGG.out.own (HGr.out.own HCR.out (fun _ _ h => h)) (fun k hk hk' => NewOr.apart HNO.out ASC.out (fun k hk => (HCB.out k hk).2) k hk hk'))
          have HEV5 : Hid (Es w5 (.slice A5 0 c5) ([] : List E)) := Lib.hid (HGG.out.es HI.out.2.2.2.1 (fun k hk => HVE.out k (HI.out.2.2.2.2.1 k hk)))
          have HO5 := Lib.hid ho5
          have HST : Hid (addAll (addLastP acc c) ([] : List E) (ch'.drop (j + 1)) = res) := Lib.hid (by rw [← HI.out.2.2.2.2.2.1, addAll_stop (fun e h => by simp at h)])
          have HW5 : Hid (wt (addLastP acc c) + wt ([] : List E) + wt (ch'.drop (j + 1)) ≤ 100000 ∧ (addLastP acc c).length + ([] : List E).length + (nc - (j + 1)) ≤ 100000) := Lib.hid (by have h1 := HI.out.2.2.2.2.2.2; have h2 := addLast_wt acc c; have h3 := addLast_len acc c; simp only [wt] at h1 h2 ⊢; omega)
          have HEB5 := Lib.hid HI.out.2.2.2.2.1
          clear HAL ho5 hg5 hn5 x0 x1 x2 x0' x1' x2' hin HI HWQ HOq HGq HGG
          go_wp2_with fail
          go_roundw
          case rel => exact ⟨j + 1, addLastP acc c, ([] : List E), by omega, by go_num, HO5.out, HN5.out, HEV5.out, HEB5.out, HC5.out, HG5.out, HST.out, HW5.out⟩
          case measure => simp [RowKit.intOf]; omega
        | cons e rest =>
          obtain ⟨b5, o5, rfl, hb5, hcell5⟩ := hc5 (by simp)
          obtain ⟨y0, y1, y2⟩ := hcell5 0 e rfl
          have hbv : ¬ blk (.slice A2 na c2') b5 := HVE.out b5 (HI.out.2.2.2.2.1 b5 rfl)
          replace y0 := (HI.out.2.2.1.cell (a := ⟨b5, o5 + 0 * 3, none⟩) hb5 hbv).trans y0
          replace y1 := (HI.out.2.2.1.cell (a := ⟨b5, o5 + 0 * 3 + 1, none⟩) hb5 hbv).trans y1
          replace y2 := (HI.out.2.2.1.cell (a := ⟨b5, o5 + 0 * 3 + 2, none⟩) hb5 hbv).trans y2
          simp only [Nat.zero_mul, Nat.add_zero] at y0 y1 y2
          obtain ⟨n5, hn5⟩ : ∃ n5, (e :: rest).length = n5 := ⟨_, rfl⟩
          have HNQ := Lib.hid hn5
          have q5 : (0 : Int) < n5 := by rw [← hn5]; simp only [List.length_cons]; omega
          have q7 : decide (0 < n5) = true := decide_eq_true (by omega)
          have q6 : n5 ≤ 1000000 := by have := HI.out.2.2.2.2.2.2.2; omega
          rw [hn5] at hcs5 HI
          rw [hn5]
          clear hcell5 hc5 hn5 hin
          by_cases hle : e.x ≤ c.x
          · have hd : decide (e.x ≤ c.x) = true := decide_eq_true hle
            have HLE := Lib.hid hle
            clear hle
            go_wp2_with fail
            go_quiet (fail)
            have HGq := Lib.hid (HI.out.2.2.1.draws nq)
            have HOq : OwnE (wr.drewN nq) base (.slice A4 acc.length c4) acc := (GrownIn.refl (fun _ => False) wr).draws nq |>.own HI.out.1 (fun _ _ h => h)
            have y0' : World.cell? (wr.drewN nq) ⟨b5, o5, none⟩ = some (.int .i64 e.x) := y0
            have y1' : World.cell? (wr.drewN nq) ⟨b5, o5 + 1, none⟩ = some (.int .i64 e.a) := y1
            have y2' : World.cell? (wr.drewN nq) ⟨b5, o5 + 2, none⟩ = some (.int .i64 e.b) := y2
            have hbz : base ≤ (wr.drewN nq).heap.size := by have := HGq.out.size; have := HBZ.out; have := HGb.out.size; omega
            have hla : acc.length ≤ 200000 := by have := HI.out.2.2.2.2.2.2.2; omega
            generalize wr.drewN nq = wd at *
            go_wp2_with (at_builtin; refine wpList_appE rfl _ _ rfl (base := base) (l := acc) (m := [e]) rfl (World.ownsRow.alloc HOq _) rfl (es_one wd e) (by simp only [List.length_singleton]; omega) (by simp; omega) ?_; intro v6 w6 ho6 hg6 hl6 _)
            have HTL := Lib.hid (Es.tail_if HI.out.2.2.2.1)
            have HO6 := Lib.hid ho6
            have HG6 : Hid (GrownIn (blk (.slice A2 na c2')) wb w6) := Lib.hid (NewOr.grown (HGq.out.alloc _) (fun _ _ h => h) HI.out.2.1 hg6)
            have HN6 : Hid (NewOr wb (.slice A2 na c2') v6) := Lib.hid (NewOr.trans HI.out.2.1 (by
              rcases hl6 with h | h
              · exact .inl h
              · exact .inr ⟨_, by have := HGq.out.size; simp; omega, h⟩))
            have HB6 : Hid (∀ k, blk (.slice (if c5 = 1 then some ⟨b5, o5, none⟩ else some ⟨b5, o5 + 3, none⟩) (n5 - 1) (c5 - 1)) k → blk (.slice Ae ne ce) k) := Lib.hid (fun k hk => by rw [HTL.out.2 k hk]; exact HI.out.2.2.2.2.1 b5 rfl)
            have HA6 : Hid (addAll (acc ++ [e]) rest (c :: ch'.drop (j + 1)) = res) := Lib.hid (by rw [← HI.out.2.2.2.2.2.1, addAll_take HLE.out])
            have HW6 : Hid (wt (acc ++ [e]) + wt rest + wt (c :: ch'.drop (j + 1)) ≤ 100000 ∧ (acc ++ [e]).length + rest.length + (nc - j) ≤ 100000) := Lib.hid (by have h9 := HNQ.out; have h1 := HI.out.2.2.2.2.2.2; simp only [wt_append, wt, List.length_append, List.length_cons, List.length_nil] at h1 h9 ⊢; omega)
            clear ho6 hg6 hl6 x0 x1 x2 y0 y1 y2 y0' y1' y2' HOq HI HGq
            go_roundw
            case rel => exact ⟨acc ++ [e], rest, HO6.out, HN6.out, HG6.out, HTL.out.1, HB6.out, HA6.out, HW6.out⟩
            case measure => simp only [lenV]; omega
          · have hd : decide (e.x ≤ c.x) = false := decide_eq_false hle
            have HLE : Hid (¬ e.x ≤ c.x) := Lib.hid hle
            clear hle
            go_wp2_with fail
            go_quiet (fail)
            have HGq := Lib.hid (HI.out.2.2.1.draws nq)
            have HOq : Hid (OwnE (wr.drewN nq) base (.slice A4 acc.length c4) acc) := Lib.hid ((GrownIn.refl (fun _ => False) wr).draws nq |>.own HI.out.1 (fun _ _ h => h))
            have x0' : World.cell? (wr.drewN nq) ⟨w3.heap.size, 0, none⟩ = some (.int .i64 c.x) := x0
            have x1' : World.cell? (wr.drewN nq) ⟨w3.heap.size, 1, none⟩ = some (.int .i64 c.a) := x1
            have x2' : World.cell? (wr.drewN nq) ⟨w3.heap.size, 2, none⟩ = some (.int .i64 c.b) := x2
            have HAL := Lib.hid (addLast_any HOq.out (by have := HGq.out.size; have := HBZ.out; have := HGb.out.size; omega) (by have := HI.out.2.2.2.2.2.2.2; omega) c (by have := HI.out.2.2.2.2.2.2.1; simp only [wt] at this ⊢; omega))
            have HWQ := Lib.hid (show World.heap wr = World.heap (wr.drewN nq) from rfl)
            generalize wr.drewN nq = wd at *
            go_wp2_with fail
            refine HAL.out.mono ?_
            rintro e5 w5 ⟨v5, rfl, ho5, hg5, hn5⟩
            have HGG : Hid (GrownIn (blk (.slice A2 na c2')) wb w5) := Lib.hid (NewOr.grown HGq.out (fun _ _ h => h) HI.out.2.1 hg5)
            have HN5 : Hid (NewOr w (.slice As 0 cs) v5) := Lib.hid (NewOr.trans HNO.out (NewOr.trans (NewOr.mono HI.out.2.1 HGb.out.size) (NewOr.mono hn5 (Nat.le_trans HGb.out.size HGq.out.size))))
            have HG5 : Hid (GrownIn X w w5) := Lib.hid (HGb.out.step HGG.out (fun b hb h => by have h1 := NewOr.sub HNO.out b hb h; have h2 := HX.out; rw [h2]; exact .inl h1))
            have HC5 : Hid (w5.ownsRow bc 129 3 (.slice (some ⟨gc, 0, none⟩) nc cc) nc (flatE ch')) := Lib.hid (HGG.out.own (HGr.out.own HCR.out (fun _ _ h => h)) (fun k hk hk' => NewOr.apart HNO.out ASC.out (fun k hk => (HCB.out k hk).2) k hk hk'))
            have HEV5 : Hid (Es w5 (.slice (some ⟨b5, o5, none⟩) n5 c5) (e :: rest)) := Lib.hid (HGG.out.es HI.out.2.2.2.1 (fun k hk => HVE.out k (HI.out.2.2.2.2.1 k hk)))
            have HO5 := Lib.hid ho5
            have HST : Hid (addAll (addLastP acc c) (e :: rest) (ch'.drop (j + 1)) = res) := Lib.hid (by rw [← HI.out.2.2.2.2.2.1, addAll_stop (fun e' h => by simp only [List.getElem?_cons_zero, Option.some.injEq] at h; subst h; have := HLE.out; omega)])
            have HW5 : Hid (wt (addLastP acc c) + wt (e :: rest) + wt (ch'.drop (j + 1)) ≤ 100000 ∧ (addLastP acc c).length + (e :: rest).length + (nc - (j + 1)) ≤ 100000) := Lib.hid (by have h9 := HNQ.out; have h1 := HI.out.2.2.2.2.2.2; have h2 := addLast_wt acc c; have h3 := addLast_len acc c; simp only [wt] at h1 h2 ⊢; omega)
            have HEB5 := Lib.hid HI.out.2.2.2.2.1
            clear HAL ho5 hg5 hn5 x0 x1 x2 x0' x1' x2' HI HWQ HOq HGq HGG
            go_wp2_with fail
            go_roundw
            case rel => exact ⟨j + 1, addLastP acc c, (e :: rest), by omega, by go_num, HO5.out, HN5.out, HEV5.out, HEB5.out, HC5.out, HG5.out, HST.out, HW5.out⟩
            case measure => simp [RowKit.intOf]; omega
    · have q0 : (nc : Int) ≤ (j : Int) := by omega
      have HSV := Lib.hid hrel.out.1
      have HNO := Lib.hid hrel.out.2.1
      have HG := Lib.hid hrel.out.2.2.2.2.2.1
      have hOv := hrel.out.1
      have hEv := hrel.out.2.2.1
      obtain ⟨A2, c2', rfl, hcs2, hms2, _⟩ := id hrel.out.1.es
      obtain ⟨A3, c3', rfl, hcs3, hms3, _⟩ := id hrel.out.2.2.1
      have hlen : acc.length + rest.length ≤ 100000 := by have := hrel.out.2.2.2.2.2.2.2.2; omega
      have HR : Hid (acc ++ rest = res) := Lib.hid (by
        have h1 := hrel.out.2.2.2.2.2.2.1
        rw [List.drop_eq_nil_of_le (by rw [HCL.out]; omega)] at h1
        exact h1)
      have hbz : base ≤ w3.heap.size := by have := HG.out.size; omega
      simp only [maxLen] at hms2 hms3
      clear hrel
      go_wp2_with (at_builtin; refine wpList_appE rfl _ _ rfl (base := base) (l := acc) (m := rest) rfl hOv rfl hEv (by omega) hbz ?_; intro v6 w6 ho6 hg6 hl6 _)
      go_ret
      refine ⟨v6, ch', rfl, HP.out, HPW.out, by rw [HRES.out, ← HR.out]; exact ho6, ?_, ?_⟩
      · have h := HG.out.step (GrownIn.of_own hg6) (fun b hb h => by have h1 := NewOr.sub HNO.out b hb h; have h2 := HX.out; rw [h2]; exact .inl h1)
        rw [HX.out] at h
        exact h
      · refine NewOr.trans HNO.out ?_
        rcases hl6 with h | h
        · exact .inl h
        · exact .inr ⟨_, HG.out.size, h⟩



end Go.Proofs.YthedglfocjljjaaGreatDoor.Rgn
