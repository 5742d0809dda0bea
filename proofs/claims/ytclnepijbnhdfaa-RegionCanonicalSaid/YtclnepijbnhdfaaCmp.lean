/-
  cmp.Compare at ints, the order that appendSum sorts by, and the sort of a row of edges.
-/
import Derived.Test.YtclnepijbnhdfaaLast
import Derived.Test.YtclnepijbnhdfaaShelf
namespace Go.Proofs.Ytclnepijbnhdfaa
open Go.RowKit Go.Sort

def cmpI (x y : Int) : Int := if x < y then -1 else if y < x then 1 else 0

theorem nan_any (x : Int) (w : World) : Calls Try.prog 87 #[.int .i64 x] w fun e w' => e = .returned (.bool false) ∧ w = w' := by
  go_enter Try.func87, Try.ntmps87
  go_wp2
  go_ret
  exact ⟨rfl, rfl⟩

theorem cmp_any (x y : Int) (w : World) : Calls Try.prog 80 #[.int .i64 x, .int .i64 y] w fun e w' => e = .returned (.int .i64 (cmpI x y)) ∧ w = w' := by
  have C := fun z W => Lib.hid (nan_any z W)
  rcases (by omega : x < y ∨ (y ≤ x ∧ y < x) ∨ (y ≤ x ∧ x ≤ y)) with h | ⟨h, h'⟩ | ⟨h, h'⟩
  · have e : cmpI x y = -1 := by unfold cmpI; rw [if_pos h]
    rw [e]
    go_enter Try.func80, Try.ntmps80
    go_wp2_with (first
      | (go_at_call 87; (with_reducible refine (C x _).out.mono ?_); rintro e w' ⟨rfl, rfl⟩)
      | (go_at_call 87; (with_reducible refine (C y _).out.mono ?_); rintro e w' ⟨rfl, rfl⟩))
    go_ret
    exact ⟨rfl, rfl⟩
  · have e : cmpI x y = 1 := by unfold cmpI; rw [if_neg (by omega), if_pos h']
    rw [e]
    go_enter Try.func80, Try.ntmps80
    go_wp2_with (first
      | (go_at_call 87; (with_reducible refine (C x _).out.mono ?_); rintro e w' ⟨rfl, rfl⟩)
      | (go_at_call 87; (with_reducible refine (C y _).out.mono ?_); rintro e w' ⟨rfl, rfl⟩))
    go_ret
    exact ⟨rfl, rfl⟩
  · have e : cmpI x y = 0 := by unfold cmpI; rw [if_neg (by omega), if_neg (by omega)]
    rw [e]
    go_enter Try.func80, Try.ntmps80
    go_wp2_with (first
      | (go_at_call 87; (with_reducible refine (C x _).out.mono ?_); rintro e w' ⟨rfl, rfl⟩)
      | (go_at_call 87; (with_reducible refine (C y _).out.mono ?_); rintro e w' ⟨rfl, rfl⟩))
    go_ret
    exact ⟨rfl, rfl⟩

/-- appendSum's order on two edges: by their columns; two blocks are laid -/
theorem order_any (p q : E) (W : World) : Calls Try.prog 79 #[.agg #[.int .i64 p.x, .int .i64 p.a, .int .i64 p.b], .agg #[.int .i64 q.x, .int .i64 q.a, .int .i64 q.b]] W fun e w' => e = .returned (.int .i64 (cmpI p.x q.x)) ∧ ∃ q os', w' = grow (W.drewN q) os' := by
  have C := fun z y W => Lib.hid (cmp_any z y W)
  go_enter Try.func79, Try.ntmps79
  go_wp2_with (first
      | (go_at_call 80; (with_reducible refine (C _ _ _).out.mono ?_); rintro e w' ⟨rfl, rfl⟩))
  go_ret
  exact ⟨rfl, 0, _, by rw [alloc_eq_grow, alloc_eq_grow, grow_grow]; rfl⟩

instance : Inhabited E := ⟨⟨0, 0, 0⟩⟩

theorem order_lays (blk off size : Nat) (w : World) : CmpLays Try.prog 79 #[] cells3 3 (fun p q : E => cmpI p.x q.x) blk off size w :=
  fun _ _ _ _ x y => order_any x y _

theorem lt_cmp (p q : E) : ltOf (fun p q : E => cmpI p.x q.x) p q = decide (p.x < q.x) := by
  unfold ltOf cmpI
  by_cases h1 : p.x < q.x
  · simp [h1]
  · by_cases h2 : q.x < p.x <;> simp [h1, h2]

theorem swo_cmp : SWO (ltOf fun p q : E => cmpI p.x q.x) where
  irrefl x := by rw [lt_cmp]; simp
  trans x y z h1 h2 := by rw [lt_cmp] at *; simp at *; omega
  ntrans x y z h1 h2 := by rw [lt_cmp] at *; simp at *; omega

theorem flatK_E (d : Array E) : (flatK cells3 3 d).toList = flatE d.toList := by
  apply List.ext_getElem?
  intro t
  by_cases ht : t < d.size * 3
  · have h1 := get_flatK cells3 3 d t ht
    obtain ⟨p, hp⟩ : ∃ p, d.toList[t / 3]? = some p := ⟨_, List.getElem?_eq_getElem (by simp; omega)⟩
    obtain ⟨e0, e1, e2⟩ := flatE_at d.toList (t / 3) p hp
    have hd : d[t / 3]! = p := by
      have hlt : t / 3 < d.size := by omega
      rw [Array.getElem?_toList, Array.getElem?_eq_getElem hlt] at hp
      have e := getElem!_pos d (t / 3) hlt
      exact e.trans (Option.some.inj hp)
    rw [hd] at h1
    have hs : t < (flatK cells3 3 d).size := by simpa using ht
    rw [Array.getElem?_toList, Array.getElem?_eq_getElem hs]
    have eh := getElem!_pos (flatK cells3 3 d) t hs
    rw [eh] at h1
    rw [h1]
    rcases (by omega : t = t / 3 * 3 ∨ t = t / 3 * 3 + 1 ∨ t = t / 3 * 3 + 2) with hh | hh | hh
    · rw [show t % 3 = 0 by omega]
      conv => rhs; rw [hh]
      rw [e0]
      rfl
    · rw [show t % 3 = 1 by omega]
      conv => rhs; rw [hh]
      rw [e1]
      rfl
    · rw [show t % 3 = 2 by omega]
      conv => rhs; rw [hh]
      rw [e2]
      rfl
  · rw [List.getElem?_eq_none (by simp; omega), List.getElem?_eq_none (by rw [flatE_length]; simp; omega)]

/-- a row of one's own whose cells were laid anew -/
theorem owns_put {w : World} {base : Nat} {e : TypeId} {size g n cap q : Nat} {xs : List Value} {ys : Array Value} (h : w.ownsRow base e size (.slice (some ⟨g, 0, none⟩) n cap) n xs) (hy : ys.size = n * size) (os : Array Obj) :
    (grow (putRow id (Sort.ahead w q) g 0 ys) os).ownsRow base e size (.slice (some ⟨g, 0, none⟩) n cap) n ys.toList := by
  rcases h.2 with ⟨e0, _⟩ | ⟨g', cap', cur, e0, hb, hg, hn, hm, hs, ht⟩
  · cases e0
  · injection e0 with e1 _ e3
    injection e1 with e1
    injection e1 with e1
    subst e1; subst e3
    have hgz : g < w.heap.size := (Array.getElem?_eq_some_iff.1 hg).1
    have hnc : n * size ≤ cap * size := Nat.mul_le_mul_right _ hn
    refine ⟨by simpa using hy, .inr ⟨g, cap, putCells id 0 ys cur, rfl, hb, ?_, by omega, hm, by simpa [putCells] using hs, ?_⟩⟩
    · simp only [grow]
      rw [Array.getElem?_append_left (by simpa [putRow, mapBlock, Sort.ahead] using hgz)]
      simp [putRow, mapBlock, Sort.ahead, Array.getElem?_modify, hg, onCells]
    · apply List.ext_getElem?
      intro j
      rw [List.getElem?_take, Array.getElem?_toList, Array.getElem?_toList]
      by_cases hj : j < n * size
      · have hjc : j < cur.size := by omega
        simp only [if_pos hj, putCells, Array.getElem?_mapIdx, Array.getElem?_eq_getElem hjc, Option.map_some]
        rw [if_pos (by omega), Array.getElem?_eq_getElem (by omega)]
        simp [getElem!_pos, show j < ys.size by omega]
      · rw [if_neg hj, Array.getElem?_eq_none (by omega)]

theorem grown_put (w : World) (g q : Nat) (ys : Array Value) (os : Array Obj) : w.grownBy (grow (putRow id (Sort.ahead w q) g 0 ys) os) (some g) :=
  ⟨rfl, rfl, rfl, by simp [grow, putRow, mapBlock, Sort.ahead], fun k hk hne => by
    have hne' : g ≠ k := fun e => hne (by rw [e])
    simp only [grow]
    rw [Array.getElem?_append_left (by simpa [putRow, mapBlock, Sort.ahead] using hk)]
    simp [putRow, mapBlock, Sort.ahead, Array.getElem?_modify, hne']⟩

/-- a row of edges sorted by their columns -/
theorem sort_any {w : World} {base : Nat} {v : Value} {l : List E} (hown : OwnE w base v l) (hl : l.length ≤ 1000000) :
    Calls Try.prog 78 #[v, .func (.func 79) #[] #[]] w fun e w' => e = .returned (.tuple #[]) ∧ ∃ l' : List E, l'.Perm l ∧ l'.Pairwise (fun p q => p.x ≤ q.x) ∧ OwnE w' base v l' ∧ w.grownBy w' v.ownBlock := by
  by_cases h0 : l = []
  · subst h0
    obtain ⟨A, c, rfl, hc, hm, _⟩ := id hown.es
    refine (AnyF.slices_SortFunc_none (ρ := LsortE_ren) LsortE A c (.func (.func 79) #[] #[]) w).mono ?_
    rintro e w' ⟨rfl, rfl⟩
    exact ⟨rfl, [], List.Perm.refl _, List.Pairwise.nil, hown, World.grownBy.refl _ _⟩
  · have hpos : 0 < l.length := List.length_pos_iff.2 h0
    obtain ⟨g, cap, rfl, hg1, hg2, hg3, hg4⟩ := owns_shape hown hpos
    have eg : ∀ args w, (callFunc 79 args).run Try.prog w = .ok (.enter 79 args) w := enters_of Try.func79 (by kernel_rfl) rfl
    have hH : HoldsK cells3 3 w g 0 l.toArray := by
      intro j hj
      have hj' : j < l.length * 3 := by simpa using hj
      have e1 : (flatK cells3 3 l.toArray)[j]? = (flatE l)[j]? := by rw [← Array.getElem?_toList, flatK_E]
      have e2 := getElem!_pos (flatK cells3 3 l.toArray) j hj
      rw [Array.getElem?_eq_getElem hj] at e1
      obtain ⟨h1, h2⟩ := owns_cells hown
      rw [e2, Nat.zero_add]
      exact ⟨h1 j _ e1.symm, h2 j⟩
    have hcon := AnyQ.slices_SortFunc (ρ := LsortE_ren) LsortE 3 Try.isAgg83 Try.sizeOf83 cells3 (fun _ => rfl) (fun x v hv => by simp [cells3] at hv; rcases hv with rfl | rfl | rfl <;> rfl) (fun p q : E => cmpI p.x q.x) swo_cmp 79 #[] g 0 cap l.toArray w eg (order_lays _ _ _ _) hH hg2 (by simp; omega)
    simp only [List.size_toArray] at hcon
    refine hcon.mono ?_
    rintro e w' ⟨rfl, d', n, os, hp, hs, rfl⟩
    obtain ⟨hp1, _, hp2⟩ := hp
    have hsz : d'.size = l.length := by simpa using hp1
    have hp3 : d'.toList.Perm l := by
      have e1 : d'.extract 0 l.length = d' := by rw [← hsz]; simp
      have e2 : l.toArray.extract 0 l.length = l.toArray := by simp
      rw [e1, e2] at hp2
      simpa using hp2
    refine ⟨rfl, d'.toList, hp3, ?_, ?_, grown_put w g n _ os⟩
    · rw [List.pairwise_iff_getElem]
      intro i j hi hj hij
      have h1 := hs i j (Nat.zero_le _) hij (by simpa [hsz] using hj)
      rw [lt_cmp, decide_eq_false_iff_not] at h1
      rw [getElem!_pos d' j (by simpa using hj), getElem!_pos d' i (by simpa using hi)] at h1
      simp only [Array.getElem_toList]
      omega
    · have h1 := owns_put (q := n) (ys := flatK cells3 3 d') hown (by simp [hsz]) os
      rw [flatK_E] at h1
      unfold OwnE
      rw [hp3.length_eq]
      exact h1

end Go.Proofs.Ytclnepijbnhdfaa
