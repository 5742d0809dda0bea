/-
  Maps from ints to rows of edges of a call's own: what a look-up yields, what a store leaves, the keys in ascending order.
-/
import Derived.Test.YtclnepijbnhdfaaGro
import Derived.Test.YtclnepijbnhdfaaComb
import Derived.Maps.OwnRows
import Derived.Lib.SlKeysI
namespace Go.Proofs.Ytclnepijbnhdfaa
open Go.RowKit Go.Maps
open Go.ChangeMaps Go.MapKept
open Go.WideElems (Fit rd rg pl rd_val rd_key)

abbrev DE := DataW (List E)

theorem flatE_inj : ∀ {l m : List E}, flatE l = flatE m → l = m
  | [], [], _ => rfl
  | [], _ :: _, h => by simp [flatE, cells3] at h
  | _ :: _, [], h => by simp [flatE, cells3] at h
  | p :: l, q :: m, h => by
    have e : ∀ (p : E) (l : List E), flatE (p :: l) = .int .i64 p.x :: .int .i64 p.a :: .int .i64 p.b :: flatE l := fun p l => by simp [flatE, cells3]
    rw [e, e] at h
    simp only [List.cons.injEq, Value.int.injEq, true_and] at h
    obtain ⟨h0, h1, h2, h3⟩ := h
    rw [flatE_inj h3]
    cases p
    cases q
    simp only at h0 h1 h2
    rw [h0, h1, h2]

theorem OwnE.unique {w : World} {base : Nat} {v : Value} {l l' : List E} (h : OwnE w base v l) (h' : OwnE w base v l') : l = l' := by
  obtain ⟨_, h2⟩ := h
  obtain ⟨_, h2'⟩ := h'
  rcases h2 with ⟨rfl, h0⟩ | ⟨g, cap, cur, rfl, _, hh, _, _, _, ht⟩
  · rcases h2' with ⟨_, h0'⟩ | ⟨g, cap, cur, hv, _⟩
    · rw [List.length_eq_zero_iff.1 h0, List.length_eq_zero_iff.1 h0']
    · cases hv
  · rcases h2' with ⟨hv, _⟩ | ⟨g', cap', cur', hv, _, hh', _, _, _, ht'⟩
    · cases hv
    · simp only [Value.slice.injEq, Option.some.injEq, Addr.mk.injEq] at hv
      obtain ⟨⟨rfl, _⟩, hl, _⟩ := hv
      rw [hh] at hh'
      simp only [Option.some.injEq, Obj.cells.injEq] at hh'
      obtain ⟨rfl, _⟩ := hh'
      rw [hl, ht'] at ht
      exact (flatE_inj ht).symm

open Classical in
/-- how a row of edges reads as a map's element -/
noncomputable def rowE (w : World) (base : Nat) (v : Value) : Option (DE × List MemPlace) :=
  if h : ∃ l, OwnE w base v l then some (.held (Classical.choose h), []) else none

theorem rowE_mk {w : World} {base : Nat} {v : Value} {l : List E} (h : OwnE w base v l) : rowE w base v = some (.held l, []) := by
  have hex : ∃ l, OwnE w base v l := ⟨l, h⟩
  unfold rowE
  rw [dif_pos hex, (Classical.choose_spec hex).unique h]

theorem rowE_inv {w : World} {base : Nat} {v : Value} {z : DE × List MemPlace} (h : rowE w base v = some z) : ∃ l, OwnE w base v l ∧ z = (.held l, []) := by
  unfold rowE at h
  split at h
  · rename_i hex
    exact ⟨_, Classical.choose_spec hex, (Option.some.inj h).symm⟩
  · cases h

theorem key3 : Keyed Try.prog 3 := int_keyed Try.underlying3

/-- block b is a map of at most n entries that reads as D: each element is nil or owns a row from base on, no two lie in one row -/
def GrpE (w : World) (base b n : Nat) (D : DE) : Prop :=
  ∃ es clock, w.heap[b]? = some (.map es clock) ∧ Fit Try.prog 3 (rowE w base) es clock ∧ es.size ≤ n ∧ D = .map ((es.toList.map (rg Try.prog 3 (rowE w base))).foldr DataW.insert []) ∧ b < base ∧
    ∀ x ∈ es.toList, ∀ y ∈ es.toList, x.key ≠ y.key → ∀ k, blk x.val k → ¬ blk y.val k

theorem grp_made (w : World) {base : Nat} (h : w.heap.size < base) : GrpE (w.alloc (.map #[] 0)) base w.heap.size 0 (.map []) :=
  ⟨#[], 0, (MapKept.heap_alloc w _).1, ⟨by simp, stamped_empty 0, by simp⟩, Nat.le_refl _, rfl, h, by simp⟩

theorem GrpE.owns {w : World} {base b n : Nat} {D : DE} (h : GrpE w base b n D) : w.ownsMap Try.prog 3 (rowE w base) b n D := by
  obtain ⟨es, clock, h1, h2, h3, h4, _⟩ := h
  exact ⟨es, clock, h1, h2, h3, h4⟩

theorem fit_owned {w : World} {base clock : Nat} {es : Array MapEntry} (F : Fit Try.prog 3 (rowE w base) es clock) : ∀ x ∈ es.toList, ∃ l, OwnE w base x.val l := fun x hx => by
  obtain ⟨y, hy⟩ := F.reads x hx
  obtain ⟨z, hz, _⟩ := rd_val hy
  obtain ⟨l, ho, _⟩ := rowE_inv hz
  exact ⟨l, ho⟩

theorem GrpE.kept {w w1 : World} {base b n : Nat} {D : DE} (h : GrpE w base b n D) (hg : GrownIn (fun _ => False) w w1) : GrpE w1 base b n D := by
  obtain ⟨es, clock, h1, F, h3, h4, h5, h6⟩ := h
  have hs : ∀ x ∈ es.toList, ∀ z, rowE w base x.val = some z → rowE w1 base x.val = some z := fun x _ z hz => by
    obtain ⟨l, ho, rfl⟩ := rowE_inv hz
    exact rowE_mk (hg.own ho (fun _ _ h => h))
  obtain ⟨F2, hmap, _⟩ := F.stay hs
  exact ⟨es, clock, (hg.block b (Array.getElem?_eq_some_iff.1 h1).1 (fun h => h)).trans h1, F2, h3, by rw [hmap]; exact h4, h5, h6⟩

theorem pair_eq {α : Type} {r : α → α → Prop} : ∀ {l : List α}, l.Pairwise r → ∀ {a b : α}, a ∈ l → b ∈ l → a = b ∨ r a b ∨ r b a
  | [], _, _, _, ha, _ => by cases ha
  | x :: l, h, a, b, ha, hb => by
    obtain ⟨h1, h2⟩ := List.pairwise_cons.1 h
    rcases List.mem_cons.1 ha with ea | ma <;> rcases List.mem_cons.1 hb with eb | mb
    · exact .inl (ea.trans eb.symm)
    · exact .inr (.inl (ea ▸ h1 b mb))
    · exact .inr (.inr (eb ▸ h1 a ma))
    · exact pair_eq h2 ma mb

theorem fit_one {R : Value → Option (DE × List MemPlace)} {clock : Nat} {es : Array MapEntry} (F : Fit Try.prog 3 R es clock) {x y : MapEntry} (hx : x ∈ es.toList) (hy : y ∈ es.toList) (h : x.key = y.key) : x = y := by
  have e : (rg Try.prog 3 R x).1 = (rg Try.prog 3 R y).1 := by
    obtain ⟨p, hp⟩ := F.reads x hx
    obtain ⟨q, hq⟩ := F.reads y hy
    have h1 := rd_key hp
    have h2 := rd_key hq
    rw [h, h2] at h1
    rw [Go.WideElems.rg_of hp, Go.WideElems.rg_of hq]
    exact (Option.some.inj h1).symm
  rcases pair_eq (List.pairwise_map.1 (fit_apart key3 F)) hx hy with h1 | h1 | h1
  · exact h1
  · exact absurd e h1
  · exact absurd e.symm h1

/-- whatever is done to the row at y and to new blocks alone, a store at y leaves the map well -/
def BackE (w : World) (base b n : Nat) (D : DE) (y : Int) (v : Value) : Prop :=
  ∀ (w1 : World) (v' : Value) (l' : List E), GrownIn (blk v) w w1 → OwnE w1 base v' l' → NewOr w v v' →
    ∃ w2, (Instr.mapUpdate 62 (.map (some b)) (.int .i64 y) v').run Try.prog w1 = .ok () w2 ∧ GrpE w2 base b (n + 1) (D.put (.int .i64 y) (.held l')) ∧ w1.grownBy w2 (some b)

theorem back_mk {w : World} {base b n clock : Nat} {es : Array MapEntry} {y : Int} (hy : (Lit.int .i64 y).wf = true) (hb : w.heap[b]? = some (.map es clock)) (F : Fit Try.prog 3 (rowE w base) es clock) (hn : es.size ≤ n) (hmax : n < maxLen) (hbb : b < base)
    (hap : ∀ x ∈ es.toList, ∀ y ∈ es.toList, x.key ≠ y.key → ∀ k, blk x.val k → ¬ blk y.val k) {v : Value} (hvb : ∀ k, blk v k → base ≤ k) (hv : ∀ x ∈ es.toList, x.key ≠ .int .i64 y → ∀ k, blk x.val k → ¬ blk v k) :
    BackE w base b n (.map ((es.toList.map (rg Try.prog 3 (rowE w base))).foldr DataW.insert [])) y v := by
  intro w1 v' l' hg ho' hno
  have hkey : keyOf Try.prog 3 (.int .i64 y) = some (.int .i64 y) := keyOf_int_mk Try.underlying3 hy
  have hblt : b < w.heap.size := (Array.getElem?_eq_some_iff.1 hb).1
  have hb1 : w1.heap[b]? = some (.map es clock) := (hg.block b hblt (fun h => by have := hvb b h; omega)).trans hb
  have own := fit_owned F
  have hs1 : ∀ x ∈ es.toList, x.key ≠ .int .i64 y → ∀ z, rowE w base x.val = some z → rowE w1 base x.val = some z := by
    intro x hx hne z hz
    obtain ⟨l, ho, rfl⟩ := rowE_inv hz
    exact rowE_mk (hg.own ho (fun k hk h => hv x hx hne k hk h))
  obtain ⟨es', clock', hrun, F', hput, _, _, hwho⟩ := Maps.fit_store (R' := rowE w1 base) key3 Try.underlying62 hb1 F (Nat.lt_of_le_of_lt hn hmax) hs1 hkey (rowE_mk ho')
  have hg2 : w1.grownBy (setBlock w1 b (.map es' clock')) (some b) := ⟨rfl, rfl, rfl, by simp [setBlock], fun i _ hi => heap_setBlock_other hb1 _ (fun e1 => hi (by rw [e1]))⟩
  have hs2 : ∀ x ∈ es'.toList, ∀ z, rowE w1 base x.val = some z → rowE (setBlock w1 b (.map es' clock')) base x.val = some z := by
    intro x _ z hz
    obtain ⟨l, ho, rfl⟩ := rowE_inv hz
    refine rowE_mk ((GrownIn.of_grown hg2).own ho (fun k hk h => ?_))
    have := (own_blk ho k hk).1
    cases h
    omega
  obtain ⟨F2, hmap2, _⟩ := F'.stay hs2
  have old_new : ∀ x ∈ es.toList, x.key ≠ .int .i64 y → ∀ k, blk x.val k → ¬ blk v' k := by
    intro x hx hne k hk h
    obtain ⟨l, ho⟩ := own x hx
    have hlt := (own_blk ho k hk).2
    exact hv x hx hne k hk (NewOr.sub hno k hlt h)
  refine ⟨_, hrun, ⟨es', clock', heap_setBlock_same hb1 _, F2, ?_, ?_, hbb, ?_⟩, hg2⟩
  · have e1 : es'.size = ((es'.toList.map (rg Try.prog 3 (rowE w1 base))).foldr DataW.insert []).length := by rw [length_sorted]; simp
    rw [e1, hput]
    unfold putKey
    rw [length_insert]
    have e2 := List.length_filter_le (notKey (Lit.int .i64 y)) ((es.toList.map (rg Try.prog 3 (rowE w base))).foldr DataW.insert [])
    rw [length_sorted] at e2
    simp at e2
    omega
  · rw [hmap2, DataW.put_eq, hput]
  · intro x hx z hz hne k hk h
    rcases hwho x hx with ⟨hx0, hxk⟩ | ⟨hxk, hxv⟩ <;> rcases hwho z hz with ⟨hz0, hzk⟩ | ⟨hzk, hzv⟩
    · exact hap x hx0 z hz0 hne k hk h
    · rw [hzv] at h
      exact old_new x hx0 hxk k hk h
    · rw [hxv] at hk
      exact old_new z hz0 hzk k h hk
    · exact hne (hxk.trans hzk.symm)

/-- a look-up at y: the row, its edges, and the way back -/
theorem GrpE.at {w : World} {base b n : Nat} {D : DE} (h : GrpE w base b n D) (hmax : n < maxLen) {y : Int} (hy : (Lit.int .i64 y).wf = true) :
    ∃ v l, (∀ W, W.heap[b]? = w.heap[b]? → (Instr.lookup 62 (.map (some b)) (.int .i64 y) false).run Try.prog W = .ok v W) ∧ D.atKey (.int .i64 y) (.held []) = .held l ∧ OwnE w base v l ∧ BackE w base b n D y v := by
  obtain ⟨es, clock, hb, F, hn, rfl, hbb, hap⟩ := h
  have hkey : keyOf Try.prog 3 (.int .i64 y) = some (.int .i64 y) := keyOf_int_mk Try.underlying3 hy
  have hz : ∀ W, (zeroValue 64).run Try.prog W = .ok (.slice none 0 0) W := fun W => by kernel_rfl
  have run : ∀ W, W.heap[b]? = some (.map es clock) → ∀ v, (Instr.lookup 62 (.map (some b)) (.int .i64 y) false).run Try.prog w = .ok v w → (Instr.lookup 62 (.map (some b)) (.int .i64 y) false).run Try.prog W = .ok v W := by
    intro W hW v hrun
    rcases Maps.fit_look (w := w) false key3 Try.underlying62 (hz w) hb F hkey with ⟨h1, h2, _⟩ | ⟨e0, z, hm0, h3, h1, hR, _, _⟩ <;> rcases Maps.fit_look (w := W) false key3 Try.underlying62 (hz W) hW F hkey with ⟨k1, k2, _⟩ | ⟨e1, z', km0, k3, k1, kR, _, _⟩
    · rw [h1] at hrun
      rw [k1]
      cases hrun
      rfl
    · exact absurd k3 (h2 e1 km0)
    · exact absurd h3 (k2 e0 hm0)
    · rw [h1] at hrun
      rw [k1]
      cases hrun
      have : e0 = e1 := fit_one F hm0 km0 (h3.trans k3.symm)
      rw [this]
  rcases Maps.fit_look (w := w) false key3 Try.underlying62 (hz w) hb F hkey with ⟨hrun, _, hat⟩ | ⟨e0, z, hm0, h3, hrun, hR, hat, _⟩
  · exact ⟨.slice none 0 0, [], fun W hW => run W (hW.trans hb) _ hrun, hat _, ownE_nil _ _, back_mk hy hb F hn hmax hbb hap (fun k hk => by simp [blk, Value.ownBlock] at hk) (fun x _ _ k _ hk => by simp [blk, Value.ownBlock] at hk)⟩
  · obtain ⟨l, ho, rfl⟩ := rowE_inv hR
    exact ⟨e0.val, l, fun W hW => run W (hW.trans hb) _ hrun, hat _, ho, back_mk hy hb F hn hmax hbb hap (fun k hk => (own_blk ho k hk).1) (fun x hx hne => hap x hx e0 hm0 (by rw [h3]; exact hne))⟩

/-- what a map holds: the row at each key, and which keys it has -/
structure Cont (D : DE) (f : Int → List E) (ks : Int → Prop) : Prop where
  map : IsMap D
  row : ∀ y, D.atKey (.int .i64 y) (.held []) = .held (f y)
  key : ∀ y, has D (.int .i64 y) = true ↔ ks y

theorem cont_start : Cont (.map []) (fun _ => []) (fun _ => False) := ⟨isMap_empty, fun _ => rfl, fun _ => by simp [has]⟩

theorem Cont.put {D : DE} {f g : Int → List E} {ks kt : Int → Prop} (h : Cont D f ks) {y : Int} (hy : (Lit.int .i64 y).wf = true) {l : List E} (hl : l = g y) (hg : ∀ z, z ≠ y → g z = f z) (hk : ∀ z, kt z ↔ z = y ∨ ks z) : Cont (D.put (.int .i64 y) (.held l)) g kt := by
  have hK : WideAt.IsKeyLit (.int .i64 y) := key3.key (keyOf_int_mk Try.underlying3 hy)
  refine ⟨h.map.put _ _, fun z => ?_, fun z => ?_⟩
  · by_cases e : z = y
    · subst e
      rw [atKey_put_same h.map hK, hl]
    · rw [atKey_put_other (fun h => e (by injection h)), h.row, hg z e]
  · rw [hk z]
    by_cases e : z = y
    · subst e
      simp [has_put_same h.map hK]
    · rw [has_put_other (fun h => e (by injection h)), h.key]
      simp [e]

theorem Cont.congr {D : DE} {f g : Int → List E} {ks kt : Int → Prop} (h : Cont D f ks) (hf : ∀ y, f y = g y) (hk : ∀ y, ks y ↔ kt y) : Cont D g kt :=
  ⟨h.map, fun y => by rw [h.row, hf], fun y => (h.key y).trans (hk y)⟩

/-- two ascending lists with the same members are one -/
theorem inc_unique {l m : List Int} (hl : l.Pairwise (· < ·)) (hm : m.Pairwise (· < ·)) (h : ∀ z, z ∈ l ↔ z ∈ m) : l = m := by
  have hp : l.Perm m := (List.perm_ext_iff_of_nodup (hl.imp (fun h e => by omega)) (hm.imp (fun h e => by omega))).2 h
  exact hp.eq_of_pairwise (le := fun a b => a < b) (fun a b _ _ h1 h2 => by omega) hl hm

/-- the keys in ascending order -/
theorem keys_sorted {w : World} {base b n : Nat} {D : DE} (h : GrpE w base b n D) {f : Int → List E} {ks : Int → Prop} (hc : Cont D f ks) {ss ys : List Int} (hp : ss.Perm (intKeys D)) (hys : ys.Pairwise (· < ·)) (hk : ∀ z, ks z ↔ z ∈ ys) : ss.mergeSort leI = ys := by
  have hown := h.owns
  obtain ⟨es, hD, hpw, _⟩ := hown.entries key3
  obtain ⟨es', hD', hko⟩ := hown.keysOf
  obtain rfl : es = es' := by rw [hD] at hD'; simpa using hD'
  have hint : ∀ p ∈ es, ∃ x, p.1 = Lit.int .i64 x := fun p hp => by
    obtain ⟨v, hv⟩ := hko p hp
    obtain ⟨x, _, hx, _⟩ := Maps.keyOf_i64 Try.underlying3 hv
    exact ⟨x, hx⟩
  have hnd : ys.Nodup := hys.imp (fun h e => by omega)
  have hp2 : ys.Perm (intKeys D) := by
    rw [hD]
    exact perm_intKeys hpw hint hnd (fun x => by rw [← hk x, ← hc.key x, hD])
  rw [mergeSort_of_perm_i (hp.trans hp2.symm)]
  exact List.mergeSort_of_pairwise (hys.imp (fun h => by simp only [leI, decide_eq_true_eq]; omega))

end Go.Proofs.Ytclnepijbnhdfaa
