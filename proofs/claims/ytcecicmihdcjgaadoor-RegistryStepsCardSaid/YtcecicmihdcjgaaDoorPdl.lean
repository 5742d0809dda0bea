/-
  slices.DeleteFunc over an own row of globals, where the predicate holds of one of them.
-/
import Derived.Test.YtcecicmihdcjgaaDoorPcb
namespace Go.Proofs.YtcecicmihdcjgaaDoor
open Go.RowKit

theorem zero_gl (W : World) : (zeroValue 49).run Tryd.prog W = .ok (glVal zeroG) W := by
  obtain ⟨i, hi, hz, hsz, hby⟩ := infoI_parts gl_info
  simp [zeroValue, typeInfo, hi, hz, zeroG]
theorem set_glat {α : Type} (a b : List α) (k j : Nat) (u : α) (h : a.length = k) : (a ++ b).set (k + j) u = a ++ b.set j u := by
  subst h
  rw [List.set_append_right _ _ (by omega), Nat.add_sub_cancel_left]
theorem gflat_set : ∀ (l : List Gl) (i : Nat) (r : Gl), i < l.length → (((gflat l).set (i * 3) (.int .u32 (r.nm : Int))).set (i * 3 + 1) (.string r.it)).set (i * 3 + 2) (.int .i64 r.vr) = gflat (l.set i r)
  | [], i, r, h => by simp at h
  | q :: l, 0, r, h => rfl
  | q :: l, i + 1, r, h => by
    have ih := gflat_set l i r (by simpa using h)
    have e : ∀ (q : Gl) (l : List Gl), gflat (q :: l) = glC q ++ gflat l := fun _ _ => rfl
    rw [List.set_cons_succ, e, e, show (i + 1) * 3 = 3 + i * 3 by omega, show 3 + i * 3 + 1 = 3 + (i * 3 + 1) by omega, show 3 + i * 3 + 2 = 3 + (i * 3 + 2) by omega, set_glat _ _ 3 _ _ rfl, set_glat _ _ 3 _ _ rfl, set_glat _ _ 3 _ _ rfl, ih]
/-- a global written at an index of an own row -/
theorem ownG_set {w : World} {base b cap n : Nat} {L : List Gl} (h : OwnG w base (.slice (some ⟨b, 0, none⟩) n cap) L) (hn : L.length = n) {i : Nat} (hi : i < n) (r : Gl) :
    OwnG (((w.setCell ⟨b, i * 3, none⟩ (.int .u32 (r.nm : Int))).setCell ⟨b, i * 3 + 1, none⟩ (.string r.it)).setCell ⟨b, i * 3 + 2, none⟩ (.int .i64 r.vr)) base (.slice (some ⟨b, 0, none⟩) n cap) (L.set i r) := by
  subst hn
  have h1 := (World.ownsRow.stored h (i * 3) (.int .u32 (r.nm : Int))).1
  have h2 := (World.ownsRow.stored h1 (i * 3 + 1) (.string r.it)).1
  have h3 := (World.ownsRow.stored h2 (i * 3 + 2) (.int .i64 r.vr)).1
  rw [gflat_set L i r hi] at h3
  unfold OwnG
  rw [List.length_set]
  exact h3
theorem grown_setCell (w : World) (b i : Nat) (u : Value) : w.grownBy (w.setCell ⟨b, i, none⟩ u) (some b) :=
  ⟨rfl, rfl, rfl, by simp, fun k _ hk => heap_setCell_other w ⟨b, i, none⟩ k u (fun e => hk (by simp [e]))⟩
theorem grownBy_trans {w w1 w2 : World} {row : Option Nat} (h1 : w.grownBy w1 row) (h2 : w1.grownBy w2 row) : w.grownBy w2 row :=
  ⟨h2.os.trans h1.os, h2.tape.trans h1.tape, h2.output.trans h1.output, Nat.le_trans h1.size h2.size, fun k hk hne => (h2.block k (Nat.lt_of_lt_of_le hk h1.size) hne).trans (h1.block k hk hne)⟩
theorem grownBy_below {w w1 w2 : World} {row : Option Nat} (h1 : w.grownBy w1 row) (h2 : Below w1.heap.size w1 w2) : w.grownBy w2 row := grownBy_trans h1 (grown_below h2 row)
theorem oneCell_zero : ∀ u ∈ (glVal zeroG).cells.toList, u.oneCell' = true := by
  intro u hu
  simp [zeroG, Value.cells] at hu
  rcases hu with rfl | rfl | rfl <;> rfl
theorem clear_run {W : World} {base b cap n i : Nat} {L : List Gl} (h : OwnG W base (.slice (some ⟨b, 0, none⟩) n cap) L) (hn : L.length = n) (hi : i < n) :
    ∃ W', (∀ ty, (Builtin.clear_ #[26] ty #[.slice (some ⟨b, i * 3, none⟩) (n - i) (cap - i)]).run Tryd.prog W = .ok (.tuple #[]) W') ∧ W.grownBy W' (some b) ∧ OwnG W' base (.slice (some ⟨b, 0, none⟩) i cap) (L.take i) := by
  subst hn
  have hli : (L.take i).length = i := by rw [List.length_take]; omega
  rcases h.2 with ⟨h', _⟩ | ⟨g, cap', cur, hv, hb, hg, hnc, hcm, hcs, htake⟩
  · simp at h'
  simp only [Value.slice.injEq, Option.some.injEq, Addr.mk.injEq, and_true, true_and] at hv
  obtain ⟨rfl, rfl⟩ := hv
  obtain ⟨Z, hZ⟩ : ∃ Z, (Builtin.zeroCells (glVal zeroG).cells (L.length - i)).toList = Z := ⟨_, rfl⟩
  have hZl : Z.length = (L.length - i) * 3 := by
    rw [← hZ, Array.length_toList, size_zeroCells]
    rfl
  have hZ1 : ∀ u ∈ Z, u.oneCell' = true := by
    intro u hu
    rw [← hZ] at hu
    have hs : (glVal zeroG).cells.size = 3 := rfl
    simp only [Builtin.zeroCells, Array.toList_map, List.mem_map] at hu
    obtain ⟨k, -, rfl⟩ := hu
    refine oneCell_zero _ ?_
    rw [getElem!_pos _ _ (by rw [hs]; omega)]
    simp
  have hle : i * 3 + Z.length ≤ cur.size := by rw [hZl, hcs]; omega
  have hst := run_storeCells_at Tryd.prog b (i * 3) 49 Z 0 cur W hg (by simpa using hle) hZ1
  obtain ⟨Y, hY⟩ : ∃ Y, Y = (cur.toList.take (i * 3 + 0) ++ Z ++ cur.toList.drop (i * 3 + 0 + Z.length)).toArray := ⟨_, rfl⟩
  rw [← hY] at hst
  refine ⟨W.setRow b Y, fun ty => ?_, ⟨rfl, rfl, rfl, by simp, fun k _ hk => setRow_other W b k Y (fun e => hk (by rw [e]))⟩, ?_, .inr ⟨b, cap, Y, by rw [hli], hb, setRow_heap W b cur Y 49 (0, 0) hg, by omega, hcm, ?_, ?_⟩⟩
  · obtain ⟨m, hm⟩ : ∃ m, L.length - i = m + 1 := ⟨L.length - i - 1, by omega⟩
    rw [hm] at hZ ⊢
    have hZ2 : (Builtin.zeroCells (Value.agg #[Value.int IntKind.u32 0, Value.string ⟨#[]⟩, Value.int IntKind.i64 0]).cells (m + 1)).toList = Z := hZ
    have hz : ∀ W, (zeroValue 49).run Tryd.prog W = .ok (Value.agg #[Value.int IntKind.u32 0, Value.string ⟨#[]⟩, Value.int IntKind.i64 0]) W := zero_gl
    simp [Builtin.clear_, run_underlying Tryd.underlying26, hz, hZ2, hst]
  · rw [gflat_length]
  · rw [hY]
    simp
    omega
  · rw [hY, hli]
    simp only [Nat.add_zero]
    have hlt : (cur.toList.take (i * 3)).length = i * 3 := by rw [List.length_take, Array.length_toList]; omega
    rw [List.append_assoc, List.take_append_of_le_length (by omega), List.take_of_length_le (by omega)]
    have e1 : gflat (L.take i) = (gflat L).take (i * 3) := by
      have e2 : gflat L = gflat (L.take i) ++ gflat (L.drop i) := by rw [← gflat_append, List.take_append_drop]
      have e3 : (gflat (L.take i)).length = i * 3 := by rw [gflat_length, hli]
      rw [e2, List.take_left' e3]
    rw [e1, ← htake, List.take_take]
    congr 1
    omega

/-- what is kept of the first j globals -/
def keptG (p : Gl → Bool) (l : List Gl) (j : Nat) : List Gl := (l.take j).filter fun r => !p r
theorem keptG_succ {p : Gl → Bool} {l : List Gl} {j : Nat} {x : Gl} (h : l[j]? = some x) : keptG p l (j + 1) = keptG p l j ++ if p x = true then [] else [x] := by
  unfold keptG
  rw [List.take_add_one, h, List.filter_append]
  congr 1
  cases hp : p x <;> simp [hp]
/-- the row while it is gone through -/
def rowG (p : Gl → Bool) (l : List Gl) (j : Nat) : List Gl := keptG p l j ++ l.drop (keptG p l j).length
theorem keptG_le (p : Gl → Bool) (l : List Gl) (j : Nat) : (keptG p l j).length ≤ j := by
  unfold keptG
  have := List.length_filter_le (fun r => !p r) (l.take j)
  rw [List.length_take] at this
  omega
theorem keptG_le2 (p : Gl → Bool) (l : List Gl) (j : Nat) : (keptG p l j).length ≤ l.length := by
  unfold keptG
  have := List.length_filter_le (fun r => !p r) (l.take j)
  rw [List.length_take] at this
  omega
theorem rowG_len (p : Gl → Bool) (l : List Gl) (j : Nat) : (rowG p l j).length = l.length := by
  unfold rowG
  have := keptG_le2 p l j
  rw [List.length_append, List.length_drop]
  omega
theorem rowG_at {p : Gl → Bool} {l : List Gl} {j : Nat} {x : Gl} (h : l[j]? = some x) : (rowG p l j)[j]? = some x := by
  unfold rowG
  have := keptG_le p l j
  rw [List.getElem?_append_right this, List.getElem?_drop, show (keptG p l j).length + (j - (keptG p l j).length) = j by omega, h]
theorem rowG_skip {p : Gl → Bool} {l : List Gl} {j : Nat} {x : Gl} (h : l[j]? = some x) (hp : p x = true) : rowG p l (j + 1) = rowG p l j := by
  unfold rowG
  rw [keptG_succ h, if_pos hp, List.append_nil]
theorem rowG_keep {p : Gl → Bool} {l : List Gl} {j : Nat} {x : Gl} (h : l[j]? = some x) (hp : p x = false) : rowG p l (j + 1) = (rowG p l j).set (keptG p l j).length x := by
  have hj := (List.getElem?_eq_some_iff.1 h).1
  have hk := keptG_le p l j
  unfold rowG
  rw [keptG_succ h, if_neg (by simp [hp]), List.set_append_right _ _ (Nat.le_refl _), Nat.sub_self, List.drop_eq_getElem_cons (show (keptG p l j).length < l.length by omega), List.set_cons_zero, List.length_append, List.length_singleton, List.append_assoc, List.singleton_append]
theorem rowG_zero {p : Gl → Bool} {l : List Gl} {k : Nat} {x : Gl} (hx : l[k]? = some x) (hp : p x = true) (h : ∀ r ∈ l.take k, p r = false) : keptG p l (k + 1) = l.take k ∧ rowG p l (k + 1) = l := by
  have hk := (List.getElem?_eq_some_iff.1 hx).1
  have e : keptG p l (k + 1) = l.take k := by
    rw [keptG_succ hx, if_pos hp, List.append_nil]
    unfold keptG
    exact List.filter_eq_self.2 (fun r hr => by simp [h r hr])
  refine ⟨e, ?_⟩
  unfold rowG
  rw [e, List.length_take, Nat.min_eq_left (by omega), List.take_append_drop]

theorem ownG_at {W : World} {base b cap n : Nat} {L : List Gl} (h : OwnG W base (.slice (some ⟨b, 0, none⟩) n cap) L) {j : Nat} {x : Gl} (hx : L[j]? = some x) :
    b < W.heap.size ∧ GlAt W b (j * 3) x ∧ ∀ i, W.frozen? ⟨b, i, none⟩ = false := by
  have hn : n = L.length := by
    rcases h.2 with ⟨h', _⟩ | ⟨g, cap', cur, hv, _⟩
    · simp at h'
    · injection hv
  subst hn
  obtain ⟨b1, o1, e, hb, hc⟩ := gs_at h.gs (Below.refl _ _) hx
  simp only [Option.some.injEq, Addr.mk.injEq, and_true] at e
  obtain ⟨rfl, rfl⟩ := e
  rw [Nat.zero_add] at hc
  exact ⟨hb, hc, World.ownsRow.frozenAt h⟩

set_option maxRecDepth 100000 in
set_option maxHeartbeats 4000000 in
theorem p_delete_any {w : World} {base b cap : Nat} {l : List Gl} (h : OwnG w base (.slice (some ⟨b, 0, none⟩) l.length cap) l) (g : Nat) (lb : Value) (p : Gl → Bool)
    (C : ∀ W, w.grownBy W (some b) → ∀ x ∈ l, Calls Tryd.prog g #[glVal x, lb] W (SaysB (p x) W)) (eg : ∀ args w, (callFunc g args).run Tryd.prog w = .ok (.enter g args) w) (hex : ∃ r ∈ l, p r = true) :
    Calls Tryd.prog 34 #[.slice (some ⟨b, 0, none⟩) l.length cap, .func (.func g) #[] #[lb]] w fun e w' => e = .returned (.slice (some ⟨b, 0, none⟩) (keptG p l l.length).length cap) ∧ OwnG w' base (.slice (some ⟨b, 0, none⟩) (keptG p l l.length).length cap) (keptG p l l.length) ∧ w.grownBy w' (some b) := by
  have I := Lib.hid (p_index_any h.gs g lb p (fun W hb x hx => C W (grown_below hb _) x hx) eg)
  have HC := Lib.hid C
  obtain ⟨k, hk, hik, hkp, hrow⟩ : ∃ k : Nat, k < l.length ∧ idxG p l 0 = (k : Int) ∧ (keptG p l (k + 1)).length = k ∧ rowG p l (k + 1) = l := by
    rcases idxG_any p l 0 with ⟨e, ha⟩ | ⟨k, x, hx, e, ht, ha⟩
    · obtain ⟨r, hr, hp⟩ := hex
      rw [ha r hr] at hp
      cases hp
    · obtain ⟨h1, h2⟩ := rowG_zero hx ht ha
      have hkl := (List.getElem?_eq_some_iff.1 hx).1
      exact ⟨k, hkl, by rw [e]; congr 1; omega, by rw [h1, List.length_take]; omega, h2⟩
  rw [hik] at I
  obtain ⟨A, cap', hv, hcap, hm⟩ := h.gs.shape
  injection hv with e1 _ e3
  subst e1 e3
  simp only [maxLen] at hm
  have HO0 := Lib.hid h
  have HL : Hid (∀ j, j < l.length → ∃ x, l[j]? = some x) := Lib.hid (fun j hj => ⟨_, List.getElem?_eq_getElem hj⟩)
  have HLe : Hid (∀ j, (keptG p l j).length ≤ l.length) := Lib.hid (fun j => keptG_le2 p l j)
  have HR : Hid (∀ j, (rowG p l j).length = l.length) := Lib.hid (fun j => rowG_len p l j)
  rw [← hrow] at HO0
  obtain ⟨n, hn⟩ : ∃ n, l.length = n := ⟨_, rfl⟩
  have HN := Lib.hid hn
  rw [hn] at hk hcap HL HLe HR I ⊢
  rw [rowG_len, hn] at HO0
  have HI0 := Lib.hid hkp
  have HG0 := Lib.hid (World.grownBy.refl w (some b))
  have e0 : ((k : Int) == -1) = false := beq_eq_false_iff_ne.2 (by omega)
  clear h C hex hik hkp hrow hn
  go_enter Tryd.func34, Tryd.ntmps34
  go_wp2_with fail
  refine I.out.mono ?_
  rintro e w1 ⟨rfl, hb1⟩
  have HO1 := Lib.hid (HO0.out.below hb1)
  have HG1 := Lib.hid (grownBy_below HG0.out hb1)
  clear I hb1 HO0 HG0
  go_wp2_with fail
  go_loopw [5, 6] (fun s5 s6 wr => ∃ i j : Nat, i < j ∧ j ≤ n ∧ s5 = .int .i64 (i : Int) ∧ s6 = .int .i64 (j : Int) ∧ Hid ((keptG p l j).length = i) ∧ Hid (OwnG wr base (.slice (some ⟨b, 0, none⟩) n cap) (rowG p l j)) ∧ Hid (w.grownBy wr (some b))) (fun _ s6 _ => leftN n s6)
  case atStart => exact ⟨k, k + 1, by omega, by omega, rfl, by go_num, HI0, HO1, HG1⟩
  case round =>
    clear HO1 HG1 HI0 e0
    obtain ⟨i, j, hij, hj, rfl, rfl, HI, HO, HG⟩ := hrel
    by_cases hlt : j < n
    · have q0 : (0 : Int) ≤ j := by omega
      have q1 : (j : Int) < n := by omega
      have q2 : (0 : Int) ≤ i := by omega
      have q3 : (i : Int) < n := by omega
      obtain ⟨x, hx⟩ := HL.out j hlt
      obtain ⟨hbl, ⟨c0, c1, c2⟩, hfz⟩ := ownG_at HO.out (rowG_at (p := p) hx)
      have D := Lib.hid (fun (W : World) (hg : w.grownBy W (some b)) => HC.out W hg x (List.mem_of_getElem? hx))
      have hal := Lib.hid (World.grownBy_alloc wr (.cells #[.int .u32 (x.nm : Int), .string x.it, .int .i64 x.vr] 49) (some b))
      have HO1 := Lib.hid (HO.out.below (Below.alloc (Below.refl _ _) (Nat.le_refl _) (.cells #[.int .u32 (x.nm : Int), .string x.it, .int .i64 x.vr] 49)))
      have HB1 := Lib.hid ((Held.nil wr).alloc [.int .u32 (x.nm : Int), .string x.it, .int .i64 x.vr] 49)
      have DD := D.out _ (grownBy_trans HG.out hal.out)
      have hs := keptG_succ (p := p) hx
      have hr1 := rowG_skip (p := p) hx
      have hr2 := rowG_keep (p := p) hx
      obtain ⟨t, ht⟩ : ∃ t, p x = t := ⟨_, rfl⟩
      rw [ht] at DD hs hr1 hr2
      have HD := Lib.hid DD
      clear D DD hx ht
      go_wp2_with fail
      refine HD.out.mono ?_
      rintro e w2 ⟨rfl, hb2⟩
      have HG2 := Lib.hid (grownBy_below (grownBy_trans HG.out hal.out) hb2)
      have HO2 := Lib.hid (HO1.out.below hb2)
      have HB2 := Lib.hid (HB1.out.step hb2)
      clear HD hal HO1 HB1 c0 c1 c2 hfz
      cases t with
      | true =>
        rw [if_pos rfl, List.append_nil] at hs
        have HI2 : Hid ((keptG p l (j + 1)).length = i) := Lib.hid (by rw [hs]; exact HI.out)
        have HO3 : Hid (OwnG w2 base (.slice (some ⟨b, 0, none⟩) n cap) (rowG p l (j + 1))) := Lib.hid (by rw [hr1 rfl]; exact HO2.out)
        clear hs hr1 hr2
        go_wp2_with fail
        go_roundw
        case rel => exact ⟨i, j + 1, by omega, by omega, rfl, by go_num, HI2, HO3, HG2⟩
        case measure =>
          unfold leftN
          simp [intOf]
          omega
      | false =>
        rw [if_neg (by simp)] at hs
        have HI2 : Hid ((keptG p l (j + 1)).length = i + 1) := Lib.hid (by rw [hs, List.length_append, HI.out]; rfl)
        have hr3 := hr2 rfl
        rw [HI.out] at hr3
        obtain ⟨x0, x1, x2, xf, xl⟩ := (show Held wr w2 ([] ++ (wr.heap.size, _) :: []) from HB2.out).tri
        obtain ⟨y, hy⟩ : ∃ y, (rowG p l j)[i]? = some y := ⟨_, List.getElem?_eq_getElem (by rw [HR.out]; omega)⟩
        obtain ⟨hbl2, ⟨c0, c1, c2⟩, hfz⟩ := ownG_at HO2.out hy
        have HO3 := Lib.hid (ownG_set HO2.out (by rw [HR.out]) (show i < n by omega) x)
        rw [← hr3] at HO3
        have HG3 := Lib.hid (grownBy_trans (grownBy_trans (grownBy_trans HG2.out (grown_setCell _ b (i * 3) (.int .u32 (x.nm : Int)))) (grown_setCell _ b (i * 3 + 1) (.string x.it))) (grown_setCell _ b (i * 3 + 2) (.int .i64 x.vr)))
        clear hs hr1 hr2 hr3 hy
        go_wp2_with fail
        go_roundw
        case rel => exact ⟨i + 1, j + 1, by omega, by omega, by go_num, by go_num, HI2, HO3, HG3⟩
        case measure =>
          unfold leftN
          simp [intOf]
          omega
    · obtain rfl : n = j := by omega
      have hin := HI.out
      have q2 : (0 : Int) ≤ i := by omega
      have hlen : (rowG p l n).length = n := HR.out n
      obtain ⟨w3, hcl, hg3, ho3⟩ := clear_run HO.out hlen hij
      have HG3 := Lib.hid (grownBy_trans HG.out hg3)
      have HK : Hid ((rowG p l n).take i = keptG p l n) := Lib.hid (by
        unfold rowG
        rw [List.take_left' hin])
      have HO3 := Lib.hid ho3
      clear ho3 hg3 hlen
      rw [HK.out] at HO3
      clear hin
      go_wp2_with fail
      go_ret
      rw [HI.out]
      exact ⟨rfl, HO3.out, HG3.out⟩

end Go.Proofs.YtcecicmihdcjgaaDoor
