/-
  Package registry: New, List, Log, Bind.
-/
import Derived.Test.YtcecicmihdcjgaaDoorPrm
namespace Go.Proofs.YtcecicmihdcjgaaDoor
open Go.RowKit

set_option maxRecDepth 100000 in
set_option maxHeartbeats 2000000 in
theorem p_new_any {w0 W : World} (hb : Below w0.heap.size w0 W) : Calls Tryd.prog 10 #[] W fun e w' => ∃ rv S, e = .returned rv ∧ R0 w0 w' rv [] S ∧ (∀ k, S k → W.heap.size ≤ k) ∧ Below W.heap.size W w' := by
  have J := Lib.hid ((Held.nil W).alloc (regC W.heap.size 0 (.slice none 0 0) (.slice none 0 0) (.slice none 0 0)) 60)
  have hz := hb.size
  have HB := Lib.hid hb
  clear hb
  go_enter Tryd.func10, Tryd.ntmps10
  go_wp2_with fail
  go_ret
  have hJ := J.out
  refine ⟨_, fun k => k = W.heap.size, rfl, ⟨W.heap.size, .slice none 0 0, .slice none 0 0, .slice none 0 0, [], rfl, rgOk_nil, ⟨hJ.cells, hJ.free, fun q hq => ⟨?_, hJ.there q hq⟩, hJ.nd, ownG_nil _ _, ownG_nil _ _, gsT_nil _ _, fun _ _ e => ?_, fun _ _ e => ?_, fun _ _ e => ?_, fun _ e => ?_, fun _ e => ?_, fun _ e => ?_⟩, fun k => ?_⟩, fun k e => Nat.le_of_eq e.symm, hJ.below⟩
  · have := hJ.own q hq
    omega
  all_goals first
    | cases e
    | simp [Value.ownBlock]

set_option maxRecDepth 100000 in
set_option maxHeartbeats 2000000 in
theorem p_list_any {w0 W : World} {rv : Value} {l : List Gl} {S : Nat → Prop} (R : R0 w0 W rv l S) (hl : l.length ≤ 1000) : Calls Tryd.prog 19 #[rv] W fun e w' => ∃ u, e = .returned u ∧ Gs w' u (listF l) ∧ Below W.heap.size W w' := by
  obtain ⟨p, va, vr, vl, M, rfl, hR, J, hz⟩ := R.enter
  obtain ⟨x0, x1, x2, x3, x4, xf, xl⟩ := (show RM W S _ W ([] ++ (p, _) :: []) _ _ _ _ _ _ from J).five
  have C := Lib.hid (p_created_own x4)
  have D := Lib.hid (p_clone_any J.rb.oa.gs (by have := List.length_filter_le (listP l) l; unfold listF; omega))
  obtain ⟨A, c, rfl, -, -⟩ := J.rb.oa.gs.shape
  generalize (listF l).length = n at *
  clear R J hR x0 x2 x3 x4
  go_enter Tryd.func19, Tryd.ntmps19
  go_wp2_with fail
  refine C.out.mono ?_
  rintro e w1 ⟨rfl, rfl⟩
  clear C
  go_wp2_with fail
  refine D.out.mono ?_
  rintro e w1 ⟨u, rfl, hu, hb⟩
  have HU := Lib.hid hu
  have HB := Lib.hid hb
  clear D hu hb
  go_wp2_with fail
  go_ret
  exact ⟨_, rfl, HU.out, HB.out⟩

set_option maxRecDepth 100000 in
set_option maxHeartbeats 2000000 in
theorem p_log_any {w0 W : World} {rv : Value} {l : List Gl} {S : Nat → Prop} (R : R0 w0 W rv l S) (hl : l.length ≤ 1000) : Calls Tryd.prog 21 #[rv] W fun e w' => ∃ u, e = .returned u ∧ Gs w' u l ∧ Below W.heap.size W w' := by
  obtain ⟨p, va, vr, vl, M, rfl, hR, J, hz⟩ := R.enter
  obtain ⟨x0, x1, x2, x3, x4, xf, xl⟩ := (show RM W S _ W ([] ++ (p, _) :: []) _ _ _ _ _ _ from J).five
  have C := Lib.hid (p_created_own x4)
  have D := Lib.hid (p_clone_any J.rb.ol.gs (by omega))
  obtain ⟨A, c, rfl, -, -⟩ := J.rb.ol.gs.shape
  generalize l.length = n at *
  clear R J hR x0 x1 x2 x4
  go_enter Tryd.func21, Tryd.ntmps21
  go_wp2_with fail
  refine C.out.mono ?_
  rintro e w1 ⟨rfl, rfl⟩
  clear C
  go_wp2_with fail
  refine D.out.mono ?_
  rintro e w1 ⟨u, rfl, hu, hb⟩
  have HU := Lib.hid hu
  have HB := Lib.hid hb
  clear D hu hb
  go_wp2_with fail
  go_ret
  exact ⟨_, rfl, HU.out, HB.out⟩

/-- what Bind answers over the global that it has found -/
def bindG (g : Gl) (s : ByteArray) (v : Int) : Int := if eqG g zeroG = true then 8 else if g.it ≠ s then 9 else if v < 1 ∨ g.vr < v then 11 else 0
theorem bindG_eq {l M : List Gl} (h : RgOk l M) (q : Nat) (s : ByteArray) (v : Int) : bindF l q s v = bindG (if eqG (fstF q (listF l)).1 zeroG = true then (fstF q (lastR M)).1 else (fstF q (listF l)).1) s v := by
  have e1 := found_ne h (q := q) (L := listF l) (fun r hr => List.mem_append_left _ hr)
  have e2 := found_ne h (q := q) (L := lastR M) (fun r hr => List.mem_append_right _ (lastR_sub M r hr))
  obtain ⟨f1, f2⟩ := fst_list h q
  unfold bindF
  rw [known_eq h q, e1, f1]
  cases hq : (annF l q).2 with
  | true =>
    have f3 := f2 hq
    rw [f3] at e1
    simp only [hq, Bool.not_true, if_true, Bool.false_eq_true, if_false, reduceCtorEq]
    rw [f3]
    unfold bindG
    rw [e1]
    simp
  | false =>
    simp only [Bool.not_false, if_true, Bool.false_eq_true, if_false]
    unfold bindG
    rw [e2]
    cases hf : (fstF q (lastR M)).2 <;> simp

set_option maxRecDepth 100000 in
theorem eq_glz (a : Gl) (w : World) : (binOp .eql 49 (glVal a) (.agg #[.int .u32 0, .string ⟨#[]⟩, .int .i64 0])).run Tryd.prog w = .ok (.bool (eqG a zeroG)) w := eq_gl a zeroG w

theorem bindG_zero {g : Gl} (h : eqG g zeroG = true) (s : ByteArray) (v : Int) : bindG g s v = 8 := by
  unfold bindG
  rw [if_pos h]
theorem bindG_it {g : Gl} (h : eqG g zeroG = false) {s : ByteArray} (hs : ¬ g.it = s) (v : Int) : bindG g s v = 9 := by
  unfold bindG
  rw [if_neg (by rw [h]; simp), if_pos hs]
theorem bindG_vr {g : Gl} (h : eqG g zeroG = false) (v : Int) : bindG g g.it v = if decide (1 ≤ v ∧ v ≤ g.vr) = true then 0 else 11 := by
  unfold bindG
  rw [if_neg (by rw [h]; simp), if_neg (by simp)]
  by_cases hc : 1 ≤ v ∧ v ≤ g.vr
  · rw [if_neg (by omega), if_pos (by simpa using hc)]
  · rw [if_pos (by omega), if_neg (by simpa using hc)]

set_option maxRecDepth 100000 in
set_option maxHeartbeats 4000000 in
theorem p_bind_any {w0 W : World} {rv : Value} {l : List Gl} {S : Nat → Prop} (R : R0 w0 W rv l S) (q : Nat) (s : ByteArray) (v : Int) :
    Calls Tryd.prog 16 #[rv, .int .u32 (q : Int), .string s, .int .i64 v] W fun e w' => e = .returned (.int .i64 (bindF l q s v)) ∧ Below W.heap.size W w' := by
  obtain ⟨p, va, vr, vl, M, rfl, hR, J, hz⟩ := R.enter
  rw [bindG_eq hR q s v]
  obtain ⟨x0, x1, x2, x3, x4, xf, xl⟩ := (show RM W S _ W ([] ++ (p, _) :: []) _ _ _ _ _ _ from J).five
  have C := Lib.hid (p_created_own x4)
  have D := Lib.hid (p_find_any J.rb.oa.gs q)
  have E := fun W' (hb : Below W.heap.size W W') => Lib.hid (p_find_any (J.rb.tr.gs.below hb) q)
  obtain ⟨A, c, rfl, -, -⟩ := J.rb.oa.gs.shape
  obtain ⟨A', c', rfl, -, -⟩ := J.rb.tr.gs.shape
  generalize (listF l).length = n at *
  generalize (lastR M).length = n' at *
  obtain ⟨g, hg⟩ : ∃ g, (fstF q (listF l)).1 = g := ⟨_, rfl⟩
  obtain ⟨g', hg'⟩ : ∃ g, (fstF q (lastR M)).1 = g := ⟨_, rfl⟩
  rw [hg] at D
  simp only [hg'] at E
  rw [hg, hg']
  obtain ⟨r, hr⟩ : ∃ r, bindG (if eqG g zeroG = true then g' else g) s v = r := ⟨_, rfl⟩
  rw [hr]
  clear R J hR hg hg' x0 x3 x4 hz xf
  go_enter Tryd.func16, Tryd.ntmps16
  go_wp2_with fail
  refine C.out.mono ?_
  rintro e w1 ⟨rfl, rfl⟩
  clear C
  go_wp2_with fail
  refine D.out.mono ?_
  rintro e w1 ⟨rfl, hb⟩
  have J := Lib.hid ((show Held W w1 [] from ⟨fun _ h => by simp at h, fun _ h => by simp at h, fun _ h => by simp at h, fun _ h => by simp at h, List.nodup_nil, hb⟩).alloc (glC g) 49)
  have x2' := (hb.cell (p := ⟨p, 2, none⟩) xl).trans x2
  have xl' := Nat.lt_of_lt_of_le xl hb.size
  obtain ⟨y0, y1, y2, yf, yl⟩ := (show Held W _ ([] ++ (w1.heap.size, _) :: []) from J.out).tri
  clear D hb x1 x2 xl
  cases hzg : eqG g zeroG with
  | true =>
    rw [hzg, if_pos rfl] at hr
    have Z0 := fun W => (by have h := eq_glz g W; rw [hzg] at h; exact h : (binOp .eql 49 (glVal g) (.agg #[.int .u32 0, .string ⟨#[]⟩, .int .i64 0])).run Tryd.prog W = .ok (.bool true) W)
    clear hzg
    go_wp2_with fail
    refine (E _ J.out.below).out.mono ?_
    rintro e w2 ⟨rfl, hb⟩
    have J1 := Lib.hid (J.out.step hb)
    clear E x2' xl' y0 y1 y2 yf yl Z0
    obtain ⟨y0, y1, y2, yf, yl⟩ := (show Held W w2 ([] ++ (w1.heap.size, _) :: []) from J1.out).tri
    replace J := Lib.hid ((show Held W w2 ([] ++ (w1.heap.size, glC g) :: []) from J1.out).set3 (.int .u32 (g'.nm : Int)) (.string g'.it) (.int .i64 g'.vr))
    unfold Go.Proofs.YtcecicmihdcjgaaDoor.set3 at J
    clear J1 hb
    cases hzt : eqG g' zeroG with
    | true =>
      rw [bindG_zero hzt] at hr
      subst hr
      have Z := fun W => (by have h := eq_glz g' W; rw [hzt] at h; exact h : (binOp .eql 49 (glVal g') (.agg #[.int .u32 0, .string ⟨#[]⟩, .int .i64 0])).run Tryd.prog W = .ok (.bool true) W)
      clear hzt
      go_wp2_with fail
      go_ret
      exact ⟨rfl, J.out.below⟩
    | false =>
      have Z := fun W => (by have h := eq_glz g' W; rw [hzt] at h; exact h : (binOp .eql 49 (glVal g') (.agg #[.int .u32 0, .string ⟨#[]⟩, .int .i64 0])).run Tryd.prog W = .ok (.bool false) W)
      by_cases hs : g'.it = s
      · subst hs
        rw [bindG_vr hzt v] at hr
        have e0 : (g'.it.toList == g'.it.toList) = true := by simp
        have K := Lib.hid (p_supp_any v g'.vr)
        obtain ⟨t, ht⟩ : ∃ t, decide (1 ≤ v ∧ v ≤ g'.vr) = t := ⟨_, rfl⟩
        rw [ht] at K hr
        clear ht hzt
        cases t with
        | true =>
          rw [if_pos rfl] at hr
          subst hr
          go_wp2_with fail
          refine (K.out _).mono ?_
          rintro e w3 ⟨rfl, rfl⟩
          go_wp2_with fail
          go_ret
          exact ⟨rfl, J.out.below⟩
        | false =>
          rw [if_neg (by simp)] at hr
          subst hr
          go_wp2_with fail
          refine (K.out _).mono ?_
          rintro e w3 ⟨rfl, rfl⟩
          go_wp2_with fail
          go_ret
          exact ⟨rfl, J.out.below⟩
      · rw [bindG_it hzt hs v] at hr
        subst hr
        have e0 := str_ne hs
        clear hzt hs
        go_wp2_with fail
        go_ret
        exact ⟨rfl, J.out.below⟩
  | false =>
    rw [hzg, if_neg (by simp)] at hr
    clear E x2' xl'
    have hzt := hzg
    clear hzg
    have Z := fun W => (by have h := eq_glz g W; rw [hzt] at h; exact h : (binOp .eql 49 (glVal g) (.agg #[.int .u32 0, .string ⟨#[]⟩, .int .i64 0])).run Tryd.prog W = .ok (.bool false) W)
    by_cases hs : g.it = s
    · subst hs
      rw [bindG_vr hzt v] at hr
      have e0 : (g.it.toList == g.it.toList) = true := by simp
      have K := Lib.hid (p_supp_any v g.vr)
      obtain ⟨t, ht⟩ : ∃ t, decide (1 ≤ v ∧ v ≤ g.vr) = t := ⟨_, rfl⟩
      rw [ht] at K hr
      clear ht hzt
      cases t with
      | true =>
        rw [if_pos rfl] at hr
        subst hr
        go_wp2_with fail
        refine (K.out _).mono ?_
        rintro e w3 ⟨rfl, rfl⟩
        go_wp2_with fail
        go_ret
        exact ⟨rfl, J.out.below⟩
      | false =>
        rw [if_neg (by simp)] at hr
        subst hr
        go_wp2_with fail
        refine (K.out _).mono ?_
        rintro e w3 ⟨rfl, rfl⟩
        go_wp2_with fail
        go_ret
        exact ⟨rfl, J.out.below⟩
    · rw [bindG_it hzt hs v] at hr
      subst hr
      have e0 := str_ne hs
      clear hzt hs
      go_wp2_with fail
      go_ret
      exact ⟨rfl, J.out.below⟩

end Go.Proofs.YtcecicmihdcjgaaDoor
