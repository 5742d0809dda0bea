/-
  Boxes held beside a row of globals of one's own.
-/
import Derived.Test.YtcecicmihdcjgaaDoorRga
namespace Go.Proofs.YtcecicmihdcjgaaDoor
open Go.RowKit

structure HG (w W : World) (bx : List (Nat × List Value)) (v : Value) (l : List Gl) : Prop where
  held : Held w W bx
  own : OwnG W w.heap.size v l
  ne : ∀ q ∈ bx, v.ownBlock ≠ some q.1
section
variable {w W W' : World} {bx : List (Nat × List Value)} {v : Value} {l : List Gl}
theorem HG.step (h : HG w W bx v l) (hb : Below W.heap.size W W') : HG w W' bx v l := ⟨h.held.step hb, h.own.below hb, h.ne⟩
theorem HG.drew (h : HG w W bx v l) : HG w W.drew bx v l := h.step (Below.refl _ _).drew
theorem HG.made (h : HG w W bx v l) (o : Obj) : HG w (W.alloc o) bx v l := h.step ((Below.refl _ _).alloc (Nat.le_refl _) o)
theorem HG.alloc (h : HG w W bx v l) (vs : List Value) (t : TypeId) : HG w (W.alloc (.cells vs.toArray t)) ((W.heap.size, vs) :: bx) v l := by
  refine ⟨h.held.alloc vs t, (h.made (.cells vs.toArray t)).own, fun q hq e => ?_⟩
  rcases List.mem_cons.1 hq with rfl | hq
  · have := (h.own.block _ e).2
    dsimp only at this
    omega
  · exact h.ne q hq e
theorem HG.sub (h : HG w W bx v l) {by' : List (Nat × List Value)} (hs : by'.Sublist bx) : HG w W by' v l := ⟨h.held.sub hs, h.own, fun q hq => h.ne q (hs.subset hq)⟩
theorem HG.cell {l1 l2 : List (Nat × List Value)} {k : Nat} {vs : List Value} (h : HG w W (l1 ++ (k, vs) :: l2) v l) {i : Nat} (hi : i < vs.length) (u : Value) :
    HG w (W.setCell ⟨k, i, none⟩ u) (l1 ++ (k, vs.set i u) :: l2) v l := by
  have hk := h.ne (k, vs) (by simp)
  have hg : W.grownBy (W.setCell ⟨k, i, none⟩ u) (some k) := ⟨rfl, rfl, rfl, by simp [World.setCell], fun j _ hne => Below.heap_setCell W ⟨k, i, none⟩ u j (fun e => hne (by rw [e]))⟩
  refine ⟨h.held.cell hi u, World.ownsRow.kept h.own hg (.inr hk), fun q hq => ?_⟩
  rcases List.mem_append.1 hq with hq | hq
  · exact h.ne q (by simp [hq])
  · rcases List.mem_cons.1 hq with rfl | hq
    · exact hk
    · exact h.ne q (by simp [hq])
/-- globals were appended -/
theorem HG.app (h : HG w W bx v l) {v' : Value} {m : List Gl} (ho : OwnG W' w.heap.size v' m) (hg : W.grownBy W' v.ownBlock) (hw : v'.ownBlock = v.ownBlock ∨ v'.ownBlock = some W.heap.size) : HG w W' bx v' m := by
  refine ⟨?_, ho, fun q hq e => ?_⟩
  · cases hv : v.ownBlock with
    | none =>
      rw [hv] at hg
      exact h.held.step ⟨hg.os, hg.tape, hg.output, hg.size, fun k hk => hg.block k hk (by simp)⟩
    | some g =>
      rw [hv] at hg
      exact h.held.grown hg (h.own.block g hv).1 (fun q hq e => h.ne q hq (by rw [hv, e]))
  · rcases hw with e2 | e2
    · exact h.ne q hq (e2.symm.trans e)
    · have := h.held.there q hq
      rw [e2] at e
      injection e with e
      omega
theorem Held.hg (h : Held w W bx) : HG w W bx (.slice none 0 0) [] := ⟨h, ownG_nil _ _, fun _ _ e => by cases e⟩
end

theorem OwnG.set {w : World} {base : Nat} {v : Value} {l : List Gl} (h : OwnG w base v l) {k : Nat} (hk : k < base) (i : Nat) (u : Value) : OwnG (w.setCell ⟨k, i, none⟩ u) base v l :=
  World.ownsRow.kept (row := some k) h ⟨rfl, rfl, rfl, by simp [World.setCell], fun j _ hne => Below.heap_setCell w ⟨k, i, none⟩ u j (fun e => hne (by rw [e]))⟩ (by
    cases hv : v.ownBlock with
    | none => exact .inl rfl
    | some g => exact .inr (fun e => by have := (h.block g hv).1; injection e with e; omega))
theorem below_none {w w' : World} (hg : w.grownBy w' none) : Below w.heap.size w w' := ⟨hg.os, hg.tape, hg.output, hg.size, fun k hk => hg.block k hk (by simp)⟩
/-- what the walk of with reads -/
abbrev withS (k : Nat) (v : Value) (g : Gl) (W : World) : Prop :=
  W.cell? ⟨k, 0, none⟩ = some v ∧ (W.cell? ⟨k + 1, 0, none⟩ = some (.int .u32 (g.nm : Int)) ∧ W.cell? ⟨k + 1, 1, none⟩ = some (.string g.it) ∧ W.cell? ⟨k + 1, 2, none⟩ = some (.int .i64 g.vr))
theorem with_sk {w W : World} {k : Nat} {v u : Value} {g : Gl} {l : List Gl} (h : HG w W [(k + 1 + 1, [.slice none 0 0]), (k + 1, glC g), (k, [v])] u l) : withS k v g W := by
  obtain ⟨x0, x1, x2, -, -⟩ := (show Held w W ([_] ++ (k + 1, _) :: [_]) from h.held).tri
  exact ⟨(show Held w W ([_, _] ++ (k, _) :: []) from h.held).one.1, ⟨x0, x1, x2⟩⟩

set_option maxRecDepth 100000 in
set_option maxHeartbeats 4000000 in
theorem with_any {w : World} {v : Value} {l : List Gl} (h : Gs w v l) (g : Gl) (hl : l.length ≤ 1000000) :
    Calls Tryd.prog 32 #[.agg #[v], glVal g] w fun e w' => ∃ u, e = .returned (.agg #[u]) ∧ OwnG w' w.heap.size u (l ++ [g]) ∧ Below w.heap.size w w' := by
  have HA := Lib.hid h
  obtain ⟨A, c, rfl, hc, hm⟩ := h.shape
  simp only [maxLen] at hm
  have J1 := ((((Held.nil w).alloc [.slice A l.length c] 28).alloc [.int .u32 (g.nm : Int), .string g.it, .int .i64 g.vr] 49).alloc [.slice none 0 0] 28).hg
  simp only [World.size_alloc] at J1
  have J := Lib.hid J1
  obtain ⟨n, hn⟩ : ∃ n, l.length = n := ⟨_, rfl⟩
  have HL : Hid (l.length ≤ 1000000) := Lib.hid hl
  rw [hn] at hc HA J ⊢
  clear h hn hl J1
  go_enter Tryd.func32, Tryd.ntmps32
  go_wp2_with fail
  generalize ((w.alloc (.cells #[.slice A n c] 28)).alloc (.cells #[.int .u32 (g.nm : Int), .string g.it, .int .i64 g.vr] 49)).alloc (.cells #[.slice none 0 0] 28) = w1 at *
  have J0 := J
  replace J := Lib.hid J.out.drew
  have HAJ := Lib.hid (HA.out.below J.out.held.below)
  have sk := with_sk J.out
  have ne0 : ¬ w.heap.size + 1 + 1 = w.heap.size := by omega
  have ne1 : ¬ w.heap.size + 2 = w.heap.size := by omega
  go_region_held3 (fun W => W.cell? ⟨w.heap.size, 0, none⟩ = some (.slice A n c) ∧ (W.cell? ⟨w.heap.size + 1, 0, none⟩ = some (.int .u32 (g.nm : Int)) ∧ W.cell? ⟨w.heap.size + 1, 1, none⟩ = some (.string g.it) ∧ W.cell? ⟨w.heap.size + 1, 2, none⟩ = some (.int .i64 g.vr)))
    (first
      | exact sk
      | exact with_sk (J0.out.made _).drew
      | go_keep)
    (first
      | (refine step_appG (by rfl) _ _ (by rfl) (base := w.heap.size) (l := []) (m := l) (by rfl) (by exact J.out.own) (by rfl) (by exact HAJ.out) (by have := HL.out; simp; omega) (by exact J.out.held.below.size) ?_; intro v5 w5 ho5 hg5 hw5; rw [List.nil_append] at ho5; replace J := Lib.hid (J.out.app ho5 hg5 hw5); clear sk ho5 hg5 hw5 HAJ; have sk := with_sk J.out)
      | (refine step_appG (by rfl) _ _ (by rfl) (base := w.heap.size) (l := []) (m := l) (by rfl) (by exact (J0.out.made _).drew.own) (by rfl) (by exact HA.out.below (J0.out.made _).drew.held.below) (by have := HL.out; simp; omega) (by exact (J0.out.made _).drew.held.below.size) ?_; intro v5 w5 ho5 hg5 hw5; rw [List.nil_append] at ho5; have G1 := Lib.hid (((gs_one w1 g).below ((Below.refl _ _).drew)).below (below_none hg5)); replace J := Lib.hid ((J0.out.made _).drew.app ho5 hg5 hw5); clear sk ho5 hg5 hw5 HAJ; have sk := with_sk J.out)
      | (refine step_appG (by rfl) _ _ (by rfl) (base := w.heap.size) (l := l) (m := [g]) (by rfl) (by exact J.out.own) (by rfl) (by exact G1.out) (by have := HL.out; simp; omega) (by exact J.out.held.below.size) ?_; intro v6 w6 ho6 hg6 hw6; replace J := Lib.hid (J.out.app ho6 hg6 hw6); obtain ⟨A6, c6, rfl, _, _⟩ := ho6.gs.shape; clear sk ho6 hg6 hw6; have sk := with_sk J.out; have fz := (show Held w w6 ([] ++ (w.heap.size + 1 + 1, _) :: [_, _]) from J.out.held).one.2.1 0; have fc := (show Held w w6 ([] ++ (w.heap.size + 1 + 1, _) :: [_, _]) from J.out.held).one.1)
      | (refine step_appG (by rfl) _ _ (by rfl) (base := w.heap.size) (l := l) (m := [g]) (by rfl) (by exact (J.out.made _).own) (by rfl) (by exact gs_one _ g) (by have := HL.out; simp; omega) (by exact (J.out.made _).held.below.size) ?_; intro v6 w6 ho6 hg6 hw6; replace J := Lib.hid ((J.out.made _).app ho6 hg6 hw6); obtain ⟨A6, c6, rfl, _, _⟩ := ho6.gs.shape; clear sk ho6 hg6 hw6; have sk := with_sk J.out; have fz := (show Held w w6 ([] ++ (w.heap.size + 1 + 1, _) :: [_, _]) from J.out.held).one.2.1 0; have fc := (show Held w w6 ([] ++ (w.heap.size + 1 + 1, _) :: [_, _]) from J.out.held).one.1)
      | fail)
  all_goals
    have K := (show HG w w6 ([] ++ (w.heap.size + 1 + 1, [.slice none 0 0]) :: [_, _]) _ _ from J.out).cell (i := 0) (by simp) (.slice A6 (l.length + 1) c6)
    have x0 := (show Held w _ ([] ++ (w.heap.size + 1 + 1, [.slice A6 (l.length + 1) c6]) :: [_, _]) from K.held).one.1
    have HG2 := Lib.hid K.own
    have HB2 := Lib.hid K.held.below
    rw [show (l ++ [g]).length = l.length + 1 by simp] at HG2
    clear K J J0 sk fz fc
    go_wp2_with fail
    exact bodyPost_ret (v := .agg #[.slice A6 (l.length + 1) c6]) (by simp [results, Tryd.results32, go_sem, x0]) rfl ⟨_, rfl, HG2.out, HB2.out⟩

end Go.Proofs.YtcecicmihdcjgaaDoor
