/-
  Clone of package slices at pixels, clone of the laws: rows of one's own with the pixels of a slice.
-/
import Derived.Test.YtahhcklkcibgoaaLine
import Derived.Deep.RegionLaw
namespace Go.Proofs.Ytahhcklkcibgoaa
open Go.RowKit

/-- the value is a row of one's own, made since w, with the pixels l -/
def RowOf (w w' : World) (v : Value) (l : List Px) : Prop := ∃ g c, v = .slice (some ⟨g, 0, none⟩) l.length c ∧ l.length ≤ c ∧ c ≤ maxLen ∧ w.heap.size ≤ g ∧ RowP w' g l

theorem RowOf.pxs {w w' : World} {v : Value} {l : List Px} (h : RowOf w w' v l) : Pxs w' v l := by
  obtain ⟨g, c, rfl, h1, h2, _, h3⟩ := h
  exact h3.pxs h1 h2

theorem ownP_empty (w : World) {base : Nat} (hb : base ≤ w.heap.size) : OwnP (w.alloc (.cells #[] 30)) base (.slice (some ⟨w.heap.size, 0, none⟩) 0 0) [] :=
  World.ownsRow_made w #[] 0 hb (Nat.zero_le _) rfl

theorem eql_nil (a : Addr) (n c : Nat) (w : World) : (binOp .eql 22 (.slice (some a) n c) (.slice none 0 0)).run Try.prog w = .ok (.bool false) w := by
  have h : ∀ d : Nat, (Op.equalIn (d + 3) 22 (.slice (some a) n c) (.slice none 0 0)).run Try.prog w = .ok false w := fun d => by
    simp [Op.equalIn, run_underlying Try.underlying22, go_sem]
  simp only [binOp]
  simp [Op.equal, Op.maxDepth, h 9997]

set_option maxRecDepth 100000 in
set_option maxHeartbeats 4000000 in
theorem sclone_any {w : World} {v : Value} {l : List Px} (h : Pxs w v l) (h0 : 0 < l.length) (hn : l.length ≤ 65536) : Calls Try.prog 71 #[v] w fun e w' => ∃ u, e = .returned u ∧ RowOf w w' u l ∧ Below w.heap.size w w' := by
  have HU := Lib.hid h
  obtain ⟨A, c, rfl, hc, hm, hcell⟩ := h
  obtain ⟨b, off, rfl, hb, hcs⟩ := hcell h0
  clear hcs
  have HL := Lib.hid h0
  obtain ⟨n, hn2⟩ : ∃ n, l.length = n := ⟨_, rfl⟩
  rw [hn2] at hc HU hn ⊢
  have HN := Lib.hid hn2
  clear h0 hn2
  have hne := eql_nil ⟨b, off, none⟩ n c w
  go_enter Try.func71, Try.ntmps71
  go_wp2_with (at_builtin; refine wpList_appP rfl _ _ rfl (base := w.heap.size) (l := []) (m := l) rfl (ownP_empty w (Nat.le_refl _)) rfl (HU.out.below ((Below.refl _ _).alloc (Nat.le_refl _) _)) (by have := HN.out; simp; omega) (by simp) ?_; intro v6 w6 ho6 hg6 _)
  go_ret
  rw [List.nil_append] at ho6
  obtain ⟨g, c2, hv, h1, h2, h3, h4⟩ := ho6.rowP HL.out
  refine ⟨_, rfl, ⟨g, c2, hv, h1, h2, h3, h4⟩, below_grownP ((Below.refl w.heap.size w).alloc (Nat.le_refl _) _) (by simp) (ownP_empty w (Nat.le_refl _)) hg6⟩

/-- append onto a row of one's own, as one step of a region that draws its order -/
theorem step_appP {ops : Array Oper} {o : Oper} {a : Act} {w : World} {K : Act → World → Prop} {Q : Exit → Act → World → Prop} {E : Prop} (hgd : o.guard = none) (s x : Operand)
    (ho : o.op = .call { callee := .builtin .append, args := #[s, x], argTypes := #[22, 22] })
    {base : Nat} {v : Value} {l m : List Px} (hs : a.eval s = v) (hown : OwnP w base v l) {A : Option Addr} {k c : Nat} (hx : a.eval x = .slice A k c) (hsee : Pxs w (.slice A k c) m)
    (hb : l.length + m.length ≤ 4000000) (hbase : base ≤ w.heap.size)
    (h : ∀ v' w', OwnP w' base v' (l ++ m) → w.grownBy w' v.ownBlock → (v'.ownBlock = v.ownBlock ∨ v'.ownBlock = some w.heap.size) → K (a.put o.dst v') w') :
    if Region.wanted o (yielded ops a.tmps) = true then Oper.wp Try.prog o a w K Q else E := by
  have hw : Region.wanted o (yielded ops a.tmps) = true := by simp [Region.wanted, hgd]
  rw [if_pos hw]
  obtain ⟨v', w', hrun, h2, h3, h4⟩ := appendP_run hown hsee hb hbase o.type
  unfold Oper.wp execOp
  simp only [ho, resolve, invoke, builtin, Sem.run_bind, Sem.run_pure, Result.andThen_ok, List.map_toArray, List.map_cons, List.map_nil, hs, hx, hrun]
  exact h v' w' h2 h3 h4

theorem Pxs.len {w : World} {A : Option Addr} {n c : Nat} {l : List Px} (h : Pxs w (.slice A n c) l) : n = l.length := by
  obtain ⟨A', c', hv, _⟩ := h
  injection hv

/-- a box below the row's base written -/
theorem OwnP.set3 {w : World} {base : Nat} {v : Value} {l : List Px} (h : OwnP w base v l) {k : Nat} (hk : k < base) (y0 y1 y2 : Value) : OwnP (set3 w k y0 y1 y2) base v l :=
  ownsRow_setCell_below (ownsRow_setCell_below (ownsRow_setCell_below h (a := ⟨k, 0, none⟩) hk y0) (a := ⟨k, 1, none⟩) hk y1) (a := ⟨k, 2, none⟩) hk y2

theorem Held.three {w W : World} {l1 l2 : List (Nat × List Value)} {k : Nat} {x0 x1 x2 : Value} (h : Held w W (l1 ++ (k, [x0, x1, x2]) :: l2)) : W.cell? ⟨k, 0, none⟩ = some x0 ∧ W.cell? ⟨k, 1, none⟩ = some x1 ∧ W.cell? ⟨k, 2, none⟩ = some x2 := by
  obtain ⟨a0, a1, a2, _, _⟩ := h.tri
  exact ⟨a0, a1, a2⟩

/-- a buffer's value with these pixels, nothing that was there has turned -/
def GivesB (a b : Int) (l : List Px) (w : World) (e : Ending) (w' : World) : Prop := ∃ v, e = .returned (.agg #[.int .i64 a, .int .i64 b, v]) ∧ Pxs w' v l ∧ Below w.heap.size w w'

set_option maxRecDepth 100000 in
set_option maxHeartbeats 4000000 in
theorem lclone_any (a b : Int) {w : World} {v : Value} {l : List Px} (h : Pxs w v l) (hn : l.length ≤ 65536) : Calls Try.prog 30 #[.agg #[.int .i64 a, .int .i64 b, v]] w (GivesB a b l w) := by
  have HU := Lib.hid h
  obtain ⟨A, c, rfl, _, _⟩ := h.shape
  have HN := Lib.hid hn
  have J := Lib.hid (heldB w a b (.slice A l.length c) 0 0 (.slice none 0 0))
  unfold WB at J
  unfold GivesB
  generalize l.length = n at *
  clear h hn
  go_enter Try.func30, Try.ntmps30
  go_wp2_with fail
  generalize (w.alloc (.cells #[.int .i64 a, .int .i64 b, .slice A n c] 24)).alloc (.cells #[.int .i64 0, .int .i64 0, .slice none 0 0] 24) = W1 at *
  have hsz : w.heap.size ≤ W1.heap.size := J.out.below.size
  have JE := Lib.hid (J.out.made (.cells #[] 30)).drew
  have OE := Lib.hid (ownP_empty W1 (Nat.le_refl _))
  have UE := Lib.hid (HU.out.below JE.out.below)
  have sk := J.out.drew.three (l1 := [_])
  have se := JE.out.three (l1 := [_])
  go_region_held3 (fun W => W.cell? ⟨w.heap.size, 0, none⟩ = some (.int .i64 a) ∧ W.cell? ⟨w.heap.size, 1, none⟩ = some (.int .i64 b) ∧ W.cell? ⟨w.heap.size, 2, none⟩ = some (.slice A n c))
    (first
      | with_reducible exact sk
      | with_reducible exact se
      | exact s6
      | exact s7.out
      | go_keep)
    (first
      | (refine step_appP (by rfl) _ _ (by rfl) (base := W1.heap.size) (l := []) (m := l) (by rfl) (by exact OE.out) (by rfl) (by exact UE.out) (by have := HN.out; have := HU.out.len; simp; omega) (by simp) ?_; intro v6 w6 ho6 hg6 _; rw [List.nil_append] at ho6; have P6 := Lib.hid ho6; obtain ⟨A6, c6, rfl, _, _⟩ := ho6.pxs.shape; rw [← HU.out.len] at P6; rw [← HU.out.len]; clear ho6; have J6 := Lib.hid (JE.out.grown (g := W1.heap.size) hg6 hsz (J.out.apart (Nat.le_refl _))); obtain ⟨z0, z1, z2, zf, zt⟩ := J6.out.tri (l1 := []); have s6 := J6.out.three (l1 := [_]); have s7 := Lib.hid ((J6.out.set3 (l1 := []) (.int .i64 a) (.int .i64 b) (.slice A6 n c6)).three (l1 := [_])))
      | fail)
  all_goals
    clear sk se s6 s7 OE UE
    have K := Lib.hid (below_set3 (y0 := .int .i64 a) (y1 := .int .i64 b) (y2 := .slice A6 n c6) J6.out.below (Nat.le_succ w.heap.size))
    have P := Lib.hid (P6.out.set3 (k := w.heap.size + 1) (J.out.tri (l1 := [])).2.2.2.2 (.int .i64 a) (.int .i64 b) (.slice A6 n c6)).pxs
    go_wp2_with fail
    exact bodyPost_ret (v := .agg #[.int .i64 a, .int .i64 b, .slice A6 n c6]) (by simp [results, Try.results30, go_sem, z0, z1, z2]) rfl ⟨_, rfl, P.out, K.out⟩

end Go.Proofs.Ytahhcklkcibgoaa
