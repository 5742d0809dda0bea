/-
  What canonical keeps from strip to strip: the rectangles so far and the last band, which lies at their end.
-/
import Derived.Test.YtclnepijbnhdfaaStrip
import Derived.Test.YtclnepijbnhdfaaCts
import Derived.Test.YtclnepijbnhdfaaRtop
namespace Go.Proofs.Ytclnepijbnhdfaa
open Go.RowKit

theorem stripsY_ne {rr : Int → Runs} : ∀ (ys : List Int) (t : Int), ∀ p ∈ stripsY rr t ys, p.2.2 ≠ []
  | [], _, p, h => by simp [stripsY] at h
  | y :: ys, t, p, h => by
    unfold stripsY at h
    split at h
    · exact stripsY_ne ys y p h
    · rename_i h0
      rcases List.mem_cons.1 h with rfl | h
      · exact h0
      · exact stripsY_ne ys y p h

theorem stripsL_ne {op : Op2} {a b : List R} : ∀ p ∈ stripsL op a b, p.2.2 ≠ [] := by
  intro p h
  unfold stripsL stripsAt at h
  split at h
  · cases h
  · exact stripsY_ne _ _ p h

theorem stripsY_len {rr : Int → Runs} {m : Nat} (h : ∀ y, (rr y).length ≤ m) : ∀ (ys : List Int) (t : Int), ∀ p ∈ stripsY rr t ys, p.2.2.length ≤ m
  | [], _, p, hp => by simp [stripsY] at hp
  | y :: ys, t, p, hp => by
    unfold stripsY at hp
    split at hp
    · exact stripsY_len h ys y p hp
    · rcases List.mem_cons.1 hp with rfl | hp
      · exact h t
      · exact stripsY_len h ys y p hp

theorem stripsL_len {op : Op2} {a b : List R} : ∀ p ∈ stripsL op a b, p.2.2.length ≤ 2 * a.length + 2 * b.length := by
  intro p h
  unfold stripsL stripsAt at h
  split at h
  · cases h
  · exact stripsY_len (rrP_len op a b) _ _ p h

theorem Bx.frozen {W : World} {k : Nat} {cs : Array Value} {t : TypeId} (h : Bx W k cs t) (i : Nat) : W.frozen? ⟨k, i, none⟩ = false := by
  have h' : W.heap[k]? = some (.cells cs t (0, 0)) := h
  simp [World.frozen?, h']

theorem Bx.set {W : World} {k : Nat} {v : Value} {t : TypeId} (h : Bx W k #[v] t) (u : Value) : Bx (W.setCell ⟨k, 0, none⟩ u) k #[u] t :=
  Boxed.set u h

theorem Bx.other {W : World} {k j : Nat} {cs : Array Value} {t : TypeId} (h : Bx W k cs t) (hne : j ≠ k) (u : Value) : Bx (W.setCell ⟨j, 0, none⟩ u) k cs t :=
  h.kept (GrownIn.of_grown (grown_set W j 0 u)) (fun e => hne (Option.some.inj e))

theorem own_cells {W : World} {base : Nat} {e : TypeId} {size n : Nat} {v : Value} {xs : List Value} (h : W.ownsRow base e size v n xs) {B k : Nat} (hk : blk v k) : ¬ Own' B W k := by
  rintro ⟨_, o, ho, hc⟩
  rcases h.2 with ⟨rfl, _⟩ | ⟨g, cap, cur, rfl, _, hh, _⟩
  · simp [blk, Value.ownBlock] at hk
  · simp only [blk, Value.ownBlock, Option.some.injEq] at hk
    subst hk
    rw [hh] at ho
    cases ho
    cases hc

theorem keeps_grown {B : Nat} {W W' : World} {base : Nat} {e : TypeId} {size n : Nat} {v : Value} {xs : List Value} (ho : W.ownsRow base e size v n xs) (hg : GrownIn (Go.Proofs.Ytclnepijbnhdfaa.blk v) W W') : KeepsFrom B W W' :=
  ⟨hg.size, fun k o hB hk hc => (hg.block k (Array.getElem?_eq_some_iff.1 hk).1 (fun h => own_cells ho h ⟨hB, o, hk, hc⟩)).trans hk⟩

theorem keeps_same {B : Nat} {W W' : World} (hg : GrownIn (fun _ => False) W W') : KeepsFrom B W W' :=
  ⟨hg.size, fun k _ _ hk _ => (hg.block k (Array.getElem?_eq_some_iff.1 hk).1 (fun h => h)).trans hk⟩

theorem contL_band : ∀ {u v : Runs} {lo hi y y' : Int}, v ≠ [] → (contL (bandR (lo, hi, u)) (bandR (y, y', v)) = true ↔ hi = y ∧ u = v)
  | [], [], _, _, _, _, h => absurd rfl h
  | [], q :: v, lo, hi, y, y', _ => by simp [bandR, contL]
  | p :: u, [], lo, hi, y, y', h => absurd rfl h
  | p :: u, q :: v, lo, hi, y, y', _ => by
    have e1 : bandR (lo, hi, p :: u) = ⟨p.1, lo, p.2, hi⟩ :: bandR (lo, hi, u) := rfl
    have e2 : bandR (y, y', q :: v) = ⟨q.1, y, q.2, y'⟩ :: bandR (y, y', v) := rfl
    rw [e1, e2]
    simp only [contL, Bool.and_eq_true, contR_iff]
    cases v with
    | nil =>
      cases u with
      | nil =>
        constructor
        · rintro ⟨⟨h1, h2, h3⟩, _⟩
          exact ⟨h1, by cases p; cases q; simp only at h2 h3; rw [h2, h3]⟩
        · rintro ⟨h1, h2⟩
          cases h2
          exact ⟨⟨h1, rfl, rfl⟩, rfl⟩
      | cons p' u =>
        constructor
        · rintro ⟨_, h⟩
          simp [bandR, contL] at h
        · rintro ⟨_, h⟩
          cases h
    | cons q' v =>
      rw [contL_band (u := u) (v := q' :: v) (by simp)]
      constructor
      · rintro ⟨⟨h1, h2, h3⟩, _, h5⟩
        exact ⟨h1, by cases p; cases q; simp only at h2 h3; rw [h2, h3, h5]⟩
      · rintro ⟨h1, h2⟩
        cases h2
        exact ⟨⟨h1, rfl, rfl⟩, h1, rfl⟩

theorem comp_len {v : Runs} : ∀ {L : List Band} {lo hi : Int}, v.length ≤ (flatB (comp (lo, hi, v) L)).length
  | [], lo, hi => by rw [show comp (lo, hi, v) [] = [(lo, hi, v)] from rfl, flatB_cons, List.length_append, bandR_len]; exact Nat.le_add_right _ _
  | (lo', hi', v') :: L, lo, hi => by
    unfold comp
    split
    · exact comp_len
    · rw [flatB_cons, List.length_append, bandR_len]; exact Nat.le_add_right _ _

theorem tailC_len {v : Runs} (hv : v ≠ []) (lo hi : Int) (L : List Band) : v.length ≤ (flatB (tailC (lo, hi, v) L)).length := by
  unfold tailC
  rw [if_neg hv]
  exact comp_len

/-- the band's value: the end of the row -/
def BandV (vo vb : Value) (d : Nat) (v : Runs) : Prop :=
  (v = [] ∧ vb = .slice none 0 0) ∨ (v ≠ [] ∧ ∃ g c, vo = .slice (some ⟨g, 0, none⟩) (d + v.length) c ∧ d + v.length ≤ c ∧ vb = .slice (some ⟨g, d * 4, none⟩) v.length (c - d))

theorem BandV.rs {W : World} {base : Nat} {vo vb : Value} {D : List R} {lo hi : Int} {v : Runs} (h : BandV vo vb D.length v) (ho : OwnR W base vo (D ++ bandR (lo, hi, v))) : Rs W vb (bandR (lo, hi, v)) := by
  rcases h with ⟨rfl, rfl⟩ | ⟨hv, g, c, rfl, hc, rfl⟩
  · exact rs_nil W
  · obtain ⟨A', c', hv', h1, h2, h3⟩ := ho.rs
    injection hv' with e1 e2 e3
    subst e1 e3
    refine ⟨_, c - D.length, by rw [bandR_len], by rw [bandR_len]; simp only; omega, by omega, fun h0 => ?_⟩
    obtain ⟨b, off, e, hb, hcs⟩ := h3 (by rw [List.length_append]; omega)
    cases e
    refine ⟨g, D.length * 4, rfl, hb, fun j r hj => ?_⟩
    have h4 := hcs (D.length + j) r (by rw [List.getElem?_append_right (by omega)]; rw [← hj]; congr 1; omega)
    rw [show D.length * 4 + j * 4 = 0 + (D.length + j) * 4 by omega]
    exact h4

theorem BandV.blk {vo vb : Value} {d : Nat} {v : Runs} (h : BandV vo vb d v) : ∀ k, Go.Proofs.Ytclnepijbnhdfaa.blk vb k → Go.Proofs.Ytclnepijbnhdfaa.blk vo k := by
  rcases h with ⟨rfl, rfl⟩ | ⟨hv, g, c, rfl, hc, rfl⟩
  · intro k hk
    simp [Go.Proofs.Ytclnepijbnhdfaa.blk, Value.ownBlock] at hk
  · intro k hk
    exact hk

/-- the four boxes and the row of canonical -/
structure CanW (w : World) (B : Nat) (D : List R) (cur : Band) (vo vb : Value) (W : World) : Prop where
  res : Bx W B #[.slice none 0 0] 22
  err : Bx W (B + 1) #[.int .i64 0] 24
  out : Bx W (B + 2) #[vo] 22
  band : Bx W (B + 3) #[vb] 22
  own : OwnR W w.heap.size vo (D ++ bandR cur)
  val : BandV vo vb D.length cur.2.2
  below : Below w.heap.size w W

theorem CanW.kept {X : Nat → Prop} {w : World} {B : Nat} {D : List R} {cur : Band} {vo vb : Value} {W W' : World} (h : CanW w B D cur vo vb W) (hg : GrownIn X W W') (hB : ∀ k, B ≤ k → k < B + 4 → ¬ X k) (hv : ∀ k, blk vo k → ¬ X k) (hX : ∀ k, X k → w.heap.size ≤ k) : CanW w B D cur vo vb W' :=
  ⟨h.res.kept hg (hB _ (by omega) (by omega)), h.err.kept hg (hB _ (by omega) (by omega)), h.out.kept hg (hB _ (by omega) (by omega)), h.band.kept hg (hB _ (by omega) (by omega)), hg.own h.own (fun k hk => hv k hk), h.val,
    h.below.trans (hg.below h.below.size hX)⟩

/-- canonical between two strips -/
def CanI (w : World) (B : Nat) (C : List R) (L : List Band) (X : Nat → Prop) (pre : List Band) (W : World) : Prop :=
  ∃ D cur rest vo vb, L = pre ++ rest ∧ D ++ flatB (tailC cur rest) = C ∧ (D ++ bandR cur).length ≤ 256 ∧ CanW w B D cur vo vb W ∧ (∀ k, blk vo k → ¬ X k) ∧ (∀ k, X k → B + 4 ≤ k)

/-- canonical having left with too many -/
def CanX (w : World) (B : Nat) (C : List R) (_ : List Band) (W : World) : Prop :=
  256 < C.length ∧ Bx W B #[.slice none 0 0] 22 ∧ Bx W (B + 1) #[.int .i64 5] 24 ∧ Below w.heap.size w W

theorem bx_own {W : World} {B k : Nat} {cs : Array Value} {t : TypeId} (h : Bx W k cs t) : ¬ Own' B W k := by
  rintro ⟨_, o, ho, hc⟩
  have h' : W.heap[k]? = some (.cells cs t (0, 0)) := h
  rw [h'] at ho
  cases ho
  cases hc

theorem canI_own {w : World} {B n : Nat} {C : List R} {L : List Band} (_ : w.heap.size ≤ B) (_ : w.heap.size ≤ n) (X X' : Nat → Prop) (pre : List Band) (U V : World) (h : CanI w B C L X pre U) (hg : GrownIn (fun k => X k ∨ Own' n U k) U V) (hX : ∀ k, X' k → X k ∨ U.heap.size ≤ k) : CanI w B C L X' pre V := by
  obtain ⟨D, cur, rest, vo, vb, h1, h2, h3, h4, h5, h6⟩ := h
  have hlt : B + 3 < U.heap.size := h4.band.lt
  refine ⟨D, cur, rest, vo, vb, h1, h2, h3, h4.kept hg (fun k hk1 hk2 hk => ?_) (fun k hk hk' => ?_) (fun k hk => ?_), fun k hk hk' => ?_, fun k hk => ?_⟩
  · rcases hk with hk | hk
    · have := h6 k hk; omega
    · have hc : k = B ∨ k = B + 1 ∨ k = B + 2 ∨ k = B + 3 := by omega
      rcases hc with rfl | rfl | rfl | rfl
      · exact bx_own h4.res hk
      · exact bx_own h4.err hk
      · exact bx_own h4.out hk
      · exact bx_own h4.band hk
  · rcases hk' with hk' | hk'
    · exact h5 k hk hk'
    · exact own_cells h4.own hk hk'
  · rcases hk with hk | hk
    · have := h6 k hk; omega
    · have := hk.1; omega
  · rcases hX k hk' with h | h
    · exact h5 k hk h
    · have := (own_blk h4.own k hk).2; omega
  · rcases hX k hk with h | h
    · exact h6 k h
    · omega

theorem canX_own {w : World} {B n : Nat} {C : List R} (_ : w.heap.size ≤ n) (pre : List Band) (U V : World) (h : CanX w B C pre U) (hg : GrownIn (Own' n U) U V) : CanX w B C pre V :=
  ⟨h.1, h.2.1.kept hg (bx_own h.2.1), h.2.2.1.kept hg (bx_own h.2.2.1), h.2.2.2.trans (hg.below h.2.2.2.size (fun k hk => by have := hk.1; omega))⟩

end Go.Proofs.Ytclnepijbnhdfaa
