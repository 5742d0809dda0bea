/-
  row, copyRow and blendRow of package buffer: a part of a row, one part of a row put into another.
-/
import Derived.Test.YtnkbejbpkjkgeaaEq
import Derived.Test.YtnkbejbpkjkgeaaOver
namespace Go.Proofs.Ytnkbejbpkjkgeaa
open Go.RowKit

/-- 'copy' into a row of one's own, for the walk -/
theorem wpList_copyP {w : World} {ops : Array Oper} {rest : List Oper} {ob : Oper} {a : Act} {Q : Exit → Act → World → Prop} (hgd : ob.guard = none) (d s : Operand)
    (ho : ob.op = .call { callee := .builtin .copy, args := #[d, s], argTypes := #[22, 22] })
    {g o n c : Nat} {L S : List Px} (hd : a.eval d = .slice (some ⟨g, o * 4, none⟩) n c) (hr : RowP w g L) {A : Option Addr} {m sc : Nat} (hs : a.eval s = .slice A m sc) (hm : m = S.length) (hsee : Pxs w (.slice A S.length sc) S)
    (hn : n = S.length) (h0 : 0 < S.length) (hfit : o + S.length ≤ L.length)
    (h : ∀ w', RowP w' g (splice L o S) → w.grownBy w' (some g) → wpList Try.prog ops Q rest (a.put ob.dst (goInt S.length)) w') : wpList Try.prog ops Q (ob :: rest) a w := by
  refine wpList_plain hgd fun K hK => ?_
  subst hm
  have hrun := copy_run hr hsee hn h0 hfit (c := c) ob.type
  unfold Oper.wp execOp
  simp only [ho, resolve, invoke, builtin, Sem.run_bind, Sem.run_pure, Result.andThen_ok, List.map_toArray, List.map_cons, List.map_nil, hd, hs, hrun]
  exact hK _ _ (h _ (hr.splice hfit) (grown_setCells g _ _ _ _ (World.grownBy.refl w _)))

/-- the pixels of S blended over those of L from o on -/
def blendL (L S : List Px) (o : Nat) : List Px := tabL S.length (fun i => overP (S.getD i zeroPx) (L.getD (o + i) zeroPx))

theorem splice_zero {α : Type} (L : List α) (o : Nat) : splice L o [] = L := by
  unfold splice
  simp

theorem splice_more {L T : List Px} {o k : Nat} (hfit : o + T.length ≤ L.length) (hk : k < T.length) : splice L o (T.take (k + 1)) = (splice L o (T.take k)).set (o + k) (T.getD k zeroPx) := by
  have l0 : (T.take k).length = k := by rw [List.length_take]; omega
  have l1 : (T.take (k + 1)).length = k + 1 := by rw [List.length_take]; omega
  apply List.ext_getElem?
  intro i
  rw [splice_get _ _ _ (by omega), l1]
  by_cases e : o + k = i
  · subst e
    rw [List.getElem?_set_self (by rw [length_splice _ _ _ (by omega)]; omega), if_pos (by omega), Nat.add_sub_cancel_left, List.getElem?_take_of_lt (by omega), get_of hk]
  · rw [List.getElem?_set_ne e, splice_get _ _ _ (by omega), l0]
    by_cases h1 : o ≤ i ∧ i < o + k
    · rw [if_pos h1, if_pos (by omega), List.getElem?_take_of_lt (by omega), List.getElem?_take_of_lt (by omega)]
    · rw [if_neg h1, if_neg (by omega)]

theorem splice_old {L T : List Px} {o k i : Nat} (hfit : o + T.length ≤ L.length) (hk : k ≤ T.length) (hi : o + k ≤ i) : (splice L o (T.take k))[i]? = L[i]? := by
  have l0 : (T.take k).length = k := by rw [List.length_take]; omega
  rw [splice_get _ _ _ (by omega), l0, if_neg (by omega)]

/-- another block than g is read as it was -/
theorem At4.grown {w w1 : World} {g b off j : Nat} {p : Px} (h : At4 w b off j p) (hg : w.grownBy w1 (some g)) (hb : b < w.heap.size) (hne : b ≠ g) : At4 w1 b off j p := by
  have hb := hg.block b hb (fun e => hne (Option.some.inj e))
  have hc : ∀ i, w1.cell? ⟨b, i, none⟩ = w.cell? ⟨b, i, none⟩ := fun i => World.cell?_of_block (a := ⟨b, i, none⟩) hb
  obtain ⟨a0, a1, a2, a3⟩ := h
  exact ⟨(hc _).trans a0, (hc _).trans a1, (hc _).trans a2, (hc _).trans a3⟩

theorem grown_next {w w1 w2 : World} {g : Nat} (h : w.grownBy w1 (some g)) (hb : Below w1.heap.size w1 w2) : w.grownBy w2 (some g) := h.trans (grown_below hb _)

theorem at_base {w : World} {g o j : Nat} {p : Px} (h : At4 w g 0 (o + j) p) : At4 w g (o * 4) j p := by
  unfold At4 at h ⊢
  rw [show 0 + (o + j) * 4 = o * 4 + j * 4 by omega] at h
  exact h

theorem RowP.drew {w : World} {g : Nat} {l : List Px} (h : RowP w g l) : RowP w.drew g l := h

end Go.Proofs.Ytnkbejbpkjkgeaa
