/-
  What quotas and buckets compute. No program is named here.
-/
import Derived.Test.YtkehdaahlfkiiaaPure
namespace Go.Proofs.Ytkehdaahlfkiiaa

/-- a number of the type int -/
def I64 (x : Int) : Prop := -9223372036854775808 ≤ x ∧ x ≤ 9223372036854775807
structure Qs where
  ls : List Int
  cs : List Int
def newQ (L : List Int) : Qs := ⟨L.map (fun x => max 0 x), L.map (fun _ => 0)⟩
structure QOk (q : Qs) : Prop where
  len : q.cs.length = q.ls.length
  ok : ∀ (i : Nat) (a b : Int), q.ls[i]? = some a → q.cs[i]? = some b → 0 ≤ b ∧ b ≤ a ∧ a ≤ 9223372036854775807
abbrev kindQ (q : Qs) (k : Int) : Prop := 0 ≤ k ∧ k < q.ls.length
def chkQ (q : Qs) (k n : Int) : Int := if ¬ kindQ q k then 8 else if n < 0 then 6 else 0
def limQ (q : Qs) (k : Int) : Int := q.ls.getD k.toNat 0
def cntQ (q : Qs) (k : Int) : Int := q.cs.getD k.toNat 0
def setQ (q : Qs) (k n : Int) : Qs := ⟨q.ls, q.cs.set k.toNat n⟩
def useQ (q : Qs) (k n : Int) : Qs × Int := if ¬ kindQ q k then (q, 8) else if n < 0 then (q, 6) else if limQ q k - cntQ q k < n then (q, 5) else (setQ q k (cntQ q k + n), 0)
def relQ (q : Qs) (k n : Int) : Qs × Int := if ¬ kindQ q k then (q, 8) else if n < 0 then (q, 6) else if cntQ q k < n then (q, 14) else (setQ q k (cntQ q k - n), 0)
def usedQ (q : Qs) (k : Int) : Int := if ¬ kindQ q k then 0 else cntQ q k

theorem getD_some {l : List Int} {i : Nat} {x : Int} (h : l[i]? = some x) : l.getD i 0 = x := by rw [List.getD_eq_getElem?_getD, h]; rfl
theorem newQ_ok {L : List Int} (h : ∀ x ∈ L, I64 x) : QOk (newQ L) := by
  refine ⟨by simp [newQ], fun i a b ha hb => ?_⟩
  simp only [newQ, List.getElem?_map, Option.map_eq_some_iff] at ha hb
  obtain ⟨x, hx, rfl⟩ := ha
  obtain ⟨y, hy, rfl⟩ := hb
  have := (h x (List.mem_of_getElem? hx)).2
  exact ⟨Int.le_refl _, by omega, by omega⟩
theorem QOk.at {q : Qs} (h : QOk q) {k : Int} (hk : kindQ q k) : ∃ (i : Nat) (a b : Int), k = (i : Int) ∧ i < q.ls.length ∧ q.ls[i]? = some a ∧ q.cs[i]? = some b ∧ limQ q k = a ∧ cntQ q k = b ∧ 0 ≤ b ∧ b ≤ a ∧ a ≤ 9223372036854775807 := by
  obtain ⟨h0, h1⟩ := hk
  have hi : k.toNat < q.ls.length := by omega
  have hc : k.toNat < q.cs.length := by rw [h.len]; exact hi
  have e1 : q.ls[k.toNat]? = some q.ls[k.toNat] := List.getElem?_eq_getElem hi
  have e2 : q.cs[k.toNat]? = some q.cs[k.toNat] := List.getElem?_eq_getElem hc
  obtain ⟨g1, g2, g3⟩ := h.ok _ _ _ e1 e2
  exact ⟨k.toNat, _, _, by omega, hi, e1, e2, getD_some e1, getD_some e2, g1, g2, g3⟩
theorem setQ_ok {q : Qs} (h : QOk q) {k n : Int} (hk : kindQ q k) (h0 : 0 ≤ n) (hn : n ≤ limQ q k) : QOk (setQ q k n) := by
  obtain ⟨i, a, b, rfl, hi, e1, e2, hl, hc, g0, g1, g2⟩ := h.at hk
  refine ⟨by simp [setQ, h.len], fun j x y hx hy => ?_⟩
  simp only [setQ, Int.toNat_natCast] at hx hy
  by_cases hj : i = j
  · subst hj
    rw [List.getElem?_set_self (by rw [h.len]; exact hi)] at hy
    injection hy with hy
    subst hy
    rw [e1] at hx
    injection hx with hx
    subst hx
    exact ⟨h0, by omega, g2⟩
  · rw [List.getElem?_set_ne hj] at hy
    exact h.ok j x y hx hy
theorem useQ_ok {q : Qs} (h : QOk q) (k n : Int) : QOk (useQ q k n).1 := by
  unfold useQ
  by_cases hk : kindQ q k
  · obtain ⟨i, a, b, rfl, hi, e1, e2, hl, hc, g0, g1, g2⟩ := h.at hk
    rw [if_neg (not_not_intro hk)]
    by_cases hn : n < 0
    · rw [if_pos hn]
      exact h
    · rw [if_neg hn]
      by_cases hx : limQ q i - cntQ q i < n
      · rw [if_pos hx]
        exact h
      · rw [if_neg hx]
        exact setQ_ok h hk (by omega) (by omega)
  · rw [if_pos hk]
    exact h
theorem relQ_ok {q : Qs} (h : QOk q) (k n : Int) : QOk (relQ q k n).1 := by
  unfold relQ
  by_cases hk : kindQ q k
  · obtain ⟨i, a, b, rfl, hi, e1, e2, hl, hc, g0, g1, g2⟩ := h.at hk
    rw [if_neg (not_not_intro hk)]
    by_cases hn : n < 0
    · rw [if_pos hn]
      exact h
    · rw [if_neg hn]
      by_cases hx : cntQ q i < n
      · rw [if_pos hx]
        exact h
      · rw [if_neg hx]
        exact setQ_ok h hk (by omega) (by omega)
  · rw [if_pos hk]
    exact h
theorem setQ_ls (q : Qs) (k n : Int) : (setQ q k n).ls = q.ls := rfl
theorem useQ_ls (q : Qs) (k n : Int) : (useQ q k n).1.ls = q.ls := by
  unfold useQ
  repeat' split
  all_goals rfl
theorem relQ_ls (q : Qs) (k n : Int) : (relQ q k n).1.ls = q.ls := by
  unfold relQ
  repeat' split
  all_goals rfl

structure Bk where
  md : Bool
  st : Bool
  rt : Int
  bu : Int
  fi : Int
  la : Int
def zeroB : Bk := ⟨false, false, 0, 0, 0, 0⟩
def newB (r b : Int) : Bk := if r < 0 ∨ 1048576 < r ∨ b < 1 ∨ 1048576 < b then zeroB else ⟨true, false, r, b, b * 1000, 0⟩
/-- the level behind some milliseconds -/
def fillB (b : Bk) (d : Int) : Int := if 0 < b.rt then (if b.bu * 1000 ≤ d then b.bu * 1000 else min (b.bu * 1000) (b.fi + d * b.rt)) else b.fi
def advB (b : Bk) (now : Int) : Bk := if b.st = false then { b with st := true, la := now } else if now ≤ b.la then b else { b with fi := fillB b (now - b.la), la := now }
def takeB (b : Bk) (now n : Int) : Bk × Bool := if b.md = false then (b, false) else if n < 0 ∨ (advB b now).bu < n ∨ (advB b now).fi < n * 1000 then (advB b now, false) else ({ advB b now with fi := (advB b now).fi - n * 1000 }, true)
def lvlB (b : Bk) (now : Int) : Bk × Int := if b.md = false then (b, 0) else (advB b now, (advB b now).fi / 1000)
structure BOk (b : Bk) : Prop where
  rt : 0 ≤ b.rt ∧ b.rt ≤ 1048576
  bu : 0 ≤ b.bu ∧ b.bu ≤ 1048576
  fi : 0 ≤ b.fi ∧ b.fi ≤ b.bu * 1000
  la : I64 b.la
theorem newB_ok (r b : Int) : BOk (newB r b) := by
  unfold newB
  split
  · exact ⟨by simp [zeroB], by simp [zeroB], by simp [zeroB], by simp [zeroB, I64]⟩
  · exact ⟨by dsimp only; omega, by dsimp only; omega, by dsimp only; omega, by simp [I64]⟩
theorem fillB_ok {b : Bk} (h : BOk b) {d : Int} (hd : 0 ≤ d) : 0 ≤ fillB b d ∧ fillB b d ≤ b.bu * 1000 := by
  obtain ⟨⟨r0, r1⟩, ⟨b0, b1⟩, ⟨f0, f1⟩, -⟩ := h
  unfold fillB
  have hm : 0 ≤ d * b.rt := Int.mul_nonneg hd r0
  split
  · split
    · omega
    · omega
  · omega
theorem advB_ok {b : Bk} (h : BOk b) {now : Int} (hn : I64 now) : BOk (advB b now) := by
  unfold advB
  split
  · exact ⟨h.rt, h.bu, h.fi, hn⟩
  · split
    · exact h
    · exact ⟨h.rt, h.bu, fillB_ok h (by omega), hn⟩
theorem advB_same (b : Bk) (now : Int) : (advB b now).md = b.md ∧ (advB b now).bu = b.bu ∧ (advB b now).rt = b.rt := by
  unfold advB
  split
  · exact ⟨rfl, rfl, rfl⟩
  · split <;> exact ⟨rfl, rfl, rfl⟩
theorem takeB_ok {b : Bk} (h : BOk b) {now : Int} (hn : I64 now) (n : Int) : BOk (takeB b now n).1 := by
  have ha := advB_ok h hn
  unfold takeB
  split
  · exact h
  · split
    · exact ha
    · obtain ⟨h1, h2, h3, h4⟩ := ha
      exact ⟨h1, h2, by dsimp only; omega, h4⟩
theorem lvlB_ok {b : Bk} (h : BOk b) {now : Int} (hn : I64 now) : BOk (lvlB b now).1 := by
  unfold lvlB
  split
  · exact h
  · exact advB_ok h hn

end Go.Proofs.Ytkehdaahlfkiiaa
