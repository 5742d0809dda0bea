/-
  Plain laws: lists of the same kinds with the same encoding are equal.
-/
import Derived.Test.YtealpmcpaakclaaPlain
namespace Go.Proofs.Ytealpmcpaakclaa
open Go.RowKit Mem Wire

/-- an item of the first one's kind with the second one's contents -/
def mix1 (a b : It) : It := ⟨a.k, b.n, b.v, b.b⟩
def mix (l m : List It) : List It := List.zipWith mix1 l m
def allEq (l m : List It) : Bool := (List.zipWith (fun a b => a.eq (mix1 a b)) l m).all id

theorem enc_inj {a b : It} {r r' : List UInt8} (hn : a.n < 4294967296) (hn' : b.n < 4294967296) (hb : a.b.length ≤ 300) (hb' : b.b.length ≤ 300) (h : a.enc ++ r = (mix1 a b).enc ++ r') : a.eq (mix1 a b) = true ∧ r = r' := by
  unfold It.enc mix1 at h
  unfold It.eq mix1
  dsimp only at h ⊢
  by_cases h0 : a.k = 0 ∨ a.k = 1
  · rw [if_pos h0, if_pos h0] at h
    rw [if_pos h0]
    have e1 := num_enc a.n hn r
    have e2 := num_enc b.n hn' r'
    rw [h, e2] at e1
    have e3 := congrArg Prod.snd e1
    have e4 := congrArg (fun x => x.1.1) e1
    dsimp only at e3 e4
    exact ⟨by simp [e3], e4.symm⟩
  · rw [if_neg h0, if_neg h0] at h
    rw [if_neg h0]
    have e1 := count_enc a.b r (by omega) 300 (by omega)
    have e2 := count_enc b.b r' (by omega) 300 (by omega)
    rw [h, e2] at e1
    have e3 := congrArg Prod.snd e1
    have e4 := congrArg (fun x => x.1.1) e1
    dsimp only at e3 e4
    exact ⟨by simp [e3], e4.symm⟩

theorem enc_eq {a b : It} (h : a.eq (mix1 a b) = true) : a.enc = (mix1 a b).enc := by
  unfold It.eq mix1 at h
  unfold It.enc mix1
  dsimp only at h ⊢
  by_cases h0 : a.k = 0 ∨ a.k = 1
  · rw [if_pos h0] at h
    rw [if_pos h0, if_pos h0, of_decide_eq_true h]
  · rw [if_neg h0] at h
    rw [if_neg h0, if_neg h0, of_decide_eq_true h]

/-- what is asked of the items -/
def Small (l : List It) : Prop := ∀ t ∈ l, t.n < 4294967296 ∧ t.b.length ≤ 300

theorem distinct : ∀ (l m : List It), l.length = m.length → Small l → Small m → decide (encAll l = encAll (mix l m)) = allEq l m
  | [], [], _, _, _ => rfl
  | [], _ :: _, h, _, _ => by simp at h
  | _ :: _, [], h, _, _ => by simp at h
  | a :: l, b :: m, h, hl, hm => by
    have ih := distinct l m (by simpa using h) (fun t ht => hl t (List.mem_cons_of_mem _ ht)) (fun t ht => hm t (List.mem_cons_of_mem _ ht))
    have e1 : encAll (a :: l) = a.enc ++ encAll l := by simp [encAll]
    have e2 : encAll (mix (a :: l) (b :: m)) = (mix1 a b).enc ++ encAll (mix l m) := by simp [encAll, mix]
    have e3 : allEq (a :: l) (b :: m) = (a.eq (mix1 a b) && allEq l m) := by simp [allEq]
    rw [e1, e2, e3, ← ih]
    obtain ⟨ha1, ha2⟩ := hl a (List.mem_cons_self ..)
    obtain ⟨hb1, hb2⟩ := hm b (List.mem_cons_self ..)
    rw [Bool.eq_iff_iff]
    simp only [decide_eq_true_eq, Bool.and_eq_true]
    constructor
    · exact enc_inj ha1 hb1 ha2 hb2
    · rintro ⟨h1, h2⟩
      rw [enc_eq h1, h2]

theorem mix_length (l m : List It) (h : l.length = m.length) : (mix l m).length = l.length := by simp [mix, h]

theorem mix_get {l m : List It} {j : Nat} {a b : It} (ha : l[j]? = some a) (hb : m[j]? = some b) : (mix l m)[j]? = some (mix1 a b) := by
  simp [mix, List.getElem?_zipWith, ha, hb]

theorem mix_snoc {l m : List It} {j : Nat} {a b : It} (ha : l[j]? = some a) (hb : m[j]? = some b) : mix (l.take (j + 1)) (m.take (j + 1)) = mix (l.take j) (m.take j) ++ [mix1 a b] := by
  have h1 : l.take (j + 1) = l.take j ++ [a] := by
    rw [List.take_succ_eq_append_getElem (List.getElem?_eq_some_iff.1 ha).1, (List.getElem?_eq_some_iff.1 ha).2]
  have h2 : m.take (j + 1) = m.take j ++ [b] := by
    rw [List.take_succ_eq_append_getElem (List.getElem?_eq_some_iff.1 hb).1, (List.getElem?_eq_some_iff.1 hb).2]
  have hl : (l.take j).length = (m.take j).length := by
    have g1 := (List.getElem?_eq_some_iff.1 ha).1
    have g2 := (List.getElem?_eq_some_iff.1 hb).1
    rw [List.length_take, List.length_take]; omega
  rw [h1, h2, mix, List.zipWith_append hl]
  rfl

theorem allEq_snoc {l m : List It} {j : Nat} {a b : It} (ha : l[j]? = some a) (hb : m[j]? = some b) : allEq (l.take (j + 1)) (m.take (j + 1)) = (allEq (l.take j) (m.take j) && a.eq (mix1 a b)) := by
  have h1 : l.take (j + 1) = l.take j ++ [a] := by
    rw [List.take_succ_eq_append_getElem (List.getElem?_eq_some_iff.1 ha).1, (List.getElem?_eq_some_iff.1 ha).2]
  have h2 : m.take (j + 1) = m.take j ++ [b] := by
    rw [List.take_succ_eq_append_getElem (List.getElem?_eq_some_iff.1 hb).1, (List.getElem?_eq_some_iff.1 hb).2]
  have hl : (l.take j).length = (m.take j).length := by
    have g1 := (List.getElem?_eq_some_iff.1 ha).1
    have g2 := (List.getElem?_eq_some_iff.1 hb).1
    rw [List.length_take, List.length_take]; omega
  rw [h1, h2, allEq, List.zipWith_append hl]
  simp [allEq]

/-- the cells of items in a row -/
def cellsOf (l : List It) : List Value := l.flatMap fun t => [.int .i64 t.k, .int .u32 (t.n : Int), t.v]

theorem cellsOf_length : ∀ l : List It, (cellsOf l).length = l.length * 3
  | [] => rfl
  | t :: l => by
    have := cellsOf_length l
    simp only [cellsOf, List.flatMap_cons, List.length_append, List.length_cons, List.length_nil] at this ⊢
    omega

theorem cellsOf_get : ∀ (l : List It) (j : Nat) (t : It), l[j]? = some t → (cellsOf l)[j * 3]? = some (.int .i64 t.k) ∧ (cellsOf l)[j * 3 + 1]? = some (.int .u32 (t.n : Int)) ∧ (cellsOf l)[j * 3 + 2]? = some t.v
  | [], _, _, h => by simp at h
  | a :: l, 0, t, h => by
    simp only [List.getElem?_cons_zero, Option.some.injEq] at h
    subst h
    exact ⟨rfl, rfl, rfl⟩
  | a :: l, j + 1, t, h => by
    have ih := cellsOf_get l j t (by simpa using h)
    have e : cellsOf (a :: l) = [.int .i64 a.k, .int .u32 (a.n : Int), a.v] ++ cellsOf l := rfl
    rw [e]
    refine ⟨?_, ?_, ?_⟩
    · rw [List.getElem?_append_right (by simp; omega)]
      rw [show (j + 1) * 3 - [Value.int .i64 a.k, .int .u32 (a.n : Int), a.v].length = j * 3 by simp; omega]
      exact ih.1
    · rw [List.getElem?_append_right (by simp; omega)]
      rw [show (j + 1) * 3 + 1 - [Value.int .i64 a.k, .int .u32 (a.n : Int), a.v].length = j * 3 + 1 by simp; omega]
      exact ih.2.1
    · rw [List.getElem?_append_right (by simp; omega)]
      rw [show (j + 1) * 3 + 2 - [Value.int .i64 a.k, .int .u32 (a.n : Int), a.v].length = j * 3 + 2 by simp; omega]
      exact ih.2.2

theorem cellsOf_snoc (l : List It) (t : It) : cellsOf (l ++ [t]) = cellsOf l ++ [.int .i64 t.k, .int .u32 (t.n : Int), t.v] := by simp [cellsOf]

/-- items in a row that is owned are items of a slice -/
theorem items_of_own {w : World} {base : Nat} {v : Value} {l : List It} (h : w.ownsRow base 25 3 v l.length (cellsOf l)) (hok : ∀ t ∈ l, t.ok w) : Items w v l := by
  have hall := h
  obtain ⟨_, hc⟩ := h
  rcases hc with ⟨rfl, h0⟩ | ⟨g, cap, cur, rfl, _, hh, hn, hm, _⟩
  · have : l = [] := List.eq_nil_of_length_eq_zero h0
    subst this
    exact ⟨none, 0, rfl, Nat.le_refl _, by simp [maxLen], hok, fun h => by simp at h⟩
  · refine ⟨_, cap, rfl, hn, hm, hok, fun _ => ⟨g, 0, rfl, block_lt hh, fun j t ht => ?_⟩⟩
    have hj : j < l.length := (List.getElem?_eq_some_iff.1 ht).1
    obtain ⟨h1, h2, h3⟩ := cellsOf_get l j t ht
    rw [Nat.zero_add, hall.cellAt _ (by omega), hall.cellAt _ (by omega), hall.cellAt _ (by omega)]
    exact ⟨h1, h2, h3⟩

end Go.Proofs.Ytealpmcpaakclaa
