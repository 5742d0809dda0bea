/-
  What package region's sweep computes: edges of a row, their sums, the runs that they bound, the changes from row to row, the strips.
-/
import Derived.Test.YtclnepijbnhdfaaReg
namespace Go.Proofs.Ytclnepijbnhdfaa

/-- a column at which the counts change, and by how much -/
structure E where
  x : Int
  a : Int
  b : Int

abbrev Op2 := Bool → Bool → Bool

/-- the runs behind the edges, the counts na, nb to their left; st: where an open run began -/
def runsGo (op : Op2) : List E → Int → Int → Option Int → Runs
  | [], _, _, none => []
  | [], _, _, some s => [(s, 0)]
  | e :: es, na, nb, none => if op (decide (0 < na + e.a)) (decide (0 < nb + e.b)) then runsGo op es (na + e.a) (nb + e.b) (some e.x) else runsGo op es (na + e.a) (nb + e.b) none
  | e :: es, na, nb, some s => if op (decide (0 < na + e.a)) (decide (0 < nb + e.b)) then runsGo op es (na + e.a) (nb + e.b) (some s) else (s, e.x) :: runsGo op es (na + e.a) (nb + e.b) none

/-- the sum of the steps up to column x -/
def cntLe (g : E → Int) (x : Int) : List E → Int
  | [] => 0
  | e :: l => (if e.x ≤ x then g e else 0) + cntLe g x l

def tot (g : E → Int) : List E → Int
  | [] => 0
  | e :: l => g e + tot g l

/-- how much all steps come to -/
def wt : List E → Nat
  | [] => 0
  | e :: l => e.a.natAbs + e.b.natAbs + wt l

abbrev Inc (l : List E) : Prop := l.Pairwise fun p q => p.x < q.x

theorem cntLe_append (g : E → Int) (x : Int) : ∀ l m : List E, cntLe g x (l ++ m) = cntLe g x l + cntLe g x m
  | [], m => by simp [cntLe]
  | e :: l, m => by simp only [List.cons_append, cntLe, cntLe_append g x l m]; omega

theorem cntLe_low {g : E → Int} {x : Int} : ∀ {l : List E}, (∀ e ∈ l, x < e.x) → cntLe g x l = 0
  | [], _ => rfl
  | e :: l, h => by
    simp only [cntLe]
    rw [if_neg (by have := h e List.mem_cons_self; omega), cntLe_low (fun e' he => h e' (List.mem_cons_of_mem _ he))]
    rfl

theorem cntLe_high {g : E → Int} {x : Int} : ∀ {l : List E}, (∀ e ∈ l, e.x ≤ x) → cntLe g x l = tot g l
  | [], _ => rfl
  | e :: l, h => by
    simp only [cntLe, tot]
    rw [if_pos (h e List.mem_cons_self), cntLe_high (fun e' he => h e' (List.mem_cons_of_mem _ he))]

theorem cntLe_perm {g : E → Int} {x : Int} {l m : List E} (h : l.Perm m) : cntLe g x l = cntLe g x m := by
  induction h with
  | nil => rfl
  | cons e _ ih => simp only [cntLe, ih]
  | swap e f l => simp only [cntLe]; omega
  | trans _ _ ih1 ih2 => rw [ih1, ih2]

theorem wt_append : ∀ l m : List E, wt (l ++ m) = wt l + wt m
  | [], m => by simp [wt]
  | e :: l, m => by simp only [List.cons_append, wt, wt_append l m]; omega

theorem wt_perm {l m : List E} (h : l.Perm m) : wt l = wt m := by
  induction h with
  | nil => rfl
  | cons e _ ih => simp only [wt, ih]
  | swap e f l => simp only [wt]; omega
  | trans _ _ ih1 ih2 => rw [ih1, ih2]

theorem withT_cons (p : Int × Int) (rs : Runs) : withT (p :: rs) = (p.1, p.2, true) :: withT rs := rfl

theorem runs_go {op : Op2} (h0 : op false false = false) : ∀ (es : List E) (na nb B : Int), Inc es → (∀ e ∈ es, B ≤ e.x) → na + tot E.a es = 0 → nb + tot E.b es = 0 →
    (op (decide (0 < na)) (decide (0 < nb)) = false → CanF false B false (withT (runsGo op es na nb none)) ∧ ∀ x, B ≤ x → val false (withT (runsGo op es na nb none)) x = op (decide (0 < na + cntLe E.a x es)) (decide (0 < nb + cntLe E.b x es))) ∧
    (∀ s, s < B → op (decide (0 < na)) (decide (0 < nb)) = true → CanF false s false (withT (runsGo op es na nb (some s))) ∧
      ∀ x, s ≤ x → val false (withT (runsGo op es na nb (some s))) x = if x < B then true else op (decide (0 < na + cntLe E.a x es)) (decide (0 < nb + cntLe E.b x es)))
  | [], na, nb, B, _, _, ta, tb => by
    simp only [tot, Int.add_zero] at ta tb
    subst ta
    subst tb
    refine ⟨fun h => ⟨trivial, fun x _ => ?_⟩, fun s _ h => ?_⟩
    · simp only [runsGo, withT, List.map_nil, val, cntLe]
      exact h.symm
    · simp [h0] at h
  | e :: es, na, nb, B, hi, hB, ta, tb => by
    have hBe := hB e List.mem_cons_self
    obtain ⟨hx, hi'⟩ := List.pairwise_cons.1 hi
    simp only [tot] at ta tb
    obtain ⟨ih1, ih2⟩ := runs_go h0 es (na + e.a) (nb + e.b) (e.x + 1) hi' (fun e' he => by have := hx e' he; omega) (by omega) (by omega)
    have lowa : ∀ x, x < e.x → cntLe E.a x es = 0 := fun x h => cntLe_low (fun e' he => by have := hx e' he; omega)
    have lowb : ∀ x, x < e.x → cntLe E.b x es = 0 := fun x h => cntLe_low (fun e' he => by have := hx e' he; omega)
    have lowa' : ∀ x, x ≤ e.x → cntLe E.a x es = 0 := fun x h => cntLe_low (fun e' he => by have := hx e' he; omega)
    have lowb' : ∀ x, x ≤ e.x → cntLe E.b x es = 0 := fun x h => cntLe_low (fun e' he => by have := hx e' he; omega)
    have sa : ∀ x, e.x ≤ x → na + cntLe E.a x (e :: es) = na + e.a + cntLe E.a x es := fun x h => by simp only [cntLe]; rw [if_pos h]; omega
    have sb : ∀ x, e.x ≤ x → nb + cntLe E.b x (e :: es) = nb + e.b + cntLe E.b x es := fun x h => by simp only [cntLe]; rw [if_pos h]; omega
    have za : ∀ x, x < e.x → na + cntLe E.a x (e :: es) = na := fun x h => by simp only [cntLe]; rw [if_neg (by omega), lowa x h]; omega
    have zb : ∀ x, x < e.x → nb + cntLe E.b x (e :: es) = nb := fun x h => by simp only [cntLe]; rw [if_neg (by omega), lowb x h]; omega
    cases hk : op (decide (0 < na + e.a)) (decide (0 < nb + e.b))
    · obtain ⟨c1, c2⟩ := ih1 hk
      have low : ∀ x, x < e.x + 1 → val false (withT (runsGo op es (na + e.a) (nb + e.b) none)) x = false := fun x h => val_low c1.sort h
      have at_x : ∀ x, e.x ≤ x → val false (withT (runsGo op es (na + e.a) (nb + e.b) none)) x = op (decide (0 < na + cntLe E.a x (e :: es))) (decide (0 < nb + cntLe E.b x (e :: es))) := fun x h => by
        rw [sa x h, sb x h]
        by_cases e1 : x = e.x
        · rw [low x (by omega), lowa' x (by omega), lowb' x (by omega), Int.add_zero, Int.add_zero, hk]
        · exact c2 x (by omega)
      refine ⟨fun h => ?_, fun s hs h => ?_⟩
      · simp only [runsGo, hk, Bool.false_eq_true, if_false]
        refine ⟨c1.free (by omega), fun x hx' => ?_⟩
        by_cases e1 : x < e.x
        · rw [low x (by omega), za x e1, zb x e1, h]
        · exact at_x x (by omega)
      · simp only [runsGo, hk, Bool.false_eq_true, if_false, withT_cons]
        refine ⟨⟨Int.le_refl _, fun _ => by decide, by decide, by omega, c1.mono (by omega)⟩, fun x hx' => ?_⟩
        simp only [val]
        by_cases e1 : x < e.x
        · rw [if_pos ⟨hx', e1⟩, za x e1, zb x e1, h, ite_self]
        · rw [if_neg (by omega), if_neg (by omega)]
          exact at_x x (by omega)
    · have step : ∀ s, s < e.x + 1 → CanF false s false (withT (runsGo op es (na + e.a) (nb + e.b) (some s))) ∧ ∀ x, s ≤ x → val false (withT (runsGo op es (na + e.a) (nb + e.b) (some s))) x = if x < e.x then true else op (decide (0 < na + cntLe E.a x (e :: es))) (decide (0 < nb + cntLe E.b x (e :: es))) := fun s hs => by
        obtain ⟨c1, c2⟩ := ih2 s hs hk
        refine ⟨c1, fun x hx' => ?_⟩
        rw [c2 x hx']
        by_cases e1 : x < e.x
        · rw [if_pos e1, if_pos (by omega)]
        · rw [if_neg e1, sa x (by omega), sb x (by omega)]
          by_cases e2 : x < e.x + 1
          · rw [if_pos e2, lowa' x (by omega), lowb' x (by omega), Int.add_zero, Int.add_zero, hk]
          · rw [if_neg e2]
      refine ⟨fun h => ?_, fun s hs h => ?_⟩
      · simp only [runsGo, hk, if_true]
        obtain ⟨c1, c2⟩ := step e.x (by omega)
        refine ⟨c1.free hBe, fun x hx' => ?_⟩
        by_cases e1 : x < e.x
        · rw [val_low c1.sort e1, za x e1, zb x e1, h]
        · rw [c2 x (by omega), if_neg e1]
      · simp only [runsGo, hk, if_true]
        obtain ⟨c1, c2⟩ := step s (by omega)
        refine ⟨c1, fun x hx' => ?_⟩
        rw [c2 x hx']
        by_cases e1 : x < e.x
        · rw [if_pos e1, za x e1, zb x e1, h, ite_self]
        · rw [if_neg e1, if_neg (by omega)]

theorem low_bound : ∀ l : List E, ∃ B : Int, ∀ e ∈ l, B ≤ e.x
  | [] => ⟨0, by simp⟩
  | e :: l => by
    obtain ⟨B, h⟩ := low_bound l
    refine ⟨min B e.x, fun e' he => ?_⟩
    rcases List.mem_cons.1 he with rfl | he
    · omega
    · have := h e' he; omega

theorem high_bound (A : Int) : ∀ l : List E, ∃ B : Int, A ≤ B ∧ ∀ e ∈ l, e.x ≤ B
  | [] => ⟨A, Int.le_refl _, by simp⟩
  | e :: l => by
    obtain ⟨B, h0, h⟩ := high_bound A l
    refine ⟨max B e.x, by omega, fun e' he => ?_⟩
    rcases List.mem_cons.1 he with rfl | he
    · omega
    · have := h e' he; omega

/-- the runs of a row out of its edges -/
theorem runs_of_edges {op : Op2} (h0 : op false false = false) {es : List E} (hi : Inc es) {A : Int} (ha : ∀ x, A ≤ x → cntLe E.a x es = 0) (hb : ∀ x, A ≤ x → cntLe E.b x es = 0) :
    RunsOf (fun x => op (decide (0 < cntLe E.a x es)) (decide (0 < cntLe E.b x es))) (runsGo op es 0 0 none) := by
  obtain ⟨B, hB⟩ := low_bound es
  obtain ⟨C, hC0, hC⟩ := high_bound A es
  obtain ⟨c1, c2⟩ := (runs_go h0 es 0 0 B hi hB (by rw [← cntLe_high hC, ha C hC0]; rfl) (by rw [← cntLe_high hC, hb C hC0]; rfl)).1 (by simpa using h0)
  refine ⟨⟨B, c1⟩, fun x => ?_⟩
  by_cases hx : B ≤ x
  · rw [c2 x hx, Int.zero_add, Int.zero_add]
  · rw [val_low c1.sort (by omega)]
    simp only [cntLe_low (g := E.a) (x := x) (l := es) (fun e he => by have := hB e he; omega), cntLe_low (g := E.b) (x := x) (l := es) (fun e he => by have := hB e he; omega)]
    simpa using h0.symm

/-! ### the sum of two lists of edges -/
def addLastP (l : List E) (e : E) : List E :=
  match l.getLast? with
  | none => [e]
  | some p => if p.x = e.x then (if p.a + e.a = 0 ∧ p.b + e.b = 0 then l.dropLast else l.dropLast ++ [⟨p.x, p.a + e.a, p.b + e.b⟩]) else l ++ [e]

def takeLe (x : Int) (l : List E) : List E := l.takeWhile fun e => decide (e.x ≤ x)
def dropLe (x : Int) (l : List E) : List E := l.dropWhile fun e => decide (e.x ≤ x)

def addAll : List E → List E → List E → List E
  | sum, es, [] => sum ++ es
  | sum, es, c :: ch => addAll (addLastP (sum ++ takeLe c.x es) c) (dropLe c.x es) ch

theorem addLast_nil (e : E) : addLastP [] e = [e] := rfl
theorem addLast_snoc (l : List E) (p e : E) : addLastP (l ++ [p]) e = if p.x = e.x then (if p.a + e.a = 0 ∧ p.b + e.b = 0 then l else l ++ [⟨p.x, p.a + e.a, p.b + e.b⟩]) else l ++ [p] ++ [e] := by
  simp [addLastP]

structure Lin (g : E → Int) : Prop where
  zero : ∀ x, g ⟨x, 0, 0⟩ = 0
  add : ∀ (p q : E) (x : Int), g ⟨x, p.a + q.a, p.b + q.b⟩ = g p + g q

theorem lin_a : Lin E.a := ⟨fun _ => rfl, fun _ _ _ => rfl⟩
theorem lin_b : Lin E.b := ⟨fun _ => rfl, fun _ _ _ => rfl⟩

theorem snoc_cases {α : Type} (l : List α) : l = [] ∨ ∃ m p, l = m ++ [p] := by
  rcases List.eq_nil_or_concat l with h | ⟨m, p, h⟩
  · exact .inl h
  · exact .inr ⟨m, p, by simpa using h⟩

theorem addLast_cnt {g : E → Int} (hg : Lin g) (l : List E) (c : E) (x : Int) : cntLe g x (addLastP l c) = cntLe g x l + if c.x ≤ x then g c else 0 := by
  rcases snoc_cases l with rfl | ⟨m, p, rfl⟩
  · simp [addLast_nil, cntLe]
  · rw [addLast_snoc]
    by_cases h : p.x = c.x
    · rw [if_pos h]
      have hs := hg.add p c p.x
      by_cases hz : p.a + c.a = 0 ∧ p.b + c.b = 0
      · rw [if_pos hz]
        rw [hz.1, hz.2, hg.zero] at hs
        clear hz
        simp only [cntLe_append, cntLe, h]
        split <;> omega
      · rw [if_neg hz]
        rw [h] at hs
        simp only [cntLe_append, cntLe, h, hs]
        split <;> omega
    · rw [if_neg h]
      simp only [cntLe_append, cntLe]
      omega

theorem addLast_wt (l : List E) (c : E) : wt (addLastP l c) ≤ wt l + wt [c] := by
  rcases snoc_cases l with rfl | ⟨m, p, rfl⟩
  · simp [addLast_nil, wt]
  · rw [addLast_snoc]
    simp only [wt_append, wt]
    split
    · split
      · omega
      · simp only [wt_append, wt]
        omega
    · simp only [wt_append, wt]
      omega

theorem addLast_len (l : List E) (c : E) : (addLastP l c).length ≤ l.length + 1 := by
  rcases snoc_cases l with rfl | ⟨m, p, rfl⟩
  · simp [addLast_nil]
  · rw [addLast_snoc]
    split
    · split <;> simp <;> omega
    · simp

theorem addLast_inc {l : List E} {c : E} (h : Inc l) (hc : ∀ e ∈ l, e.x ≤ c.x) : Inc (addLastP l c) ∧ ∀ e ∈ addLastP l c, e.x ≤ c.x := by
  rcases snoc_cases l with rfl | ⟨m, p, rfl⟩
  · rw [addLast_nil]
    exact ⟨List.pairwise_singleton _ _, fun e he => by rw [List.mem_singleton.1 he]; omega⟩
  · rw [addLast_snoc]
    obtain ⟨h1, _, h3⟩ := List.pairwise_append.1 h
    have hm : ∀ e ∈ m, e.x < p.x := fun e he => h3 e he p (by simp)
    have hp := hc p (by simp)
    split
    · split
      · exact ⟨h1, fun e he => hc e (by simp [he])⟩
      · refine ⟨List.pairwise_append.2 ⟨h1, List.pairwise_singleton _ _, fun e he q hq => ?_⟩, fun e he => ?_⟩
        · rw [List.mem_singleton.1 hq]
          exact hm e he
        · rcases List.mem_append.1 he with he | he
          · exact hc e (by simp [he])
          · rw [List.mem_singleton.1 he]
            exact hp
    · rename_i hne
      refine ⟨List.pairwise_append.2 ⟨h, List.pairwise_singleton _ _, fun e he q hq => ?_⟩, fun e he => ?_⟩
      · rw [List.mem_singleton.1 hq]
        rcases List.mem_append.1 he with he | he
        · have := hm e he; omega
        · rw [List.mem_singleton.1 he]; omega
      · rcases List.mem_append.1 he with he | he
        · exact hc e he
        · rw [List.mem_singleton.1 he]; omega

theorem take_drop_le (x : Int) (l : List E) : takeLe x l ++ dropLe x l = l := List.takeWhile_append_dropWhile

theorem take_le {x : Int} : ∀ {l : List E}, ∀ e ∈ takeLe x l, e.x ≤ x
  | [], e, h => by simp [takeLe] at h
  | p :: l, e, h => by
    unfold takeLe at h
    rw [List.takeWhile_cons] at h
    split at h
    · rename_i hp
      rcases List.mem_cons.1 h with rfl | h
      · simpa using hp
      · exact take_le e h
    · cases h

theorem drop_gt {x : Int} : ∀ {l : List E}, Inc l → ∀ e ∈ dropLe x l, x < e.x
  | [], _, e, h => by simp [dropLe] at h
  | p :: l, hi, e, h => by
    unfold dropLe at h
    rw [List.dropWhile_cons] at h
    obtain ⟨h1, h2⟩ := List.pairwise_cons.1 hi
    split at h
    · exact drop_gt h2 e h
    · rename_i hp
      have hp' : x < p.x := by simpa using hp
      rcases List.mem_cons.1 h with rfl | h
      · exact hp'
      · have := h1 e h; omega

theorem addAll_ok : ∀ (ch sum es : List E) (M : Int), Inc (sum ++ es) → (∀ e ∈ sum, e.x ≤ M) → (∀ e ∈ es, M < e.x) → (M' : Int) → (∀ c ∈ ch, M ≤ c.x) → ch.Pairwise (fun p q => p.x ≤ q.x) →
    Inc (addAll sum es ch) ∧ (∀ g, Lin g → ∀ x, cntLe g x (addAll sum es ch) = cntLe g x sum + cntLe g x es + cntLe g x ch) ∧ wt (addAll sum es ch) ≤ wt sum + wt es + wt ch ∧ (addAll sum es ch).length ≤ sum.length + es.length + ch.length
  | [], sum, es, M, hi, _, _, _, _, _ => by
    refine ⟨hi, fun g _ x => ?_, ?_, ?_⟩
    · simp only [addAll, cntLe_append, cntLe]; omega
    · simp only [addAll, wt_append, wt]; omega
    · simp [addAll]
  | c :: ch, sum, es, M, hi, hs, he, M', hc, hp => by
    have hMc := hc c List.mem_cons_self
    obtain ⟨p1, p2⟩ := List.pairwise_cons.1 hp
    have es_eq := take_drop_le c.x es
    obtain ⟨i1, i2, i3⟩ := List.pairwise_append.1 hi
    have hi2 : Inc (sum ++ takeLe c.x es) := List.pairwise_append.2 ⟨i1, i2.sublist (List.takeWhile_sublist _), fun p hp q hq => i3 p hp q ((List.takeWhile_sublist _).subset hq)⟩
    have hle : ∀ e ∈ sum ++ takeLe c.x es, e.x ≤ c.x := fun e h => by
      rcases List.mem_append.1 h with h | h
      · have := hs e h; omega
      · exact take_le e h
    obtain ⟨a1, a2⟩ := addLast_inc hi2 hle
    have hgt : ∀ e ∈ dropLe c.x es, c.x < e.x := drop_gt i2
    obtain ⟨r1, r2, r3, r4⟩ := addAll_ok ch (addLastP (sum ++ takeLe c.x es) c) (dropLe c.x es) c.x
      (List.pairwise_append.2 ⟨a1, i2.sublist (List.dropWhile_sublist _), fun p hp q hq => by have := a2 p hp; have := hgt q hq; omega⟩) a2 hgt M' p1 p2
    have hcnt : ∀ (g : E → Int) (x : Int), cntLe g x es = cntLe g x (takeLe c.x es) + cntLe g x (dropLe c.x es) := fun g x => by rw [← cntLe_append, es_eq]
    have hwt : wt es = wt (takeLe c.x es) + wt (dropLe c.x es) := by rw [← wt_append, es_eq]
    have hlen : es.length = (takeLe c.x es).length + (dropLe c.x es).length := by rw [← List.length_append, es_eq]
    refine ⟨r1, fun g hg x => ?_, ?_, ?_⟩
    · simp only [addAll, cntLe]
      rw [r2 g hg x, addLast_cnt hg, cntLe_append, hcnt g x]
      omega
    · simp only [addAll]
      have := addLast_wt (sum ++ takeLe c.x es) c
      rw [wt_append] at this
      simp only [wt] at this ⊢
      omega
    · simp only [addAll]
      have := addLast_len (sum ++ takeLe c.x es) c
      rw [List.length_append] at this
      simp only [List.length_cons]
      omega

theorem addAll_sum {es ch : List E} (hi : Inc es) (hs : ch.Pairwise (fun p q => p.x ≤ q.x)) :
    Inc (addAll [] es ch) ∧ (∀ g, Lin g → ∀ x, cntLe g x (addAll [] es ch) = cntLe g x es + cntLe g x ch) ∧ wt (addAll [] es ch) ≤ wt es + wt ch ∧ (addAll [] es ch).length ≤ es.length + ch.length := by
  obtain ⟨B, hB⟩ := low_bound (es ++ ch)
  obtain ⟨h1, h2, h3, h4⟩ := addAll_ok ch [] es (B - 1) hi (by simp) (fun e he => by have := hB e (by simp [he]); omega) 0 (fun e he => by have := hB e (by simp [he]); omega) hs
  refine ⟨h1, fun g hg x => ?_, ?_, ?_⟩
  · have := h2 g hg x; simp only [cntLe] at this; omega
  · simp only [wt] at h3; omega
  · simp only [List.length_nil] at h4; omega

/-! ### changes from row to row -/
def chgR (sa sb : Int) (y : Int) (r : R) : List E :=
  if empB r then [] else if r.y0 = y then [⟨r.x0, sa, sb⟩, ⟨r.x1, -sa, -sb⟩] else if r.y1 = y then [⟨r.x0, -sa, -sb⟩, ⟨r.x1, sa, sb⟩] else []
def chgL (sa sb : Int) (l : List R) (y : Int) : List E := l.flatMap (chgR sa sb y)
def chg (a b : List R) (y : Int) : List E := chgL 1 0 a y ++ chgL 0 1 b y

/-- how many rectangles of the list have the pixel -/
def cov : List R → Int → Int → Int
  | [], _, _ => 0
  | r :: l, x, y => one (conB r x y) + cov l x y

theorem cov_nonneg : ∀ (l : List R) (x y : Int), 0 ≤ cov l x y
  | [], _, _ => Int.le_refl _
  | r :: l, x, y => by
    have := cov_nonneg l x y
    simp only [cov, one]
    split <;> omega

theorem cov_in : ∀ (l : List R) (x y : Int), decide (0 < cov l x y) = inL l x y
  | [], _, _ => rfl
  | r :: l, x, y => by
    have h0 := cov_nonneg l x y
    have ih := cov_in l x y
    rw [Bool.eq_iff_iff, decide_eq_true_eq] at ih ⊢
    simp only [cov, inL, List.any_cons, Bool.or_eq_true] at ih ⊢
    rw [← ih]
    unfold one
    by_cases hc : conB r x y = true
    · rw [if_pos hc]
      exact ⟨fun _ => .inl hc, fun _ => by omega⟩
    · rw [if_neg hc]
      exact ⟨fun h => .inr (by omega), fun h => by rcases h with h | h; exact absurd h hc; omega⟩

/-- no rectangle of the list begins or ends in the rows behind t and before y -/
def Clear (l : List R) (t y : Int) : Prop := ∀ r ∈ l, empB r = false → (r.y0 ≤ t ∨ y ≤ r.y0) ∧ (r.y1 ≤ t ∨ y ≤ r.y1)

theorem con_rows {r : R} (h : empB r = false) (x y : Int) : one (conB r x y) = if r.y0 ≤ y ∧ y < r.y1 ∧ r.x0 ≤ x ∧ x < r.x1 then 1 else 0 := by
  have hc := con_iff r x y
  unfold one
  by_cases e : r.y0 ≤ y ∧ y < r.y1 ∧ r.x0 ≤ x ∧ x < r.x1
  · rw [if_pos e, if_pos (hc.2 ⟨h, by omega⟩)]
  · rw [if_neg e, if_neg (fun k => e (by have := (hc.1 k).2; omega))]

theorem con_none {r : R} (h : empB r = true) (x y : Int) : one (conB r x y) = 0 := by
  unfold one
  rw [if_neg (fun k => by have := ((con_iff r x y).1 k).1; rw [h] at this; cases this)]

theorem chgR_cnt {r : R} {t y : Int} (ht : t < y) (hc : empB r = false → (r.y0 ≤ t ∨ y ≤ r.y0) ∧ (r.y1 ≤ t ∨ y ≤ r.y1)) (x : Int) :
    one (conB r x y) = one (conB r x t) + cntLe E.a x (chgR 1 0 y r) ∧ one (conB r x y) = one (conB r x t) + cntLe E.b x (chgR 0 1 y r) ∧ cntLe E.b x (chgR 1 0 y r) = 0 ∧ cntLe E.a x (chgR 0 1 y r) = 0 := by
  cases h : empB r
  · have hf := (emp_no r).1 h
    obtain ⟨h1, h2⟩ := hc h
    rw [con_rows h, con_rows h]
    simp only [chgR, h, Bool.false_eq_true, if_false]
    by_cases e0 : r.y0 = y
    · rw [if_pos e0, if_pos e0]
      simp only [cntLe]
      refine ⟨?_, ?_, ?_, ?_⟩ <;> (repeat' split) <;> omega
    · rw [if_neg e0, if_neg e0]
      by_cases e1 : r.y1 = y
      · rw [if_pos e1, if_pos e1]
        simp only [cntLe]
        refine ⟨?_, ?_, ?_, ?_⟩ <;> (repeat' split) <;> omega
      · rw [if_neg e1, if_neg e1]
        simp only [cntLe]
        refine ⟨?_, ?_, ?_, ?_⟩ <;> (repeat' split) <;> first | trivial | omega
  · rw [con_none h, con_none h]
    simp [chgR, h, cntLe]

theorem chgL_cnt {t y : Int} (ht : t < y) (x : Int) : ∀ {l : List R}, Clear l t y →
    cov l x y = cov l x t + cntLe E.a x (chgL 1 0 l y) ∧ cov l x y = cov l x t + cntLe E.b x (chgL 0 1 l y) ∧ cntLe E.b x (chgL 1 0 l y) = 0 ∧ cntLe E.a x (chgL 0 1 l y) = 0
  | [], _ => ⟨rfl, rfl, rfl, rfl⟩
  | r :: l, h => by
    obtain ⟨h1, h2, h3, h4⟩ := chgR_cnt ht (h r List.mem_cons_self) x
    obtain ⟨k1, k2, k3, k4⟩ := chgL_cnt ht x (l := l) (fun r' hr => h r' (List.mem_cons_of_mem _ hr))
    simp only [chgL, List.flatMap_cons, cntLe_append, cov] at k1 k2 k3 k4 ⊢
    omega

theorem chg_cnt {a b : List R} {t y : Int} (ht : t < y) (ha : Clear a t y) (hb : Clear b t y) (x : Int) :
    cov a x y = cov a x t + cntLe E.a x (chg a b y) ∧ cov b x y = cov b x t + cntLe E.b x (chg a b y) := by
  obtain ⟨h1, _, h3, _⟩ := chgL_cnt ht x ha
  obtain ⟨_, k2, _, k4⟩ := chgL_cnt ht x hb
  simp only [chg, cntLe_append]
  omega

theorem chgL_wt {sa sb : Int} (h : sa.natAbs + sb.natAbs = 1) (y : Int) : ∀ l : List R, wt (chgL sa sb l y) ≤ 2 * l.length ∧ (chgL sa sb l y).length ≤ 2 * l.length
  | [] => ⟨Nat.le_refl _, Nat.le_refl _⟩
  | r :: l => by
    have ih := chgL_wt h y l
    have hr : wt (chgR sa sb y r) ≤ 2 ∧ (chgR sa sb y r).length ≤ 2 := by
      unfold chgR
      (repeat' split) <;> simp [wt] <;> omega
    simp only [chgL, List.flatMap_cons, wt_append, List.length_append, List.length_cons] at ih ⊢
    omega

theorem chg_wt (a b : List R) (y : Int) : wt (chg a b y) ≤ 2 * (a.length + b.length) ∧ (chg a b y).length ≤ 2 * (a.length + b.length) := by
  have h1 := chgL_wt (sa := 1) (sb := 0) (by decide) y a
  have h2 := chgL_wt (sa := 0) (sb := 1) (by decide) y b
  simp only [chg, wt_append, List.length_append]
  omega

/-- every coordinate at which a rectangle begins or ends is in the list, or not behind t -/
def Covers (l : List R) (t : Int) (ys : List Int) : Prop := ∀ r ∈ l, empB r = false → (r.y0 ≤ t ∨ r.y0 ∈ ys) ∧ (r.y1 ≤ t ∨ r.y1 ∈ ys)

theorem Covers.clear {l : List R} {t y : Int} {ys : List Int} (h : Covers l t (y :: ys)) (hy : ∀ z ∈ ys, y < z) : Clear l t y := fun r hr he => by
  obtain ⟨h1, h2⟩ := h r hr he
  have k : ∀ z, z ≤ t ∨ z ∈ y :: ys → z ≤ t ∨ y ≤ z := fun z hz => by
    rcases hz with hz | hz
    · exact .inl hz
    · rcases List.mem_cons.1 hz with rfl | hz
      · exact .inr (Int.le_refl _)
      · exact .inr (by have := hy z hz; omega)
  exact ⟨k _ h1, k _ h2⟩

theorem Covers.next {l : List R} {t y : Int} {ys : List Int} (h : Covers l t (y :: ys)) (ht : t ≤ y) : Covers l y ys := fun r hr he => by
  obtain ⟨h1, h2⟩ := h r hr he
  have k : ∀ z, z ≤ t ∨ z ∈ y :: ys → z ≤ y ∨ z ∈ ys := fun z hz => by
    rcases hz with hz | hz
    · exact .inl (by omega)
    · rcases List.mem_cons.1 hz with rfl | hz
      · exact .inl (Int.le_refl _)
      · exact .inr hz
  exact ⟨k _ h1, k _ h2⟩

/-- a row without beginning or end has the pixels of the row before it -/
theorem clear_row {l : List R} {t u : Int} (ht : t ≤ u) (h : ∀ r ∈ l, empB r = false → (r.y0 ≤ t ∨ u < r.y0) ∧ (r.y1 ≤ t ∨ u < r.y1)) (x : Int) : inL l x u = inL l x t := by
  rw [Bool.eq_iff_iff, inL_iff, inL_iff]
  constructor
  · rintro ⟨r, hr, hc⟩
    obtain ⟨he, h1⟩ := (con_iff _ _ _).1 hc
    have := h r hr he
    exact ⟨r, hr, (con_iff _ _ _).2 ⟨he, by omega⟩⟩
  · rintro ⟨r, hr, hc⟩
    obtain ⟨he, h1⟩ := (con_iff _ _ _).1 hc
    have := h r hr he
    exact ⟨r, hr, (con_iff _ _ _).2 ⟨he, by omega⟩⟩

theorem past_row {l : List R} {t u : Int} (ht : t ≤ u) (h : ∀ r ∈ l, empB r = false → r.y1 ≤ t) (x : Int) : inL l x u = false := by
  cases e : inL l x u
  · rfl
  · obtain ⟨r, hr, hc⟩ := (inL_iff _ _ _).1 e
    obtain ⟨he, h1⟩ := (con_iff _ _ _).1 hc
    have := h r hr he
    omega

/-! ### strips -/
def stripsY (rr : Int → Runs) : Int → List Int → List Band
  | _, [] => []
  | t, y :: ys => if rr t = [] then stripsY rr y ys else (t, y, rr t) :: stripsY rr y ys

theorem stripsY_ok {op : Op2} (h0 : op false false = false) {a b : List R} {rr : Int → Runs} (hr : ∀ y, RunsOf (fun x => setS op a b x y) (rr y)) :
    ∀ (ys : List Int) (t : Int), (t :: ys).Pairwise (· < ·) → Covers a t ys → Covers b t ys → SortF [] t (stripsY rr t ys) ∧ ∀ u, t ≤ u → val [] (stripsY rr t ys) u = rr u
  | [], t, _, ha, hb => by
    refine ⟨trivial, fun u hu => ?_⟩
    have ea : ∀ r ∈ a, empB r = false → r.y1 ≤ t := fun r h he => by rcases (ha r h he).2 with h | h; exact h; cases h
    have eb : ∀ r ∈ b, empB r = false → r.y1 ≤ t := fun r h he => by rcases (hb r h he).2 with h | h; exact h; cases h
    refine runs_unique (runs_nil fun x => ?_) (hr u)
    simp only [setS, past_row hu ea, past_row hu eb, h0]
  | y :: ys, t, hp, ha, hb => by
    obtain ⟨p1, p2⟩ := List.pairwise_cons.1 hp
    have hty := p1 y List.mem_cons_self
    obtain ⟨p3, _⟩ := List.pairwise_cons.1 p2
    have ca := ha.clear p3
    have cb := hb.clear p3
    obtain ⟨i1, i2⟩ := stripsY_ok h0 hr ys y p2 (ha.next (by omega)) (hb.next (by omega))
    have row : ∀ u, t ≤ u → u < y → rr u = rr t := fun u h1 h2 => by
      refine runs_unique (hr u) ((hr t).congr fun x => ?_)
      simp only [setS]
      rw [clear_row (l := a) h1 (fun r h he => by have := ca r h he; omega), clear_row (l := b) h1 (fun r h he => by have := cb r h he; omega)]
    unfold stripsY
    by_cases e : rr t = []
    · rw [if_pos e]
      refine ⟨i1.mono (by omega), fun u hu => ?_⟩
      by_cases hy : y ≤ u
      · exact i2 u hy
      · rw [val_low i1 (by omega), row u hu (by omega), e]
    · rw [if_neg e]
      refine ⟨⟨Int.le_refl _, e, hty, i1⟩, fun u hu => ?_⟩
      simp only [val]
      by_cases hy : u < y
      · rw [if_pos ⟨hu, hy⟩, row u hu hy]
      · rw [if_neg (by omega)]
        exact i2 u (by omega)

theorem stripsY_strips {op : Op2} (h0 : op false false = false) {a b : List R} {rr : Int → Runs} (hr : ∀ y, RunsOf (fun x => setS op a b x y) (rr y)) {ys : List Int} {t : Int} (hp : (t :: ys).Pairwise (· < ·)) (ha : Covers a t ys) (hb : Covers b t ys) (ht : t < -16384) : Strips (setS op a b) (stripsY rr t ys) := by
  obtain ⟨h1, h2⟩ := stripsY_ok h0 hr ys t hp ha hb
  refine ⟨⟨t, h1⟩, fun y => ?_⟩
  by_cases hy : t ≤ y
  · rw [h2 y hy]
    exact hr y
  · rw [val_low h1 (by omega)]
    refine runs_nil fun x => ?_
    cases e : setS op a b x y
    · rfl
    · have := setS_inside h0 a b x y e; omega

end Go.Proofs.Ytclnepijbnhdfaa
