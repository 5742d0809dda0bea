/-
  Package registry: supported, created, the two predicates, slices.IndexFunc over globals, find.
-/
import Derived.Test.YtcecicmihdcjgaaDoorRgt
import Derived.Shelf.Abstract
import Derived.LaidEqlPtr
import Derived.Lib.SliceRun
namespace Go.Proofs.YtcecicmihdcjgaaDoor
open Go.RowKit

set_option maxRecDepth 100000 in
theorem p_supp_any (a b : Int) (w : World) : Calls Tryd.prog 29 #[.int .i64 a, .int .i64 b] w fun e w' => e = .returned (.bool (decide (1 ≤ a ∧ a ≤ b))) ∧ w = w' := by
  by_cases h : 1 ≤ a
  · by_cases h2 : a ≤ b
    · rw [decide_eq_true ⟨h, h2⟩]
      go_enter Tryd.func29, Tryd.ntmps29
      go_wp2_with fail
      go_ret
      exact ⟨rfl, rfl⟩
    · rw [decide_eq_false (fun e => h2 e.2)]
      go_enter Tryd.func29, Tryd.ntmps29
      go_wp2_with fail
      go_ret
      exact ⟨rfl, rfl⟩
  · rw [decide_eq_false (fun e => h e.1)]
    go_enter Tryd.func29, Tryd.ntmps29
    go_wp2_with fail
    go_ret
    exact ⟨rfl, rfl⟩

set_option maxRecDepth 100000 in
theorem reg_info : (Tryd.prog.info? 60).isSome = true := by kernel_rfl
theorem eql_ptr (a : Addr) (w : World) : (binOp .eql 24 (.pointer (some a)) (.pointer (some a))).run Tryd.prog w = .ok (.bool true) w := by
  obtain ⟨i, hi⟩ := Option.isSome_iff_exists.1 reg_info
  exact run_eql_ptr_same w a Tryd.underlying24 hi
theorem eql_ptr0 (b : Addr) (w : World) : (binOp .eql 24 (.pointer none) (.pointer (some b))).run Tryd.prog w = .ok (.bool false) w := by
  have h : ∀ d : Nat, (Op.equalIn (d + 3) 24 (.pointer none) (.pointer (some b))).run Tryd.prog w = .ok false w := fun d => by
    simp [Op.equalIn, run_underlying Tryd.underlying24, go_sem]
  simp only [binOp]
  simp [Op.equal, Op.maxDepth, h 9997]
set_option maxRecDepth 100000 in
theorem p_created_own {w : World} {p : Nat} (h : w.cell? ⟨p, 4, none⟩ = some (.pointer (some ⟨p, 0, none⟩))) : Calls Tryd.prog 27 #[.pointer (some ⟨p, 0, none⟩)] w fun e w' => e = .returned (.bool true) ∧ w = w' := by
  have E := fun W => eql_ptr ⟨p, 0, none⟩ W
  go_enter Tryd.func27, Tryd.ntmps27
  go_wp2_with fail
  go_ret
  exact ⟨rfl, rfl⟩
set_option maxRecDepth 100000 in
theorem p_created_zero {w : World} {p : Nat} (h : w.cell? ⟨p, 4, none⟩ = some (.pointer none)) : Calls Tryd.prog 27 #[.pointer (some ⟨p, 0, none⟩)] w fun e w' => e = .returned (.bool false) ∧ w = w' := by
  have E := fun W => eql_ptr0 ⟨p, 0, none⟩ W
  go_enter Tryd.func27, Tryd.ntmps27
  go_wp2_with fail
  go_ret
  exact ⟨rfl, rfl⟩
set_option maxRecDepth 100000 in
theorem p_created_nil (w : World) : Calls Tryd.prog 27 #[.pointer none] w fun e w' => e = .returned (.bool false) ∧ w = w' := by
  go_enter Tryd.func27, Tryd.ntmps27
  go_wp2_with fail
  go_ret
  exact ⟨rfl, rfl⟩

set_option maxRecDepth 100000 in
theorem p_named_any {w : World} {k q : Nat} (hc : w.cell? ⟨k, 0, none⟩ = some (.int .u32 (q : Int))) (hk : k < w.heap.size) (x : Gl) :
    Calls Tryd.prog 42 #[glVal x, .pointer (some ⟨k, 0, none⟩)] w (SaysB (decide (x.nm = q)) w) := by
  obtain ⟨a, b, c⟩ := x
  dsimp only
  have HB := Lib.hid ((Below.refl w.heap.size w).alloc (Nat.le_refl _) (.cells #[.int .u32 (a : Int), .string b, .int .i64 c] 49))
  have c1 := (HB.out.cell (p := ⟨k, 0, none⟩) hk).trans hc
  by_cases h : a = q
  · subst h
    have e0 : ((a : Int) == (a : Int)) = true := by simp
    rw [decide_eq_true rfl]
    go_enter Tryd.func42, Tryd.ntmps42
    go_wp2_with fail
    go_ret
    exact ⟨rfl, HB.out⟩
  · have e1 : ¬ (a : Int) = (q : Int) := by omega
    have e0 : ((a : Int) == (q : Int)) = false := beq_eq_false_iff_ne.2 e1
    rw [decide_eq_false h]
    go_enter Tryd.func42, Tryd.ntmps42
    go_wp2_with fail
    go_ret
    exact ⟨rfl, HB.out⟩

set_option maxRecDepth 100000 in
set_option maxHeartbeats 2000000 in
theorem eq_gl (a b : Gl) (w : World) : (binOp .eql 49 (glVal a) (glVal b)).run Tryd.prog w = .ok (.bool (eqG a b)) w := by
  have h := neq_gl a b w
  simp only [binOp] at h ⊢
  revert h
  simp only [Sem.run_bind]
  cases (Op.equal 49 (glVal a) (glVal b)).run Tryd.prog w <;> simp [Result.andThen]

set_option maxRecDepth 100000 in
theorem p_equal_any {w : World} {k : Nat} {g : Gl} (hc : GlAt w k 0 g) (hk : k < w.heap.size) (x : Gl) :
    Calls Tryd.prog 35 #[glVal x, .pointer (some ⟨k, 0, none⟩)] w (SaysB (eqG x g) w) := by
  have E := fun W => eq_gl x g W
  obtain ⟨t, ht⟩ : ∃ t, eqG x g = t := ⟨_, rfl⟩
  rw [ht] at E ⊢
  obtain ⟨a, b, c⟩ := x
  have HB := Lib.hid ((Below.refl w.heap.size w).alloc (Nat.le_refl _) (.cells #[.int .u32 (a : Int), .string b, .int .i64 c] 49))
  obtain ⟨c0, c1, c2⟩ := hc.below hk HB.out
  clear ht hc
  go_enter Tryd.func35, Tryd.ntmps35
  go_wp2_with fail
  go_ret
  exact ⟨rfl, HB.out⟩

/-- a predicate on globals, given by a closure over one box, called in a world that has kept what is older -/
def PredG (w : World) (l : List Gl) (n : Nat) (lb : Value) (p : Gl → Bool) : Prop := ∀ W, Below w.heap.size w W → ∀ x ∈ l, Calls Tryd.prog n #[glVal x, lb] W (SaysB (p x) W)
/-- the first global of which p holds, or -1 -/
def idxG (p : Gl → Bool) : List Gl → Nat → Int
  | [], _ => -1
  | a :: l, i => if p a = true then (i : Int) else idxG p l (i + 1)
theorem idxG_any (p : Gl → Bool) : ∀ (l : List Gl) (i : Nat), (idxG p l i = -1 ∧ ∀ r ∈ l, p r = false) ∨ ∃ (k : Nat) (x : Gl), l[k]? = some x ∧ idxG p l i = ((i + k : Nat) : Int) ∧ p x = true ∧ ∀ r ∈ l.take k, p r = false
  | [], _ => .inl ⟨rfl, fun r h => by simp at h⟩
  | a :: l, i => by
    unfold idxG
    by_cases h : p a = true
    · rw [if_pos h]
      exact .inr ⟨0, a, rfl, rfl, h, fun r hr => by simp at hr⟩
    · rw [if_neg h]
      have hf : p a = false := by simpa using h
      rcases idxG_any p l (i + 1) with ⟨e, ha⟩ | ⟨k, x, hx, e, ht, ha⟩
      · refine .inl ⟨e, fun r hr => ?_⟩
        rcases List.mem_cons.1 hr with rfl | hr
        · exact hf
        · exact ha r hr
      · refine .inr ⟨k + 1, x, by simpa using hx, by rw [e]; congr 1; omega, ht, fun r hr => ?_⟩
        rw [List.take_succ_cons] at hr
        rcases List.mem_cons.1 hr with rfl | hr
        · exact hf
        · exact ha r hr
theorem drop_gl {l : List Gl} {i : Nat} {x : Gl} (h : l[i]? = some x) : l.drop i = x :: l.drop (i + 1) := by
  obtain ⟨h1, rfl⟩ := List.getElem?_eq_some_iff.1 h
  exact List.drop_eq_getElem_cons h1

set_option maxRecDepth 100000 in
set_option maxHeartbeats 4000000 in
theorem p_index_any {w : World} {v : Value} {l : List Gl} (h : Gs w v l) (g : Nat) (lb : Value) (p : Gl → Bool) (C : PredG w l g lb p)
    (eg : ∀ args w, (callFunc g args).run Tryd.prog w = .ok (.enter g args) w) :
    Calls Tryd.prog 41 #[v, .func (.func g) #[] #[lb]] w fun e w' => e = .returned (.int .i64 (idxG p l 0)) ∧ Below w.heap.size w w' := by
  have HA := Lib.hid h
  have HC := Lib.hid C
  obtain ⟨A, cap, rfl, hcap, hm⟩ := h.shape
  simp only [maxLen] at hm
  obtain ⟨n, hn⟩ : ∃ n, l.length = n := ⟨_, rfl⟩
  have HN := Lib.hid hn
  obtain ⟨r, hr⟩ : ∃ r, idxG p l 0 = r := ⟨_, rfl⟩
  rw [hr]
  have HT0 : Hid (idxG p (l.drop 0) 0 = r) := Lib.hid hr
  have J0 := Lib.hid (Below.refl w.heap.size w)
  rw [hn] at hcap HA ⊢
  clear h C hn hr
  go_enter Tryd.func41, Tryd.ntmps41
  go_wp2_with fail
  go_loopw [8] (fun s8 wr => ∃ i : Nat, i ≤ n ∧ s8 = .int .i64 (i : Int) ∧ Hid (idxG p (l.drop i) i = r) ∧ Hid (Below w.heap.size w wr)) (fun s8 _ => leftN n s8)
  case atStart => exact ⟨0, Nat.zero_le _, rfl, HT0, J0⟩
  case round =>
    clear J0 HT0
    obtain ⟨i, hi, rfl, HT, J⟩ := hrel
    by_cases hlt : i < n
    · have q0 : (0 : Int) ≤ i := by omega
      have q1 : (i : Int) < n := by omega
      obtain ⟨q, hp⟩ : ∃ q, l[i]? = some q := ⟨_, List.getElem?_eq_getElem (by rw [HN.out]; exact hlt)⟩
      have hx := HT.out
      rw [drop_gl hp] at hx
      unfold idxG at hx
      obtain ⟨b, off, rfl, hb, c0, c1, c2⟩ := gs_at HA.out J.out hp
      have D := Lib.hid (HC.out wr J.out q (List.mem_of_getElem? hp))
      obtain ⟨kd, nn, ss⟩ := q
      dsimp only at c0 c1 c2 hx D
      obtain ⟨t, ht⟩ : ∃ t, p ⟨kd, nn, ss⟩ = t := ⟨_, rfl⟩
      rw [ht] at hx D
      clear hp HT ht
      cases t with
      | true =>
        rw [if_pos rfl] at hx
        subst hx
        go_wp2_with fail
        refine D.out.mono ?_
        rintro e w1 ⟨rfl, hb1⟩
        have J2 := Lib.hid (Below.next J.out hb1)
        clear hb1 D
        go_wp2_with fail
        go_ret
        exact ⟨rfl, J2.out⟩
      | false =>
        rw [if_neg (by simp)] at hx
        have HT2 := Lib.hid hx
        clear hx
        go_wp2_with fail
        refine D.out.mono ?_
        rintro e w1 ⟨rfl, hb1⟩
        have J2 := Lib.hid (Below.next J.out hb1)
        clear hb1 D
        go_wp2_with fail
        go_roundw
        case rel => exact ⟨i + 1, by omega, by go_num, HT2, J2⟩
        case measure =>
          unfold leftN
          simp [intOf]
          omega
    · obtain rfl : n = i := by omega
      have hx := HT.out
      rw [List.drop_of_length_le (by rw [HN.out]; exact Nat.le_refl _)] at hx
      have e : r = -1 := hx.symm
      clear HT
      subst e
      clear hx
      go_wp2_with fail
      go_ret
      exact ⟨rfl, J.out⟩

theorem idx_fst (q : Nat) (l : List Gl) : (idxG (fun r => decide (r.nm = q)) l 0 = -1 ∧ (fstF q l).1 = zeroG) ∨ ∃ k : Nat, k < l.length ∧ idxG (fun r => decide (r.nm = q)) l 0 = (k : Int) ∧ l[k]? = some (fstF q l).1 := by
  rcases idxG_any (fun r => decide (r.nm = q)) l 0 with ⟨e, ha⟩ | ⟨k, x, hx, e, ht, ha⟩
  · refine .inl ⟨e, ?_⟩
    rw [fstF_none (fun r hr => by have := ha r hr; simpa using this)]
  · refine .inr ⟨k, (List.getElem?_eq_some_iff.1 hx).1, by rw [e]; congr 1; omega, ?_⟩
    have h1 : l = l.take k ++ x :: l.drop (k + 1) := by rw [← drop_gl hx, List.take_append_drop]
    have h2 : fstF q l = (x, true) := by
      rw [h1, fstF_append, fstF_none (fun r hr => by have := ha r hr; simpa using this), fstF_cons]
      simp only [decide_eq_true_eq] at ht
      rw [if_pos ht]
      simp
    rw [h2, hx]

set_option maxRecDepth 100000 in
set_option maxHeartbeats 4000000 in
theorem p_find_any {w : World} {v : Value} {l : List Gl} (h : Gs w v l) (q : Nat) : Calls Tryd.prog 33 #[v, .int .u32 (q : Int)] w fun e w' => e = .returned (glVal (fstF q l).1) ∧ Below w.heap.size w w' := by
  have HA := Lib.hid h
  have eg : ∀ args w, (callFunc 42 args).run Tryd.prog w = .ok (.enter 42 args) w := enters_of Tryd.func42 (by kernel_rfl) rfl
  have C := fun (W : World) (h0 : Below w.heap.size w W) (k : Nat) (hc : W.cell? ⟨k, 0, none⟩ = some (.int .u32 (q : Int))) (hk : k < W.heap.size) =>
    Lib.hid (p_index_any (h.below h0) 42 (.pointer (some ⟨k, 0, none⟩)) (fun r => decide (r.nm = q)) (fun W' hb' x _ => p_named_any ((hb'.cell (p := ⟨k, 0, none⟩) hk).trans hc) (Nat.lt_of_lt_of_le hk hb'.size) x) eg)
  obtain ⟨A, cap, rfl, hcap, hm⟩ := h.shape
  simp only [maxLen] at hm
  have J := Lib.hid (show Held w ((w.alloc (.cells #[.int .u32 (q : Int)] 30)).alloc (.cells #[.int .u32 0, .string ⟨#[]⟩, .int .i64 0] 49)) [(w.heap.size + 1, [.int .u32 0, .string ⟨#[]⟩, .int .i64 0]), (w.heap.size, [.int .u32 (q : Int)])] from by
    have h := ((Held.nil w).alloc [.int .u32 (q : Int)] 30).alloc [.int .u32 0, .string ⟨#[]⟩, .int .i64 0] 49
    rw [World.size_alloc] at h
    exact h)
  obtain ⟨g, hg⟩ : ∃ g, (fstF q l).1 = g := ⟨_, rfl⟩
  have hi := idx_fst q l
  obtain ⟨r, hr⟩ : ∃ r, idxG (fun r => decide (r.nm = q)) l 0 = r := ⟨_, rfl⟩
  rw [hr, hg] at hi
  simp only [hr] at C
  rw [hg]
  have HI := Lib.hid hi
  obtain ⟨n, hn⟩ : ∃ n, l.length = n := ⟨_, rfl⟩
  rw [hn] at hcap HA C HI ⊢
  clear h hn hg hr hi
  go_enter Tryd.func33, Tryd.ntmps33
  go_wp2_with fail
  obtain ⟨y0, yf, yl⟩ := (show Held w _ ([_] ++ (w.heap.size, _) :: []) from J.out).one
  refine (C _ J.out.below w.heap.size y0 yl).out.mono ?_
  rintro e w1 ⟨rfl, hb⟩
  replace J := Lib.hid (J.out.step hb)
  clear hb C y0 yf yl
  obtain ⟨x0, x1, x2, xf, xl⟩ := (show Held w w1 ([] ++ (w.heap.size + 1, _) :: [_]) from J.out).tri
  have K := Lib.hid (fun (g : Gl) => (show Held w w1 ([] ++ (w.heap.size + 1, [.int .u32 0, .string ⟨#[]⟩, .int .i64 0]) :: [_]) from J.out).set3 (.int .u32 (g.nm : Int)) (.string g.it) (.int .i64 g.vr))
  rcases HI.out with ⟨e1, e2⟩ | ⟨k, hk, e1, e2⟩
  · subst e1 e2
    have K1 := Lib.hid ((show Held w w1 ([] ++ (w.heap.size + 1, [.int .u32 0, .string ⟨#[]⟩, .int .i64 0]) :: [_]) from J.out).set3 (.int .u32 0) (.string ⟨#[]⟩) (.int .i64 0))
    clear HI K
    go_wp2_with fail
    have hK := K1.out
    unfold Go.Proofs.YtcecicmihdcjgaaDoor.set3 at hK
    obtain ⟨x0, x1, x2, -, -⟩ := (show Held w _ ([] ++ (w.heap.size + 1, [.int .u32 0, .string ⟨#[]⟩, .int .i64 0]) :: [_]) from hK).tri
    exact bodyPost_ret (v := glVal zeroG) (by simp [results, Tryd.results33, go_sem, x0, x1, x2, zeroG]) rfl ⟨rfl, hK.below⟩
  · subst e1
    have e3 : ¬ (k : Int) < 0 := by omega
    have q0 : (0 : Int) ≤ k := by omega
    have q1 : (k : Int) < n := by omega
    obtain ⟨b, off, rfl, hb, c0, c1, c2⟩ := gs_at HA.out J.out.below e2
    have K1 := Lib.hid (K.out g)
    clear HI K e2
    go_wp2_with fail
    have hK := K1.out
    unfold Go.Proofs.YtcecicmihdcjgaaDoor.set3 at hK
    obtain ⟨x0, x1, x2, -, -⟩ := (show Held w _ ([] ++ (w.heap.size + 1, [.int .u32 (g.nm : Int), .string g.it, .int .i64 g.vr]) :: [_]) from hK).tri
    exact bodyPost_ret (v := glVal g) (by simp [results, Tryd.results33, go_sem, x0, x1, x2]) rfl ⟨rfl, hK.below⟩

end Go.Proofs.YtcecicmihdcjgaaDoor
