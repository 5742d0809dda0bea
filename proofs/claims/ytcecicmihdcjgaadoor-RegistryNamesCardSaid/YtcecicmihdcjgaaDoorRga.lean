/-
  The reference's small functions: Same, announced, added, with.
-/
import Derived.Test.YtcecicmihdcjgaaDoorRth
import Derived.BigQuiet
import Derived.Deep.QuietTactic
namespace Go.Proofs.YtcecicmihdcjgaaDoor
open Go.RowKit

/-- a Bool, and nothing older turned -/
def SaysB (b : Bool) (w : World) (e : Ending) (w' : World) : Prop := e = .returned (.bool b) ∧ Below w.heap.size w w'

theorem ba_beq (s t : ByteArray) : (s == t) = decide (s = t) := by
  obtain ⟨a⟩ := s
  obtain ⟨b⟩ := t
  have h : ((⟨a⟩ : ByteArray) == ⟨b⟩) = (a == b) := rfl
  rw [h]
  by_cases e : a = b
  · subst e
    simp
  · rw [decide_eq_false (fun h => e (by injection h)), beq_eq_false_iff_ne.2 e]

set_option maxRecDepth 100000 in
set_option maxHeartbeats 2000000 in
theorem neq_gl (a b : Gl) (w : World) : (binOp .neq 49 (glVal a) (glVal b)).run Tryd.prog w = .ok (.bool (!eqG a b)) w := by
  have h : ∀ d : Nat, (Op.equalIn (d + 3) 49 (glVal a) (glVal b)).run Tryd.prog w = .ok (eqG a b) w := fun d => by
    unfold glVal
    simp [Op.equalIn, run_underlying Tryd.underlying49, run_underlying Tryd.underlying30, run_underlying Tryd.underlying9, run_underlying Tryd.underlying3, go_sem]
    unfold eqG
    obtain ⟨n, s, v⟩ := a
    obtain ⟨n2, s2, v2⟩ := b
    dsimp only
    by_cases h0 : n = n2
    · by_cases h1 : s = s2
      · subst h0 h1
        by_cases h2 : v = v2
        · subst h2
          simp
          first | done | (rw [ba_beq]; simp)
        · simp [h2]
      · simp [h0, h1]
        first | done | (intro h; rw [ba_beq] at h; exact absurd (of_decide_eq_true h) h1)
    · have h3 : ¬ (n : Int) = (n2 : Int) := by omega
      simp [h0, h3]
  simp only [binOp]
  simp [Op.equal, Op.maxDepth, h 9997]

theorem sameF_drop {l m : List Gl} {i : Nat} {a b : Gl} (h : l[i]? = some a) (h2 : m[i]? = some b) : sameF (l.drop i) (m.drop i) = (eqG a b && sameF (l.drop (i + 1)) (m.drop (i + 1))) := by
  obtain ⟨h1, rfl⟩ := List.getElem?_eq_some_iff.1 h
  obtain ⟨h3, rfl⟩ := List.getElem?_eq_some_iff.1 h2
  rw [List.drop_eq_getElem_cons h1, List.drop_eq_getElem_cons h3]
  rfl
theorem sameF_len {l m : List Gl} (h : l.length ≠ m.length) : sameF l m = false := by
  rw [Bool.eq_false_iff]
  intro e
  exact h (by rw [(sameF_iff l m).1 e])

set_option maxRecDepth 100000 in
set_option maxHeartbeats 4000000 in
theorem same_any {w : World} {v u : Value} {l m : List Gl} (h : Gs w v l) (hu : Gs w u m) : Calls Tryd.prog 18 #[v, u] w (SaysB (sameF l m) w) := by
  have HA := Lib.hid h
  have HB := Lib.hid hu
  obtain ⟨A, c, rfl, hc, hm⟩ := h.shape
  obtain ⟨A', c', rfl, hc', hm'⟩ := hu.shape
  simp only [maxLen] at hm hm'
  obtain ⟨n, hn⟩ : ∃ n, l.length = n := ⟨_, rfl⟩
  obtain ⟨k, hk⟩ : ∃ n, m.length = n := ⟨_, rfl⟩
  have HN := Lib.hid hn
  have HK := Lib.hid hk
  rw [hn] at hc HA ⊢
  rw [hk] at hc' HB ⊢
  have J0 := Lib.hid (Below.refl w.heap.size w)
  by_cases he : n = k
  · subst he
    obtain ⟨r, hr⟩ : ∃ r, sameF l m = r := ⟨_, rfl⟩
    rw [hr]
    have HI0 : Hid (sameF (l.drop 0) (m.drop 0) = r) := Lib.hid hr
    clear h hu hn hk hr
    go_enter Tryd.func18, Tryd.ntmps18
    go_wp2_with fail
    go_loopw [5] (fun s5 wr => ∃ i : Nat, i ≤ n ∧ s5 = .int .i64 (i : Int) ∧ Hid (sameF (l.drop i) (m.drop i) = r) ∧ Hid (Below w.heap.size w wr)) (fun s5 _ => leftN n s5)
    case atStart => exact ⟨0, Nat.zero_le _, rfl, HI0, J0⟩
    case round =>
      clear J0 HI0
      obtain ⟨i, hi, rfl, HI, J⟩ := hrel
      by_cases hlt : i < n
      · have q0 : (0 : Int) ≤ i := by omega
        have q1 : (i : Int) < n := by omega
        obtain ⟨x, hx⟩ : ∃ x, l[i]? = some x := ⟨_, List.getElem?_eq_getElem (by rw [HN.out]; exact hlt)⟩
        obtain ⟨y, hy⟩ : ∃ x, m[i]? = some x := ⟨_, List.getElem?_eq_getElem (by rw [HK.out]; exact hlt)⟩
        have hs := HI.out
        rw [sameF_drop hx hy] at hs
        obtain ⟨b1, o1, rfl, _, c0, c1, c2⟩ := gs_at HA.out J.out hx
        obtain ⟨b2, o2, rfl, _, d0, d1, d2⟩ := gs_at HB.out J.out hy
        have E1 := fun W => neq_gl x y W
        obtain ⟨t, ht⟩ : ∃ t, eqG x y = t := ⟨_, rfl⟩
        rw [ht] at hs E1
        clear ht hx hy HI
        cases t with
        | true =>
          rw [Bool.true_and] at hs
          have HI2 := Lib.hid hs
          simp only [Bool.not_true] at E1
          clear hs
          go_wp2_with fail
          go_quiet (fail)
          go_wp2_with fail
          go_roundw
          case rel => exact ⟨i + 1, by omega, by go_num, HI2, Lib.hid (below_draws J.out _)⟩
          case measure =>
            unfold leftN
            simp [intOf]
            omega
        | false =>
          rw [Bool.false_and] at hs
          subst hs
          simp only [Bool.not_false] at E1
          go_wp2_with fail
          go_quiet (fail)
          go_wp2_with fail
          go_ret
          exact ⟨rfl, below_draws J.out _⟩
      · obtain rfl : n = i := by omega
        have hs := HI.out
        rw [List.drop_of_length_le (by rw [HN.out]; exact Nat.le_refl _), List.drop_of_length_le (by rw [HK.out]; exact Nat.le_refl _)] at hs
        clear HI
        have e : r = true := hs.symm
        subst e
        clear hs
        go_wp2_with fail
        go_ret
        exact ⟨rfl, J.out⟩
  · rw [sameF_len (by rw [hn, hk]; exact he)]
    have e0 : ((n : Int) != (k : Int)) = true := bne_iff_ne.2 (by omega)
    have e1 : ¬ (n : Int) = (k : Int) := by omega
    clear h hu hn hk
    go_enter Tryd.func18, Tryd.ntmps18
    go_wp2_with fail
    go_ret
    exact ⟨rfl, J0.out⟩

set_option maxRecDepth 100000 in
set_option maxHeartbeats 4000000 in
theorem added_any {w : World} {v : Value} {l : List Gl} (h : Gs w v l) (hl : l.length ≤ 1000000) : Calls Tryd.prog 31 #[.agg #[v]] w fun e w' => e = .returned (.int .i64 (addedF l : Int)) ∧ Below w.heap.size w w' := by
  have HA := Lib.hid h
  obtain ⟨A, c, rfl, hc, hm⟩ := h.shape
  simp only [maxLen] at hm
  obtain ⟨n, hn⟩ : ∃ n, l.length = n := ⟨_, rfl⟩
  have HN := Lib.hid hn
  rw [hn] at hc HA hl ⊢
  have J0 := Lib.hid ((Held.nil w).alloc [.slice A n c] 28)
  obtain ⟨y0, -, -⟩ := (show Held w _ ([] ++ (w.heap.size, _) :: []) from J0.out).one
  clear h hn
  go_enter Tryd.func31, Tryd.ntmps31
  go_wp2_with fail
  clear y0
  go_loopw [3, 4] (fun s3 s4 wr => ∃ (i a : Nat), i ≤ n ∧ s4 = .int .i64 (i : Int) ∧ s3 = .int .i64 (a : Int) ∧ a ≤ i ∧ Hid (addedF (l.take i) = a) ∧ Hid (Held w wr [(w.heap.size, [.slice A n c])])) (fun _ s4 _ => leftN n s4)
  case atStart => exact ⟨0, 0, Nat.zero_le _, rfl, rfl, Nat.le_refl _, Lib.hid rfl, J0⟩
  case round =>
    clear J0
    obtain ⟨i, a, hi, rfl, rfl, hai, HI, J⟩ := hrel
    obtain ⟨y0, -, -⟩ := (show Held w wr ([] ++ (w.heap.size, _) :: []) from J.out).one
    by_cases hlt : i < n
    · have q0 : (0 : Int) ≤ i := by omega
      have q1 : (i : Int) < n := by omega
      obtain ⟨x, hx⟩ : ∃ x, l[i]? = some x := ⟨_, List.getElem?_eq_getElem (by rw [HN.out]; exact hlt)⟩
      have ht := addedF_take hx
      rw [HI.out] at ht
      obtain ⟨b1, o1, rfl, _, c0, c1, c2⟩ := gs_at HA.out J.out.below hx
      by_cases h0 : 0 < x.vr
      · rw [if_pos h0] at ht
        have HI2 := Lib.hid ht
        clear ht hx HI
        go_wp2_with fail
        go_roundw
        case rel => exact ⟨i + 1, a + 1, by omega, by go_num, by go_num, by omega, HI2, J⟩
        case measure =>
          unfold leftN
          simp [intOf]
          omega
      · rw [if_neg h0] at ht
        have HI2 := Lib.hid ht
        clear ht hx HI
        go_wp2_with fail
        go_roundw
        case rel => exact ⟨i + 1, a, by omega, by go_num, rfl, by omega, HI2, J⟩
        case measure =>
          unfold leftN
          simp [intOf]
          omega
    · obtain rfl : n = i := by omega
      have ht := HI.out
      rw [List.take_of_length_le (by rw [HN.out]; exact Nat.le_refl _)] at ht
      subst ht
      clear HI
      go_wp2_with fail
      go_ret
      exact ⟨rfl, J.out.below⟩

/-- the boxes of announced -/
abbrev annB (k : Nat) (v : Value) (g : Gl) : List (Nat × List Value) := [(k + 1 + 1, glC g), (k + 1, [.int .u32 0, .string ⟨#[]⟩, .int .i64 0]), (k, [v])]

set_option maxRecDepth 100000 in
set_option maxHeartbeats 4000000 in
theorem announced_any {w : World} {v : Value} {l : List Gl} (h : Gs w v l) (q : Nat) : Calls Tryd.prog 37 #[.agg #[v], .int .u32 (q : Int)] w fun e w' => e = .returned (.tuple #[glVal (annF l q).1, .bool (annF l q).2]) ∧ Below w.heap.size w w' := by
  have HA := Lib.hid h
  obtain ⟨A, c, rfl, hc, hm⟩ := h.shape
  simp only [maxLen] at hm
  obtain ⟨n, hn⟩ : ∃ n, l.length = n := ⟨_, rfl⟩
  have HN := Lib.hid hn
  rw [hn] at hc HA ⊢
  have J1 := (((Held.nil w).alloc [.slice A n c] 28).alloc [.int .u32 0, .string ⟨#[]⟩, .int .i64 0] 49).alloc [.int .u32 0, .string ⟨#[]⟩, .int .i64 0] 49
  simp only [World.size_alloc] at J1
  have J0 := Lib.hid (show Held w _ (annB w.heap.size (.slice A n c) zeroG) from J1)
  clear h hn J1
  go_enter Tryd.func37, Tryd.ntmps37
  go_wp2_with fail
  go_loopw [7, 8] (fun s7 s8 wr => ∃ (i : Nat) (a : Gl × Bool), i ≤ n ∧ s8 = .int .i64 (i : Int) ∧ s7 = .bool a.2 ∧ Hid (annF (l.take i) q = a) ∧ Hid (Held w wr (annB w.heap.size (.slice A n c) a.1))) (fun _ s8 _ => leftN n s8)
  case atStart => exact ⟨0, (zeroG, false), Nat.zero_le _, rfl, rfl, Lib.hid rfl, J0⟩
  case round =>
    clear J0
    obtain ⟨i, a, hi, rfl, rfl, HI, J⟩ := hrel
    obtain ⟨g, fb⟩ := a
    obtain ⟨y0, -, -⟩ := (show Held w wr ([_, _] ++ (w.heap.size, _) :: []) from J.out).one
    by_cases hlt : i < n
    · have q0 : (0 : Int) ≤ i := by omega
      have q1 : (i : Int) < n := by omega
      obtain ⟨x, hx⟩ : ∃ x, l[i]? = some x := ⟨_, List.getElem?_eq_getElem (by rw [HN.out]; exact hlt)⟩
      have ht := annF_take hx q
      rw [HI.out] at ht
      unfold annS at ht
      obtain ⟨b1, o1, rfl, _, c0, c1, c2⟩ := gs_at HA.out J.out.below hx
      by_cases h0 : x.nm = q
      · rw [if_pos h0] at ht
        subst h0
        have HI2 := Lib.hid ht
        have hb : ((x.nm : Int) == (x.nm : Int)) = true := by simp
        obtain ⟨z0, z1, z2, zf, zl⟩ := (show Held w wr ([] ++ (w.heap.size + 1 + 1, _) :: [_, _]) from J.out).tri
        have K := Lib.hid ((show Held w wr ([] ++ (w.heap.size + 1 + 1, glC g) :: [_, _]) from J.out).set3 (.int .u32 (x.nm : Int)) (.string x.it) (.int .i64 x.vr))
        clear ht hx HI
        go_wp2_with fail
        have hK := K.out
        unfold Go.Proofs.YtcecicmihdcjgaaDoor.set3 at hK
        have K2 := Lib.hid hK
        go_roundw
        case rel => exact ⟨i + 1, (x, decide (0 < x.vr)), by omega, by go_num, rfl, HI2, K2⟩
        case measure =>
          unfold leftN
          simp [intOf]
          omega
      · rw [if_neg h0] at ht
        have HI2 := Lib.hid ht
        have hq : ¬ (x.nm : Int) = (q : Int) := by omega
        have hb : ((x.nm : Int) == (q : Int)) = false := beq_eq_false_iff_ne.2 hq
        clear ht hx HI
        go_wp2_with fail
        go_roundw
        case rel => exact ⟨i + 1, (g, fb), by omega, by go_num, rfl, HI2, J⟩
        case measure =>
          unfold leftN
          simp [intOf]
          omega
    · obtain rfl : n = i := by omega
      have ht := HI.out
      rw [List.take_of_length_le (by rw [HN.out]; exact Nat.le_refl _)] at ht
      have HT := Lib.hid ht
      clear HI ht
      obtain ⟨z0, z1, z2, zf, zl⟩ := (show Held w wr ([] ++ (w.heap.size + 1 + 1, _) :: [_, _]) from J.out).tri
      obtain ⟨x0, x1, x2, xf, xl⟩ := (show Held w wr ([_] ++ (w.heap.size + 1, _) :: [_]) from J.out).tri
      have K := Lib.hid ((show Held w wr ([_] ++ (w.heap.size + 1, [.int .u32 0, .string ⟨#[]⟩, .int .i64 0]) :: [_]) from J.out).set3 (.int .u32 (g.nm : Int)) (.string g.it) (.int .i64 g.vr))
      clear J
      go_wp2_with fail
      have hK := K.out
      unfold Go.Proofs.YtcecicmihdcjgaaDoor.set3 at hK
      obtain ⟨x0, x1, x2, -, -⟩ := (show Held w _ ([_] ++ (w.heap.size + 1, [.int .u32 (g.nm : Int), .string g.it, .int .i64 g.vr]) :: [_]) from hK).tri
      exact bodyPost_ret (v := .tuple #[glVal g, .bool fb]) (by simp [results, Tryd.results37, go_sem, x0, x1, x2]) rfl ⟨by rw [HT.out], hK.below⟩

end Go.Proofs.YtcecicmihdcjgaaDoor
