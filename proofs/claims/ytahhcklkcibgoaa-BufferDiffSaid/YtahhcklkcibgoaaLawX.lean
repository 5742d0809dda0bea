/-
  The runs hold the marked positions and no others; a buffer that takes the runs of another; the walk of the law BufferDiff.
-/
import Derived.Test.YtahhcklkcibgoaaZed
import Derived.Deep.DeepCutAuto
namespace Go.Proofs.Ytahhcklkcibgoaa
open Go.RowKit Mem

/-- a run of marked positions before n -/
def GoodR (w : Nat) (has : Nat → Bool) (n : Nat) (r : R) : Prop :=
  ∃ x0 x1 y : Nat, r = ⟨x0, y, x1, (y : Int) + 1⟩ ∧ x0 < x1 ∧ x1 ≤ w ∧ ∀ x, x0 ≤ x → x < x1 → y * w + x < n ∧ has (y * w + x) = true

theorem GoodR.mono {w n n' : Nat} {has : Nat → Bool} {r : R} (h : GoodR w has n r) (hn : n ≤ n') : GoodR w has n' r := by
  obtain ⟨x0, x1, y, e, h1, h2, h3⟩ := h
  exact ⟨x0, x1, y, e, h1, h2, fun x a b => ⟨Nat.lt_of_lt_of_le (h3 x a b).1 hn, (h3 x a b).2⟩⟩

theorem runs_good {w : Nat} (hw : 0 < w) (has : Nat → Bool) : ∀ n, ∀ r ∈ runsP w has n, GoodR w has n r
  | 0, r, h => by simp [runs_zero] at h
  | i + 1, r, h => by
    rw [runs_succ] at h
    have ih := runs_good hw has i
    have hm := Nat.mod_lt i hw
    cases hi : has i with
    | false =>
      rw [hi, runS_no] at h
      exact (ih r h).mono (Nat.le_succ i)
    | true =>
      rw [hi] at h
      by_cases hc : 0 < i % w ∧ has (i - 1) = true
      · obtain ⟨m, p, hp, h1, h2, h3, h4, h5⟩ := runs_last hw has i hc.1 hc.2
        rw [hp, hc.2, runS_more hc.1] at h
        rw [hp] at ih
        rcases List.mem_append.1 h with h | h
        · exact (ih r (List.mem_append_left _ h)).mono (Nat.le_succ i)
        · obtain rfl := List.mem_singleton.1 h
          obtain ⟨x0, x1, y, e, g1, g2, g3⟩ := ih p (List.mem_append_right _ (List.mem_singleton_self p))
          subst e
          simp only at h1 h2 h3 ⊢
          have e1 : x1 = i % w := by omega
          have e2 : y = i / w := by omega
          refine ⟨x0, i % w + 1, y, rfl, by omega, by omega, fun x a b => ?_⟩
          by_cases hx : x < x1
          · exact ⟨Nat.lt_succ_of_lt (g3 x a hx).1, (g3 x a hx).2⟩
          · have : x = i % w := by omega
            rw [this, e2, idx_of]
            exact ⟨Nat.lt_succ_self i, hi⟩
      · rw [runS_new hc] at h
        rcases List.mem_append.1 h with h | h
        · exact (ih r h).mono (Nat.le_succ i)
        · obtain rfl := List.mem_singleton.1 h
          refine ⟨i % w, i % w + 1, i / w, rfl, by omega, by omega, fun x a b => ?_⟩
          have : x = i % w := by omega
          rw [this, idx_of]
          exact ⟨Nat.lt_succ_self i, hi⟩

/-- the run holds position k -/
def CovR (w : Nat) (r : R) (k : Nat) : Prop := r.y0 = ((k / w : Nat) : Int) ∧ r.x0 ≤ ((k % w : Nat) : Int) ∧ ((k % w : Nat) : Int) < r.x1

theorem runs_all {w : Nat} (hw : 0 < w) (has : Nat → Bool) : ∀ n k, k < n → has k = true → ∃ r ∈ runsP w has n, CovR w r k
  | 0, k, h, _ => absurd h (Nat.not_lt_zero k)
  | i + 1, k, h, hk => by
    rw [runs_succ]
    have ih := runs_all hw has i k
    by_cases hki : k < i
    · obtain ⟨r, hr, hcv⟩ := ih hki hk
      cases hi : has i with
      | false => exact ⟨r, by rw [runS_no]; exact hr, hcv⟩
      | true =>
        by_cases hc : 0 < i % w ∧ has (i - 1) = true
        · obtain ⟨m, p, hp, h1, h2, h3, h4, h5⟩ := runs_last hw has i hc.1 hc.2
          rw [hp] at hr
          rw [hp, hc.2, runS_more hc.1]
          rcases List.mem_append.1 hr with hr | hr
          · exact ⟨r, List.mem_append_left _ hr, hcv⟩
          · obtain rfl := List.mem_singleton.1 hr
            exact ⟨_, List.mem_append_right _ (List.mem_singleton_self _), hcv.1, hcv.2.1, by have := hcv.2.2; simp only; omega⟩
        · rw [runS_new hc]
          exact ⟨r, List.mem_append_left _ hr, hcv⟩
    · obtain rfl : k = i := by omega
      rw [hk]
      by_cases hc : 0 < k % w ∧ has (k - 1) = true
      · obtain ⟨m, p, hp, h1, h2, h3, h4, h5⟩ := runs_last hw has k hc.1 hc.2
        rw [hp, hc.2, runS_more hc.1]
        exact ⟨_, List.mem_append_right _ (List.mem_singleton_self _), h2, by simp only; omega, by simp only; omega⟩
      · rw [runS_new hc]
        exact ⟨_, List.mem_append_right _ (List.mem_singleton_self _), rfl, by simp only; omega, by simp only; omega⟩

/-- a buffer on the way from l to m: behind the first i runs of L -/
structure WayR (A B : Nat) (l m : List Px) (L : List R) (i : Nat) (I : List Px) : Prop where
  vld : Vld A B I
  byt : ∀ p ∈ I, Byt p
  mix : ∀ k, k < A * B → I.getD k zeroPx = m.getD k zeroPx ∨ I.getD k zeroPx = l.getD k zeroPx
  took : ∀ j r k, j < i → L[j]? = some r → k < A * B → CovR A r k → I.getD k zeroPx = m.getD k zeroPx

theorem WayR.start {A B : Nat} {l m : List Px} (L : List R) (hv : Vld A B l) (hb : ∀ p ∈ l, Byt p) : WayR A B l m L 0 l :=
  ⟨hv, hb, fun _ _ => .inr rfl, fun _ _ _ hj => absurd hj (Nat.not_lt_zero _)⟩

theorem WayR.next {A B : Nat} {l m I : List Px} {L : List R} {i : Nat} (h : WayR A B l m L i I) (hm : Vld A B m) (hmb : ∀ p ∈ m, Byt p) {x0 x1 y cw : Nat} (hr : L[i]? = some ⟨x0, y, x1, (y : Int) + 1⟩) (hcw : x0 + cw = x1) :
    WayR A B l m L (i + 1) (putL (fun p _ => p) A I cw 1 (cropL A m x0 y cw 1) (x0 : Int) (y : Int)) := by
  have hI := h.vld.len
  have key : ∀ k, k < A * B → (putL (fun p _ => p) A I cw 1 (cropL A m x0 y cw 1) (x0 : Int) (y : Int)).getD k zeroPx = if k / A = y ∧ x0 ≤ k % A ∧ k % A < x1 then m.getD k zeroPx else I.getD k zeroPx := by
    intro k hk
    unfold putL
    rw [hI, tab_getD _ _ hk]
    unfold newP
    by_cases hc : k / A = y ∧ x0 ≤ k % A ∧ k % A < x1
    · obtain ⟨c0, c1, c2⟩ := hc
      have hcv : covB cw 1 (x0 : Int) (y : Int) (k % A) (k / A) = true := cov_iff.2 (by omega)
      rw [if_pos hcv, if_pos ⟨c0, c1, c2⟩]
      have e0 : (((k % A : Nat) : Int) - (x0 : Int)).toNat = k % A - x0 := by omega
      have e1 : (((k / A : Nat) : Int) - (y : Int)).toNat = 0 := by omega
      have g0 : k % A - x0 < cw := by omega
      rw [e0, e1, Nat.zero_mul, Nat.zero_add]
      show (cropL A m x0 y cw 1).getD (k % A - x0) zeroPx = _
      unfold cropL
      rw [tab_getD _ _ (by omega), Nat.mod_eq_of_lt g0, Nat.div_eq_of_lt g0, Nat.add_zero, ← c0, show x0 + (k % A - x0) = k % A by omega, idx_of]
    · have hcv : covB cw 1 (x0 : Int) (y : Int) (k % A) (k / A) = false := cov_no.2 (fun h => hc (by omega))
      rw [if_neg hc, if_neg (by rw [hcv]; decide)]
  have hlen : (putL (fun p _ => p) A I cw 1 (cropL A m x0 y cw 1) (x0 : Int) (y : Int)).length = A * B := by rw [put_len, hI]
  have hall : ∀ p ∈ putL (fun p _ => p) A I cw 1 (cropL A m x0 y cw 1) (x0 : Int) (y : Int), ∃ k, p = m.getD k zeroPx ∨ p = I.getD k zeroPx := by
    intro p hp
    obtain ⟨k, hk, rfl⟩ := List.getElem_of_mem hp
    have hk' : k < A * B := by rw [← hlen]; exact hk
    have e := key k hk'
    rw [List.getD_eq_getElem?_getD, List.getElem?_eq_getElem hk, Option.getD_some] at e
    rw [e]
    refine ⟨k, ?_⟩
    split
    · exact .inl rfl
    · exact .inr rfl
  refine ⟨⟨h.vld.a1, h.vld.a2, h.vld.b1, h.vld.b2, hlen, fun p hp => ?_⟩, fun p hp => ?_, fun k hk => ?_, fun j r k hj hjr hk hcv => ?_⟩
  · obtain ⟨k, rfl | rfl⟩ := hall p hp
    · exact all_ok hm.ok k
    · exact all_ok h.vld.ok k
  · obtain ⟨k, rfl | rfl⟩ := hall p hp
    · exact all_byt hmb k
    · exact all_byt h.byt k
  · rw [key k hk]
    split
    · exact .inl rfl
    · exact h.mix k hk
  · rw [key k hk]
    split
    · rfl
    · rename_i hn
      rcases Nat.lt_or_ge j i with hji | hji
      · exact h.took j r k hji hjr hk hcv
      · obtain rfl : j = i := by omega
        rw [hr] at hjr
        obtain rfl := Option.some.inj hjr
        obtain ⟨c0, c1, c2⟩ := hcv
        simp only at c0 c1 c2
        exact absurd (show k / A = y ∧ x0 ≤ k % A ∧ k % A < x1 by omega) hn

/-- behind all runs of the difference -/
theorem WayR.done {A B : Nat} {l m I : List Px} {L : List R} (hL : L = runsP A (diffB l m) (A * B)) (hm : Vld A B m) (h : WayR A B l m L L.length I) : I = m := by
  refine eq_of_getD (by rw [h.vld.len, hm.len]) fun k hk => ?_
  rw [h.vld.len] at hk
  cases hd : diffB l m k with
  | true =>
    obtain ⟨r, hr, hcv⟩ := runs_all (w := A) (by have := hm.a1; omega) (diffB l m) (A * B) k hk hd
    rw [← hL] at hr
    obtain ⟨j, hj, he⟩ := List.getElem_of_mem hr
    exact h.took j r k hj (by rw [List.getElem?_eq_getElem hj, he]) hk hcv
  | false =>
    have e : l.getD k zeroPx = m.getD k zeroPx := by simpa [diffB] using hd
    rcases h.mix k hk with h1 | h1
    · exact h1
    · rw [h1, e]




theorem Held.twob {w W : World} {k1 k2 : Nat} {x0 x1 x2 y0 y1 y2 : Value} {l1 l : List (Nat × List Value)} (h : Held w W (l1 ++ (k2, [y0, y1, y2]) :: (k1, [x0, x1, x2]) :: l)) :
    W.cell? ⟨k1, 0, none⟩ = some x0 ∧ W.cell? ⟨k1, 1, none⟩ = some x1 ∧ W.cell? ⟨k1, 2, none⟩ = some x2 ∧ k1 < W.heap.size ∧ W.cell? ⟨k2, 0, none⟩ = some y0 ∧ W.cell? ⟨k2, 1, none⟩ = some y1 ∧ W.cell? ⟨k2, 2, none⟩ = some y2 ∧ k2 < W.heap.size := by
  obtain ⟨b0, b1, b2, _, bt⟩ := Held.tri h
  have h2 : Held w W ((l1 ++ [(k2, [y0, y1, y2])]) ++ (k1, [x0, x1, x2]) :: l) := by rw [List.append_assoc]; exact h
  obtain ⟨c0, c1, c2, _, ct⟩ := Held.tri h2
  exact ⟨c0, c1, c2, ct, b0, b1, b2, bt⟩

theorem Rs.cellj {W : World} {A : Option Addr} {n c : Nat} {l : List R} (h : Rs W (.slice A n c) l) {j : Nat} {r : R} (hj : l[j]? = some r) : ∃ b off, A = some ⟨b, off, none⟩ ∧ b < W.heap.size ∧ W.cell? ⟨b, off + j * 4, none⟩ = some (.int .i64 r.x0) ∧ W.cell? ⟨b, off + j * 4 + 1, none⟩ = some (.int .i64 r.y0) ∧ W.cell? ⟨b, off + j * 4 + 2, none⟩ = some (.int .i64 r.x1) ∧ W.cell? ⟨b, off + j * 4 + 3, none⟩ = some (.int .i64 r.y1) := by
  obtain ⟨A', c', hv, _, _, hc⟩ := h
  injection hv with e
  subst e
  obtain ⟨b, off, rfl, hb, hcs⟩ := hc (Nat.lt_of_le_of_lt (Nat.zero_le _) (List.getElem?_eq_some_iff.1 hj).1)
  exact ⟨b, off, rfl, hb, hcs j r hj⟩
theorem Rs.len {W : World} {A : Option Addr} {n c : Nat} {l : List R} (h : Rs W (.slice A n c) l) : n = l.length := by
  obtain ⟨A', c', hv, _⟩ := h
  injection hv

theorem HeldZ.sub {w W : World} {l l' : List (Nat × List Value)} {rs : List (Value × List Px)} (h : HeldZ w W l rs) (hs : l'.Sublist l) : HeldZ w W l' rs :=
  ⟨h.held.sub hs, fun r hr => by
    rcases h.rows r hr with e | ⟨g, c, e, h1, h2, h3, h5, h4⟩
    · exact .inl e
    · exact .inr ⟨g, c, e, h1, h2, h3, h5, fun p hp => h4 p (hs.subset hp)⟩⟩

theorem flat10 {a b c d e f p q r s : Prop} {x y : Prop} (h : a ∧ b ∧ c ∧ x ∧ d ∧ e ∧ f ∧ y) (g : p ∧ q ∧ r ∧ s) : a ∧ b ∧ c ∧ d ∧ e ∧ f ∧ p ∧ q ∧ r ∧ s :=
  ⟨h.1, h.2.1, h.2.2.1, h.2.2.2.2.1, h.2.2.2.2.2.1, h.2.2.2.2.2.2.1, g.1, g.2.1, g.2.2.1, g.2.2.2⟩
theorem four4 {a b c d e f : Prop} (h : a ∧ b ∧ c ∧ d ∧ e ∧ f) : a ∧ b ∧ c ∧ d := ⟨h.1, h.2.1, h.2.2.1, h.2.2.2.1⟩

theorem diff_neq {A B x y : Nat} {l m : List Px} (hv : Vld A B l) (hu : Vld A B m) (hx : x < A) (hy : y < B) (h : diffB l m (y * A + x) = true) : sameP (atB A B l x y) (atB A B m x y) = false := by
  rw [at_in hv hx hy, at_in hu hx hy]
  cases hs : sameP (l.getD (y * A + x) zeroPx) (m.getD (y * A + x) zeroPx)
  · rfl
  · rw [same_iff] at hs
    unfold diffB at h
    rw [decide_eq_true hs] at h
    cases h


set_option maxRecDepth 100000 in
set_option maxHeartbeats 8000000 in
theorem diff_walk (a b c d : Int) {v u : Value} {l m : List Px} {w : World} (h1 : Pxs w v l) (h2 : Pxs w u m) (hlb : ∀ p ∈ l, Byt p) (hmb : ∀ p ∈ m, Byt p) : Calls Try.prog 10 #[.agg #[.int .i64 a, .int .i64 b, v], .agg #[.int .i64 c, .int .i64 d, u]] w (Says true w) := by
  have H1 := Lib.hid h1
  have H2 := Lib.hid h2
  obtain ⟨A, n, rfl, _⟩ := h1.shape
  obtain ⟨A', n', rfl, _⟩ := h2.shape
  have J := Lib.hid (heldL2 w a b (.slice A l.length n) c d (.slice A' m.length n') h1 h2)
  have C14 := fun W => Lib.hid (example_any W)
  obtain ⟨er, L, h34, h35, hd⟩ := both_diff a b c d l m
  have C34 := fun W (hb : Below w.heap.size w W) => Lib.hid (h34 W _ _ (H1.out.below hb) (H2.out.below hb))
  have C35 := fun W (hb : Below w.heap.size w W) => Lib.hid (h35 W _ _ (H1.out.below hb) (H2.out.below hb))
  have HB := Lib.hid hlb
  have HB' := Lib.hid hmb
  clear h1 h2 h34 h35 hlb hmb
  by_cases hs : l.length ≤ 400
  · have C13 := fun W => Lib.hid (few_any hs a b A n W)
    by_cases hs' : m.length ≤ 400
    · have C13' := fun W => Lib.hid (few_any hs' c d A' n' W)
      obtain ⟨ln, hln⟩ : ∃ ln, l.length = ln := ⟨_, rfl⟩
      obtain ⟨lm, hlm⟩ : ∃ lm, m.length = lm := ⟨_, rfl⟩
      have HLN := Lib.hid hln
      have HLM := Lib.hid hlm
      rw [hln] at J C13 H1 C34 C35 hs ⊢
      rw [hlm] at J C13' H2 C34 C35 ⊢
      clear hs' hlm
      rcases hd with ⟨hne, rfl⟩ | ⟨rfl, A0, B0, rfl, rfl, rfl, rfl, hV, hU, hL, h256⟩
      · have hne2 : decide (er = 0) = false := decide_eq_false hne
        clear hln
        go_enter Try.func10, Try.ntmps10
        go_wp2_with fail
        refine (C13 _).out.mono ?_
        rintro e wq ⟨rfl, hb⟩
        replace J := Lib.hid (J.out.step hb)
        clear hb
        obtain ⟨b0, b1, b2, bt, d0, d1, d2, dt⟩ := J.out.held.twob (l1 := [])
        go_wp2_with fail
        clear b0 b1 b2 bt d0 d1 d2 dt
        refine (C13' _).out.mono ?_
        rintro e wq ⟨rfl, hb⟩
        replace J := Lib.hid (J.out.step hb)
        clear hb
        obtain ⟨b0, b1, b2, bt, d0, d1, d2, dt⟩ := J.out.held.twob (l1 := [])
        go_wp2_with fail
        clear b0 b1 b2 bt d0 d1 d2 dt
        refine (C34 _ J.out.below).out.mono ?_
        rintro e w1 ⟨A1, n1, c1, rfl, hp, hb⟩
        obtain rfl : n1 = 0 := hp.len
        replace J := Lib.hid (J.out.step hb)
        clear hb hp
        obtain ⟨b0, b1, b2, bt, d0, d1, d2, dt⟩ := J.out.held.twob (l1 := [])
        go_wp2_with fail
        clear b0 b1 b2 bt d0 d1 d2 dt
        refine (C35 _ J.out.below).out.mono ?_
        rintro e w2 ⟨A2, n2, c2, rfl, hp, hb⟩
        obtain rfl : n2 = 0 := hp.len
        replace J := Lib.hid (J.out.step hb)
        clear hb hp
        go_wp2_with fail
        refine (C14 _).out.mono ?_
        rintro e wq ⟨rfl, hb⟩
        replace J := Lib.hid (J.out.step hb)
        clear hb
        go_wp2_with fail
        go_ret
        exact ⟨rfl, J.out.below⟩
      · rw [hV.len] at hL
        have HV := Lib.hid hV
        have HU := Lib.hid hU
        have hlab : A0 * B0 = ln := by rw [← hV.len]; exact hln
        have HL := Lib.hid hL
        have ha0 : 0 < A0 := hV.a1
        have HG := fun r (hr : r ∈ L) => Lib.hid (runs_good ha0 (diffB l m) (A0 * B0) r (by rw [← hL]; exact hr))
        obtain ⟨k, hk⟩ : ∃ k, L.length = k := ⟨_, rfl⟩
        have HK := Lib.hid hk
        rw [hk] at h256
        have hA2 := hV.a2
        have hB2 := hV.b2
        clear hV hU hL hk hln
        have HLAB := Lib.hid hlab
        clear hlab
        go_enter Try.func10, Try.ntmps10
        go_wp2_with fail
        refine (C13 _).out.mono ?_
        rintro e wq ⟨rfl, hb⟩
        replace J := Lib.hid (J.out.step hb)
        clear hb
        obtain ⟨b0, b1, b2, bt, d0, d1, d2, dt⟩ := J.out.held.twob (l1 := [])
        go_wp2_with fail
        clear b0 b1 b2 bt d0 d1 d2 dt
        refine (C13' _).out.mono ?_
        rintro e wq ⟨rfl, hb⟩
        replace J := Lib.hid (J.out.step hb)
        clear hb
        obtain ⟨b0, b1, b2, bt, d0, d1, d2, dt⟩ := J.out.held.twob (l1 := [])
        go_wp2_with fail
        clear b0 b1 b2 bt d0 d1 d2 dt
        refine (C34 _ J.out.below).out.mono ?_
        rintro e w1 ⟨A1, n1, c1, rfl, hp, hb⟩
        obtain rfl : n1 = k := by rw [hp.len, HK.out]
        replace J := Lib.hid (J.out.step hb)
        have F : Hid (Held w w1 [(w.heap.size + 1, [.int .i64 (A0 : Int), .int .i64 (B0 : Int), .slice A' lm n']), (w.heap.size, [.int .i64 (A0 : Int), .int .i64 (B0 : Int), .slice A ln n])] ∧ Rs w1 (.slice A1 n1 c1) L ∧ Pxs w1 (.slice A' lm n') m ∧ Pxs w1 (.slice A ln n) l) := Lib.hid ⟨J.out.held, hp, J.out.fact.1, J.out.fact.2.1⟩
        have BW := Lib.hid J.out.below
        clear hb hp C13 C13' C34 C35 H1 H2 J
        have J : Hid (HeldZ w1 w1 [] []) := Lib.hid (Held.nil w1).toZ
        have FD := fun W (hb : Below w1.heap.size w1 W) => Lib.hid (F.out.1.step hb)
        obtain ⟨b0, b1, b2, bt, d0, d1, d2, dt⟩ := (FD w1 J.out.below).out.twob (l1 := [])
        go_wp2_with fail
        clear b0 b1 b2 bt d0 d1 d2 dt
        refine (lclone_row (A0 : Int) (B0 : Int) F.out.2.2.2 (by rw [HLN.out]; omega)).mono ?_
        rintro e w2 ⟨v2, rfl, hr, hb⟩
        obtain ⟨A2, c2, rfl, _⟩ := hr.pxs.shape
        rw [HLN.out] at hr ⊢
        replace J := Lib.hid (J.out.call hb hr)
        clear hb hr
        go_wp2_with fail
        replace J := Lib.hid (J.out.alloc [.int .i64 (A0 : Int), .int .i64 (B0 : Int), .slice A2 ln c2] 24)
        generalize w2.alloc (.cells #[.int .i64 (A0 : Int), .int .i64 (B0 : Int), .slice A2 ln c2] 24) = u2 at *
        generalize w2.heap.size = k9 at *
        go_loopw [10] (fun s10 wr => ∃ (i : Nat) (AI : Option Addr) (cI : Nat) (I : List Px), i ≤ n1 ∧ s10 = .int .i64 (i : Int) ∧ Hid (WayR A0 B0 l m L i I ∧ HeldZ w1 wr [(k9, [.int .i64 (A0 : Int), .int .i64 (B0 : Int), .slice AI ln cI])] [(.slice AI ln cI, I)])) (fun s10 _ => leftN n1 s10)
        case atStart => exact ⟨0, A2, c2, l, Nat.zero_le _, rfl, Lib.hid ⟨WayR.start L HV.out HB.out, J.out⟩⟩
        case round =>
          clear J
          obtain ⟨i, AI, cI, I, hi, rfl, HR⟩ := hrel
          by_cases hlt : i < n1
          · have q0 : (i : Int) < n1 := by omega
            have q1 : (0 : Int) ≤ i := by omega
            obtain ⟨wu, rfl⟩ : ∃ z, z = wr := ⟨_, rfl⟩
            obtain ⟨r, hr⟩ : ∃ r, L[i]? = some r := ⟨_, List.getElem?_eq_getElem (by rw [HK.out]; exact hlt)⟩
            obtain ⟨x0, x1, y, rfl, g1, g2, g3⟩ := (HG r (List.mem_of_getElem? hr)).out
            have hyB : y < B0 := by
              have := (g3 x0 (Nat.le_refl _) g1).1
              rcases Nat.lt_or_ge y B0 with h | h
              · exact h
              · have := Nat.mul_le_mul_left A0 h
                rw [Nat.mul_comm A0 y] at this
                omega
            have HGG := fun x h h' => Lib.hid (diff_neq HV.out HU.out (x := x) (y := y) (by omega) hyB (g3 x h h').2)
            obtain ⟨rb, ro, rfl, hrb, r0, r1, r2, r3⟩ := (F.out.2.1.below HR.out.2.below).cellj hr
            simp only at r0 r1 r2 r3
            have J := Lib.hid HR.out.2
            have HWay := Lib.hid HR.out.1
            have HRI := Lib.hid hr
            clear HR hr g3
            obtain ⟨b0, b1, b2, bt, d0, d1, d2, dt⟩ := (FD wu J.out.below).out.twob (l1 := [])
            have n0 : ¬ (x0 : Int) < 0 := by omega
            have n1' : ¬ (A0 : Int) < x1 := by omega
            have n2 : ¬ (y : Int) < 0 := by omega
            have n3 : ¬ (B0 : Int) < (y : Int) + 1 := by omega
            go_wp2_with fail
            clear b0 b1 b2 bt d0 d1 d2 dt
            clear r0 r1 r2 r3 n0 n1' n2 n3
            replace J := Lib.hid (J.out.alloc [.int .i64 (x0 : Int), .int .i64 (y : Int), .int .i64 (x1 : Int), .int .i64 ((y : Int) + 1)] 44)
            generalize wu.alloc (.cells #[.int .i64 (x0 : Int), .int .i64 (y : Int), .int .i64 (x1 : Int), .int .i64 ((y : Int) + 1)] 44) = u4 at *
            generalize wu.heap.size = kr at *
            go_loopw [12] (fun s12 wr => ∃ x : Nat, x0 ≤ x ∧ x ≤ x1 ∧ s12 = .int .i64 (x : Int) ∧ Hid (HeldZ w1 wr [(kr, [.int .i64 (x0 : Int), .int .i64 (y : Int), .int .i64 (x1 : Int), .int .i64 ((y : Int) + 1)]), (k9, [.int .i64 (A0 : Int), .int .i64 (B0 : Int), .slice AI ln cI])] [(.slice AI ln cI, I)])) (fun s12 _ => leftN x1 s12)
            case atStart => exact ⟨x0, Nat.le_refl _, by omega, rfl, J⟩
            case round =>
              clear J
              obtain ⟨x, hx0, hx1, rfl, J⟩ := hrel
              obtain ⟨e0, e1, e2, e3, _, et⟩ := J.out.held.four (l1 := [])
              by_cases hxl : x < x1
              · have p0 : (x : Int) < x1 := by omega
                have hne := HGG x hx0 hxl
                have C18 := fun W (hb : Below w1.heap.size w1 W) => Lib.hid (rat_any (A0 : Int) (B0 : Int) (x : Int) (y : Int) (F.out.2.2.2.below hb))
                have C18' := fun W (hb : Below w1.heap.size w1 W) => Lib.hid (rat_any (A0 : Int) (B0 : Int) (x : Int) (y : Int) (F.out.2.2.1.below hb))
                generalize atB A0 B0 l x y = p at *
                generalize atB A0 B0 m x y = q at *
                have E1 : ∀ W, (binOp .eql 30 (.agg #[.int .u8 (p.r : Int), .int .u8 (p.g : Int), .int .u8 (p.b : Int), .int .u8 (p.a : Int)]) (.agg #[.int .u8 (q.r : Int), .int .u8 (q.g : Int), .int .u8 (q.b : Int), .int .u8 (q.a : Int)])).run Try.prog W = .ok (.bool false) W := fun W => by rw [eql_px, hne.out]
                clear hne
                go_wp2_with fail
                clear e0 e1 e2 e3 et
                replace J := Lib.hid J.out.drew
                have sk := flat10 ((FD _ J.out.below).out.twob (l1 := [])) (four4 (J.out.held.four (l1 := [])))
                go_region_held3 (fun W => W.cell? ⟨w.heap.size, 0, none⟩ = some (.int .i64 (A0 : Int)) ∧ W.cell? ⟨w.heap.size, 1, none⟩ = some (.int .i64 (B0 : Int)) ∧ W.cell? ⟨w.heap.size, 2, none⟩ = some (.slice A ln n) ∧ W.cell? ⟨w.heap.size + 1, 0, none⟩ = some (.int .i64 (A0 : Int)) ∧ W.cell? ⟨w.heap.size + 1, 1, none⟩ = some (.int .i64 (B0 : Int)) ∧ W.cell? ⟨w.heap.size + 1, 2, none⟩ = some (.slice A' lm n') ∧ W.cell? ⟨kr, 0, none⟩ = some (.int .i64 (x0 : Int)) ∧ W.cell? ⟨kr, 1, none⟩ = some (.int .i64 (y : Int)) ∧ W.cell? ⟨kr, 2, none⟩ = some (.int .i64 (x1 : Int)) ∧ W.cell? ⟨kr, 3, none⟩ = some (.int .i64 ((y : Int) + 1)))
                  (first
                    | go_keep
                    | exact sk)
                  (first
                    | (go_at_call 18; (with_reducible refine (C18 _ J.out.below).out.mono ?_); rintro e wq ⟨rfl, hb⟩; replace J := Lib.hid (J.out.step hb); (try clear sk); have sk := flat10 ((FD _ J.out.below).out.twob (l1 := [])) (four4 (J.out.held.four (l1 := []))); clear hb)
                    | (go_at_call 18; (with_reducible refine (C18' _ J.out.below).out.mono ?_); rintro e wq ⟨rfl, hb⟩; replace J := Lib.hid (J.out.step hb); (try clear sk); have sk := flat10 ((FD _ J.out.below).out.twob (l1 := [])) (four4 (J.out.held.four (l1 := []))); clear hb)
                    | fail)
                all_goals
                  clear sk
                  go_wp2_with fail
                  go_roundw
                  case rel => exact ⟨x + 1, by omega, by omega, by go_num, J⟩
                  case measure =>
                    unfold leftN
                    simp [intOf]
                    omega
              · obtain rfl : x1 = x := by omega
                have p0 : ¬ (x1 : Int) < x1 := by omega
                obtain ⟨b0, b1, b2, bt, d0, d1, d2, dt⟩ := (FD _ J.out.below).out.twob (l1 := [])
                go_wp2_with fail
                clear b0 b1 b2 bt d0 d1 d2 dt
                clear e0 e1 e2 e3 et
                obtain ⟨cw, hcw⟩ : ∃ cw, x0 + cw = x1 := ⟨x1 - x0, by omega⟩
                have K27 := (crop_good (F.out.2.2.1.below J.out.below) HU.out HB'.out (x0 := x0) (y0 := y) (x1 := x1) (y1 := y + 1) (cw := cw) (ch := 1) (by omega) (by omega) hcw rfl (by omega) (by omega)).mono fun _ _ => outB
                rw [show ((y + 1 : Nat) : Int) = (y : Int) + 1 from rfl, show ((1 : Nat) : Int) = 1 from rfl] at K27
                have HW2 := HWay.out.next HU.out HB'.out HRI.out hcw
                have hcv := crop_vld (x0 := x0) (y0 := y) (w := cw) (h := 1) HU.out (by omega) (by omega) (by omega) (by omega)
                have hcb := crop_byt (a := A0) HB'.out x0 y cw 1
                generalize cropL A0 m x0 y cw 1 = part at *
                have K29 := fun W v u (h : Pxs W v I) (hu : Pxs W u part) => paste_good (x0 : Int) (y : Int) h hu HWay.out.vld hcv HWay.out.byt hcb
                rw [show ((1 : Nat) : Int) = 1 from rfl] at K29
                generalize putL (fun p _ => p) A0 I cw 1 part (x0 : Int) (y : Int) = I2 at *
                have HI2 := Lib.hid (HW2.vld.len.trans HLAB.out)
                replace HW2 := Lib.hid HW2
                replace K29 := Lib.hid K29
                clear hcv hcb HGG
                refine K27.mono ?_
                rintro e w3 ⟨A3, n3, c3, rfl, hp, hb⟩
                replace J := Lib.hid (J.out.step hb)
                have P3 := Lib.hid hp
                clear hb hp K27
                obtain ⟨e0, e1, e2, e3, _, et⟩ := J.out.held.four (l1 := [])
                obtain ⟨z0, z1, z2, zf, zt⟩ := J.out.held.tri (l1 := [_])
                go_wp2_with fail
                clear e0 e1 e2 e3 et z0 z1 z2 zf zt
                replace P3 := Lib.hid (P3.out.below ((Below.refl _ _).alloc (Nat.le_refl _) (.cells #[.int .i64 (cw : Int), .int .i64 1, .slice A3 n3 c3] 24)))
                replace J := Lib.hid (J.out.alloc [.int .i64 (cw : Int), .int .i64 1, .slice A3 n3 c3] 24)
                generalize w3.alloc (.cells #[.int .i64 (cw : Int), .int .i64 1, .slice A3 n3 c3] 24) = u3 at *
                generalize w3.heap.size = k13 at *
                refine (K29.out _ _ _ J.out.r0.pxs P3.out).mono ?_
                rintro e w4 ⟨v4, rfl, hr4, hb⟩
                obtain ⟨A4, c4, rfl, _⟩ := hr4.pxs.shape
                rw [HI2.out] at hr4 ⊢
                replace J := Lib.hid (J.out.call hb hr4)
                clear hb hr4 K29 P3
                obtain ⟨z0, z1, z2, zf, zt⟩ := J.out.held.tri (l1 := [_, _])
                have Z0 := ((J.out.set3 (l1 := [_, _]) (.int .i64 (A0 : Int)) (.int .i64 (B0 : Int)) (.slice A4 ln c4)).made (.cells #[.int .i64 (A0 : Int), .int .i64 (B0 : Int), .slice A4 ln c4] 24)).sub (List.sublist_append_right [_, _] _)
                have Z := Lib.hid (And.intro HW2.out (Z0.only Z0.r0))
                clear Z0
                clear J
                go_wp2_with fail
                go_roundw
                case rel => exact ⟨i + 1, A4, c4, I2, by omega, by go_num, Z⟩
                case measure =>
                  unfold leftN
                  simp [intOf]
                  omega
          · obtain rfl : n1 = i := by omega
            have q0 : ¬ (n1 : Int) < n1 := by omega
            have hway := HR.out.1
            have hIm := WayR.done HL.out HU.out (by rw [HK.out]; exact hway)
            clear hway
            have J := Lib.hid HR.out.2
            rw [hIm] at J
            clear HR hIm
            obtain ⟨z0, z1, z2, zf, zt⟩ := J.out.held.tri (l1 := [])
            obtain ⟨b0, b1, b2, bt, d0, d1, d2, dt⟩ := (FD _ J.out.below).out.twob (l1 := [])
            go_wp2_with fail
            clear b0 b1 b2 bt d0 d1 d2 dt
            clear z0 z1 z2 zf zt
            refine (Lib.hid (equal_self (oa := (A0 : Int)) (ob := (B0 : Int)) J.out.r0.pxs (F.out.2.2.1.below J.out.below))).out.mono ?_
            rintro e wq ⟨rfl, hb⟩
            replace J := Lib.hid (J.out.step hb)
            clear hb
            go_wp2_with fail
            refine (C14 _).out.mono ?_
            rintro e wq ⟨rfl, hb⟩
            replace J := Lib.hid (J.out.step hb)
            clear hb
            go_wp2_with fail
            go_ret
            exact ⟨rfl, BW.out.trans (J.out.below.mono BW.out.size)⟩
    · have C13' := fun W => Lib.hid (many_any hs' c d A' n' W)
      generalize l.length = ln at *
      generalize m.length = lm at *
      clear hs hs' H1 H2 HB HB' C34 C35 hd
      go_enter Try.func10, Try.ntmps10
      go_wp2_with fail
      refine (C13 _).out.mono ?_
      rintro e wq ⟨rfl, hb⟩
      replace J := Lib.hid (J.out.step hb)
      clear hb
      obtain ⟨b0, b1, b2, bt, d0, d1, d2, dt⟩ := J.out.held.twob (l1 := [])
      go_wp2_with fail
      clear b0 b1 b2 bt d0 d1 d2 dt
      refine (C13' _).out.mono ?_
      rintro e wq ⟨rfl, hb⟩
      replace J := Lib.hid (J.out.step hb)
      clear hb
      go_wp2_with fail
      refine (C14 _).out.mono ?_
      rintro e wq ⟨rfl, hb⟩
      replace J := Lib.hid (J.out.step hb)
      clear hb
      go_wp2_with fail
      go_ret
      exact ⟨rfl, J.out.below⟩
  · have C13 := fun W => Lib.hid (many_any hs a b A n W)
    generalize l.length = ln at *
    generalize m.length = lm at *
    clear hs H1 H2 HB HB' C34 C35 hd
    go_enter Try.func10, Try.ntmps10
    go_wp2_with fail
    refine (C13 _).out.mono ?_
    rintro e wq ⟨rfl, hb⟩
    replace J := Lib.hid (J.out.step hb)
    clear hb
    go_wp2_with fail
    refine (C14 _).out.mono ?_
    rintro e wq ⟨rfl, hb⟩
    replace J := Lib.hid (J.out.step hb)
    clear hb
    go_wp2_with fail
    go_ret
    exact ⟨rfl, J.out.below⟩

end Go.Proofs.Ytahhcklkcibgoaa
