/-
  changed, Paste and BlendOver of package buffer.
-/
import Derived.Test.YtahhcklkcibgoaaClone
import Derived.Test.YtahhcklkcibgoaaPlac2
namespace Go.Proofs.Ytahhcklkcibgoaa
open Go.RowKit

/-- the pixels of a result: none, or a row of the call's own -/
def Res (w w' : World) (v : Value) (l : List Px) : Prop := (l = [] ∧ v = .slice none 0 0) ∨ RowOf w w' v l
theorem Res.pxs {w w' : World} {v : Value} {l : List Px} (h : Res w w' v l) : Pxs w' v l := by
  rcases h with ⟨rfl, rfl⟩ | h
  · exact pxs_nil w'
  · exact h.pxs

/-- a buffer and an error, nothing that was there has turned -/
def Outs (a b : Int) (l : List Px) (er : Int) (w : World) (e : Ending) (w' : World) : Prop := ∃ v, e = .returned (.tuple #[.agg #[.int .i64 a, .int .i64 b, v], .int .i64 er]) ∧ Res w w' v l ∧ Below w.heap.size w w'

theorem grown_set3 (w : World) (k : Nat) (y0 y1 y2 : Value) : w.grownBy (set3 w k y0 y1 y2) (some k) :=
  grown_setCell (grown_setCell (grown_setCell (World.grownBy.refl w _) _ _) _ _) _ _
theorem RowP.far {w : World} {g k : Nat} {l : List Px} (h : RowP w g l) (hne : g ≠ k) (y0 y1 y2 : Value) : RowP (set3 w k y0 y1 y2) g l := h.grown (grown_set3 w k y0 y1 y2) hne

theorem size_lt {w : World} {o : Obj} {g : Nat} (h : (w.alloc o).drew.heap.size ≤ g) : w.heap.size < g := by
  have h2 : (w.alloc o).heap.size ≤ g := h
  rw [World.size_alloc] at h2
  omega

theorem put_len (F : Px → Px → Px) (a : Nat) (l : List Px) (sa sb : Nat) (s : List Px) (x y : Int) : (putL F a l sa sb s x y).length = l.length := tab_len _ _

/-- the boxes of two buffers and of a result -/
abbrev WC (w : World) (a b : Int) (v : Value) (c d : Int) (u : Value) : World := ((w.alloc (.cells #[.int .i64 a, .int .i64 b, v] 24)).alloc (.cells #[.int .i64 c, .int .i64 d, u] 24)).alloc (.cells #[.int .i64 0, .int .i64 0, .slice none 0 0] 24)

theorem heldC (w : World) (a b : Int) (v : Value) (c d : Int) (u : Value) : Held w (WC w a b v c d u) [(w.heap.size + 1 + 1, [.int .i64 0, .int .i64 0, .slice none 0 0]), (w.heap.size + 1, [.int .i64 c, .int .i64 d, u]), (w.heap.size, [.int .i64 a, .int .i64 b, v])] := by
  have h := (heldB w a b v c d u).alloc [.int .i64 0, .int .i64 0, .slice none 0 0] 24
  have e : (WB w a b v c d u).heap.size = w.heap.size + 1 + 1 := by unfold WB; rw [World.size_alloc, World.size_alloc]
  rw [e] at h
  exact h


set_option maxRecDepth 100000 in
set_option maxHeartbeats 4000000 in
theorem changed_bad_copy {a b c d : Int} {v u : Value} {l m : List Px} (x y : Int) {w : World} (h : Pxs w v l) (hu : Pxs w u m) (hbad : (vBuf a b l && vBuf c d m) = false) : Calls Try.prog 54 #[.agg #[.int .i64 a, .int .i64 b, v], .agg #[.int .i64 c, .int .i64 d, u], .int .i64 x, .int .i64 y, .func (.func 52) #[] #[]] w (Outs 0 0 [] 15 w) := by
  have H1 := Lib.hid h
  have H2 := Lib.hid hu
  obtain ⟨A, n, rfl, _⟩ := h.shape
  obtain ⟨A', n', rfl, _⟩ := hu.shape
  have C1 := fun W (hb : Below w.heap.size w W) => Lib.hid (valid_any a b (H1.out.below hb))
  have C2 := fun W (hb : Below w.heap.size w W) => Lib.hid (valid_any c d (H2.out.below hb))
  have J := Lib.hid (heldC w a b (.slice A l.length n) c d (.slice A' m.length n'))
  unfold WC at J
  unfold Outs
  generalize vBuf a b l = v1 at *
  generalize vBuf c d m = v2 at *
  generalize l.length = n1 at *
  generalize m.length = n2 at *
  clear h hu H1 H2
  cases v1 with
  | false =>
    clear hbad
    go_enter Try.func54, Try.ntmps54
    go_wp2_with fail
    refine (C1 _ J.out.below).out.mono ?_
    rintro e w1 ⟨rfl, hb⟩
    replace J := Lib.hid (J.out.step hb)
    clear hb
    obtain ⟨z0, z1, z2, zf, zt⟩ := J.out.tri (l1 := [])
    have K := Lib.hid (below_set3 (y0 := .int .i64 0) (y1 := .int .i64 0) (y2 := .slice none 0 0) J.out.below (by omega : w.heap.size ≤ w.heap.size + 1 + 1))
    clear J
    go_wp2_with fail
    exact bodyPost_ret (v := .tuple #[.agg #[.int .i64 0, .int .i64 0, .slice none 0 0], .int .i64 15]) (by simp [results, Try.results54, go_sem, z0, z1, z2]) rfl ⟨_, rfl, .inl ⟨rfl, rfl⟩, K.out⟩
  | true =>
    rw [Bool.true_and] at hbad
    subst hbad
    go_enter Try.func54, Try.ntmps54
    go_wp2_with fail
    refine (C1 _ J.out.below).out.mono ?_
    rintro e w1 ⟨rfl, hb⟩
    replace J := Lib.hid (J.out.step hb)
    clear hb
    obtain ⟨y0, y1, y2, _, _⟩ := J.out.tri (l1 := [_])
    go_wp2_with fail
    refine (C2 _ J.out.below).out.mono ?_
    rintro e w2 ⟨rfl, hb⟩
    replace J := Lib.hid (J.out.step hb)
    clear hb y0 y1 y2
    obtain ⟨z0, z1, z2, zf, zt⟩ := J.out.tri (l1 := [])
    have K := Lib.hid (below_set3 (y0 := .int .i64 0) (y1 := .int .i64 0) (y2 := .slice none 0 0) J.out.below (by omega : w.heap.size ≤ w.heap.size + 1 + 1))
    clear J
    go_wp2_with fail
    exact bodyPost_ret (v := .tuple #[.agg #[.int .i64 0, .int .i64 0, .slice none 0 0], .int .i64 15]) (by simp [results, Try.results54, go_sem, z0, z1, z2]) rfl ⟨_, rfl, .inl ⟨rfl, rfl⟩, K.out⟩

set_option maxRecDepth 100000 in
set_option maxHeartbeats 4000000 in
theorem changed_bad_over {a b c d : Int} {v u : Value} {l m : List Px} (x y : Int) {w : World} (h : Pxs w v l) (hu : Pxs w u m) (hbad : (vBuf a b l && vBuf c d m) = false) : Calls Try.prog 54 #[.agg #[.int .i64 a, .int .i64 b, v], .agg #[.int .i64 c, .int .i64 d, u], .int .i64 x, .int .i64 y, .func (.func 56) #[] #[]] w (Outs 0 0 [] 15 w) := by
  have H1 := Lib.hid h
  have H2 := Lib.hid hu
  obtain ⟨A, n, rfl, _⟩ := h.shape
  obtain ⟨A', n', rfl, _⟩ := hu.shape
  have C1 := fun W (hb : Below w.heap.size w W) => Lib.hid (valid_any a b (H1.out.below hb))
  have C2 := fun W (hb : Below w.heap.size w W) => Lib.hid (valid_any c d (H2.out.below hb))
  have J := Lib.hid (heldC w a b (.slice A l.length n) c d (.slice A' m.length n'))
  unfold WC at J
  unfold Outs
  generalize vBuf a b l = v1 at *
  generalize vBuf c d m = v2 at *
  generalize l.length = n1 at *
  generalize m.length = n2 at *
  clear h hu H1 H2
  cases v1 with
  | false =>
    clear hbad
    go_enter Try.func54, Try.ntmps54
    go_wp2_with fail
    refine (C1 _ J.out.below).out.mono ?_
    rintro e w1 ⟨rfl, hb⟩
    replace J := Lib.hid (J.out.step hb)
    clear hb
    obtain ⟨z0, z1, z2, zf, zt⟩ := J.out.tri (l1 := [])
    have K := Lib.hid (below_set3 (y0 := .int .i64 0) (y1 := .int .i64 0) (y2 := .slice none 0 0) J.out.below (by omega : w.heap.size ≤ w.heap.size + 1 + 1))
    clear J
    go_wp2_with fail
    exact bodyPost_ret (v := .tuple #[.agg #[.int .i64 0, .int .i64 0, .slice none 0 0], .int .i64 15]) (by simp [results, Try.results54, go_sem, z0, z1, z2]) rfl ⟨_, rfl, .inl ⟨rfl, rfl⟩, K.out⟩
  | true =>
    rw [Bool.true_and] at hbad
    subst hbad
    go_enter Try.func54, Try.ntmps54
    go_wp2_with fail
    refine (C1 _ J.out.below).out.mono ?_
    rintro e w1 ⟨rfl, hb⟩
    replace J := Lib.hid (J.out.step hb)
    clear hb
    obtain ⟨y0, y1, y2, _, _⟩ := J.out.tri (l1 := [_])
    go_wp2_with fail
    refine (C2 _ J.out.below).out.mono ?_
    rintro e w2 ⟨rfl, hb⟩
    replace J := Lib.hid (J.out.step hb)
    clear hb y0 y1 y2
    obtain ⟨z0, z1, z2, zf, zt⟩ := J.out.tri (l1 := [])
    have K := Lib.hid (below_set3 (y0 := .int .i64 0) (y1 := .int .i64 0) (y2 := .slice none 0 0) J.out.below (by omega : w.heap.size ≤ w.heap.size + 1 + 1))
    clear J
    go_wp2_with fail
    exact bodyPost_ret (v := .tuple #[.agg #[.int .i64 0, .int .i64 0, .slice none 0 0], .int .i64 15]) (by simp [results, Try.results54, go_sem, z0, z1, z2]) rfl ⟨_, rfl, .inl ⟨rfl, rfl⟩, K.out⟩



set_option maxRecDepth 100000 in
set_option maxHeartbeats 8000000 in
theorem changed_copy {a b c d : Nat} {v u : Value} {l m : List Px} (x y : Int) {w : World} (h : Pxs w v l) (hu : Pxs w u m) (hv : Vld a b l) (hw : Vld c d m) (hlb : ∀ p ∈ l, Byt p) (hmb : ∀ p ∈ m, Byt p) :
    Calls Try.prog 54 #[.agg #[.int .i64 (a : Int), .int .i64 (b : Int), v], .agg #[.int .i64 (c : Int), .int .i64 (d : Int), u], .int .i64 x, .int .i64 y, .func (.func 52) #[] #[]] w (Outs a b (putL (fun p _ => p) a l c d m x y) 0 w) := by
  have H1 := Lib.hid h
  have H2 := Lib.hid hu
  have C1 := fun W (hb : Below w.heap.size w W) => Lib.hid (valid_any (a : Int) (b : Int) (H1.out.below hb))
  have C2 := fun W (hb : Below w.heap.size w W) => Lib.hid (valid_any (c : Int) (d : Int) (H2.out.below hb))
  rw [hv.vBuf] at C1
  rw [hw.vBuf] at C2
  have C3 := fun W (hb : Below w.heap.size w W) => Lib.hid (sclone_any (H1.out.below hb) hv.small.1 hv.small.2)
  obtain ⟨A, n, rfl, _⟩ := h.shape
  obtain ⟨A', n', rfl, hn1, hn2, hcell⟩ := hu
  obtain ⟨bs, off, rfl, hbs, hsee⟩ := hcell hw.small.1
  have hn0 := Lib.hid hv.small.1
  have J := Lib.hid (heldC w a b (.slice A l.length n) c d (.slice (some ⟨bs, off, none⟩) m.length n'))
  have HS := Lib.hid hsee
  have C4 := fun (W : World) g c6 (hr : RowP W g l) (h1 : l.length ≤ c6) (h2 : c6 ≤ maxLen) (h3 : ∀ j p, m[j]? = some p → At4 W bs off j p) (h4 : bs < W.heap.size) (h5 : bs ≠ g) => Lib.hid (place_copy ⟨hv.a1, hv.a2⟩ ⟨hv.b1, hv.b2⟩ ⟨hw.a1, hw.a2⟩ ⟨hw.b1, hw.b2⟩ hv.len hw.len x y (c := c6) hr hv.len h1 h2 h3 h4 h5 hw.len hn1 hn2 hlb hmb)
  have HL := Lib.hid (put_len (fun p _ => p) a l c d m x y)
  unfold WC at J
  unfold Outs RowOf at *
  unfold Res
  unfold RowOf
  rw [HL.out]
  generalize putL (fun p _ => p) a l c d m x y = O at *
  generalize l.length = n1 at *
  generalize m.length = n2 at *
  clear h hcell hsee hv hw hlb hmb
  go_enter Try.func54, Try.ntmps54
  go_wp2_with fail
  refine (C1 _ J.out.below).out.mono ?_
  rintro e w1 ⟨rfl, hb⟩
  replace J := Lib.hid (J.out.step hb)
  clear hb
  obtain ⟨y0, y1, y2, _, _⟩ := J.out.tri (l1 := [_])
  go_wp2_with fail
  refine (C2 _ J.out.below).out.mono ?_
  rintro e w2 ⟨rfl, hb⟩
  replace J := Lib.hid (J.out.step hb)
  clear hb y0 y1 y2
  go_upto_region 3 with fail
  go_cut [12] from 22 to 29 (fun s12 wx => ∃ mm g c6 : Nat, s12 = .pointer (some ⟨mm, 0, none⟩) ∧ n1 ≤ c6 ∧ c6 ≤ maxLen ∧ w.heap.size + 1 + 1 < g ∧ g ≠ mm ∧ Hid (RowP wx g l ∧ Held w wx [(mm, [.int .i64 (a : Int), .int .i64 (b : Int), .slice (some ⟨g, 0, none⟩) n1 c6]), (w.heap.size + 1 + 1, [.int .i64 0, .int .i64 0, .slice none 0 0]), (w.heap.size + 1, [.int .i64 (c : Int), .int .i64 (d : Int), .slice (some ⟨bs, off, none⟩) n2 n']), (w.heap.size, [.int .i64 (a : Int), .int .i64 (b : Int), .slice A n1 n])]))
  case first =>
    have hsz := (J.out.at (l1 := [])).2.2.1
    have J0 := J
    have sk := J.out.drew.three (l1 := [_, _])
    have se := (J.out.alloc [.int .i64 0, .int .i64 0, .slice none 0 0] 24).drew.three (l1 := [_, _, _])
    have BE := Lib.hid (J.out.made (.cells #[.int .i64 0, .int .i64 0, .slice none 0 0] 24)).drew.below
    have BD := Lib.hid J.out.drew.below
    go_region_held3 (fun W => W.cell? ⟨w.heap.size, 0, none⟩ = some (.int .i64 (a : Int)) ∧ W.cell? ⟨w.heap.size, 1, none⟩ = some (.int .i64 (b : Int)) ∧ W.cell? ⟨w.heap.size, 2, none⟩ = some (.slice A n1 n))
      (first
        | with_reducible exact sk
        | with_reducible exact se
        | exact s7.out
        | go_keep)
      (first
        | (go_at_call 71; (with_reducible refine (C3 _ BD.out).out.mono ?_); rintro e w4 ⟨u4, rfl, ⟨g, c6, rfl, h1, h2, h3, h4⟩, hb1⟩; replace J := Lib.hid (J.out.drew.step hb1); clear sk; have sk := J.out.three (l1 := [_, _]); have R := Lib.hid h4; have s7 := Lib.hid ((J.out.alloc [.int .i64 (a : Int), .int .i64 (b : Int), .slice (some ⟨g, 0, none⟩) n1 c6] 24).three (l1 := [_, _, _])); clear h4 hb1)
        | (go_at_call 71; (with_reducible refine (C3 _ BE.out).out.mono ?_); rintro e w4 ⟨u4, rfl, ⟨g, c6, rfl, h1, h2, h3, h4⟩, hb1⟩; replace J := Lib.hid ((J.out.alloc [.int .i64 0, .int .i64 0, .slice none 0 0] 24).drew.step hb1); clear sk; have sk := J.out.three (l1 := [_, _, _]); obtain ⟨z0, z1, z2, zf, zt⟩ := J.out.tri (l1 := []); have R := Lib.hid h4; have s7 := Lib.hid ((J.out.set3 (l1 := []) (.int .i64 (a : Int)) (.int .i64 (b : Int)) (.slice (some ⟨g, 0, none⟩) n1 c6)).three (l1 := [_, _, _])); clear h4 hb1)
        | fail)
    all_goals
      clear sk se s7 BE BD
      (try clear z0 z1 z2 zf zt)
      go_wp2_with fail
      go_meet
      first
        | exact ⟨_, g, c6, rfl, h1, h2, Nat.lt_of_lt_of_le hsz h3, Nat.ne_of_lt R.out.2.2, Lib.hid ⟨R.out.step ((Below.refl _ _).alloc (Nat.le_refl _) _), J.out.alloc [.int .i64 (a : Int), .int .i64 (b : Int), .slice (some ⟨g, 0, none⟩) n1 c6] 24⟩⟩
        | exact ⟨_, g, c6, rfl, h1, h2, Nat.lt_trans hsz (size_lt h3), Nat.ne_of_gt (size_lt h3), Lib.hid ⟨R.out.far (Nat.ne_of_gt (size_lt h3)) _ _ _, J.out.set3 (l1 := []) (.int .i64 (a : Int)) (.int .i64 (b : Int)) (.slice (some ⟨g, 0, none⟩) n1 c6)⟩⟩
  case rest =>
    obtain ⟨mm, g, c6, rfl, h1, h2, h3, h4, HW⟩ := hcut
    clear J C1 C2 C3
    obtain ⟨y0, y1, y2, yf, yt⟩ := HW.out.2.tri (l1 := [])
    obtain ⟨x0, x1, x2, xf, xt⟩ := HW.out.2.tri (l1 := [_, _])
    go_wp2_with fail
    refine (C4 _ g c6 HW.out.1 h1 h2 (fun j p hj => (HS.out j p hj).keep HW.out.2.below hbs) (Nat.lt_of_lt_of_le hbs HW.out.2.below.size) (by omega)).out.mono ?_
    rintro e w5 ⟨rfl, hr, hg⟩
    have J5 := Lib.hid (HW.out.2.grown hg (by omega) (fun p hp => by
      simp only [List.mem_cons, List.not_mem_nil, or_false] at hp
      rcases hp with rfl | rfl | rfl | rfl
      · exact fun e => h4 e.symm
      · exact fun e => by simp only at e; omega
      · exact fun e => by simp only at e; omega
      · exact fun e => by simp only at e; omega))
    have Q := Lib.hid (hr.far (k := w.heap.size + 1 + 1) (by omega) (.int .i64 (a : Int)) (.int .i64 (b : Int)) (.slice (some ⟨g, 0, none⟩) n1 c6))
    have K := Lib.hid (below_set3 (y0 := .int .i64 (a : Int)) (y1 := .int .i64 (b : Int)) (y2 := .slice (some ⟨g, 0, none⟩) n1 c6) J5.out.below (by omega : w.heap.size ≤ w.heap.size + 1 + 1))
    clear y0 y1 y2 yf yt x0 x1 x2 xf xt hr hg
    obtain ⟨y0, y1, y2, yf, yt⟩ := J5.out.tri (l1 := [])
    obtain ⟨z0, z1, z2, zf, zt⟩ := J5.out.tri (l1 := [_])
    go_wp2_with fail
    exact bodyPost_ret (v := .tuple #[.agg #[.int .i64 (a : Int), .int .i64 (b : Int), .slice (some ⟨g, 0, none⟩) n1 c6], .int .i64 0]) (by simp [results, Try.results54, go_sem, z0, z1, z2]) rfl ⟨_, rfl, .inr ⟨g, c6, rfl, h1, h2, by omega, Q.out⟩, K.out⟩

set_option maxRecDepth 100000 in
set_option maxHeartbeats 8000000 in
theorem changed_over {a b c d : Nat} {v u : Value} {l m : List Px} (x y : Int) {w : World} (h : Pxs w v l) (hu : Pxs w u m) (hv : Vld a b l) (hw : Vld c d m) (hlb : ∀ p ∈ l, Byt p) (hmb : ∀ p ∈ m, Byt p) :
    Calls Try.prog 54 #[.agg #[.int .i64 (a : Int), .int .i64 (b : Int), v], .agg #[.int .i64 (c : Int), .int .i64 (d : Int), u], .int .i64 x, .int .i64 y, .func (.func 56) #[] #[]] w (Outs a b (putL (overP) a l c d m x y) 0 w) := by
  have H1 := Lib.hid h
  have H2 := Lib.hid hu
  have C1 := fun W (hb : Below w.heap.size w W) => Lib.hid (valid_any (a : Int) (b : Int) (H1.out.below hb))
  have C2 := fun W (hb : Below w.heap.size w W) => Lib.hid (valid_any (c : Int) (d : Int) (H2.out.below hb))
  rw [hv.vBuf] at C1
  rw [hw.vBuf] at C2
  have C3 := fun W (hb : Below w.heap.size w W) => Lib.hid (sclone_any (H1.out.below hb) hv.small.1 hv.small.2)
  obtain ⟨A, n, rfl, _⟩ := h.shape
  obtain ⟨A', n', rfl, hn1, hn2, hcell⟩ := hu
  obtain ⟨bs, off, rfl, hbs, hsee⟩ := hcell hw.small.1
  have hn0 := Lib.hid hv.small.1
  have J := Lib.hid (heldC w a b (.slice A l.length n) c d (.slice (some ⟨bs, off, none⟩) m.length n'))
  have HS := Lib.hid hsee
  have C4 := fun (W : World) g c6 (hr : RowP W g l) (h1 : l.length ≤ c6) (h2 : c6 ≤ maxLen) (h3 : ∀ j p, m[j]? = some p → At4 W bs off j p) (h4 : bs < W.heap.size) (h5 : bs ≠ g) => Lib.hid (place_over ⟨hv.a1, hv.a2⟩ ⟨hv.b1, hv.b2⟩ ⟨hw.a1, hw.a2⟩ ⟨hw.b1, hw.b2⟩ hv.len hw.len x y (c := c6) hr hv.len h1 h2 h3 h4 h5 hw.len hn1 hn2 hlb hmb)
  have HL := Lib.hid (put_len (overP) a l c d m x y)
  unfold WC at J
  unfold Outs RowOf at *
  unfold Res
  unfold RowOf
  rw [HL.out]
  generalize putL (overP) a l c d m x y = O at *
  generalize l.length = n1 at *
  generalize m.length = n2 at *
  clear h hcell hsee hv hw hlb hmb
  go_enter Try.func54, Try.ntmps54
  go_wp2_with fail
  refine (C1 _ J.out.below).out.mono ?_
  rintro e w1 ⟨rfl, hb⟩
  replace J := Lib.hid (J.out.step hb)
  clear hb
  obtain ⟨y0, y1, y2, _, _⟩ := J.out.tri (l1 := [_])
  go_wp2_with fail
  refine (C2 _ J.out.below).out.mono ?_
  rintro e w2 ⟨rfl, hb⟩
  replace J := Lib.hid (J.out.step hb)
  clear hb y0 y1 y2
  go_upto_region 3 with fail
  go_cut [12] from 22 to 29 (fun s12 wx => ∃ mm g c6 : Nat, s12 = .pointer (some ⟨mm, 0, none⟩) ∧ n1 ≤ c6 ∧ c6 ≤ maxLen ∧ w.heap.size + 1 + 1 < g ∧ g ≠ mm ∧ Hid (RowP wx g l ∧ Held w wx [(mm, [.int .i64 (a : Int), .int .i64 (b : Int), .slice (some ⟨g, 0, none⟩) n1 c6]), (w.heap.size + 1 + 1, [.int .i64 0, .int .i64 0, .slice none 0 0]), (w.heap.size + 1, [.int .i64 (c : Int), .int .i64 (d : Int), .slice (some ⟨bs, off, none⟩) n2 n']), (w.heap.size, [.int .i64 (a : Int), .int .i64 (b : Int), .slice A n1 n])]))
  case first =>
    have hsz := (J.out.at (l1 := [])).2.2.1
    have J0 := J
    have sk := J.out.drew.three (l1 := [_, _])
    have se := (J.out.alloc [.int .i64 0, .int .i64 0, .slice none 0 0] 24).drew.three (l1 := [_, _, _])
    have BE := Lib.hid (J.out.made (.cells #[.int .i64 0, .int .i64 0, .slice none 0 0] 24)).drew.below
    have BD := Lib.hid J.out.drew.below
    go_region_held3 (fun W => W.cell? ⟨w.heap.size, 0, none⟩ = some (.int .i64 (a : Int)) ∧ W.cell? ⟨w.heap.size, 1, none⟩ = some (.int .i64 (b : Int)) ∧ W.cell? ⟨w.heap.size, 2, none⟩ = some (.slice A n1 n))
      (first
        | with_reducible exact sk
        | with_reducible exact se
        | exact s7.out
        | go_keep)
      (first
        | (go_at_call 71; (with_reducible refine (C3 _ BD.out).out.mono ?_); rintro e w4 ⟨u4, rfl, ⟨g, c6, rfl, h1, h2, h3, h4⟩, hb1⟩; replace J := Lib.hid (J.out.drew.step hb1); clear sk; have sk := J.out.three (l1 := [_, _]); have R := Lib.hid h4; have s7 := Lib.hid ((J.out.alloc [.int .i64 (a : Int), .int .i64 (b : Int), .slice (some ⟨g, 0, none⟩) n1 c6] 24).three (l1 := [_, _, _])); clear h4 hb1)
        | (go_at_call 71; (with_reducible refine (C3 _ BE.out).out.mono ?_); rintro e w4 ⟨u4, rfl, ⟨g, c6, rfl, h1, h2, h3, h4⟩, hb1⟩; replace J := Lib.hid ((J.out.alloc [.int .i64 0, .int .i64 0, .slice none 0 0] 24).drew.step hb1); clear sk; have sk := J.out.three (l1 := [_, _, _]); obtain ⟨z0, z1, z2, zf, zt⟩ := J.out.tri (l1 := []); have R := Lib.hid h4; have s7 := Lib.hid ((J.out.set3 (l1 := []) (.int .i64 (a : Int)) (.int .i64 (b : Int)) (.slice (some ⟨g, 0, none⟩) n1 c6)).three (l1 := [_, _, _])); clear h4 hb1)
        | fail)
    all_goals
      clear sk se s7 BE BD
      (try clear z0 z1 z2 zf zt)
      go_wp2_with fail
      go_meet
      first
        | exact ⟨_, g, c6, rfl, h1, h2, Nat.lt_of_lt_of_le hsz h3, Nat.ne_of_lt R.out.2.2, Lib.hid ⟨R.out.step ((Below.refl _ _).alloc (Nat.le_refl _) _), J.out.alloc [.int .i64 (a : Int), .int .i64 (b : Int), .slice (some ⟨g, 0, none⟩) n1 c6] 24⟩⟩
        | exact ⟨_, g, c6, rfl, h1, h2, Nat.lt_trans hsz (size_lt h3), Nat.ne_of_gt (size_lt h3), Lib.hid ⟨R.out.far (Nat.ne_of_gt (size_lt h3)) _ _ _, J.out.set3 (l1 := []) (.int .i64 (a : Int)) (.int .i64 (b : Int)) (.slice (some ⟨g, 0, none⟩) n1 c6)⟩⟩
  case rest =>
    obtain ⟨mm, g, c6, rfl, h1, h2, h3, h4, HW⟩ := hcut
    clear J C1 C2 C3
    obtain ⟨y0, y1, y2, yf, yt⟩ := HW.out.2.tri (l1 := [])
    obtain ⟨x0, x1, x2, xf, xt⟩ := HW.out.2.tri (l1 := [_, _])
    go_wp2_with fail
    refine (C4 _ g c6 HW.out.1 h1 h2 (fun j p hj => (HS.out j p hj).keep HW.out.2.below hbs) (Nat.lt_of_lt_of_le hbs HW.out.2.below.size) (by omega)).out.mono ?_
    rintro e w5 ⟨rfl, hr, hg⟩
    have J5 := Lib.hid (HW.out.2.grown hg (by omega) (fun p hp => by
      simp only [List.mem_cons, List.not_mem_nil, or_false] at hp
      rcases hp with rfl | rfl | rfl | rfl
      · exact fun e => h4 e.symm
      · exact fun e => by simp only at e; omega
      · exact fun e => by simp only at e; omega
      · exact fun e => by simp only at e; omega))
    have Q := Lib.hid (hr.far (k := w.heap.size + 1 + 1) (by omega) (.int .i64 (a : Int)) (.int .i64 (b : Int)) (.slice (some ⟨g, 0, none⟩) n1 c6))
    have K := Lib.hid (below_set3 (y0 := .int .i64 (a : Int)) (y1 := .int .i64 (b : Int)) (y2 := .slice (some ⟨g, 0, none⟩) n1 c6) J5.out.below (by omega : w.heap.size ≤ w.heap.size + 1 + 1))
    clear y0 y1 y2 yf yt x0 x1 x2 xf xt hr hg
    obtain ⟨y0, y1, y2, yf, yt⟩ := J5.out.tri (l1 := [])
    obtain ⟨z0, z1, z2, zf, zt⟩ := J5.out.tri (l1 := [_])
    go_wp2_with fail
    exact bodyPost_ret (v := .tuple #[.agg #[.int .i64 (a : Int), .int .i64 (b : Int), .slice (some ⟨g, 0, none⟩) n1 c6], .int .i64 0]) (by simp [results, Try.results54, go_sem, z0, z1, z2]) rfl ⟨_, rfl, .inr ⟨g, c6, rfl, h1, h2, by omega, Q.out⟩, K.out⟩

theorem Res.keep {w w0 w1 w2 : World} {v : Value} {l : List Px} (h : Res w0 w1 v l) (hb : Below w.heap.size w w0) (hk : ∀ g, w0.heap.size ≤ g → RowP w1 g l → RowP w2 g l) : Res w w2 v l := by
  rcases h with h | ⟨g, c, rfl, h1, h2, h3, h4⟩
  · exact .inl h
  · exact .inr ⟨g, c, rfl, h1, h2, Nat.le_trans hb.size h3, hk g h3 h4⟩


set_option maxRecDepth 100000 in
set_option maxHeartbeats 4000000 in
theorem paste_of {a b c d : Int} {A A' : Option Addr} {n m n' m' : Nat} (x y : Int) {w : World} {oa ob er : Int} {O : List Px}
    (C : ∀ W, Below w.heap.size w W → Calls Try.prog 54 #[.agg #[.int .i64 a, .int .i64 b, .slice A n n'], .agg #[.int .i64 c, .int .i64 d, .slice A' m m'], .int .i64 x, .int .i64 y, .func (.func 52) #[] #[]] W (Outs oa ob O er W)) : Calls Try.prog 29 #[.agg #[.int .i64 a, .int .i64 b, .slice A n n'], .agg #[.int .i64 c, .int .i64 d, .slice A' m m'], .int .i64 x, .int .i64 y] w (Outs oa ob O er w) := by
  have HC := fun W hb => Lib.hid (C W hb)
  have J := Lib.hid (heldC w a b (.slice A n n') c d (.slice A' m m'))
  unfold WC at J
  clear C
  unfold Outs
  go_enter Try.func29, Try.ntmps29
  go_wp2_with fail
  have J0 := J
  have hk0 := (J0.out.tri (l1 := [])).2.2.2.2
  refine (HC _ J.out.below).out.mono ?_
  rintro e w1 ⟨v, rfl, hres, hb⟩
  replace J := Lib.hid (J.out.step hb)
  obtain ⟨A6, c6, rfl, _, _⟩ := hres.pxs.shape
  have HR := Lib.hid (hres.keep (w := w) (w2 := set3 w1 (w.heap.size + 1 + 1) (.int .i64 oa) (.int .i64 ob) (.slice A6 O.length c6)) J0.out.below (fun g hg hr => hr.far (Nat.ne_of_gt (Nat.lt_of_lt_of_le hk0 hg)) _ _ _))
  have K := Lib.hid (below_set3 (y0 := .int .i64 oa) (y1 := .int .i64 ob) (y2 := .slice A6 O.length c6) J.out.below (by omega : w.heap.size ≤ w.heap.size + 1 + 1))
  generalize O.length = n6 at *
  clear hb hres hk0 J0
  obtain ⟨z0, z1, z2, zf, zt⟩ := J.out.tri (l1 := [])
  go_wp2_with fail
  exact bodyPost_ret (v := .tuple #[.agg #[.int .i64 oa, .int .i64 ob, .slice A6 n6 c6], .int .i64 er]) (by simp [results, Try.results29, go_sem, z0, z1, z2]) rfl ⟨_, rfl, HR.out, K.out⟩

set_option maxRecDepth 100000 in
set_option maxHeartbeats 4000000 in
theorem over_of {a b c d : Int} {A A' : Option Addr} {n m n' m' : Nat} (x y : Int) {w : World} {oa ob er : Int} {O : List Px}
    (C : ∀ W, Below w.heap.size w W → Calls Try.prog 54 #[.agg #[.int .i64 a, .int .i64 b, .slice A n n'], .agg #[.int .i64 c, .int .i64 d, .slice A' m m'], .int .i64 x, .int .i64 y, .func (.func 56) #[] #[]] W (Outs oa ob O er W)) : Calls Try.prog 32 #[.agg #[.int .i64 a, .int .i64 b, .slice A n n'], .agg #[.int .i64 c, .int .i64 d, .slice A' m m'], .int .i64 x, .int .i64 y] w (Outs oa ob O er w) := by
  have HC := fun W hb => Lib.hid (C W hb)
  have J := Lib.hid (heldC w a b (.slice A n n') c d (.slice A' m m'))
  unfold WC at J
  clear C
  unfold Outs
  go_enter Try.func32, Try.ntmps32
  go_wp2_with fail
  have J0 := J
  have hk0 := (J0.out.tri (l1 := [])).2.2.2.2
  refine (HC _ J.out.below).out.mono ?_
  rintro e w1 ⟨v, rfl, hres, hb⟩
  replace J := Lib.hid (J.out.step hb)
  obtain ⟨A6, c6, rfl, _, _⟩ := hres.pxs.shape
  have HR := Lib.hid (hres.keep (w := w) (w2 := set3 w1 (w.heap.size + 1 + 1) (.int .i64 oa) (.int .i64 ob) (.slice A6 O.length c6)) J0.out.below (fun g hg hr => hr.far (Nat.ne_of_gt (Nat.lt_of_lt_of_le hk0 hg)) _ _ _))
  have K := Lib.hid (below_set3 (y0 := .int .i64 oa) (y1 := .int .i64 ob) (y2 := .slice A6 O.length c6) J.out.below (by omega : w.heap.size ≤ w.heap.size + 1 + 1))
  generalize O.length = n6 at *
  clear hb hres hk0 J0
  obtain ⟨z0, z1, z2, zf, zt⟩ := J.out.tri (l1 := [])
  go_wp2_with fail
  exact bodyPost_ret (v := .tuple #[.agg #[.int .i64 oa, .int .i64 ob, .slice A6 n6 c6], .int .i64 er]) (by simp [results, Try.results32, go_sem, z0, z1, z2]) rfl ⟨_, rfl, HR.out, K.out⟩



theorem paste_bad {a b c d : Int} {v u : Value} {l m : List Px} (x y : Int) {w : World} (h : Pxs w v l) (hu : Pxs w u m) (hbad : (vBuf a b l && vBuf c d m) = false) : Calls Try.prog 29 #[.agg #[.int .i64 a, .int .i64 b, v], .agg #[.int .i64 c, .int .i64 d, u], .int .i64 x, .int .i64 y] w (Outs 0 0 [] 15 w) := by
  obtain ⟨A, n, rfl, _⟩ := h.shape
  obtain ⟨A', n', rfl, _⟩ := hu.shape
  exact paste_of x y (fun W hb => changed_bad_copy x y (h.below hb) (hu.below hb) hbad)
theorem paste_good {a b c d : Nat} {v u : Value} {l m : List Px} (x y : Int) {w : World} (h : Pxs w v l) (hu : Pxs w u m) (hv : Vld a b l) (hw : Vld c d m) (hlb : ∀ p ∈ l, Byt p) (hmb : ∀ p ∈ m, Byt p) :
    Calls Try.prog 29 #[.agg #[.int .i64 (a : Int), .int .i64 (b : Int), v], .agg #[.int .i64 (c : Int), .int .i64 (d : Int), u], .int .i64 x, .int .i64 y] w (Outs a b (putL (fun p _ => p) a l c d m x y) 0 w) := by
  obtain ⟨A, n, rfl, _⟩ := h.shape
  obtain ⟨A', n', rfl, _⟩ := hu.shape
  exact paste_of x y (fun W hb => changed_copy x y (h.below hb) (hu.below hb) hv hw hlb hmb)

theorem over_bad {a b c d : Int} {v u : Value} {l m : List Px} (x y : Int) {w : World} (h : Pxs w v l) (hu : Pxs w u m) (hbad : (vBuf a b l && vBuf c d m) = false) : Calls Try.prog 32 #[.agg #[.int .i64 a, .int .i64 b, v], .agg #[.int .i64 c, .int .i64 d, u], .int .i64 x, .int .i64 y] w (Outs 0 0 [] 15 w) := by
  obtain ⟨A, n, rfl, _⟩ := h.shape
  obtain ⟨A', n', rfl, _⟩ := hu.shape
  exact over_of x y (fun W hb => changed_bad_over x y (h.below hb) (hu.below hb) hbad)
theorem over_good {a b c d : Nat} {v u : Value} {l m : List Px} (x y : Int) {w : World} (h : Pxs w v l) (hu : Pxs w u m) (hv : Vld a b l) (hw : Vld c d m) (hlb : ∀ p ∈ l, Byt p) (hmb : ∀ p ∈ m, Byt p) :
    Calls Try.prog 32 #[.agg #[.int .i64 (a : Int), .int .i64 (b : Int), v], .agg #[.int .i64 (c : Int), .int .i64 (d : Int), u], .int .i64 x, .int .i64 y] w (Outs a b (putL (overP) a l c d m x y) 0 w) := by
  obtain ⟨A, n, rfl, _⟩ := h.shape
  obtain ⟨A', n', rfl, _⟩ := hu.shape
  exact over_of x y (fun W hb => changed_over x y (h.below hb) (hu.below hb) hv hw hlb hmb)

end Go.Proofs.Ytahhcklkcibgoaa
