/-
  Diff and OpaqueRegion of package buffer.
-/
import Derived.Test.YtahhcklkcibgoaaRuns
namespace Go.Proofs.Ytahhcklkcibgoaa
open Go.RowKit

/-- no runs, and an error -/
def NoRuns (c : Int) (w : World) (e : Ending) (w' : World) : Prop := e = .returned (.tuple #[.slice none 0 0, .int .i64 c]) ∧ Below w.heap.size w w'

theorem heldD (w : World) (a b : Int) (v : Value) (c d : Int) (u : Value) : Held w ((w.alloc (.cells #[.int .i64 a, .int .i64 b, v] 24)).alloc (.cells #[.int .i64 c, .int .i64 d, u] 24)) [(w.heap.size + 1, [.int .i64 c, .int .i64 d, u]), (w.heap.size, [.int .i64 a, .int .i64 b, v])] := by
  have h := ((Held.nil w).alloc [.int .i64 a, .int .i64 b, v] 24).alloc [.int .i64 c, .int .i64 d, u] 24
  rw [World.size_alloc] at h
  exact h

set_option maxRecDepth 100000 in
set_option maxHeartbeats 4000000 in
theorem diff_inv {a b c d : Int} {v u : Value} {l m : List Px} {w : World} (h1 : Pxs w v l) (h2 : Pxs w u m) (hbad : (vBuf a b l && vBuf c d m) = false) :
    Calls Try.prog 34 #[.agg #[.int .i64 a, .int .i64 b, v], .agg #[.int .i64 c, .int .i64 d, u]] w (NoRuns 15 w) := by
  have H1 := Lib.hid h1
  have H2 := Lib.hid h2
  obtain ⟨A, n, rfl, _⟩ := h1.shape
  obtain ⟨A', n', rfl, _⟩ := h2.shape
  have C1 := fun W (hb : Below w.heap.size w W) => Lib.hid (valid_any a b (H1.out.below hb))
  have C2 := fun W (hb : Below w.heap.size w W) => Lib.hid (valid_any c d (H2.out.below hb))
  have J := Lib.hid (heldD w a b (.slice A l.length n) c d (.slice A' m.length n'))
  unfold NoRuns
  generalize l.length = n1 at *
  generalize m.length = n2 at *
  obtain ⟨y0, y1, y2, _, _⟩ := J.out.tri (l1 := [_])
  cases hv : vBuf a b l with
  | false =>
    rw [hv] at C1
    clear h1 h2 hbad hv C2
    go_enter Try.func34, Try.ntmps34
    go_wp2_with fail
    refine (C1 _ J.out.below).out.mono ?_
    rintro e w1 ⟨rfl, hb⟩
    replace J := Lib.hid (J.out.step hb)
    clear hb y0 y1 y2
    go_wp2_with fail
    exact bodyPost_ret (v := .tuple #[.slice none 0 0, .int .i64 15]) (by simp [results, Try.results34, go_sem]) rfl ⟨rfl, J.out.below⟩
  | true =>
    rw [hv] at C1 hbad
    rw [Bool.true_and] at hbad
    rw [hbad] at C2
    clear h1 h2 hbad hv
    go_enter Try.func34, Try.ntmps34
    go_wp2_with fail
    refine (C1 _ J.out.below).out.mono ?_
    rintro e w1 ⟨rfl, hb⟩
    replace J := Lib.hid (J.out.step hb)
    clear hb y0 y1 y2
    obtain ⟨y0, y1, y2, _, _⟩ := J.out.tri (l1 := [])
    go_wp2_with fail
    refine (C2 _ J.out.below).out.mono ?_
    rintro e w2 ⟨rfl, hb⟩
    replace J := Lib.hid (J.out.step hb)
    clear hb y0 y1 y2
    go_wp2_with fail
    exact bodyPost_ret (v := .tuple #[.slice none 0 0, .int .i64 15]) (by simp [results, Try.results34, go_sem]) rfl ⟨rfl, J.out.below⟩


set_option maxRecDepth 100000 in
set_option maxHeartbeats 4000000 in
theorem diff_size {a b c d : Int} {v u : Value} {l m : List Px} {w : World} (h1 : Pxs w v l) (h2 : Pxs w u m) (hv : vBuf a b l = true) (hv' : vBuf c d m = true) (hne : ¬ (a = c ∧ b = d)) :
    Calls Try.prog 34 #[.agg #[.int .i64 a, .int .i64 b, v], .agg #[.int .i64 c, .int .i64 d, u]] w (NoRuns 2 w) := by
  have H1 := Lib.hid h1
  have H2 := Lib.hid h2
  obtain ⟨A, n, rfl, _⟩ := h1.shape
  obtain ⟨A', n', rfl, _⟩ := h2.shape
  have C1 := fun W (hb : Below w.heap.size w W) => Lib.hid (valid_any a b (H1.out.below hb))
  have C2 := fun W (hb : Below w.heap.size w W) => Lib.hid (valid_any c d (H2.out.below hb))
  rw [hv] at C1
  rw [hv'] at C2
  have J := Lib.hid (heldD w a b (.slice A l.length n) c d (.slice A' m.length n'))
  unfold NoRuns
  generalize l.length = n1 at *
  generalize m.length = n2 at *
  clear h1 h2 hv hv'
  by_cases hac : a = c
  · subst hac
    have hbd : ¬ b = d := fun e => hne ⟨rfl, e⟩
    clear hne
    go_enter Try.func34, Try.ntmps34
    obtain ⟨y0, y1, y2, _, _⟩ := J.out.tri (l1 := [_])
    go_wp2_with fail
    refine (C1 _ J.out.below).out.mono ?_
    rintro e w1 ⟨rfl, hb⟩
    replace J := Lib.hid (J.out.step hb)
    clear hb y0 y1 y2
    obtain ⟨y0, y1, y2, _, _⟩ := J.out.tri (l1 := [])
    go_wp2_with fail
    refine (C2 _ J.out.below).out.mono ?_
    rintro e w2 ⟨rfl, hb⟩
    replace J := Lib.hid (J.out.step hb)
    clear hb y0 y1 y2
    obtain ⟨y0, y1, y2, _, _⟩ := J.out.tri (l1 := [])
    obtain ⟨x0, x1, x2, _, _⟩ := J.out.tri (l1 := [_])
    go_wp2_with fail
    exact bodyPost_ret (v := .tuple #[.slice none 0 0, .int .i64 2]) (by simp [results, Try.results34, go_sem]) rfl ⟨rfl, J.out.below⟩
  · clear hne
    go_enter Try.func34, Try.ntmps34
    obtain ⟨y0, y1, y2, _, _⟩ := J.out.tri (l1 := [_])
    go_wp2_with fail
    refine (C1 _ J.out.below).out.mono ?_
    rintro e w1 ⟨rfl, hb⟩
    replace J := Lib.hid (J.out.step hb)
    clear hb y0 y1 y2
    obtain ⟨y0, y1, y2, _, _⟩ := J.out.tri (l1 := [])
    go_wp2_with fail
    refine (C2 _ J.out.below).out.mono ?_
    rintro e w2 ⟨rfl, hb⟩
    replace J := Lib.hid (J.out.step hb)
    clear hb y0 y1 y2
    obtain ⟨y0, y1, y2, _, _⟩ := J.out.tri (l1 := [])
    obtain ⟨x0, x1, x2, _, _⟩ := J.out.tri (l1 := [_])
    go_wp2_with fail
    exact bodyPost_ret (v := .tuple #[.slice none 0 0, .int .i64 2]) (by simp [results, Try.results34, go_sem]) rfl ⟨rfl, J.out.below⟩

theorem RunsO.later {L : List R} {w w1 w' : World} {e : Ending} (h : RunsO L w1 e w') (hb : Below w.heap.size w w1) : RunsO L w e w' := by
  rcases h with ⟨h1, v, rfl, h2, h3⟩ | ⟨h1, rfl, h3⟩
  · exact .inl ⟨h1, v, rfl, h2.mono hb.size, Below.next hb h3⟩
  · exact .inr ⟨h1, rfl, Below.next hb h3⟩

set_option maxRecDepth 100000 in
set_option maxHeartbeats 4000000 in
theorem diff_good {a b : Nat} {v u : Value} {l m : List Px} {w : World} (h1 : Pxs w v l) (h2 : Pxs w u m) (hv : Vld a b l) (hv' : Vld a b m) :
    Calls Try.prog 34 #[.agg #[.int .i64 (a : Int), .int .i64 (b : Int), v], .agg #[.int .i64 (a : Int), .int .i64 (b : Int), u]] w (RunsO (runsP a (diffB l m) l.length) w) := by
  have H1 := Lib.hid h1
  have H2 := Lib.hid h2
  obtain ⟨A, n, rfl, _⟩ := h1.shape
  obtain ⟨A', n', rfl, _⟩ := h2.shape
  have C1 := fun W (hb : Below w.heap.size w W) => Lib.hid (valid_any (a : Int) (b : Int) (H1.out.below hb))
  have C2 := fun W (hb : Below w.heap.size w W) => Lib.hid (valid_any (a : Int) (b : Int) (H2.out.below hb))
  rw [hv.vBuf] at C1
  rw [hv'.vBuf] at C2
  have J := Lib.hid (heldD w a b (.slice A l.length n) a b (.slice A' m.length n'))
  have HV := Lib.hid hv
  have HV' := Lib.hid hv'
  obtain ⟨res, hres⟩ : ∃ r, runsP a (diffB l m) l.length = r := ⟨_, rfl⟩
  have HRES := Lib.hid hres
  rw [hres]
  clear h1 h2 hv hv' hres
  go_enter Try.func34, Try.ntmps34
  obtain ⟨y0, y1, y2, _, _⟩ := J.out.tri (l1 := [_])
  go_wp2_with fail
  refine (C1 _ J.out.below).out.mono ?_
  rintro e w1 ⟨rfl, hb⟩
  replace J := Lib.hid (J.out.step hb)
  clear hb y0 y1 y2
  obtain ⟨y0, y1, y2, _, _⟩ := J.out.tri (l1 := [])
  go_wp2_with fail
  refine (C2 _ J.out.below).out.mono ?_
  rintro e w2 ⟨rfl, hb⟩
  replace J := Lib.hid (J.out.step hb)
  clear hb y0 y1 y2
  obtain ⟨y0, y1, y2, _, _⟩ := J.out.tri (l1 := [])
  obtain ⟨x0, x1, x2, _, _⟩ := J.out.tri (l1 := [_])
  go_wp2_with fail
  have Jb := Lib.hid J.out.below
  have hxt := (J.out.tri (l1 := [_])).2.2.2.2
  have hyt := (J.out.tri (l1 := [])).2.2.2.2
  have ho := HV.out.len
  have hs2 := mul_small HV.out.a2 HV.out.b2
  refine (runs58 (w := w2) (H1.out.below Jb.out) ⟨HV.out.a1, HV.out.a2⟩ (by omega) (diffB l m) fun i hi W hW => ?_).mono ?_
  · exact diff1_any (H1.out.below (Below.next Jb.out hW)) (H2.out.below (Below.next Jb.out hW)) ((hW.cell (p := ⟨w.heap.size, 2, none⟩) hxt).trans x2) ((hW.cell (p := ⟨w.heap.size + 1, 2, none⟩) hyt).trans y2) hi (by rw [HV'.out.len, ← HV.out.len]; exact hi)
  · rw [HRES.out]
    rintro e w5 hr
    replace hr := hr.later Jb.out
    clear HRES
    rcases hr with ⟨hl, v', rfl, ho', hb'⟩ | ⟨hl, rfl, hb'⟩
    · have HH := Lib.hid (And.intro hl (And.intro ho' hb'))
      clear hl ho' hb' x0 x1 x2 y0 y1 y2 ho hs2
      go_wp2_with fail
      exact bodyPost_ret (v := .tuple #[v', .int .i64 0]) (by simp [results, Try.results34, go_sem]) rfl (.inl ⟨HH.out.1, v', rfl, HH.out.2.1, HH.out.2.2⟩)
    · have HH := Lib.hid (And.intro hl hb')
      clear hl hb' x0 x1 x2 y0 y1 y2 ho hs2
      go_wp2_with fail
      exact bodyPost_ret (v := .tuple #[.slice none 0 0, .int .i64 5]) (by simp [results, Try.results34, go_sem]) rfl (.inr ⟨HH.out.1, rfl, HH.out.2⟩)

set_option maxRecDepth 100000 in
set_option maxHeartbeats 4000000 in
theorem opq_inv {a b : Int} {v : Value} {l : List Px} {w : World} (h1 : Pxs w v l) (hbad : vBuf a b l = false) :
    Calls Try.prog 37 #[.agg #[.int .i64 a, .int .i64 b, v]] w (NoRuns 15 w) := by
  have H1 := Lib.hid h1
  obtain ⟨A, n, rfl, _⟩ := h1.shape
  have C1 := fun W (hb : Below w.heap.size w W) => Lib.hid (valid_any a b (H1.out.below hb))
  rw [hbad] at C1
  have J := Lib.hid ((Held.nil w).alloc [.int .i64 a, .int .i64 b, .slice A l.length n] 24)
  unfold NoRuns
  generalize l.length = n1 at *
  obtain ⟨y0, y1, y2, _, _⟩ := J.out.tri (l1 := [])
  clear h1 hbad
  go_enter Try.func37, Try.ntmps37
  go_wp2_with fail
  refine (C1 _ J.out.below).out.mono ?_
  rintro e w1 ⟨rfl, hb⟩
  replace J := Lib.hid (J.out.step hb)
  clear hb y0 y1 y2
  go_wp2_with fail
  exact bodyPost_ret (v := .tuple #[.slice none 0 0, .int .i64 15]) (by simp [results, Try.results37, go_sem]) rfl ⟨rfl, J.out.below⟩

set_option maxRecDepth 100000 in
set_option maxHeartbeats 4000000 in
theorem opq_good {a b : Nat} {v : Value} {l : List Px} {w : World} (h1 : Pxs w v l) (hv : Vld a b l) :
    Calls Try.prog 37 #[.agg #[.int .i64 (a : Int), .int .i64 (b : Int), v]] w (RunsO (runsP a (opqB l) l.length) w) := by
  have H1 := Lib.hid h1
  obtain ⟨A, n, rfl, _⟩ := h1.shape
  have C1 := fun W (hb : Below w.heap.size w W) => Lib.hid (valid_any (a : Int) (b : Int) (H1.out.below hb))
  rw [hv.vBuf] at C1
  have J := Lib.hid ((Held.nil w).alloc [.int .i64 (a : Int), .int .i64 (b : Int), .slice A l.length n] 24)
  have HV := Lib.hid hv
  obtain ⟨res, hres⟩ : ∃ r, runsP a (opqB l) l.length = r := ⟨_, rfl⟩
  have HRES := Lib.hid hres
  rw [hres]
  clear h1 hv hres
  go_enter Try.func37, Try.ntmps37
  obtain ⟨y0, y1, y2, _, _⟩ := J.out.tri (l1 := [])
  go_wp2_with fail
  refine (C1 _ J.out.below).out.mono ?_
  rintro e w2 ⟨rfl, hb⟩
  replace J := Lib.hid (J.out.step hb)
  clear hb y0 y1 y2
  obtain ⟨y0, y1, y2, _, _⟩ := J.out.tri (l1 := [])
  go_wp2_with fail
  have Jb := Lib.hid J.out.below
  have hyt := (J.out.tri (l1 := [])).2.2.2.2
  have ho := HV.out.len
  have hs2 := mul_small HV.out.a2 HV.out.b2
  refine (runs60 (w := w2) (H1.out.below Jb.out) ⟨HV.out.a1, HV.out.a2⟩ (by omega) (opqB l) fun i hi W hW => ?_).mono ?_
  · exact opq1_any (H1.out.below (Below.next Jb.out hW)) ((hW.cell (p := ⟨w.heap.size, 2, none⟩) hyt).trans y2) hi
  · rw [HRES.out]
    rintro e w5 hr
    replace hr := hr.later Jb.out
    clear HRES
    rcases hr with ⟨hl, v', rfl, ho', hb'⟩ | ⟨hl, rfl, hb'⟩
    · have HH := Lib.hid (And.intro hl (And.intro ho' hb'))
      clear hl ho' hb' y0 y1 y2 ho hs2
      go_wp2_with fail
      exact bodyPost_ret (v := .tuple #[v', .int .i64 0]) (by simp [results, Try.results37, go_sem]) rfl (.inl ⟨HH.out.1, v', rfl, HH.out.2.1, HH.out.2.2⟩)
    · have HH := Lib.hid (And.intro hl hb')
      clear hl hb' y0 y1 y2 ho hs2
      go_wp2_with fail
      exact bodyPost_ret (v := .tuple #[.slice none 0 0, .int .i64 5]) (by simp [results, Try.results37, go_sem]) rfl (.inr ⟨HH.out.1, rfl, HH.out.2⟩)

end Go.Proofs.Ytahhcklkcibgoaa
