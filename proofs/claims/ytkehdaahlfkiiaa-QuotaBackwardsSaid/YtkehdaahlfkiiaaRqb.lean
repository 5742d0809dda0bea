/-
  The reference's quota: Use, Release.
-/
import Derived.Test.YtkehdaahlfkiiaaRqa
namespace Go.Proofs.Ytkehdaahlfkiiaa
open Go.RowKit

theorem chkQ_bad {q : Qs} {k n : Int} (h : ¬ kindQ q k) : chkQ q k n = 8 := by unfold chkQ; rw [if_pos h]
theorem chkQ_neg {q : Qs} {k n : Int} (h : kindQ q k) (hn : n < 0) : chkQ q k n = 6 := by unfold chkQ; rw [if_neg (not_not_intro h), if_pos hn]
theorem chkQ_ok {q : Qs} {k n : Int} (h : kindQ q k) (hn : ¬ n < 0) : chkQ q k n = 0 := by unfold chkQ; rw [if_neg (not_not_intro h), if_neg hn]
theorem ownI_mono {w : World} {base base' : Nat} {v : Value} {L : List Int} (h : OwnI w base v L) (hb : base' ≤ base) : OwnI w base' v L := by
  refine ⟨h.1, ?_⟩
  rcases h.2 with h2 | ⟨g, cap, cur, hv, hg, r⟩
  · exact .inl h2
  · exact .inr ⟨g, cap, cur, hv, Nat.le_trans hb hg, r⟩
/-- what Use and Release leave -/
def QRes (w : World) (vl vc : Value) (cs0 cs : List Int) (x : Int) (e : Ending) (w' : World) : Prop :=
  ∃ u, e = .returned (.tuple #[qV vl u, .int .i64 x]) ∧ Is w' u cs ∧ ((u = vc ∧ cs = cs0) ∨ OwnI w' w.heap.size u cs) ∧ Below w.heap.size w w'
theorem QRes.same {w w' : World} {vl vc : Value} {cs : List Int} {x : Int} (hc : Is w vc cs) (hb : Below w.heap.size w w') : QRes w vl vc cs cs x (.returned (.tuple #[qV vl vc, .int .i64 x])) w' :=
  ⟨vc, rfl, hc.below hb, .inl ⟨rfl, rfl⟩, hb⟩

set_option maxRecDepth 100000 in
set_option maxHeartbeats 8000000 in
theorem rrel_any {w : World} {vl vc : Value} {q : Qs} (hl : Is w vl q.ls) (hc : Is w vc q.cs) (hq : QOk q) (hm : q.ls.length ≤ 100000) (k n : Int) :
    Calls Try.prog 15 #[qV vl vc, .int .i64 k, .int .i64 n] w (QRes w vl vc q.cs (relQ q k n).1.cs (relQ q k n).2) := by
  have HL := Lib.hid hl
  have HC := Lib.hid hc
  have CK := fun (W : World) (hb : Below w.heap.size w W) => Lib.hid (rchk_any (hl.below hb) (hc.below hb) k n)
  have ST := fun (W : World) (hb : Below w.heap.size w W) (i : Nat) (hi : i < q.cs.length) (x : Int) => Lib.hid (rset_any (hl.below hb) (hc.below hb) (by rw [hq.len]; exact hm) hi x)
  obtain ⟨A, c, rfl, h1, h2⟩ := hl.shape
  obtain ⟨A', c', rfl, h1', h2'⟩ := hc.shape
  have J := Lib.hid (show HO w ((w.alloc (.cells #[.bool true, .slice A q.ls.length c, .slice A' q.cs.length c'] 28)).alloc (.cells #[.bool false, .slice none 0 0, .slice none 0 0] 28)) [boxO (w.heap.size + 1) [.bool false, .slice none 0 0, .slice none 0 0], boxO w.heap.size [.bool true, .slice A q.ls.length c, .slice A' q.cs.length c']] from by
    have h := ((HO.nil w).alloc [.bool true, .slice A q.ls.length c, .slice A' q.cs.length c'] 28).alloc [.bool false, .slice none 0 0, .slice none 0 0] 28
    rw [World.size_alloc] at h
    exact h)
  simp only [maxLen] at h2 h2'
  have hlen := hq.len
  by_cases hkd : kindQ q k
  · by_cases hn0 : n < 0
    · have e1 := chkQ_neg (n := n) hkd hn0
      have e2 : relQ q k n = (q, 6) := by unfold relQ; rw [if_neg (not_not_intro hkd), if_pos hn0]
      rw [e2]
      rw [e1] at CK
      obtain ⟨m, hm1⟩ : ∃ m, q.ls.length = m := ⟨_, rfl⟩
      rw [hlen, hm1] at HC J h1' CK ⊢
      rw [hm1] at HL h1
      clear hl hc hlen hm1 hkd hn0 e1 e2 ST
      go_enter Try.func15, Try.ntmps15
      go_wp2_with fail
      refine (CK _ J.out.below).out.mono ?_
      rintro e w1 ⟨rfl, hb⟩
      replace J := Lib.hid (J.out.step hb)
      clear CK hb
      obtain ⟨x0, x1, x2, xf, xl⟩ := (show HO w _ ([_] ++ boxO w.heap.size _ :: []) from J.out).c3
      obtain ⟨z0, z1, z2, zf, zl⟩ := (show HO w _ ([] ++ boxO (w.heap.size + 1) _ :: [_]) from J.out).c3
      have J2 := Lib.hid ((show HO w _ ([] ++ boxO (w.heap.size + 1) [.bool false, .slice none 0 0, .slice none 0 0] :: [_]) from J.out).set3 (.bool true) (.slice A m c) (.slice A' m c'))
      go_wp2_with fail
      obtain ⟨y0, y1, y2, -, -⟩ := (show HO w _ ([] ++ boxO (w.heap.size + 1) _ :: [_]) from J2.out).c3
      exact bodyPost_ret (v := .tuple #[qV (.slice A m c) (.slice A' m c'), .int .i64 6]) (by simp [results, Try.results15, go_sem, y0, y1, y2]) rfl (QRes.same HC.out J2.out.below)
    · obtain ⟨i, a, b, rfl, hi, g1, g2, g3, g4, g5, g6, g7⟩ := hq.at hkd
      have e1 := chkQ_ok hkd hn0
      rw [e1] at CK
      by_cases hx : b < n
      · have e2 : relQ q i n = (q, 14) := by unfold relQ; rw [if_neg (not_not_intro hkd), if_neg hn0, if_pos (by rw [g4]; exact hx)]
        rw [e2]
        obtain ⟨m, hm1⟩ : ∃ m, q.ls.length = m := ⟨_, rfl⟩
        rw [hlen, hm1] at HC J h1' CK ⊢
        rw [hm1] at HL h1 hi
        clear hl hc hlen hm1 hkd e1 e2 ST
        go_enter Try.func15, Try.ntmps15
        go_wp2_with fail
        refine (CK _ J.out.below).out.mono ?_
        rintro e w1 ⟨rfl, hb⟩
        replace J := Lib.hid (J.out.step hb)
        clear CK hb
        obtain ⟨x0, x1, x2, xf, xl⟩ := (show HO w _ ([_] ++ boxO w.heap.size _ :: []) from J.out).c3
        obtain ⟨z0, z1, z2, zf, zl⟩ := (show HO w _ ([] ++ boxO (w.heap.size + 1) _ :: [_]) from J.out).c3
        obtain ⟨b2, off2, rfl, hb2, d1⟩ := is_at HC.out J.out.below g2
        have q0 : (0 : Int) ≤ i := by omega
        have q1 : (i : Int) < m := by omega
        have J2 := Lib.hid ((show HO w _ ([] ++ boxO (w.heap.size + 1) [.bool false, .slice none 0 0, .slice none 0 0] :: [_]) from J.out).set3 (.bool true) (.slice A m c) (.slice (some ⟨b2, off2, none⟩) m c'))
        go_wp2_with fail
        obtain ⟨y0, y1, y2, -, -⟩ := (show HO w _ ([] ++ boxO (w.heap.size + 1) _ :: [_]) from J2.out).c3
        exact bodyPost_ret (v := .tuple #[qV (.slice A m c) (.slice (some ⟨b2, off2, none⟩) m c'), .int .i64 14]) (by simp [results, Try.results15, go_sem, y0, y1, y2]) rfl (QRes.same HC.out J2.out.below)
      · have e2 : relQ q i n = (setQ q i (b - n), 0) := by unfold relQ; rw [if_neg (not_not_intro hkd), if_neg hn0, if_neg (by rw [g4]; exact hx), g4]
        rw [e2]
        have e3 : (setQ q i (b - n)).cs = q.cs.set i (b - n) := rfl
        dsimp only
        rw [e3]
        obtain ⟨m, hm1⟩ : ∃ m, q.ls.length = m := ⟨_, rfl⟩
        rw [hlen] at ST
        have HLN : Hid (q.cs.length = m) := Lib.hid (hlen.trans hm1)
        rw [hlen, hm1] at HC J h1' CK ⊢
        rw [hm1] at HL h1 hi ST
        clear hl hc hlen hm1 hkd e1 e2 e3
        go_enter Try.func15, Try.ntmps15
        go_wp2_with fail
        refine (CK _ J.out.below).out.mono ?_
        rintro e w1 ⟨rfl, hb⟩
        replace J := Lib.hid (J.out.step hb)
        clear CK hb
        obtain ⟨x0, x1, x2, xf, xl⟩ := (show HO w _ ([_] ++ boxO w.heap.size _ :: []) from J.out).c3
        obtain ⟨z0, z1, z2, zf, zl⟩ := (show HO w _ ([] ++ boxO (w.heap.size + 1) _ :: [_]) from J.out).c3
        obtain ⟨b2, off2, rfl, hb2, d1⟩ := is_at HC.out J.out.below g2
        have q0 : (0 : Int) ≤ i := by omega
        have q1 : (i : Int) < m := by omega
        go_wp2_with fail
        have HL2 : Hid ((q.cs.set i (b - n)).length = m) := Lib.hid (by rw [List.length_set, HLN.out])
        have uw : IntKind.i64.wrap (b - n) = b - n := by rw [IntKind.wrap_i64]; omega
        clear g3 g4
        replace J := Lib.hid J.out.drew
        have sk := And.intro x0 (And.intro x1 (And.intro x2 d1))
        have HZ := Lib.hid J.out.below.size
        go_region_held3 (fun W => W.cell? ⟨w.heap.size, 0, none⟩ = some (.bool true) ∧ W.cell? ⟨w.heap.size, 1, none⟩ = some (.slice A m c) ∧ W.cell? ⟨w.heap.size, 2, none⟩ = some (.slice (some ⟨b2, off2, none⟩) m c') ∧ W.cell? ⟨b2, off2 + i, none⟩ = some (.int .i64 b))
          (first
            | exact sk
            | exact ⟨s3.1, s3.2.1, s3.2.2.1, d5⟩
            | go_keep)
          (first
            | (go_at_call 29; (with_reducible refine (ST _ J.out.below i hi (b - n)).out.mono ?_); rintro e wq ⟨u, rfl, hu, hb2q⟩; obtain ⟨b6, c6, hv6⟩ := own_formI hu (by have := HL2.out; omega); rw [HL2.out] at hv6; subst hv6; have hu2 : wq.ownsRow w.heap.size 3 1 (.slice (some ⟨b6, 0, none⟩) m c6) m (ils (q.cs.set i (b - n))) := (by have h := ownI_mono hu HZ.out; unfold OwnI at h; rw [HL2.out] at h; exact h); replace J := Lib.hid (J.out.rowB hb2q hu2 (fun k hk => (World.ownsRow.lt hu k hk).1)); clear sk hb2q x0 x1 x2 xf xl z0 z1 z2 zf zl hu hu2; obtain ⟨x0, x1, x2, xf, xl⟩ := (show HO w _ ([_, _] ++ boxO w.heap.size _ :: []) from J.out).c3; obtain ⟨z0, z1, z2, zf, zl⟩ := (show HO w _ ([_] ++ boxO (w.heap.size + 1) _ :: [_]) from J.out).c3; obtain ⟨b4, off4, e4, hb4, d4⟩ := is_at HC.out J.out.below g2; simp only [Option.some.injEq, Addr.mk.injEq, and_true] at e4; obtain ⟨rfl, rfl⟩ := e4; have sk := And.intro x0 (And.intro x1 (And.intro x2 d4)); have J2 := Lib.hid ((show HO w wq ([_] ++ boxO (w.heap.size + 1) [.bool false, .slice none 0 0, .slice none 0 0] :: [_]) from J.out).set3 (.bool true) (.slice A m c) (.slice (some ⟨b6, 0, none⟩) m c6)); have s3 := (show HO w _ ([_, _] ++ boxO w.heap.size _ :: []) from J2.out).c3; obtain ⟨b5, off5, e5, hb5, d5⟩ := is_at HC.out J2.out.below g2; simp only [Option.some.injEq, Addr.mk.injEq, and_true] at e5; obtain ⟨rfl, rfl⟩ := e5)
            | fail)
        have hrow := (show HO w _ ([] ++ rowO w.heap.size 3 1 (.slice (some ⟨b6, 0, none⟩) m c6) m (ils (q.cs.set i (b - n))) :: _) from J2.out).at
        have hr2 : OwnI _ w.heap.size (.slice (some ⟨b6, 0, none⟩) m c6) (q.cs.set i (b - n)) := (by unfold OwnI; rw [HL2.out]; exact hrow)
        have HR2 := Lib.hid hr2
        clear hrow hr2
        go_wp2_with fail
        obtain ⟨y0, y1, y2, -, -⟩ := (show HO w _ ([_] ++ boxO (w.heap.size + 1) _ :: [_]) from J2.out).c3
        exact bodyPost_ret (v := .tuple #[qV (.slice A m c) (.slice (some ⟨b6, 0, none⟩) m c6), .int .i64 0]) (by simp [results, Try.results15, go_sem, y0, y1, y2]) rfl ⟨_, rfl, HR2.out.is, .inr HR2.out, J2.out.below⟩
  · have e1 := chkQ_bad (n := n) hkd
    have e2 : relQ q k n = (q, 8) := by unfold relQ; rw [if_pos hkd]
    rw [e2]
    rw [e1] at CK
    obtain ⟨m, hm1⟩ : ∃ m, q.ls.length = m := ⟨_, rfl⟩
    rw [hlen, hm1] at HC J h1' CK ⊢
    rw [hm1] at HL h1
    clear hl hc hlen hm1 hkd e1 e2 ST
    go_enter Try.func15, Try.ntmps15
    go_wp2_with fail
    refine (CK _ J.out.below).out.mono ?_
    rintro e w1 ⟨rfl, hb⟩
    replace J := Lib.hid (J.out.step hb)
    clear CK hb
    obtain ⟨x0, x1, x2, xf, xl⟩ := (show HO w _ ([_] ++ boxO w.heap.size _ :: []) from J.out).c3
    obtain ⟨z0, z1, z2, zf, zl⟩ := (show HO w _ ([] ++ boxO (w.heap.size + 1) _ :: [_]) from J.out).c3
    have J2 := Lib.hid ((show HO w _ ([] ++ boxO (w.heap.size + 1) [.bool false, .slice none 0 0, .slice none 0 0] :: [_]) from J.out).set3 (.bool true) (.slice A m c) (.slice A' m c'))
    go_wp2_with fail
    obtain ⟨y0, y1, y2, -, -⟩ := (show HO w _ ([] ++ boxO (w.heap.size + 1) _ :: [_]) from J2.out).c3
    exact bodyPost_ret (v := .tuple #[qV (.slice A m c) (.slice A' m c'), .int .i64 8]) (by simp [results, Try.results15, go_sem, y0, y1, y2]) rfl (QRes.same HC.out J2.out.below)

set_option maxRecDepth 100000 in
set_option maxHeartbeats 8000000 in
theorem ruse_any {w : World} {vl vc : Value} {q : Qs} (hl : Is w vl q.ls) (hc : Is w vc q.cs) (hq : QOk q) (hm : q.ls.length ≤ 100000) (k n : Int) :
    Calls Try.prog 14 #[qV vl vc, .int .i64 k, .int .i64 n] w (QRes w vl vc q.cs (useQ q k n).1.cs (useQ q k n).2) := by
  have HL := Lib.hid hl
  have HC := Lib.hid hc
  have CK := fun (W : World) (hb : Below w.heap.size w W) => Lib.hid (rchk_any (hl.below hb) (hc.below hb) k n)
  have ST := fun (W : World) (hb : Below w.heap.size w W) (i : Nat) (hi : i < q.cs.length) (x : Int) => Lib.hid (rset_any (hl.below hb) (hc.below hb) (by rw [hq.len]; exact hm) hi x)
  obtain ⟨A, c, rfl, h1, h2⟩ := hl.shape
  obtain ⟨A', c', rfl, h1', h2'⟩ := hc.shape
  have J := Lib.hid (show HO w ((w.alloc (.cells #[.bool true, .slice A q.ls.length c, .slice A' q.cs.length c'] 28)).alloc (.cells #[.bool false, .slice none 0 0, .slice none 0 0] 28)) [boxO (w.heap.size + 1) [.bool false, .slice none 0 0, .slice none 0 0], boxO w.heap.size [.bool true, .slice A q.ls.length c, .slice A' q.cs.length c']] from by
    have h := ((HO.nil w).alloc [.bool true, .slice A q.ls.length c, .slice A' q.cs.length c'] 28).alloc [.bool false, .slice none 0 0, .slice none 0 0] 28
    rw [World.size_alloc] at h
    exact h)
  simp only [maxLen] at h2 h2'
  have hlen := hq.len
  by_cases hkd : kindQ q k
  · by_cases hn0 : n < 0
    · have e1 := chkQ_neg (n := n) hkd hn0
      have e2 : useQ q k n = (q, 6) := by unfold useQ; rw [if_neg (not_not_intro hkd), if_pos hn0]
      rw [e2]
      rw [e1] at CK
      obtain ⟨m, hm1⟩ : ∃ m, q.ls.length = m := ⟨_, rfl⟩
      rw [hlen, hm1] at HC J h1' CK ⊢
      rw [hm1] at HL h1
      clear hl hc hlen hm1 hkd hn0 e1 e2 ST
      go_enter Try.func14, Try.ntmps14
      go_wp2_with fail
      refine (CK _ J.out.below).out.mono ?_
      rintro e w1 ⟨rfl, hb⟩
      replace J := Lib.hid (J.out.step hb)
      clear CK hb
      obtain ⟨x0, x1, x2, xf, xl⟩ := (show HO w _ ([_] ++ boxO w.heap.size _ :: []) from J.out).c3
      obtain ⟨z0, z1, z2, zf, zl⟩ := (show HO w _ ([] ++ boxO (w.heap.size + 1) _ :: [_]) from J.out).c3
      have J2 := Lib.hid ((show HO w _ ([] ++ boxO (w.heap.size + 1) [.bool false, .slice none 0 0, .slice none 0 0] :: [_]) from J.out).set3 (.bool true) (.slice A m c) (.slice A' m c'))
      go_wp2_with fail
      obtain ⟨y0, y1, y2, -, -⟩ := (show HO w _ ([] ++ boxO (w.heap.size + 1) _ :: [_]) from J2.out).c3
      exact bodyPost_ret (v := .tuple #[qV (.slice A m c) (.slice A' m c'), .int .i64 6]) (by simp [results, Try.results14, go_sem, y0, y1, y2]) rfl (QRes.same HC.out J2.out.below)
    · obtain ⟨i, a, b, rfl, hi, g1, g2, g3, g4, g5, g6, g7⟩ := hq.at hkd
      have e1 := chkQ_ok hkd hn0
      rw [e1] at CK
      by_cases hx : a - b < n
      · have e2 : useQ q i n = (q, 5) := by unfold useQ; rw [if_neg (not_not_intro hkd), if_neg hn0, if_pos (by rw [g3, g4]; exact hx)]
        rw [e2]
        obtain ⟨m, hm1⟩ : ∃ m, q.ls.length = m := ⟨_, rfl⟩
        rw [hlen, hm1] at HC J h1' CK ⊢
        rw [hm1] at HL h1 hi
        clear hl hc hlen hm1 hkd e1 e2 ST
        go_enter Try.func14, Try.ntmps14
        go_wp2_with fail
        refine (CK _ J.out.below).out.mono ?_
        rintro e w1 ⟨rfl, hb⟩
        replace J := Lib.hid (J.out.step hb)
        clear CK hb
        obtain ⟨x0, x1, x2, xf, xl⟩ := (show HO w _ ([_] ++ boxO w.heap.size _ :: []) from J.out).c3
        obtain ⟨z0, z1, z2, zf, zl⟩ := (show HO w _ ([] ++ boxO (w.heap.size + 1) _ :: [_]) from J.out).c3
        obtain ⟨b2, off2, rfl, hb2, d1⟩ := is_at HC.out J.out.below g2
        obtain ⟨b1, off1, rfl, hb1, d0⟩ := is_at HL.out J.out.below g1
        have q0 : (0 : Int) ≤ i := by omega
        have q1 : (i : Int) < m := by omega
        go_wp2_with fail
        go_quiet (fail)
        replace J := Lib.hid (J.out.drews nq)
        generalize w1.drewN nq = w2 at *
        clear x0 x1 x2 xf xl z0 z1 z2 zf zl
        obtain ⟨x0, x1, x2, xf, xl⟩ := (show HO w _ ([_] ++ boxO w.heap.size _ :: []) from J.out).c3
        obtain ⟨z0, z1, z2, zf, zl⟩ := (show HO w _ ([] ++ boxO (w.heap.size + 1) _ :: [_]) from J.out).c3
        obtain ⟨b3, off3, e3, hb3, d2⟩ := is_at HC.out J.out.below g2
        simp only [Option.some.injEq, Addr.mk.injEq, and_true] at e3
        obtain ⟨rfl, rfl⟩ := e3
        have J2 := Lib.hid ((show HO w _ ([] ++ boxO (w.heap.size + 1) [.bool false, .slice none 0 0, .slice none 0 0] :: [_]) from J.out).set3 (.bool true) (.slice (some ⟨b1, off1, none⟩) m c) (.slice (some ⟨b2, off2, none⟩) m c'))
        go_wp2_with fail
        obtain ⟨y0, y1, y2, -, -⟩ := (show HO w _ ([] ++ boxO (w.heap.size + 1) _ :: [_]) from J2.out).c3
        exact bodyPost_ret (v := .tuple #[qV (.slice (some ⟨b1, off1, none⟩) m c) (.slice (some ⟨b2, off2, none⟩) m c'), .int .i64 5]) (by simp [results, Try.results14, go_sem, y0, y1, y2]) rfl (QRes.same HC.out J2.out.below)
      · have e2 : useQ q i n = (setQ q i (b + n), 0) := by unfold useQ; rw [if_neg (not_not_intro hkd), if_neg hn0, if_neg (by rw [g3, g4]; exact hx), g4]
        rw [e2]
        have e3 : (setQ q i (b + n)).cs = q.cs.set i (b + n) := rfl
        dsimp only
        rw [e3]
        obtain ⟨m, hm1⟩ : ∃ m, q.ls.length = m := ⟨_, rfl⟩
        rw [hlen] at ST
        have HLN : Hid (q.cs.length = m) := Lib.hid (hlen.trans hm1)
        rw [hlen, hm1] at HC J h1' CK ⊢
        rw [hm1] at HL h1 hi ST
        clear hl hc hlen hm1 hkd e1 e2 e3
        go_enter Try.func14, Try.ntmps14
        go_wp2_with fail
        refine (CK _ J.out.below).out.mono ?_
        rintro e w1 ⟨rfl, hb⟩
        replace J := Lib.hid (J.out.step hb)
        clear CK hb
        obtain ⟨x0, x1, x2, xf, xl⟩ := (show HO w _ ([_] ++ boxO w.heap.size _ :: []) from J.out).c3
        obtain ⟨z0, z1, z2, zf, zl⟩ := (show HO w _ ([] ++ boxO (w.heap.size + 1) _ :: [_]) from J.out).c3
        obtain ⟨b2, off2, rfl, hb2, d1⟩ := is_at HC.out J.out.below g2
        obtain ⟨b1, off1, rfl, hb1, d0⟩ := is_at HL.out J.out.below g1
        have q0 : (0 : Int) ≤ i := by omega
        have q1 : (i : Int) < m := by omega
        go_wp2_with fail
        go_quiet (fail)
        replace J := Lib.hid (J.out.drews nq)
        generalize w1.drewN nq = w2 at *
        clear x0 x1 x2 xf xl z0 z1 z2 zf zl
        obtain ⟨x0, x1, x2, xf, xl⟩ := (show HO w _ ([_] ++ boxO w.heap.size _ :: []) from J.out).c3
        obtain ⟨z0, z1, z2, zf, zl⟩ := (show HO w _ ([] ++ boxO (w.heap.size + 1) _ :: [_]) from J.out).c3
        obtain ⟨b3, off3, e3, hb3, d2⟩ := is_at HC.out J.out.below g2
        simp only [Option.some.injEq, Addr.mk.injEq, and_true] at e3
        obtain ⟨rfl, rfl⟩ := e3
        go_wp2_with fail
        have HL2 : Hid ((q.cs.set i (b + n)).length = m) := Lib.hid (by rw [List.length_set, HLN.out])
        have uw : IntKind.i64.wrap (b + n) = b + n := by rw [IntKind.wrap_i64]; omega
        clear g3 g4
        replace J := Lib.hid J.out.drew
        have sk := And.intro x0 (And.intro x1 (And.intro x2 d2))
        have HZ := Lib.hid J.out.below.size
        go_region_held3 (fun W => W.cell? ⟨w.heap.size, 0, none⟩ = some (.bool true) ∧ W.cell? ⟨w.heap.size, 1, none⟩ = some (.slice (some ⟨b1, off1, none⟩) m c) ∧ W.cell? ⟨w.heap.size, 2, none⟩ = some (.slice (some ⟨b2, off2, none⟩) m c') ∧ W.cell? ⟨b2, off2 + i, none⟩ = some (.int .i64 b))
          (first
            | exact sk
            | exact ⟨s3.1, s3.2.1, s3.2.2.1, d5⟩
            | go_keep)
          (first
            | (go_at_call 29; (with_reducible refine (ST _ J.out.below i hi (b + n)).out.mono ?_); rintro e wq ⟨u, rfl, hu, hb2q⟩; obtain ⟨b6, c6, hv6⟩ := own_formI hu (by have := HL2.out; omega); rw [HL2.out] at hv6; subst hv6; have hu2 : wq.ownsRow w.heap.size 3 1 (.slice (some ⟨b6, 0, none⟩) m c6) m (ils (q.cs.set i (b + n))) := (by have h := ownI_mono hu HZ.out; unfold OwnI at h; rw [HL2.out] at h; exact h); replace J := Lib.hid (J.out.rowB hb2q hu2 (fun k hk => (World.ownsRow.lt hu k hk).1)); clear sk hb2q x0 x1 x2 xf xl z0 z1 z2 zf zl hu hu2; obtain ⟨x0, x1, x2, xf, xl⟩ := (show HO w _ ([_, _] ++ boxO w.heap.size _ :: []) from J.out).c3; obtain ⟨z0, z1, z2, zf, zl⟩ := (show HO w _ ([_] ++ boxO (w.heap.size + 1) _ :: [_]) from J.out).c3; obtain ⟨b4, off4, e4, hb4, d4⟩ := is_at HC.out J.out.below g2; simp only [Option.some.injEq, Addr.mk.injEq, and_true] at e4; obtain ⟨rfl, rfl⟩ := e4; have sk := And.intro x0 (And.intro x1 (And.intro x2 d4)); have J2 := Lib.hid ((show HO w wq ([_] ++ boxO (w.heap.size + 1) [.bool false, .slice none 0 0, .slice none 0 0] :: [_]) from J.out).set3 (.bool true) (.slice (some ⟨b1, off1, none⟩) m c) (.slice (some ⟨b6, 0, none⟩) m c6)); have s3 := (show HO w _ ([_, _] ++ boxO w.heap.size _ :: []) from J2.out).c3; obtain ⟨b5, off5, e5, hb5, d5⟩ := is_at HC.out J2.out.below g2; simp only [Option.some.injEq, Addr.mk.injEq, and_true] at e5; obtain ⟨rfl, rfl⟩ := e5)
            | fail)
        have hrow := (show HO w _ ([] ++ rowO w.heap.size 3 1 (.slice (some ⟨b6, 0, none⟩) m c6) m (ils (q.cs.set i (b + n))) :: _) from J2.out).at
        have hr2 : OwnI _ w.heap.size (.slice (some ⟨b6, 0, none⟩) m c6) (q.cs.set i (b + n)) := (by unfold OwnI; rw [HL2.out]; exact hrow)
        have HR2 := Lib.hid hr2
        clear hrow hr2
        go_wp2_with fail
        obtain ⟨y0, y1, y2, -, -⟩ := (show HO w _ ([_] ++ boxO (w.heap.size + 1) _ :: [_]) from J2.out).c3
        exact bodyPost_ret (v := .tuple #[qV (.slice (some ⟨b1, off1, none⟩) m c) (.slice (some ⟨b6, 0, none⟩) m c6), .int .i64 0]) (by simp [results, Try.results14, go_sem, y0, y1, y2]) rfl ⟨_, rfl, HR2.out.is, .inr HR2.out, J2.out.below⟩
  · have e1 := chkQ_bad (n := n) hkd
    have e2 : useQ q k n = (q, 8) := by unfold useQ; rw [if_pos hkd]
    rw [e2]
    rw [e1] at CK
    obtain ⟨m, hm1⟩ : ∃ m, q.ls.length = m := ⟨_, rfl⟩
    rw [hlen, hm1] at HC J h1' CK ⊢
    rw [hm1] at HL h1
    clear hl hc hlen hm1 hkd e1 e2 ST
    go_enter Try.func14, Try.ntmps14
    go_wp2_with fail
    refine (CK _ J.out.below).out.mono ?_
    rintro e w1 ⟨rfl, hb⟩
    replace J := Lib.hid (J.out.step hb)
    clear CK hb
    obtain ⟨x0, x1, x2, xf, xl⟩ := (show HO w _ ([_] ++ boxO w.heap.size _ :: []) from J.out).c3
    obtain ⟨z0, z1, z2, zf, zl⟩ := (show HO w _ ([] ++ boxO (w.heap.size + 1) _ :: [_]) from J.out).c3
    have J2 := Lib.hid ((show HO w _ ([] ++ boxO (w.heap.size + 1) [.bool false, .slice none 0 0, .slice none 0 0] :: [_]) from J.out).set3 (.bool true) (.slice A m c) (.slice A' m c'))
    go_wp2_with fail
    obtain ⟨y0, y1, y2, -, -⟩ := (show HO w _ ([] ++ boxO (w.heap.size + 1) _ :: [_]) from J2.out).c3
    exact bodyPost_ret (v := .tuple #[qV (.slice A m c) (.slice A' m c'), .int .i64 8]) (by simp [results, Try.results14, go_sem, y0, y1, y2]) rfl (QRes.same HC.out J2.out.below)

end Go.Proofs.Ytkehdaahlfkiiaa
