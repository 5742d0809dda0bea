/-
  Package quota: Use, Release.
-/
import Derived.Test.YtkehdaahlfkiiaaPqb
namespace Go.Proofs.Ytkehdaahlfkiiaa
open Go.RowKit

/-- a quota within a call, of which the pairs alone may have turned -/
structure QX (W0 W : World) (p b n : Nat) (ls cs : List Int) : Prop where
  box : (boxO p (quoC p b n)).P W
  prs : PairsAt W b ls cs
  turn : Turns (fun k => k = b) W0 W
theorem QX.start {W : World} {p b n : Nat} {ls cs : List Int} (h : (boxO p (quoC p b n)).P W) (hp : PairsAt W b ls cs) : QX W W p b n ls cs := ⟨h, hp, rfl, rfl, rfl, Nat.le_refl _, fun _ _ _ => rfl⟩
theorem QX.drew {W0 W : World} {p b n : Nat} {ls cs : List Int} (h : QX W0 W p b n ls cs) : QX W0 W.drew p b n ls cs := by
  have hb := (Below.refl W.heap.size W).drew
  exact ⟨boxO_keeps p _ W _ hb.size (fun k e => hb.block k (by rw [show k = p from e]; exact h.box.2.2)) h.box, h.prs.keep hb.size (hb.block b h.prs.there), hb.os.trans h.turn.os, hb.tape.trans h.turn.tape, hb.output.trans h.turn.output, Nat.le_trans h.turn.size hb.size,
    fun k hk hS => (hb.block k (Nat.lt_of_lt_of_le hk h.turn.size)).trans (h.turn.block k hk hS)⟩
theorem QX.put {W0 W : World} {p b n : Nat} {ls cs : List Int} (h : QX W0 W p b n ls cs) (hne : p ≠ b) {i : Nat} (hi : i < cs.length) (x : Int) : QX W0 (W.setCell ⟨b, i * 2, none⟩ (.int .i64 x)) p b n ls (cs.set i x) := by
  have hz : W.heap.size ≤ (W.setCell ⟨b, i * 2, none⟩ (.int .i64 x)).heap.size := by simp
  have hk : ∀ k, k ≠ b → (W.setCell ⟨b, i * 2, none⟩ (.int .i64 x)).heap[k]? = W.heap[k]? := fun k hne => Below.heap_setCell W ⟨b, i * 2, none⟩ (.int .i64 x) k hne
  exact ⟨boxO_keeps p _ W _ hz (fun k e => hk k (by rw [show k = p from e]; exact hne)) h.box, h.prs.put hi x, h.turn.os, h.turn.tape, h.turn.output, Nat.le_trans h.turn.size hz, fun k hl hS => (hk k hS).trans (h.turn.block k hl hS)⟩
theorem QX.leave {w0 W W' : World} {p b : Nat} {q : Qs} (h : QX W W' p b q.ls.length q.ls q.cs) (h1 : w0.heap.size ≤ p) (h2 : w0.heap.size ≤ b) (h3 : p ≠ b) (h4 : q.ls.length ≤ 100) {S : Nat → Prop} (hS : ∀ k, S k ↔ (k = p ∨ k = b)) :
    ∃ S', Q0 w0 W' (.pointer (some ⟨p, 0, none⟩)) q S' ∧ (∀ k, S' k → S k ∨ W.heap.size ≤ k) ∧ Turns S W W' :=
  ⟨S, ⟨p, b, rfl, h1, h2, h3, h4, hS, h.box, h.prs⟩, fun _ hk => .inl hk, h.turn.os, h.turn.tape, h.turn.output, h.turn.size, fun k hk hn => h.turn.block k hk (fun e => hn ((hS k).2 (.inr e)))⟩

set_option maxRecDepth 100000 in
set_option maxHeartbeats 4000000 in
theorem p_use_any {w0 W : World} {rv : Value} {q : Qs} {S : Nat → Prop} (R : Q0 w0 W rv q S) (hq : QOk q) {k n : Int} (hn64 : I64 n) :
    Calls Try.prog 20 #[rv, .int .i64 k, .int .i64 n] W fun e w' => ∃ S', e = .returned (.int .i64 (useQ q k n).2) ∧ Q0 w0 w' rv (useQ q k n).1 S' ∧ (∀ k, S' k → S k ∨ W.heap.size ≤ k) ∧ Turns S W w' := by
  obtain ⟨p, b, rfl, h1, h2, h3, h4, hS, hb, hp⟩ := R
  have HB := Lib.hid hb
  have HP := Lib.hid hp
  have x0 := hb.1 0 _ rfl
  have x1 := hb.1 1 _ rfl
  have C := Lib.hid (p_check_any x0 x1 k n)
  have FIN := Lib.hid ((QX.start hb hp).leave h1 h2 h3 h4 hS)
  rw [chkN_eq] at C
  unfold useQ
  by_cases hk : kindQ q k
  · rw [if_neg (not_not_intro hk)]
    by_cases hn : n < 0
    · rw [if_pos hn]
      rw [chkQ_neg hk hn] at C
      clear hb hp HB HP hk hq
      obtain ⟨S', f1, f2⟩ := FIN.out
      clear FIN
      generalize q.ls.length = m at *
      go_enter Try.func20, Try.ntmps20
      go_wp2_with fail
      refine C.out.mono ?_
      rintro e w1 ⟨rfl, rfl⟩
      go_wp2_with fail
      go_ret
      exact ⟨S', rfl, f1, f2⟩
    · rw [if_neg hn]
      rw [chkQ_ok hk hn] at C
      obtain ⟨i, a, c, rfl, hi, g1, g2, g3, g4, g5, g6, g7⟩ := hq.at hk
      have q0 : (0 : Int) ≤ i := by omega
      have q1 : (i : Int) < q.ls.length := by omega
      rw [g3, g4]
      obtain ⟨n0, n1⟩ := hn64
      by_cases hx : a - c < n
      · rw [if_pos hx]
        dsimp only
        have J := Lib.hid ((QX.start hb hp).drew)
        have FIN2 := Lib.hid (J.out.leave h1 h2 h3 h4 hS)
        have y1 := J.out.prs.lim i a g1
        have y2 := J.out.prs.cnt i c g2
        have yf := J.out.prs.free
        have yl := J.out.prs.there
        have sk := And.intro y1 y2
        have uw : IntKind.i64.wrap (a - c) = a - c := by rw [IntKind.wrap_i64]; omega
        clear hb hp HB HP hk hq FIN J
        obtain ⟨S', f1, f2⟩ := FIN2.out
        clear FIN2
        generalize q.ls.length = m at *
        go_enter Try.func20, Try.ntmps20
        go_wp2_with fail
        refine C.out.mono ?_
        rintro e w1 ⟨rfl, rfl⟩
        go_wp2_with fail
        go_region_held3 (fun W => W.cell? ⟨b, i * 2 + 1, none⟩ = some (.int .i64 a) ∧ W.cell? ⟨b, i * 2, none⟩ = some (.int .i64 c))
          (first
            | exact sk
            | go_keep)
          (fail)
        go_wp2_with fail
        go_ret
        exact ⟨S', rfl, f1, f2⟩
      · rw [if_neg hx]
        dsimp only
        have hic : i < q.cs.length := by rw [hq.len]; exact hi
        have J := Lib.hid ((QX.start hb hp).drew.drew)
        have J2 := Lib.hid (show QX W _ p b (setQ q i (c + n)).ls.length (setQ q i (c + n)).ls (setQ q i (c + n)).cs from J.out.put h3 hic (c + n))
        have FIN2 := Lib.hid (J2.out.leave h1 h2 h3 h4 hS)
        have y1 := J.out.prs.lim i a g1
        have y2 := J.out.prs.cnt i c g2
        have yf := J.out.prs.free
        have yl := J.out.prs.there
        have sk := And.intro y1 y2
        have uw : IntKind.i64.wrap (a - c) = a - c ∧ IntKind.i64.wrap (c + n) = c + n := by simp only [IntKind.wrap_i64]; omega
        obtain ⟨uw1, uw2⟩ := uw
        clear hb hp HB HP hk hq FIN J J2
        obtain ⟨S', f1, f2⟩ := FIN2.out
        clear FIN2
        generalize q.ls.length = m at *
        go_enter Try.func20, Try.ntmps20
        go_wp2_with fail
        refine C.out.mono ?_
        rintro e w1 ⟨rfl, rfl⟩
        go_wp2_with fail
        go_region_held3 (fun W => W.cell? ⟨b, i * 2 + 1, none⟩ = some (.int .i64 a) ∧ W.cell? ⟨b, i * 2, none⟩ = some (.int .i64 c))
          (first
            | exact sk
            | go_keep)
          (fail)
        go_wp2_with fail
        go_region
        go_wp2_with fail
        go_ret
        exact ⟨S', rfl, f1, f2⟩
  · rw [if_pos hk]
    rw [chkQ_bad hk] at C
    clear hb hp HB HP hk hq
    obtain ⟨S', f1, f2⟩ := FIN.out
    clear FIN
    generalize q.ls.length = m at *
    go_enter Try.func20, Try.ntmps20
    go_wp2_with fail
    refine C.out.mono ?_
    rintro e w1 ⟨rfl, rfl⟩
    go_wp2_with fail
    go_ret
    exact ⟨S', rfl, f1, f2⟩

set_option maxRecDepth 100000 in
set_option maxHeartbeats 4000000 in
theorem p_rel_any {w0 W : World} {rv : Value} {q : Qs} {S : Nat → Prop} (R : Q0 w0 W rv q S) (hq : QOk q) {k n : Int} (hn64 : I64 n) :
    Calls Try.prog 19 #[rv, .int .i64 k, .int .i64 n] W fun e w' => ∃ S', e = .returned (.int .i64 (relQ q k n).2) ∧ Q0 w0 w' rv (relQ q k n).1 S' ∧ (∀ k, S' k → S k ∨ W.heap.size ≤ k) ∧ Turns S W w' := by
  obtain ⟨p, b, rfl, h1, h2, h3, h4, hS, hb, hp⟩ := R
  have HB := Lib.hid hb
  have HP := Lib.hid hp
  have x0 := hb.1 0 _ rfl
  have x1 := hb.1 1 _ rfl
  have C := Lib.hid (p_check_any x0 x1 k n)
  have FIN := Lib.hid ((QX.start hb hp).leave h1 h2 h3 h4 hS)
  rw [chkN_eq] at C
  unfold relQ
  by_cases hk : kindQ q k
  · rw [if_neg (not_not_intro hk)]
    by_cases hn : n < 0
    · rw [if_pos hn]
      rw [chkQ_neg hk hn] at C
      clear hb hp HB HP hk hq
      obtain ⟨S', f1, f2⟩ := FIN.out
      clear FIN
      generalize q.ls.length = m at *
      go_enter Try.func19, Try.ntmps19
      go_wp2_with fail
      refine C.out.mono ?_
      rintro e w1 ⟨rfl, rfl⟩
      go_wp2_with fail
      go_ret
      exact ⟨S', rfl, f1, f2⟩
    · rw [if_neg hn]
      rw [chkQ_ok hk hn] at C
      obtain ⟨i, a, c, rfl, hi, g1, g2, g3, g4, g5, g6, g7⟩ := hq.at hk
      have q0 : (0 : Int) ≤ i := by omega
      have q1 : (i : Int) < q.ls.length := by omega
      rw [g4]
      obtain ⟨n0, n1⟩ := hn64
      by_cases hx : c < n
      · rw [if_pos hx]
        dsimp only
        have J := Lib.hid (QX.start hb hp)
        have FIN2 := Lib.hid (J.out.leave h1 h2 h3 h4 hS)
        have y1 := J.out.prs.lim i a g1
        have y2 := J.out.prs.cnt i c g2
        have yf := J.out.prs.free
        have yl := J.out.prs.there
        have sk := And.intro y1 y2
        clear hb hp HB HP hk hq FIN J
        obtain ⟨S', f1, f2⟩ := FIN2.out
        clear FIN2
        generalize q.ls.length = m at *
        go_enter Try.func19, Try.ntmps19
        go_wp2_with fail
        refine C.out.mono ?_
        rintro e w1 ⟨rfl, rfl⟩
        go_wp2_with fail
        go_ret
        exact ⟨S', rfl, f1, f2⟩
      · rw [if_neg hx]
        dsimp only
        have hic : i < q.cs.length := by rw [hq.len]; exact hi
        have J := Lib.hid ((QX.start hb hp).drew)
        have z1 := hp.lim i a g1
        have z2 := hp.cnt i c g2
        have zf := hp.free
        have zl := hp.there
        have J2 := Lib.hid (show QX W _ p b (setQ q i (c - n)).ls.length (setQ q i (c - n)).ls (setQ q i (c - n)).cs from J.out.put h3 hic (c - n))
        have FIN2 := Lib.hid (J2.out.leave h1 h2 h3 h4 hS)
        have y1 := J.out.prs.lim i a g1
        have y2 := J.out.prs.cnt i c g2
        have yf := J.out.prs.free
        have yl := J.out.prs.there
        have sk := And.intro y1 y2
        have uw : IntKind.i64.wrap (c - n) = c - n := by simp only [IntKind.wrap_i64]; omega
        clear hb hp HB HP hk hq FIN J J2
        obtain ⟨S', f1, f2⟩ := FIN2.out
        clear FIN2
        generalize q.ls.length = m at *
        go_enter Try.func19, Try.ntmps19
        go_wp2_with fail
        refine C.out.mono ?_
        rintro e w1 ⟨rfl, rfl⟩
        go_wp2_with fail
        go_region
        go_wp2_with fail
        go_ret
        exact ⟨S', rfl, f1, f2⟩
  · rw [if_pos hk]
    rw [chkQ_bad hk] at C
    clear hb hp HB HP hk hq
    obtain ⟨S', f1, f2⟩ := FIN.out
    clear FIN
    generalize q.ls.length = m at *
    go_enter Try.func19, Try.ntmps19
    go_wp2_with fail
    refine C.out.mono ?_
    rintro e w1 ⟨rfl, rfl⟩
    go_wp2_with fail
    go_ret
    exact ⟨S', rfl, f1, f2⟩

set_option maxRecDepth 100000 in
theorem p_use_nil (W : World) (k n : Int) : Calls Try.prog 20 #[.pointer none, .int .i64 k, .int .i64 n] W fun e w' => e = .returned (.int .i64 1) ∧ W = w' := by
  have C := Lib.hid (p_check_nil W k n)
  go_enter Try.func20, Try.ntmps20
  go_wp2_with fail
  refine C.out.mono ?_
  rintro e w1 ⟨rfl, rfl⟩
  go_wp2_with fail
  go_ret
  exact ⟨rfl, rfl⟩

set_option maxRecDepth 100000 in
theorem p_rel_nil (W : World) (k n : Int) : Calls Try.prog 19 #[.pointer none, .int .i64 k, .int .i64 n] W fun e w' => e = .returned (.int .i64 1) ∧ W = w' := by
  have C := Lib.hid (p_check_nil W k n)
  go_enter Try.func19, Try.ntmps19
  go_wp2_with fail
  refine C.out.mono ?_
  rintro e w1 ⟨rfl, rfl⟩
  go_wp2_with fail
  go_ret
  exact ⟨rfl, rfl⟩

end Go.Proofs.Ytkehdaahlfkiiaa
