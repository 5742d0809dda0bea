/-
  row, copyRow and blendRow of package buffer: a part of a row, one part of a row put into another.
-/
import Derived.Test.YtahhcklkcibgoaaEq
import Derived.Test.YtahhcklkcibgoaaOver
namespace Go.Proofs.Ytahhcklkcibgoaa
open Go.RowKit

set_option maxRecDepth 100000 in
set_option maxHeartbeats 4000000 in
theorem row_any (b : Int) {a bb off n c y x0 x1 : Nat} (ha : a ≤ 256) (hy : y ≤ 256) (h0 : x0 < x1) (h1 : x1 ≤ a) (hn : y * a + x1 ≤ n) (hc : n ≤ c) (hm : c ≤ maxLen) (w : World) :
    Calls Try.prog 69 #[.agg #[.int .i64 (a : Int), .int .i64 b, .slice (some ⟨bb, off, none⟩) n c], .int .i64 (y : Int), .int .i64 (x0 : Int), .int .i64 (x1 : Int)] w fun e w' => e = .returned (.slice (some ⟨bb, off + (y * a + x0) * 4, none⟩) (x1 - x0) (x1 - x0)) ∧ Below w.heap.size w w' := by
  simp only [maxLen] at hm
  have hp := mul_small hy ha
  obtain ⟨M, hM⟩ : ∃ M, y * a = M := ⟨_, rfl⟩
  have e0 : IntKind.i64.wrap ((y : Int) * a) = (M : Int) := by rw [← hM, Int.natCast_mul]; exact IntWalk.i64_in _ (by have : ((y * a : Nat) : Int) = (y : Int) * a := Int.natCast_mul _ _; omega)
  rw [hM] at hn hp ⊢
  clear hM
  have e1 : IntKind.i64.wrap ((M : Int) + x0) = ((M + x0 : Nat) : Int) := by rw [IntWalk.i64_in _ (by omega)]; omega
  have e2 : IntKind.i64.wrap ((M : Int) + x1) = ((M + x1 : Nat) : Int) := by rw [IntWalk.i64_in _ (by omega)]; omega
  have J := Lib.hid ((Held.nil w).alloc [.int .i64 (a : Int), .int .i64 b, .slice (some ⟨bb, off, none⟩) n c] 24)
  have hd : M + x1 - (M + x0) = x1 - x0 := by omega
  rw [← hd]
  clear hd
  obtain ⟨F, hF⟩ : ∃ F, M + x0 = F := ⟨_, rfl⟩
  obtain ⟨T, hT⟩ : ∃ T, M + x1 = T := ⟨_, rfl⟩
  rw [hF] at e1 ⊢
  rw [hT] at e2 hn ⊢
  have g0 : (0 : Int) ≤ F := by omega
  have g1 : (F : Int) ≤ T := by omega
  have g2 : (T : Int) ≤ c := by omega
  have g3 : ¬ T - F = 0 := by omega
  have g4 : ((F : Int)).toNat = F := Int.toNat_natCast F
  have g5 : ((T : Int)).toNat = T := Int.toNat_natCast T
  clear hF hT h0 h1 ha hy hp hn hc
  go_enter Try.func69, Try.ntmps69
  go_wp2_with fail
  go_quiet (fail)
  go_wp2_with fail
  go_ret
  exact ⟨rfl, (J.out.drews _).below⟩

/-- 'copy' into a row of one's own, for the walk -/
theorem wpList_copyP {w : World} {ops : Array Oper} {rest : List Oper} {ob : Oper} {a : Act} {Q : Exit → Act → World → Prop} (hgd : ob.guard = none) (d s : Operand)
    (ho : ob.op = .call { callee := .builtin .copy, args := #[d, s], argTypes := #[22, 22] })
    {g o n c : Nat} {L S : List Px} (hd : a.eval d = .slice (some ⟨g, o * 4, none⟩) n c) (hr : RowP w g L) {A : Option Addr} {m sc : Nat} (hs : a.eval s = .slice A m sc) (hm : m = S.length) (hsee : Pxs w (.slice A S.length sc) S)
    (hn : n = S.length) (h0 : 0 < S.length) (hfit : o + S.length ≤ L.length)
    (h : ∀ w', RowP w' g (splice L o S) → w.grownBy w' (some g) → wpList Try.prog ops Q rest (a.put ob.dst (goInt S.length)) w') : wpList Try.prog ops Q (ob :: rest) a w := by
  refine wpList_plain hgd fun K hK => ?_
  subst hm
  have hrun := copy_run hr hsee hn h0 hfit (c := c) ob.type
  unfold Oper.wp execOp
  simp only [ho, resolve, invoke, builtin, Sem.run_bind, Sem.run_pure, Result.andThen_ok, List.map_toArray, List.map_cons, List.map_nil, hd, hs, hrun]
  exact hK _ _ (h _ (hr.splice hfit) (grown_setCells g _ _ _ _ (World.grownBy.refl w _)))

set_option maxRecDepth 100000 in
set_option maxHeartbeats 4000000 in
theorem copyRow_any {w : World} {g o n c : Nat} {L S : List Px} (hr : RowP w g L) {A : Option Addr} {sc : Nat} (hsee : Pxs w (.slice A S.length sc) S) (hn : n = S.length) (h0 : 0 < S.length) (hfit : o + S.length ≤ L.length) :
    Calls Try.prog 52 #[.slice (some ⟨g, o * 4, none⟩) n c, .slice A S.length sc] w fun e w' => e = .returned (.tuple #[]) ∧ RowP w' g (splice L o S) ∧ w.grownBy w' (some g) := by
  have HR := Lib.hid hr
  have HS := Lib.hid hsee
  have HN := Lib.hid hn
  have HF := Lib.hid hfit
  have H0 := Lib.hid h0
  obtain ⟨m, hm⟩ : ∃ m, S.length = m := ⟨_, rfl⟩
  have HM := Lib.hid hm
  rw [hm]
  clear hr hsee hn h0 hfit
  have hrun := copy_run HR.out HS.out HN.out H0.out HF.out (c := c) 3
  rw [hm] at hrun
  have Z := Lib.hid (And.intro (HR.out.splice HF.out) (grown_setCells g (flat S) (o * 4) _ _ (World.grownBy.refl w _)))
  clear hm
  go_enter Try.func52, Try.ntmps52
  go_wp2_with fail
  go_end0
  exact ⟨rfl, Z.out⟩

/-- the pixels of S blended over those of L from o on -/
def blendL (L S : List Px) (o : Nat) : List Px := tabL S.length (fun i => overP (S.getD i zeroPx) (L.getD (o + i) zeroPx))

theorem splice_zero {α : Type} (L : List α) (o : Nat) : splice L o [] = L := by
  unfold splice
  simp

theorem splice_more {L T : List Px} {o k : Nat} (hfit : o + T.length ≤ L.length) (hk : k < T.length) : splice L o (T.take (k + 1)) = (splice L o (T.take k)).set (o + k) (T.getD k zeroPx) := by
  have l0 : (T.take k).length = k := by rw [List.length_take]; omega
  have l1 : (T.take (k + 1)).length = k + 1 := by rw [List.length_take]; omega
  apply List.ext_getElem?
  intro i
  rw [splice_get _ _ _ (by omega), l1]
  by_cases e : o + k = i
  · subst e
    rw [List.getElem?_set_self (by rw [length_splice _ _ _ (by omega)]; omega), if_pos (by omega), Nat.add_sub_cancel_left, List.getElem?_take_of_lt (by omega), get_of hk]
  · rw [List.getElem?_set_ne e, splice_get _ _ _ (by omega), l0]
    by_cases h1 : o ≤ i ∧ i < o + k
    · rw [if_pos h1, if_pos (by omega), List.getElem?_take_of_lt (by omega), List.getElem?_take_of_lt (by omega)]
    · rw [if_neg h1, if_neg (by omega)]

theorem splice_old {L T : List Px} {o k i : Nat} (hfit : o + T.length ≤ L.length) (hk : k ≤ T.length) (hi : o + k ≤ i) : (splice L o (T.take k))[i]? = L[i]? := by
  have l0 : (T.take k).length = k := by rw [List.length_take]; omega
  rw [splice_get _ _ _ (by omega), l0, if_neg (by omega)]

/-- another block than g is read as it was -/
theorem At4.grown {w w1 : World} {g b off j : Nat} {p : Px} (h : At4 w b off j p) (hg : w.grownBy w1 (some g)) (hb : b < w.heap.size) (hne : b ≠ g) : At4 w1 b off j p := by
  have hb := hg.block b hb (fun e => hne (Option.some.inj e))
  have hc : ∀ i, w1.cell? ⟨b, i, none⟩ = w.cell? ⟨b, i, none⟩ := fun i => World.cell?_of_block (a := ⟨b, i, none⟩) hb
  obtain ⟨a0, a1, a2, a3⟩ := h
  exact ⟨(hc _).trans a0, (hc _).trans a1, (hc _).trans a2, (hc _).trans a3⟩

theorem grown_next {w w1 w2 : World} {g : Nat} (h : w.grownBy w1 (some g)) (hb : Below w1.heap.size w1 w2) : w.grownBy w2 (some g) := h.trans (grown_below hb _)

theorem at_base {w : World} {g o j : Nat} {p : Px} (h : At4 w g 0 (o + j) p) : At4 w g (o * 4) j p := by
  unfold At4 at h ⊢
  rw [show 0 + (o + j) * 4 = o * 4 + j * 4 by omega] at h
  exact h

theorem RowP.drew {w : World} {g : Nat} {l : List Px} (h : RowP w g l) : RowP w.drew g l := h

set_option maxRecDepth 100000 in
set_option maxHeartbeats 4000000 in
theorem blendRow_any {w : World} {g o n c : Nat} {L S : List Px} (hr : RowP w g L) {b off sc : Nat} (hsee : ∀ j p, S[j]? = some p → At4 w b off j p) (hb : b < w.heap.size) (hbg : b ≠ g) (hn : n = S.length) (hfit : o + S.length ≤ L.length) (hS : ∀ p ∈ S, Byt p) (hL : ∀ p ∈ L, Byt p) (hnc : n ≤ c) (hns : n ≤ sc) (hsm : n ≤ 65536) :
    Calls Try.prog 56 #[.slice (some ⟨g, o * 4, none⟩) n c, .slice (some ⟨b, off, none⟩) n sc] w fun e w' => e = .returned (.tuple #[]) ∧ RowP w' g (splice L o (blendL L S o)) ∧ w.grownBy w' (some g) := by
  have HC := Lib.hid hsee
  have HSb := Lib.hid hS
  have HLb := Lib.hid hL
  have hTl : (blendL L S o).length = S.length := tab_len _ _
  have HT := fun (k : Nat) (hk : k < n) => Lib.hid (tab_getD S.length (fun i => overP (S.getD i zeroPx) (L.getD (o + i) zeroPx)) (k := k) (by omega))
  have HR0 : Hid (RowP w g (splice L o ((blendL L S o).take 0))) := Lib.hid (by rw [List.take_zero, splice_zero]; exact hr)
  have HTn := Lib.hid (show (blendL L S o).length = n by omega)
  have HF := Lib.hid (show o + (blendL L S o).length ≤ L.length by omega)
  have HSn := Lib.hid hn
  change ∀ (k : Nat), k < n → Hid ((blendL L S o).getD k zeroPx = overP (S.getD k zeroPx) (L.getD (o + k) zeroPx)) at HT
  generalize blendL L S o = T at *
  clear hsee hS hL hr hTl hn hfit
  go_enter Try.func56, Try.ntmps56
  go_wp2_with fail
  go_loopw [7] (fun s7 wr => ∃ k : Nat, k ≤ n ∧ s7 = .int .i64 (k : Int) ∧ Hid (RowP wr g (splice L o (T.take k)) ∧ w.grownBy wr (some g))) (fun s7 _ => leftN n s7)
  case atStart => exact ⟨0, by omega, rfl, HR0.out, World.grownBy.refl w _⟩
  case round =>
    obtain ⟨k, hk, rfl, HR⟩ := hrel
    by_cases hlt : k < n
    · obtain ⟨s, hs⟩ : ∃ s, S[k]? = some s := ⟨_, List.getElem?_eq_getElem (by rw [← HSn.out]; exact hlt)⟩
      obtain ⟨d, hd⟩ : ∃ d, L[o + k]? = some d := ⟨_, List.getElem?_eq_getElem (by have := HF.out; rw [HTn.out] at this; omega)⟩
      have hs4 := (HC.out k s hs).grown HR.out.2 hb hbg
      have hd4 := at_base (HR.out.1.1 (o + k) d (by rw [splice_old HF.out (by rw [HTn.out]; omega) (Nat.le_refl _)]; exact hd))
      have hp := (HT k hlt).out
      rw [getD_of hs, getD_of hd] at hp
      have C1 := fun W => Lib.hid (over_any (HSb.out s (List.mem_of_getElem? hs)) (HLb.out d (List.mem_of_getElem? hd)) W)
      have hnx := splice_more HF.out (k := k) (by rw [HTn.out]; exact hlt)
      rw [hp] at hnx
      have hlen : o + k < (splice L o (T.take k)).length := by
        have := HF.out
        rw [HTn.out] at this
        rw [length_splice _ _ _ (by rw [List.length_take, HTn.out]; omega)]
        omega
      generalize overP s d = q at *
      have q0 : (k : Int) < n := by omega
      have q1 : (0 : Int) ≤ k := by omega
      have K := Lib.hid HR.out
      have hgs := K.out.1.2.2
      have HNX := Lib.hid hnx
      have HLN := Lib.hid hlen
      have HD := Lib.hid (show (splice L o (T.take k))[o + k]? = some d by rw [splice_old HF.out (by rw [HTn.out]; omega) (Nat.le_refl _)]; exact hd)
      clear HR hs hd hp hnx hlen
      obtain ⟨s0, s1, s2, s3⟩ := hs4
      obtain ⟨d0, d1, d2, d3⟩ := hd4
      go_wp2_with fail
      go_region_with (go_at_call 73; (with_reducible refine (C1 _).out.mono ?_); rintro e w4 ⟨rfl, hb4⟩; have R4 := K.out.1.drew.step hb4; obtain ⟨a0, a1, a2, a3⟩ := at_base (R4.1 (o + k) _ HD.out); have af := R4.2.1)
      all_goals
        have Z := Lib.hid (And.intro (R4.put HLN.out q) ((grown_next K.out.2 (Below.next (Below.refl wr.heap.size wr).drew hb4)).trans (grown_putP w4 g (o * 4) k q)))
        rw [← HNX.out] at Z
        clear a0 a1 a2 a3 af R4 hb4 s0 s1 s2 s3 d0 d1 d2 d3
        go_wp2_with fail
        go_roundw
        case rel => exact ⟨k + 1, by omega, by go_num, Z⟩
        case measure =>
          unfold leftN
          simp [intOf]
          omega
    · obtain rfl : k = n := by omega
      have q0 : ¬ (k : Int) < k := by omega
      go_wp2_with fail
      go_end0
      have h := HR.out
      rw [List.take_of_length_le (by rw [HTn.out]; exact Nat.le_refl _)] at h
      exact ⟨rfl, h.1, h.2⟩

end Go.Proofs.Ytahhcklkcibgoaa
