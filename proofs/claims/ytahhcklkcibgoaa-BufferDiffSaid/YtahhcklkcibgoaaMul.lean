/-
  bits.Mul of one and a small number; Repeat of package slices at one pixel.
-/
import Derived.Test.YtahhcklkcibgoaaGrow
import Derived.Laws.BitsAllLaws
namespace Go.Proofs.Ytahhcklkcibgoaa
open Go.RowKit

theorem and_low {n : Nat} (hn : n ≤ 65536) : bits BinOp.and IntKind.u64 (n : Int) 4294967295 = (n : Int) := by
  have h := u64_and_nat n 4294967295
  rw [show (4294967295 : Int) = ((4294967295 : Nat) : Int) from rfl, h (by omega) (by omega), show (4294967295 : Nat) = 2 ^ 32 - 1 from rfl, Nat.and_two_pow_sub_one_eq_mod, Nat.mod_eq_of_lt (by omega)]

set_option maxRecDepth 100000 in
set_option maxHeartbeats 4000000 in
theorem mul64_one {n : Nat} (hn : n ≤ 65536) (w : World) : Calls Try.prog 76 #[.int .u64 1, .int .u64 (n : Int)] w fun e w' => e = .returned (.tuple #[.int .u64 0, .int .u64 (n : Int)]) ∧ w = w' := by
  have b0 : bits BinOp.and IntKind.u64 0 4294967295 = 0 := and_low (n := 0) (by omega)
  have b1 : bits BinOp.and IntKind.u64 1 4294967295 = 1 := and_low (n := 1) (by omega)
  have b2 := and_low hn
  have d : (n : Int) / 4294967296 = 0 := by omega
  go_enter Try.func76, Try.ntmps76
  go_wp2
  go_ret2
  exact ⟨rfl, rfl⟩

set_option maxRecDepth 100000 in
set_option maxHeartbeats 4000000 in
theorem mul_one {n : Nat} (hn : n ≤ 65536) (w : World) : Calls Try.prog 65 #[.int .u64 1, .int .u64 (n : Int)] w fun e w' => e = .returned (.tuple #[.int .u64 0, .int .u64 (n : Int)]) ∧ w = w' := by
  have C := fun W => Lib.hid (mul64_one hn W)
  go_enter Try.func65, Try.ntmps65
  go_wp2_with (go_at_call 76; (with_reducible refine (C _).out.mono ?_); rintro e wq ⟨rfl, rfl⟩)
  go_ret2
  exact ⟨rfl, rfl⟩

/-- copy within rows of one's own: as many pixels as the shorter slice has -/
theorem copy_min {w : World} {g o n c : Nat} {L S : List Px} (h : RowP w g L) {b off m sc : Nat} (hc : ∀ j p, S[j]? = some p → At4 w b off j p) (hn : S.length = Nat.min m n) (hfit : o + S.length ≤ L.length) (ty : TypeId) :
    (Builtin.copy_ #[22, 22] ty #[.slice (some ⟨g, o * 4, none⟩) n c, .slice (some ⟨b, off, none⟩) m sc]).run Try.prog w = .ok (goInt S.length) (w.setCells g (o * 4) (flat S)) := by
  obtain ⟨i, hi, hz, hsz, hby⟩ := info_parts px_info
  have hS := flat_length S
  have hl := run_loadCells_list (P := Try.prog) w ⟨b, off, none⟩ (flat S) (flat_cells hc)
  have hst := run_storeCells_cells (P := Try.prog) g (o * 4) (flat S) 0 w (fun j hj => by rw [Nat.add_zero]; exact h.some (by omega)) (fun j _ => h.2.1 _) (oneCell_flat S)
  rw [hS] at hl
  simp [Builtin.copy_, run_underlying Try.underlying22, Builtin.lenOf, Builtin.firstCells, sizeOf, typeInfo, hi, hsz, ← hn, hl, hst]

theorem step_copyP {w : World} {ops : Array Oper} {ob : Oper} {a : Act} {K : Act → World → Prop} {Q : Exit → Act → World → Prop} {E : Prop} (hgd : ob.guard = none) (d s : Operand)
    (ho : ob.op = .call { callee := .builtin .copy, args := #[d, s], argTypes := #[22, 22] })
    {g o n c : Nat} {L S : List Px} (hd : a.eval d = .slice (some ⟨g, o * 4, none⟩) n c) (hr : RowP w g L) {b off m sc : Nat} (hs : a.eval s = .slice (some ⟨b, off, none⟩) m sc)
    (hc : ∀ j p, S[j]? = some p → At4 w b off j p) (hn : S.length = Nat.min m n) (hfit : o + S.length ≤ L.length)
    (h : ∀ w', RowP w' g (splice L o S) → w.grownBy w' (some g) → K (a.put ob.dst (goInt S.length)) w') : if Region.wanted ob (yielded ops a.tmps) = true then Oper.wp Try.prog ob a w K Q else E := by
  have hw : Region.wanted ob (yielded ops a.tmps) = true := by simp [Region.wanted, hgd]
  rw [if_pos hw]
  have hrun := copy_min hr hc hn hfit (c := c) (sc := sc) ob.type
  unfold Oper.wp execOp
  simp only [ho, resolve, invoke, builtin, Sem.run_bind, Sem.run_pure, Result.andThen_ok, List.map_toArray, List.map_cons, List.map_nil, hd, hs, hrun]
  exact h _ (hr.splice hfit) (grown_setCells g _ _ _ _ (World.grownBy.refl w _))

theorem rep_splice {p : Px} {k N m : Nat} (hm : k + m ≤ N) : splice (List.replicate k p ++ List.replicate (N - k) zeroPx) k (List.replicate m p) = List.replicate (k + m) p ++ List.replicate (N - (k + m)) zeroPx := by
  unfold splice
  rw [List.take_left' (List.length_replicate ..), List.length_replicate, ← List.append_assoc, List.replicate_append_replicate, List.drop_append, List.length_replicate]
  rw [List.drop_of_length_le (by rw [List.length_replicate]; omega), List.nil_append, List.drop_replicate]
  congr 2
  omega

set_option maxRecDepth 100000 in
set_option maxHeartbeats 4000000 in
theorem repeat_any {w : World} {p : Px} {N b off sc : Nat} (h0 : 1 ≤ N) (hN : N ≤ 65536) (hb : b < w.heap.size) (hp : At4 w b off 0 p) (_ : 1 ≤ sc) : Calls Try.prog 46 #[.slice (some ⟨b, off, none⟩) 1 sc, .int .i64 (N : Int)] w fun e w' => ∃ u, e = .returned u ∧ RowOf w w' u (List.replicate N p) ∧ Below w.heap.size w w' := by
  have C := fun W => Lib.hid (mul_one hN W)
  have hmk := make_px N hN
  have R0 := Lib.hid (RowP.new w N)
  have P0 := Lib.hid (hp.keep ((Below.refl w.heap.size w).alloc (Nat.le_refl _) (.cells (zerosP N) 30)) hb)
  have hc1 : ∀ (j : Nat) (q : Px), [p][j]? = some q → At4 (w.alloc (.cells (zerosP N) 30)) b off j q := fun j q hq => by
    match j with
    | 0 =>
      obtain rfl : p = q := by simpa using hq
      exact P0.out
    | j + 1 => simp at hq
  have hcopy := copy_min (o := 0) (n := N) (c := N) (S := [p]) R0.out hc1 (m := 1) (sc := sc) (by simp [Nat.min_def]; omega) (by simp; omega) 3
  have R1 : Hid (RowP ((w.alloc (.cells (zerosP N) 30)).setCells w.heap.size (0 * 4) (flat [p])) w.heap.size (List.replicate 1 p ++ List.replicate (N - 1) zeroPx)) := Lib.hid (by
    have h := R0.out.splice (o := 0) (S := [p]) (by simp; omega)
    have e := rep_splice (p := p) (k := 0) (N := N) (m := 1) (by omega)
    simp only [List.replicate_zero, List.nil_append, Nat.sub_zero, Nat.zero_add] at e
    rw [show ([p] : List Px) = List.replicate 1 p from rfl, e] at h
    exact h)
  have G1 := Lib.hid (grown_setCells w.heap.size (flat [p]) (0 * 4) w _ (World.grownBy_alloc w (.cells (zerosP N) 30) (some w.heap.size)))
  have q0 : ¬ (N : Int) < 0 := by omega
  clear R0 P0 hc1 hp
  simp only [Nat.zero_mul, List.length_singleton] at hcopy
  go_enter Try.func46, Try.ntmps46
  go_wp2_with (go_at_call 65; (with_reducible refine (C _).out.mono ?_); rintro e wq ⟨rfl, rfl⟩)
  clear hcopy hmk C
  go_loopw [8] (fun s8 wr => ∃ k : Nat, 1 ≤ k ∧ k ≤ N ∧ s8 = .int .i64 (k : Int) ∧ Hid (RowP wr w.heap.size (List.replicate k p ++ List.replicate (N - k) zeroPx) ∧ w.grownBy wr (some w.heap.size))) (fun s8 _ => leftN N s8)
  case atStart => exact ⟨1, Nat.le_refl _, h0, rfl, R1.out, G1.out⟩
  case round =>
    obtain ⟨k, hk1, hk, rfl, HR⟩ := hrel
    by_cases hlt : k < N
    · have q1 : (k : Int) < N := by omega
      have q2 : (0 : Int) ≤ k := by omega
      have q3 : (k : Int) ≤ N := by omega
      have q4 : ((k : Int)).toNat = k := Int.toNat_natCast k
      have q5 : ¬ N - k = 0 := by omega
      have q6 : ¬ N = k := by omega
      obtain ⟨m, hm⟩ : ∃ m, m = Nat.min k (N - k) := ⟨_, rfl⟩
      have hm2 : 1 ≤ m ∧ m ≤ k ∧ k + m ≤ N := by
        have := Nat.min_def (n := k) (m := N - k)
        have e : m = if k ≤ N - k then k else N - k := by rw [hm]; exact this
        by_cases h : k ≤ N - k
        · rw [if_pos h] at e
          omega
        · rw [if_neg h] at e
          omega
      obtain ⟨T, hT⟩ : ∃ T, k + m = T := ⟨_, rfl⟩
      have hcells : ∀ (j : Nat) (q : Px), (List.replicate m p)[j]? = some q → At4 wr.drew w.heap.size 0 j q := fun j q hq => by
        obtain ⟨hj, he⟩ := List.getElem?_eq_some_iff.1 hq
        rw [List.length_replicate] at hj
        rw [List.getElem_replicate] at he
        subst he
        exact HR.out.1.1 j p (by rw [List.getElem?_append_left (by rw [List.length_replicate]; omega)]; rw [List.getElem?_replicate, if_pos (by omega)])
      have HC := Lib.hid hcells
      have hlen := Lib.hid (show (List.replicate m p).length = Nat.min k (N - k) by rw [List.length_replicate]; exact hm)
      have hfit := Lib.hid (show k + (List.replicate m p).length ≤ (List.replicate k p ++ List.replicate (N - k) zeroPx).length by simp; omega)
      have hsp := Lib.hid (rep_splice (p := p) (k := k) (N := N) (m := m) hm2.2.2)
      rw [hT] at hsp
      have ht1 : 1 ≤ T := by omega
      have ht2 : T ≤ N := by omega
      have ht3 : k < T := by omega
      have E0 : Hid (IntKind.i64.wrap ((k : Int) + (m : Int)) = (T : Int)) := Lib.hid (by rw [IntWalk.i64_in _ (by omega)]; omega)
      have K := HR
      clear hcells hm hm2 hT HR
      go_wp2_with fail
      have e0 := E0.out
      go_region_held3 (fun _ => True) (trivial) (first
        | (refine step_copyP (w := wr.drew) (by rfl) (.tmp 41) (.tmp 44) (by rfl) (g := w.heap.size) (o := k) (n := N - k) (c := N - k) (b := w.heap.size) (off := 0) (m := k) (sc := N) (L := List.replicate k p ++ List.replicate (N - k) zeroPx) (S := List.replicate m p) (by rfl) (by exact K.out.1.drew) (by rfl) (by exact HC.out) (by exact hlen.out) (by exact hfit.out) ?_; intro w6 hr6 hg6))
      all_goals
        rw [hsp.out] at hr6
        have Z := Lib.hid (And.intro hr6 (World.grownBy.trans (show w.grownBy wr.drew (some w.heap.size) from ⟨K.out.2.os, K.out.2.tape, K.out.2.output, K.out.2.size, K.out.2.block⟩) hg6))
        clear hr6 hg6 e0 q4 q5 q6 K HC
        go_wp2_with fail
        go_roundw
        case rel => exact ⟨T, ht1, ht2, rfl, Z⟩
        case measure =>
          unfold leftN
          simp [intOf]
          omega
    · obtain rfl : N = k := by omega
      have q1 : ¬ (N : Int) < N := by omega
      have hz : List.replicate N p ++ List.replicate (N - N) zeroPx = List.replicate N p := by simp
      rw [hz] at HR
      go_wp2_with fail
      go_ret
      refine ⟨_, rfl, ⟨w.heap.size, N, by rw [List.length_replicate]; rfl, by rw [List.length_replicate]; exact Nat.le_refl _, by simp only [maxLen]; omega, Nat.le_refl _, HR.out.1⟩, ?_⟩
      have hgb := HR.out.2
      exact ⟨hgb.os, hgb.tape, hgb.output, hgb.size, fun k hk => hgb.block k hk (fun e => by have := Option.some.inj e; omega)⟩

end Go.Proofs.Ytahhcklkcibgoaa
