/-
  WirePuts: for every byte slice and every item, the Put functions return the specified bytes (asked of at most 2000 bytes before the value and 300 in it), and leave their argument and its spare capacity as they were: the law returns true and leaves its arguments as they were. No condition.
-/
import Derived.Test.YtealpmcpaakclaaRef
import Derived.Test.YtealpmcpaakclaaBox
import Derived.Deep.RegionHeld3
import Derived.Laws.CopyOwn
import Derived.Laws.MakeOwn
namespace Go.Proofs.Ytealpmcpaakclaa
open Go.ChangeShapes Go.WideShapes Go.ChangeAt Go.RowKit Mem Wire

theorem add_at (b off j : Nat) : (⟨b, off, none⟩ : Addr).add j = ⟨b, off + j, none⟩ := by unfold Addr.add; split <;> simp_all

theorem made_bytes (n : Nat) : madeCells #[.int .u8 0] n = ((List.replicate n (0 : UInt8)).map byte).toArray := by
  apply Array.ext
  · simp [size_madeCells]
  · intro i h1 h2
    simp [madeCells, byte, Nat.mod_one]

theorem make_run (l c : Nat) (hlc : l ≤ c) (hc : c ≤ 1000000) (w : World) :
    (Instr.makeSlice 22 (.int .i64 (l : Int)) (.int .i64 (c : Int))).run Try.prog w = .ok (.slice (some ⟨w.heap.size, 0, none⟩) l c) (w.alloc (.cells ((List.replicate c (0 : UInt8)).map byte).toArray 5)) := by
  obtain ⟨i, hi, hz, hsz, hby⟩ := info_parts byte_info
  have h := run_make (P := Try.prog) w 22 5 i (.int .u8 0) Try.underlying22 hi hz .i64 .i64 (l : Int) (c : Int) (by omega) (by omega) (by rw [hby]; omega) (by omega)
  rw [hsz] at h
  simp only [Int.toNat_natCast, Nat.mul_one] at h
  rw [h]
  have e : (Value.int IntKind.u8 0).cells = #[.int .u8 0] := rfl
  rw [e, made_bytes]

/-- the world with a new row of n zero bytes -/
def zeroed (w : World) (n : Nat) : World := w.alloc (.cells ((List.replicate n (0 : UInt8)).map byte).toArray 5)
theorem zeroed_heap (w : World) (n : Nat) : (zeroed w n).heap[w.heap.size]? = some (.cells ((List.replicate n (0 : UInt8)).map byte).toArray 5 (0, 0)) := heap_alloc_new w _
theorem zeroed_below (w : World) (n : Nat) : Below w.heap.size w (zeroed w n) := (Below.refl _ _).alloc (Nat.le_refl _) _

/-- copy of bytes into a row of known cells -/
theorem copy_run {w : World} {g : Nat} {L : List UInt8} {A : Option Addr} {n c k : Nat} {bs : List UInt8} (hg : w.heap[g]? = some (.cells (L.map byte).toArray 5 (0, 0))) (hs : Sees w (.slice A n c) bs) (hk : n ≤ L.length) (ty : TypeId) :
    ∃ w', (Builtin.copy_ #[22, 22] ty #[.slice (some ⟨g, 0, none⟩) n k, .slice A n c]).run Try.prog w = .ok (goInt n) w' ∧ w'.heap[g]? = some (.cells ((bs ++ L.drop n).map byte).toArray 5 (0, 0)) ∧ w.grownBy w' (some g) := by
  have h5 : (Try.prog.info? 5).map (·.size) = some 1 := by kernel_rfl
  have hn : n = bs.length := by
    obtain ⟨_, _, hv, _⟩ := hs.shape
    injection hv
  rcases hs.ways with ⟨_, _, hv, rfl, _⟩ | ⟨bb, off, n', _, hv, hl, hp, _, _, _, hcell⟩
  · injection hv with _ e2
    subst e2
    exact ⟨w, run_copy_none w 22 22 ty 5 _ _ 0 k 0 c Try.underlying22 h5 rfl, by rw [List.nil_append, List.drop_zero]; exact hg, World.grownBy.refl _ _⟩
  · injection hv with e1 e2 e3
    subst e1 e2 e3
    have hr := run_copy_row (P := Try.prog) w 22 22 ty 5 g 0 n k ⟨bb, off, none⟩ n c _ 5 (bs.map byte) Try.underlying22 h5 hg (by rw [List.length_map, hl]; exact (Nat.min_self n).symm) (fun j v hj => by
      have hjl : j < n := by
        have := (List.getElem?_eq_some_iff.1 hj).1
        simp only [List.length_map] at this
        omega
      rw [add_at, hcell j (by omega), ← hj]
      simp only [List.getElem?_map, List.getD]
      rw [List.getElem?_eq_getElem (by omega)]
      rfl) (by rw [List.length_map]; show 0 + bs.length ≤ (L.map byte).toArray.size; rw [List.size_toArray, List.length_map]; omega) (oneCell_bytes bs)
    rw [show (bs.map byte).length = n by rw [List.length_map, hl]] at hr
    refine ⟨_, hr, ?_, ⟨rfl, rfl, rfl, by simp [World.setRow], fun j _ hne => setRow_other w g j _ (fun e => hne (by rw [e]))⟩⟩
    rw [setRow_heap w g _ _ 5 _ hg]
    simp [List.map_drop]

/-- the room: the bytes, and eight zero bytes behind them -/
def Room (w : World) (g : Nat) (bs : List UInt8) : Prop := w.heap[g]? = some (.cells ((bs ++ List.replicate 8 0).map byte).toArray 5 (0, 0))

theorem room_sees {w : World} {g : Nat} {cs : List UInt8} {t : TypeId} (h : w.heap[g]? = some (.cells (cs.map byte).toArray t (0, 0))) (k n : Nat) (hk : k + n ≤ cs.length) (c : Nat) (hnc : n ≤ c) (hc : c ≤ maxLen) :
    Sees w (.slice (some ⟨g, k, none⟩) n c) ((cs.drop k).take n) := by
  have hlen : ((cs.drop k).take n).length = n := by simp; omega
  refine ⟨_, c, by rw [hlen], by omega, hc, fun hn => ⟨g, k, rfl, block_lt h, fun j hj => ?_⟩⟩
  rw [hlen] at hj
  rw [cell_of_row w g (k + j) _ t (0, 0) h]
  simp only [List.getD, List.getElem?_take, if_pos hj, List.getElem?_drop]
  rw [List.getElem?_eq_getElem (by omega)]
  simp only [List.getElem?_toArray, List.getElem?_map, Option.map_eq_some_iff, Option.getD_some]
  exact ⟨_, List.getElem?_eq_getElem (by omega), rfl⟩

theorem head_sees {W : World} {g nb : Nat} {bs : List UInt8} (h : W.heap[g]? = some (.cells ((bs ++ List.replicate 8 0).map byte).toArray 5 (0, 0))) (hn : nb = bs.length) (hb : nb ≤ 2000) : Sees W (.slice (some ⟨g, 0, none⟩) nb (nb + 8)) bs := by
  have h1 := room_sees h 0 nb (by rw [List.length_append, ← hn]; omega) (nb + 8) (by omega) (by simp only [maxLen]; omega)
  rw [List.drop_zero, hn, List.take_left] at h1
  rw [hn]
  exact h1

theorem tail_sees {W : World} {g nb : Nat} {bs : List UInt8} (h : W.heap[g]? = some (.cells ((bs ++ List.replicate 8 0).map byte).toArray 5 (0, 0))) (hn : nb = bs.length) : Sees W (.slice (some ⟨g, nb, none⟩) 8 8) (List.replicate 8 0) := by
  have h1 := room_sees h nb 8 (by rw [List.length_append, ← hn, List.length_replicate]; omega) 8 (Nat.le_refl _) (by simp [maxLen])
  rw [hn, List.drop_left] at h1
  rw [hn]
  exact h1

theorem zeros_sees (W : World) : Sees (zeroed W 8) (.slice (some ⟨W.heap.size, 0, none⟩) 8 8) (List.replicate 8 0) :=
  room_sees (zeroed_heap W 8) 0 8 (by simp) 8 (Nat.le_refl _) (by simp [maxLen])

/-- three cells of a block that is there stay as they are -/
theorem keep3 {W W' : World} {h : Nat} {x y z : Value} (hh : h < W.heap.size) (hb : Below W.heap.size W W')
    (hc : W.cell? ⟨h, 0, none⟩ = some x ∧ W.cell? ⟨h, 1, none⟩ = some y ∧ W.cell? ⟨h, 2, none⟩ = some z) :
    W'.cell? ⟨h, 0, none⟩ = some x ∧ W'.cell? ⟨h, 1, none⟩ = some y ∧ W'.cell? ⟨h, 2, none⟩ = some z :=
  ⟨(hb.cell (p := ⟨h, 0, none⟩) hh).trans hc.1, (hb.cell (p := ⟨h, 1, none⟩) hh).trans hc.2.1, (hb.cell (p := ⟨h, 2, none⟩) hh).trans hc.2.2⟩

theorem same_true {w : World} {v1 v2 : Value} {xs : List UInt8} (h1 : Sees w v1 xs) (h2 : Sees w v2 xs) : Calls Try.prog 13 #[v1, v2] w (Says true w) := by
  refine (same_any h1 h2).mono ?_
  rintro e w' ⟨rfl, q, rfl⟩
  exact ⟨by simp, below_draws (Below.refl _ _) q⟩

set_option maxHeartbeats 1000000 in
theorem puts_walk {w : World} {A : Option Addr} {nb cb : Nat} {bs : List UInt8} {t : It} (hs : Sees w (.slice A nb cb) bs) (ht : t.ok w) : Calls Try.prog 3 #[.slice A nb cb, t.val] w (Says true w) := by
  have hx1 := boxed_new ht
  obtain ⟨w1, hw1⟩ : ∃ w1, w1 = w.alloc (.cells t.cells 25) := ⟨_, rfl⟩
  rw [← hw1] at hx1
  have hb1 : Below w.heap.size w w1 := by rw [hw1]; exact (Below.refl _ _).alloc (Nat.le_refl _) _
  have hs1 : w.heap.size < w1.heap.size := by rw [hw1]; simp
  have hsz : w1.heap.size = w.heap.size + 1 := by rw [hw1]; simp
  have hnb : nb = bs.length ∧ nb ≤ cb ∧ cb ≤ 9223372036854775807 := by
    obtain ⟨_, _, hv, h1, h2⟩ := hs.shape
    injection hv with e1 e2 e3
    simp only [maxLen] at h2
    omega
  obtain ⟨hnl, hncb, hcb⟩ := hnb
  by_cases hbig : 2000 < nb
  · obtain ⟨k, n, v, b⟩ := t
    obtain ⟨Ax, cx, hv, hc, hm⟩ := hx1.ok.1.shape
    dsimp only at hv hc
    subst hv
    have HW1 : Hid (w1 = w.alloc (.cells #[.int .i64 k, .int .u32 (n : Int), .slice Ax b.length cx] 25)) := hw1
    unfold It.val
    dsimp only
    clear hx1 hw1 ht hs hnl
    generalize b.length = m at *
    go_enter Try.func3, Try.ntmps3
    go_wp2_with fail
    refine (example_any _).mono ?_
    rintro e w4 ⟨rfl, h4⟩
    go_wp2_with fail
    go_ret
    rw [← HW1.out] at h4
    exact ⟨rfl, hb1.trans (h4.mono hb1.size)⟩
  · obtain ⟨w2, hw2⟩ : ∃ w2, w2 = w1.alloc (.cells t.cells 25) := ⟨_, rfl⟩
    have hb2 : Below w1.heap.size w1 w2 := by rw [hw2]; exact (Below.refl _ _).alloc (Nat.le_refl _) _
    have hx2 := hx1.step hs1 hb2
    have hit : Items w2 (.slice (some ⟨w1.heap.size, 0, none⟩) 1 1) [t] := by rw [hw2]; exact items_one hx1.ok
    rw [hsz] at hit
    have hbw2 : Below w.heap.size w w2 := hb1.trans (hb2.mono hb1.size)
    have hs2 : Sees w2 (.slice A nb cb) bs := hs.below hbw2
    obtain ⟨k, n, v, b⟩ := t
    obtain ⟨Ax, cx, hv, hc, hm⟩ := hx1.ok.1.shape
    dsimp only at hv hc
    subst hv
    have hm2 : cx ≤ 9223372036854775807 := by simpa [maxLen] using hm
    have HW1 : Hid (w1 = w.alloc (.cells #[.int .i64 k, .int .u32 (n : Int), .slice Ax b.length cx] 25)) := hw1
    have HW2 : Hid (w2 = w1.alloc (.cells #[.int .i64 k, .int .u32 (n : Int), .slice Ax b.length cx] 25)) := hw2
    have HL := Lib.hid (light_any hit)
    have c0 := hx1.k
    have c1 := hx1.n
    have c2 := hx1.v
    have d0 := hx2.k
    have d1 := hx2.n
    have d2 := hx2.v
    dsimp only at c0 c1 c2 d0 d1 d2
    have HX2 := Lib.hid hx2
    have HS2 := Lib.hid hs2
    have HNL := Lib.hid hnl
    clear hw1 hw2 hit hx1 hx2 ht hb2 hs hs2 hsz hnl
    unfold It.val
    dsimp only
    by_cases hlight : lightB [⟨k, n, .slice Ax b.length cx, b⟩] = true
    · rw [hlight] at HL
      have hsm := (light_small hlight).2 _ (List.mem_singleton_self _)
      dsimp only at hsm
      clear hlight
      have hmk : ∀ W : World, (Instr.makeSlice 22 (.int .i64 (nb : Int)) (.int .i64 ((nb : Int) + 8))).run Try.prog W = .ok (.slice (some ⟨W.heap.size, 0, none⟩) nb (nb + 8)) (zeroed W (nb + 8)) := fun W => make_run nb (nb + 8) (by omega) (by omega) W
      go_enter Try.func3, Try.ntmps3
      go_wp2_with fail
      rw [← HW1.out, ← HW2.out]
      refine HL.out.mono ?_
      rintro e w3 ⟨rfl, rfl⟩
      have hzb := zeroed_below w2 (nb + 8)
      obtain ⟨w3, hcopy, hroom, hgr⟩ := copy_run (k := nb + 8) (zeroed_heap w2 (nb + 8)) (HS2.out.below hzb) (by simp) 3
      have hb3 : Below w2.heap.size w2 w3 := hzb.grown hgr hzb.size (fun k hk => by injection hk with hk; omega)
      have HROOM : Hid (w3.heap[w2.heap.size]? = some (.cells ((bs ++ List.replicate 8 0).map byte).toArray 5 (0, 0))) := by
        show _ = _
        rw [hroom, List.drop_replicate]
        simp
      clear hroom hgr
      have hx3 := HX2.out.step hs1 hb3
      have hbw3 := hbw2.trans (hb3.mono hbw2.size)
      have e0 := hx3.k
      have e1 := hx3.n
      have e2 := hx3.v
      dsimp only at e0 e1 e2
      have HX3 := Lib.hid hx3
      clear hx3
      have hrs3 : Sees w3 (.slice (some ⟨w2.heap.size, 0, none⟩) nb (nb + 8)) bs := head_sees HROOM.out HNL.out (by omega)
      have HPUT := Lib.hid (put_any hrs3 HX3.out.ok (by omega) (by dsimp only; omega))
      clear hrs3
      unfold It.val at HPUT
      dsimp only at HPUT
      go_wp2_with fail
      refine HPUT.out.mono ?_
      rintro e w4 ⟨v4, rfl, ho4, h4⟩
      have hse4 := ho4.sees
      obtain ⟨A4, c4, rfl, hc4, hm4⟩ := hse4.shape
      have hx4 := HX3.out.step hs1 h4
      have hb4 := hbw3.trans (h4.mono hbw3.size)
      have f0 := hx4.k
      have f1 := hx4.n
      have f2 := hx4.v
      dsimp only at f0 f1 f2
      have HX4 := Lib.hid hx4
      have HS4 := Lib.hid hse4
      clear hx4 ho4 hse4
      generalize hE : bs ++ It.enc ⟨k, n, .slice Ax b.length cx, b⟩ = E at *
      go_wp2_with fail
      have hd4 : Below w4.heap.size w4 w4.drew := (Below.refl _ _).drew
      have HWT := Lib.hid (want_any (t := ⟨k, n, .slice Ax b.length cx, b⟩) (HS2.out.below (hb3.trans (h4.mono hb3.size))).drew (HX4.out.ok.below hd4) (by rw [← HNL.out]; omega) (by dsimp only; omega))
      rw [hE] at HWT
      unfold It.val at HWT
      dsimp only at HWT
      have hmk8 : ∀ W : World, (Instr.makeSlice 22 (.int .i64 8) (.int .i64 8)).run Try.prog W = .ok (.slice (some ⟨W.heap.size, 0, none⟩) 8 8) (zeroed W 8) := fun W => make_run 8 8 (by omega) (by omega) W
      have hmk9 : ∀ W : World, (Instr.makeSlice 22 (.int .i64 ((nb : Int) + 8 - nb)) (.int .i64 ((nb : Int) + 8 - nb))).run Try.prog W = .ok (.slice (some ⟨W.heap.size, 0, none⟩) 8 8) (zeroed W 8) := fun W => by
        rw [show (nb : Int) + 8 - nb = 8 by omega]; exact hmk8 W
      have hq0 : (0 : Int) ≤ (nb : Int) := Int.natCast_nonneg _
      have hq1 : (nb : Int) ≤ (nb : Int) + 8 := by omega
      have hq2 : (0 : Int) ≤ (nb : Int) + 8 := by omega
      have hq3 : ¬ nb + 8 = nb := by omega
      have hq4 : (nb : Int) + 8 ≤ ((nb + 8 : Nat) : Int) := by omega
      have hq5 : (nb : Int) ≤ ((nb + 8 : Nat) : Int) := by omega
      have HE := Lib.hid hE
      clear hE
      have hq6 : nb ≤ nb + 8 := by omega
      have T4 : Below w2.heap.size w2 w4 := hb3.trans (h4.mono hb3.size)
      have lr3 : w2.heap.size < w3.heap.size := block_lt HROOM.out
      have R4 := Lib.hid ((h4.block _ lr3).trans HROOM.out)
      have lr4 := Nat.lt_of_lt_of_le lr3 h4.size
      have hl4 : w.heap.size < w4.heap.size := Nat.lt_of_lt_of_le hs1 HX4.out.below.size
      clear c0 c1 c2 d0 d1 d2 e0 e1 e2 hmk hcopy HL HW1 HW2 HPUT HX2 hs1 hb1 hbw2 hbw3 hzb hb3 h4 hm hm2 hc hm4
      generalize b.length = m at *
      have hn2000 : nb ≤ 2000 := by omega
      have ht8 : ((nb : Int) + 8).toNat = nb + 8 := by omega
      have hw8 : IntKind.i64.wrap ((nb : Int) + 8 - (nb : Int)) = 8 := by rw [show (nb : Int) + 8 - (nb : Int) = 8 by omega]; decide
      go_region_held3 (fun W => W.cell? ⟨w.heap.size, 0, none⟩ = some (.int .i64 k) ∧ W.cell? ⟨w.heap.size, 1, none⟩ = some (.int .u32 (n : Int)) ∧ W.cell? ⟨w.heap.size, 2, none⟩ = some (.slice Ax m cx))
        (first
          | go_keep
          | exact s5
          | exact s6
          | exact z6
          | exact s7
          | exact s8
          | exact s9)
        (first
          | (go_at_call 14; refine HWT.out.mono ?_; rintro e w5 ⟨v5, rfl, ho5, h5⟩; have hse5 := ho5.sees; obtain ⟨A5, c5, rfl, _, _⟩ := hse5.shape; have H5 := Lib.hid hse5; have hl5 := Nat.lt_of_lt_of_le hl4 h5.size; have s5 := keep3 (W := w4.drew) hl4 h5 ⟨f0, f1, f2⟩; have R5 := Lib.hid ((h5.block _ lr4).trans R4.out); have lr5 := Nat.lt_of_lt_of_le lr4 h5.size; have T5 : Below w2.heap.size w2 w5 := T4.drew.trans (h5.mono T4.drew.size); have b5 : Below w.heap.size w w5 := hb4.drew.trans (h5.mono hb4.drew.size); clear ho5 hse5)
          | (go_at_call_of 13 (Value.slice A4 E.length c4); refine (same_true (HS4.out.drew.below h5) H5.out).mono ?_; rintro e w6 ⟨rfl, h6⟩; have hl6 := Nat.lt_of_lt_of_le hl5 h6.size; have s6 := keep3 hl5 h6 s5; have R6 := Lib.hid ((h6.block _ lr5).trans R5.out); have lr6 := Nat.lt_of_lt_of_le lr5 h6.size; have T6 : Below w2.heap.size w2 (zeroed w6 8) := (T5.trans (h6.mono T5.size)).trans ((zeroed_below w6 8).mono (Nat.le_trans T5.size h6.size)); have b6 : Below w.heap.size w (zeroed w6 8) := (b5.trans (h6.mono b5.size)).trans ((zeroed_below w6 8).mono (Nat.le_trans b5.size h6.size)); have z6 := keep3 hl6 (zeroed_below w6 8) s6; have RZ := Lib.hid (((zeroed_below w6 8).block _ lr6).trans R6.out); have lrz := Nat.lt_of_lt_of_le lr6 (zeroed_below w6 8).size; have hlz := Nat.lt_of_lt_of_le hl6 (zeroed_below w6 8).size; have KZ := Lib.hid (zeros_sees w6))
          | (go_at_call_of 13 (Value.slice (some (⟨w2.heap.size, nb, none⟩ : Addr)) 8 8); refine (same_true (tail_sees RZ.out HNL.out) KZ.out).mono ?_; rintro e w7 ⟨rfl, h7⟩; have s7 := keep3 hlz h7 z6; have hl7 := Nat.lt_of_lt_of_le hlz h7.size; have R7 := Lib.hid ((h7.block _ lrz).trans RZ.out); have T7 : Below w2.heap.size w2 w7 := T6.trans (h7.mono T6.size); have b7 : Below w.heap.size w w7 := b6.trans (h7.mono b6.size))
          | (go_at_call 13; refine (same_true (head_sees R7.out HNL.out hn2000) (HS2.out.below T7)).mono ?_; rintro e w8 ⟨rfl, h8⟩; have s8 := keep3 hl7 h8 s7; have hl8 := Nat.lt_of_lt_of_le hl7 h8.size; have b8 : Below w.heap.size w w8 := b7.trans (h8.mono b7.size))
          | (go_at_call 11; refine (example_any _).mono ?_; rintro e w9 ⟨rfl, h9⟩; have s9 := keep3 hl8 h9 s8; have b9 : Below w.heap.size w w9 := b8.trans (h9.mono b8.size)))
      all_goals
        clear ht8 hw8
        go_wp2_with fail
        go_ret
        exact ⟨rfl, b9⟩
    · have hlf : lightB [⟨k, n, .slice Ax b.length cx, b⟩] = false := by simpa using hlight
      rw [hlf] at HL
      clear hlight hlf
      generalize b.length = m at *
      go_enter Try.func3, Try.ntmps3
      go_wp2_with fail
      rw [← HW1.out, ← HW2.out]
      refine HL.out.mono ?_
      rintro e w3 ⟨rfl, rfl⟩
      go_wp2_with fail
      refine (example_any _).mono ?_
      rintro e w3 ⟨rfl, h3⟩
      go_wp2_with fail
      go_ret
      exact ⟨rfl, hbw2.trans (h3.mono hbw2.size)⟩

set_option maxRecDepth 100000 in
theorem puts_lifted (os : Os) (started : os.Started) (H : Type) (enc : TypeId × Value → H) :
    ReturnsInHanded {} Try.checked os 3 .any (Rows.wirePutsSpec.pre6 enc Try.prog Try.f3 Rows.wirePutsRow.domain false) (Rows.wirePutsSpec.post enc Try.prog Try.f3 false true false false) := by
  refine returnsInHanded_of_change (C := Try.checked) own started (by kernel_rfl) Try.func3
    (ChangeSpec.witness6 (enc := enc) (C := Try.checked) false ⟨#[], #[.slice none 0 0, .agg #[.int .i64 0, .int .u32 0, .slice none 0 0]], []⟩ 8 (by kernel_rfl) (by kernel_rfl) (by kernel_rfl) (by kernel_rfl)) ?_
  intro W base args ds gs before hval0 hW _ _
  have hval : ∀ (j : Nat) t v, Try.f3.params[j]? = some t → args[j]? = some v → Value.okWide Try.prog W .any base t v := hval0
  have hW' := hW
  obtain ⟨p, q, hA0, hV, rfl, _, _⟩ := hW
  have hA : DataW.TrodAll enc Try.prog W 0 (fun _ => true) true Try.f3.params.toList args.toList ds p := hA0
  rw [Try.params3] at hA hval
  obtain ⟨v0, v1, d0, d1, p0, p1, rfl, rfl, rfl, h0, h1⟩ := trodAll_two hA
  obtain ⟨rfl, rfl⟩ := trodVars_none hV
  clear hA0 hval0
  simp only [List.append_nil] at hW'
  have hlt0 : ∀ x ∈ p0, x.block < W.heap.size := fun x hx => hW'.lt x (by simp [hx])
  have hlt1 : ∀ x ∈ p1, x.block < W.heap.size := fun x hx => hW'.lt x (by simp [hx])
  obtain ⟨t, rfl, hok⟩ := open_item (hval 1 25 v1 rfl rfl) h1
  obtain ⟨A, n, c, rfl⟩ := okWide_slice Try.underlying22 (hval 0 22 v0 rfl rfl)
  have k0 := h0
  obtain ⟨fuel, hf⟩ := h0
  obtain ⟨bs, hs⟩ := open_bytes (by simpa [Value.cells] using hf)
  refine (puts_walk hs hok).mono fun e W' ⟨he, hg⟩ => ?_
  subst he
  exact ⟨_, rfl, _, _, _, [], _, [], hW', trodAll_cons_mk (shut_bool Try.underlying4 _) trodAll_mk0,
    trodAll_mk2 (Below.trod laidOut (by kernel_rfl) (of_decide_eq_true (by kernel_rfl)) k0 hg hlt0) (Below.trod laidOut (by kernel_rfl) (of_decide_eq_true (by kernel_rfl)) h1 hg hlt1), rfl, hg.frame _, fun h => by cases h⟩

theorem puts_holds : Rows.WirePutsSaid :=
  OpenClaim.holds_of_wide 3 Try.f3 rfl rfl rfl rfl rfl rfl rfl ⟨rfl, rfl, rfl, rfl, rfl⟩ rfl rfl rfl rfl rfl (by kernel_rfl) Try.func3 (by kernel_rfl)
    (of_decide_eq_true (by kernel_rfl)) (by unfold Func.isWrapper; first | (rw [if_pos (by decide +kernel)]; kernel_rfl) | (rw [if_neg (by decide +kernel)]; exact ⟨rfl, rfl⟩))
    (fun os started H enc _ => puts_lifted os started H enc)

end Go.Proofs.Ytealpmcpaakclaa
