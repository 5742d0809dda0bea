/-
  What the laid variable holds (the interfaces), and Version of package iface.
-/
import Derived.Test.YtcecicmihdcjgaaDoorIfv
import Derived.Test.YtcecicmihdcjgaaDoorRex
import Derived.Laws.Rows
namespace Go.Proofs.YtcecicmihdcjgaaDoor
open Go.RowKit

/-- the version of the i-th interface -/
def verI (i : Nat) : Int := if i = 3 then 2 else if i = 5 then 3 else 1
def tabI : Array Value := ((List.range 15).flatMap fun i => [Value.string (nmI i), Value.int .i64 (verI i)]).toArray
/-- the variable lies as the text lays it -/
structure Tab (W : World) : Prop where
  ifc : ∃ t fr, W.heap[0]? = some (.cells tabI t fr)
theorem Tab.size {W : World} (h : Tab W) : 0 < W.heap.size := by
  obtain ⟨t, fr, h⟩ := h.ifc
  rcases Nat.lt_or_ge 0 W.heap.size with hl | hl
  · exact hl
  · rw [Array.getElem?_eq_none hl] at h
    cases h
theorem Tab.below {W w1 : World} (h : Tab W) (hb : Below W.heap.size W w1) : Tab w1 := by
  have hs := h.size
  obtain ⟨t, fr, h0⟩ := h.ifc
  exact ⟨⟨t, fr, (hb.block 0 hs).trans h0⟩⟩
theorem ver_at (i : Nat) (hi : i < 15) : verT (nmI i) = verI i := by
  have e : i = 0 ∨ i = 1 ∨ i = 2 ∨ i = 3 ∨ i = 4 ∨ i = 5 ∨ i = 6 ∨ i = 7 ∨ i = 8 ∨ i = 9 ∨ i = 10 ∨ i = 11 ∨ i = 12 ∨ i = 13 ∨ i = 14 := by omega
  rcases e with rfl | rfl | rfl | rfl | rfl | rfl | rfl | rfl | rfl | rfl | rfl | rfl | rfl | rfl | rfl <;> rfl
theorem index_tabI (i : Nat) (hi : i < 15) (W : World) : (Instr.index 74 (.agg tabI) (.int .i64 (i : Int))).run Tryd.prog W = .ok (.agg #[.string (nmI i), .int .i64 (verI i)]) W := by
  have e : i = 0 ∨ i = 1 ∨ i = 2 ∨ i = 3 ∨ i = 4 ∨ i = 5 ∨ i = 6 ∨ i = 7 ∨ i = 8 ∨ i = 9 ∨ i = 10 ∨ i = 11 ∨ i = 12 ∨ i = 13 ∨ i = 14 := by omega
  have hz : tabI = #[.string (nmI 0), .int .i64 (verI 0), .string (nmI 1), .int .i64 (verI 1), .string (nmI 2), .int .i64 (verI 2), .string (nmI 3), .int .i64 (verI 3), .string (nmI 4), .int .i64 (verI 4), .string (nmI 5), .int .i64 (verI 5), .string (nmI 6), .int .i64 (verI 6), .string (nmI 7), .int .i64 (verI 7), .string (nmI 8), .int .i64 (verI 8), .string (nmI 9), .int .i64 (verI 9), .string (nmI 10), .int .i64 (verI 10), .string (nmI 11), .int .i64 (verI 11), .string (nmI 12), .int .i64 (verI 12), .string (nmI 13), .int .i64 (verI 13), .string (nmI 14), .int .i64 (verI 14)] := rfl
  rw [hz]
  rcases e with rfl | rfl | rfl | rfl | rfl | rfl | rfl | rfl | rfl | rfl | rfl | rfl | rfl | rfl | rfl
  all_goals simp [Instr.index, go_sem]

set_option maxHeartbeats 2000000 in
theorem p_version_any {w : World} (T : Tab w) (n : ByteArray) : Calls Tryd.prog 28 #[.string n] w fun e w' => e = .returned (.int .i64 (verT n)) ∧ Below w.heap.size w w' := by
  obtain ⟨t, fr, hg⟩ := T.ifc
  have HG := Lib.hid hg
  have EI := Lib.hid index_tabI
  obtain ⟨tb, htb⟩ : ∃ tb, tabI = tb := ⟨_, rfl⟩
  have hsz : tb.size = 30 := by rw [← htb]; rfl
  rw [htb] at HG EI
  obtain ⟨r, hr⟩ : ∃ r, verT n = r := ⟨_, rfl⟩
  rw [hr]
  replace hr := Lib.hid hr
  have HB0 := Lib.hid (Below.refl w.heap.size w)
  clear T hg htb
  go_enter Tryd.func28, Tryd.ntmps28
  go_wp2_with fail
  go_step3
  go_wp2_with fail
  go_step3
  go_wp2_with (refine wpList_load_row rfl 74 _ rfl 0 rfl t _ fr _ HG.out Tryd.underlying74 rfl (by rw [hsz]; kernel_rfl) ?_)
  clear HG hsz
  go_loopw [3, 7] (fun s3 s7 wr => ∃ i : Nat, i ≤ 15 ∧ s3 = .int .i64 0 ∧ s7 = .int .i64 (i : Int) ∧ Hid (∀ j, j < i → nmI j ≠ n) ∧ Hid (Below w.heap.size w wr)) (fun _ s7 _ => leftN 15 s7)
  case atStart => exact ⟨0, Nat.zero_le _, rfl, rfl, Lib.hid (fun j h => by omega), HB0⟩
  case round =>
    obtain ⟨i, hi, rfl, rfl, HN, HB⟩ := hrel
    by_cases hlt : i < 15
    · have q0 : (0 : Int) ≤ i := by omega
      have q1 : (i : Int) < 15 := by omega
      have ei := EI.out i hlt
      have hv := ver_at i hlt
      obtain ⟨x, hx⟩ : ∃ x, nmI i = x := ⟨_, rfl⟩
      obtain ⟨y, hy⟩ : ∃ y, verI i = y := ⟨_, rfl⟩
      rw [hx, hy] at ei hv
      have HB2 := Lib.hid (HB.out.alloc HB.out.size (.cells #[.string x, .int .i64 y] 73))
      by_cases he : x = n
      · subst he
        have e0 : (x.toList == x.toList) = true := by simp
        rw [hr.out] at hv
        subst hv
        clear hx HN hr HB hy EI
        go_wp2_with fail
        rw [Exit.noGoto_ret]
        go_ret
        exact ⟨rfl, HB2.out⟩
      · have e0 := str_ne he
        have HN2 : Hid (∀ j, j < i + 1 → nmI j ≠ n) := Lib.hid (fun j hj => by
          by_cases e : j = i
          · subst e
            rw [hx]
            exact he
          · exact HN.out j (by omega))
        clear hx he HN hv hy EI HB
        go_wp2_with fail
        go_roundw
        case rel => exact ⟨i + 1, by omega, rfl, by go_num, HN2, HB2⟩
        case measure =>
          unfold leftN
          simp [intOf]
          omega
    · obtain rfl : i = 15 := by omega
      obtain rfl : r = 0 := hr.out.symm.trans (ver_miss n HN.out)
      go_wp2_with fail
      rw [Exit.noGoto_ret]
      go_ret
      exact ⟨rfl, HB.out⟩

end Go.Proofs.YtcecicmihdcjgaaDoor
