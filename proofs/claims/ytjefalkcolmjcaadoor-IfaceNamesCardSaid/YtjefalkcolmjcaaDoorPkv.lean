/-
  Version and Names of the package.
-/
import Derived.Test.YtjefalkcolmjcaaDoorPtb
import Derived.Test.YtjefalkcolmjcaaDoorZls
namespace Go.Proofs.YtjefalkcolmjcaaDoor
open Go.RowKit

set_option maxHeartbeats 2000000 in
theorem p_version_any {w : World} (T : Tab w) (n : ByteArray) : Calls Tryd.prog 13 #[.string n] w fun e w' => e = .returned (.int .i64 (verT n)) ∧ Below w.heap.size w w' := by
  obtain ⟨t, fr, hg⟩ := T.ifc
  have HG := Lib.hid hg
  have EI := Lib.hid index_tabI
  obtain ⟨tb, htb⟩ : ∃ tb, tabI = tb := ⟨_, rfl⟩
  have hsz : tb.size = 30 := by rw [← htb]; rfl
  rw [htb] at HG EI
  obtain ⟨r, hr⟩ : ∃ r, verT n = r := ⟨_, rfl⟩
  rw [hr]
  replace hr := Lib.hid hr
  have HB0 := Lib.hid (Below.refl w.heap.size w)
  clear T hg htb
  go_enter Tryd.func13, Tryd.ntmps13
  go_wp2_with fail
  go_step3
  go_wp2_with fail
  go_step3
  go_wp2_with (refine wpList_load_row rfl 46 _ rfl 0 rfl t _ fr _ HG.out Tryd.underlying46 rfl (by rw [hsz]; kernel_rfl) ?_)
  clear HG hsz
  go_loopw [3, 7] (fun s3 s7 wr => ∃ i : Nat, i ≤ 15 ∧ s3 = .int .i64 0 ∧ s7 = .int .i64 (i : Int) ∧ Hid (∀ j, j < i → nmI j ≠ n) ∧ Hid (Below w.heap.size w wr)) (fun _ s7 _ => leftN 15 s7)
  case atStart => exact ⟨0, Nat.zero_le _, rfl, rfl, Lib.hid (fun j h => by omega), HB0⟩
  case round =>
    obtain ⟨i, hi, rfl, rfl, HN, HB⟩ := hrel
    by_cases hlt : i < 15
    · have q0 : (0 : Int) ≤ i := by omega
      have q1 : (i : Int) < 15 := by omega
      have ei := EI.out i hlt
      have hv := ver_at i hlt
      obtain ⟨x, hx⟩ : ∃ x, nmI i = x := ⟨_, rfl⟩
      obtain ⟨y, hy⟩ : ∃ y, verI i = y := ⟨_, rfl⟩
      rw [hx, hy] at ei hv
      have HB2 := Lib.hid (HB.out.alloc HB.out.size (.cells #[.string x, .int .i64 y] 45))
      by_cases he : x = n
      · subst he
        have e0 : (x.toList == x.toList) = true := by simp
        rw [hr.out] at hv
        subst hv
        clear hx HN hr HB hy EI
        go_wp2_with fail
        rw [Exit.noGoto_ret]
        go_ret
        exact ⟨rfl, HB2.out⟩
      · have e0 := str_ne he
        have HN2 : Hid (∀ j, j < i + 1 → nmI j ≠ n) := Lib.hid (fun j hj => by
          by_cases e : j = i
          · subst e
            rw [hx]
            exact he
          · exact HN.out j (by omega))
        clear hx he HN hv hy EI HB
        go_wp2_with fail
        go_roundw
        case rel => exact ⟨i + 1, by omega, rfl, by go_num, HN2, HB2⟩
        case measure =>
          unfold leftN
          simp [intOf]
          omega
    · obtain rfl : i = 15 := by omega
      obtain rfl : r = 0 := hr.out.symm.trans (ver_miss n HN.out)
      go_wp2_with fail
      rw [Exit.noGoto_ret]
      go_ret
      exact ⟨rfl, HB.out⟩

theorem nms_take {i : Nat} (hi : i < 15) : namT.take (i + 1) = namT.take i ++ [nmI i] := by
  have e : i = 0 ∨ i = 1 ∨ i = 2 ∨ i = 3 ∨ i = 4 ∨ i = 5 ∨ i = 6 ∨ i = 7 ∨ i = 8 ∨ i = 9 ∨ i = 10 ∨ i = 11 ∨ i = 12 ∨ i = 13 ∨ i = 14 := by omega
  rcases e with rfl | rfl | rfl | rfl | rfl | rfl | rfl | rfl | rfl | rfl | rfl | rfl | rfl | rfl | rfl <;> rfl
theorem nms_len {i : Nat} (hi : i ≤ 15) : (namT.take i).length = i := by
  rw [List.length_take]
  have : namT.length = 15 := rfl
  omega

set_option maxHeartbeats 2000000 in
theorem p_names_any {w : World} (T : Tab w) : Calls Tryd.prog 11 #[] w fun e w' => ∃ v, e = .returned v ∧ OwnZ w' w.heap.size v namT ∧ Below w.heap.size w w' := by
  obtain ⟨t, fr, hg⟩ := T.ifc
  have HG := Lib.hid hg
  have EI := Lib.hid index_tabI
  obtain ⟨tb, htb⟩ : ∃ tb, tabI = tb := ⟨_, rfl⟩
  have hsz : tb.size = 30 := by rw [← htb]; rfl
  rw [htb] at HG EI
  clear T hg htb
  go_enter Tryd.func11, Tryd.ntmps11
  go_wp2_with (refine wpList_load_row rfl 46 _ rfl 0 rfl t _ fr _ HG.out Tryd.underlying46 rfl (by rw [hsz]; kernel_rfl) ?_)
  clear HG hsz
  go_loopw [1, 5] (fun s1 s5 wr => ∃ (i : Nat) (A1 : Option Addr) (k1 c1 : Nat), i ≤ 15 ∧ s5 = .int .i64 (i : Int) ∧ s1 = .slice A1 k1 c1 ∧ Hid (OwnZ wr w.heap.size (.slice A1 k1 c1) (namT.take i) ∧ Below w.heap.size w wr)) (fun _ s5 _ => leftN 15 s5)
  case atStart => exact ⟨0, none, 0, 0, Nat.zero_le _, rfl, rfl, Lib.hid ⟨by rw [List.take_zero]; exact ownZ_nil _ _, Below.refl _ _⟩⟩
  case round =>
    obtain ⟨i, A1, k1, c1, hi, rfl, rfl, HR⟩ := hrel
    by_cases hlt : i < 15
    · have q0 : (0 : Int) ≤ i := by omega
      have q1 : (i : Int) < 15 := by omega
      have ei := EI.out i hlt
      have hst := nms_take hlt
      have hle := nms_len (i := i) (by omega)
      obtain ⟨x, hx⟩ : ∃ x, nmI i = x := ⟨_, rfl⟩
      obtain ⟨y, hy⟩ : ∃ y, verI i = y := ⟨_, rfl⟩
      rw [hx] at ei hst
      rw [hy] at ei
      obtain ⟨L, hL⟩ : ∃ L, namT.take i = L := ⟨_, rfl⟩
      rw [hL] at HR hst hle
      have hlen := Lib.hid (show L.length + [x].length ≤ 4000000 by rw [List.length_singleton]; omega)
      obtain ⟨wb, hwb⟩ : ∃ wb, wr.alloc (.cells #[.string x, .int .i64 y] 45) = wb := ⟨_, rfl⟩
      have HB := HR.out.2.alloc HR.out.2.size (.cells #[.string x, .int .i64 y] 45)
      have HO := World.ownsRow.alloc HR.out.1 (.cells #[.string x, .int .i64 y] 45)
      rw [hwb] at HB HO
      obtain ⟨k, hk⟩ : ∃ k, wr.heap.size = k := ⟨_, rfl⟩
      have t0 : wb.cell? ⟨k, 0, none⟩ = some (.string x) := by
        rw [← hwb, ← hk, World.cell?_alloc_at _ _ _ _ rfl]
        rfl
      replace HB := Lib.hid HB
      replace HO := Lib.hid HO
      clear hx hy hL hle HR EI
      go_wp2_with (at_builtin; refine wpList_appZ rfl _ _ rfl (base := w.heap.size) (l := L) (m := [x]) rfl (World.ownsRow.alloc HO.out _) rfl (zs_one _ x) hlen.out (by rw [World.size_alloc]; have := HB.out.size; omega) ?_; intro v1 w1 ho1 hg1 hl1 _)
      obtain ⟨A6, c6, rfl, _, _⟩ := ho1.zs.shape
      have Z := Lib.hid (show OwnZ w1 w.heap.size (.slice A6 (L ++ [x]).length c6) (namT.take (i + 1)) ∧ Below w.heap.size w w1 from by
        rw [hst]
        exact ⟨ho1, below_grownZ (HB.out.alloc HB.out.size _) hg1 (World.ownsRow.alloc HO.out _)⟩)
      clear ho1 hg1 hl1 HB HO hst hwb hk t0
      go_roundw
      case rel => exact ⟨i + 1, A6, _, c6, by omega, by go_num, rfl, Z⟩
      case measure =>
        unfold leftN
        simp [intOf]
        omega
    · obtain rfl : i = 15 := by omega
      have he := HR.out
      rw [show namT.take 15 = namT from rfl] at he
      have HE := Lib.hid he
      clear he HR EI
      go_wp2_with fail
      go_ret
      exact ⟨_, rfl, HE.out⟩

/-- the names, in memory -/
def nmsL : List Value := namT.map Value.string
theorem nms_at (i : Nat) (hi : i < 15) : nmsL[i]? = some (.string (nmI i)) := by
  have e : i = 0 ∨ i = 1 ∨ i = 2 ∨ i = 3 ∨ i = 4 ∨ i = 5 ∨ i = 6 ∨ i = 7 ∨ i = 8 ∨ i = 9 ∨ i = 10 ∨ i = 11 ∨ i = 12 ∨ i = 13 ∨ i = 14 := by omega
  rcases e with rfl | rfl | rfl | rfl | rfl | rfl | rfl | rfl | rfl | rfl | rfl | rfl | rfl | rfl | rfl <;> rfl

/-- a list of the names in a row of its own -/
def NamesP (w : World) (e : Ending) (w' : World) : Prop := ∃ g cap, e = .returned (.slice (some ⟨g, 0, none⟩) 15 cap) ∧ 15 ≤ cap ∧ cap ≤ maxLen ∧ Held w w' [(g, nmsL)]

theorem p_names_own {w : World} (T : Tab w) : Calls Tryd.prog 11 #[] w (NamesP w) := by
  refine (p_names_any T).mono ?_
  rintro e w' ⟨v, rfl, ho, hb⟩
  have h := ho
  have hl : namT.length = 15 := rfl
  unfold OwnZ at h
  rw [hl] at h
  rcases h.2 with ⟨_, h0⟩ | ⟨g, cap, cur, rfl, hg, hh, hn, hm, _, _⟩
  · cases h0
  · refine ⟨g, cap, rfl, hn, hm, fun p hp i v hv => ?_, fun p hp i => ?_, fun p hp => ?_, fun p hp => ?_, by simp, hb⟩
    all_goals
      obtain rfl := List.mem_singleton.1 hp
    · have hi : i < 15 := by
        have := (List.getElem?_eq_some_iff.1 hv).1
        simpa [nmsL, hl] using this
      rw [h.cellAt i (by omega)]
      exact hv
    · exact h.frozenAt i
    · exact (Array.getElem?_eq_some_iff.1 hh).1
    · exact hg

theorem nms_cell {w W : World} {g : Nat} (h : Held w W [(g, nmsL)]) {i : Nat} (hi : i < 15) : W.cell? ⟨g, i, none⟩ = some (.string (nmI i)) := h.cells _ (List.mem_singleton.2 rfl) i _ (nms_at i hi)

end Go.Proofs.YtjefalkcolmjcaaDoor
