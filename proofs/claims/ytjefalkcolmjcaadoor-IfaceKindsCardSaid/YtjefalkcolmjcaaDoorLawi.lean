/-
  ints of the laws; the law IfaceSignature.
-/
import Derived.Test.YtjefalkcolmjcaaDoorTbl
namespace Go.Proofs.YtjefalkcolmjcaaDoor
open Go.RowKit

set_option maxHeartbeats 2000000 in
theorem ints_same {w : World} {u v : Value} {l : List Nat} (h : Is w u l) (h' : Is w v l) (hlen : l.length ≤ 100000) : Calls Tryd.prog 24 #[u, v] w (Says true w) := by
  obtain ⟨A, c, rfl, hc, hm, hcell⟩ := h
  obtain ⟨A', c', rfl, hc', hm', hcell'⟩ := h'
  simp only [maxLen] at hm hm'
  have HC := Lib.hid hcell
  have HC' := Lib.hid hcell'
  obtain ⟨len, hn⟩ : ∃ len, l.length = len := ⟨_, rfl⟩
  rw [hn] at hc hc' hlen ⊢
  have HN := Lib.hid hn
  clear hcell hcell' hn
  go_enter Tryd.func24, Tryd.ntmps24
  go_wp2_with fail
  go_loopw [5] (fun s5 wr => ∃ i : Nat, i ≤ len ∧ s5 = .int .i64 (i : Int) ∧ Hid (Below w.heap.size w wr)) (fun s5 _ => leftN len s5)
  case atStart => exact ⟨0, Nat.zero_le _, rfl, Below.refl _ _⟩
  case round =>
    obtain ⟨i, hi, rfl, HB⟩ := hrel
    by_cases hlt : i < len
    · have q0 : (0 : Int) ≤ i := by omega
      have q1 : (i : Int) < len := by omega
      obtain ⟨x, hx⟩ : ∃ x, l[i]? = some x := ⟨_, List.getElem?_eq_getElem (by rw [HN.out]; exact hlt)⟩
      obtain ⟨b, off, rfl, hb, hcs⟩ := HC.out (by rw [HN.out]; omega)
      obtain ⟨b', off', rfl, hb', hcs'⟩ := HC'.out (by rw [HN.out]; omega)
      have t0 := (HB.out.cell (p := ⟨b, off + i, none⟩) hb.lt).trans (hcs i x hx)
      have t1 := (HB.out.cell (p := ⟨b', off' + i, none⟩) hb'.lt).trans (hcs' i x hx)
      clear hcs hcs' hx
      go_wp2_with fail
      go_quiet (fail)
      go_wp2_with fail
      go_roundw
      case rel => exact ⟨i + 1, by omega, by go_num, Lib.hid (below_draws HB.out _)⟩
      case measure =>
        unfold leftN
        simp [intOf]
        omega
    · obtain rfl : i = len := by omega
      go_wp2_with fail
      go_ret
      exact ⟨rfl, HB.out⟩

theorem kdsT_len (l : List UInt8) : (kdsT l).length = l.length := by
  unfold kdsT
  rw [List.length_map]

set_option maxHeartbeats 2000000 in
theorem signature_walk (s : ByteArray) {w : World} (T : Tab w) : Calls Tryd.prog 7 #[.string s] w (Says true w) := by
  have E := fun W (T : Tab W) => Lib.hid (exam_any T)
  by_cases hs : 1000 < s.size
  · have e0 : (1000 : Int) < s.size := by omega
    go_enter Tryd.func7, Tryd.ntmps7
    go_wp2_with fail
    refine (E _ (by first | exact T | exact T.below J.out.below | exact T.below J.out | exact T.below J0.out | exact T.below J1.out | exact T.below J2.out | exact T.below J4.out | exact T.below J6.out | exact T.below J7.out | exact T.below HB.out)).out.mono ?_
    rintro e w1 ⟨rfl, hb⟩
    clear E
    go_wp2_with fail
    go_ret
    exact ⟨rfl, hb⟩
  · have e0 : ¬ (1000 : Int) < s.size := by omega
    have A := fun W (T : Tab W) => Lib.hid (p_valid_any T s)
    have B := fun W => Lib.hid (valid_any s W)
    by_cases h : sigT s = true
    · have C := fun W (T : Tab W) => Lib.hid (p_kinds_any h T)
      have D := fun W => Lib.hid (kinds_any h W)
      have hl : (kdsT s.data.toList).length ≤ 100000 := by
        rw [kdsT_len, ← sizeL_eq]
        omega
      have I := fun (W : World) (u v : Value) (h1 : Is W u (kdsT s.data.toList)) (h2 : Is W v (kdsT s.data.toList)) => Lib.hid (ints_same h1 h2 hl)
      generalize kdsT s.data.toList = l at *
      rw [h] at A B
      clear h hl
      go_enter Tryd.func7, Tryd.ntmps7
      go_wp2_with fail
      refine (A _ (by first | exact T | exact T.below J.out.below | exact T.below J.out | exact T.below J0.out | exact T.below J1.out | exact T.below J2.out | exact T.below J4.out | exact T.below J6.out | exact T.below J7.out | exact T.below HB.out)).out.mono ?_
      rintro e w1 ⟨rfl, rfl⟩
      go_wp2_with fail
      refine (B _).out.mono ?_
      rintro e w1 ⟨rfl, rfl⟩
      clear A B
      go_wp2_with fail
      refine (C _ (by first | exact T | exact T.below J.out.below | exact T.below J.out | exact T.below J0.out | exact T.below J1.out | exact T.below J2.out | exact T.below J4.out | exact T.below J6.out | exact T.below J7.out | exact T.below HB.out)).out.mono ?_
      rintro e w1 ⟨u, rfl, hu, hb⟩
      have J := Lib.hid ((Held.nil w).step hb)
      have HU := Lib.hid hu.is
      clear C hb hu
      go_wp2_with fail
      refine (D _).out.mono ?_
      rintro e w2 ⟨v, rfl, hv, hb⟩
      replace J := Lib.hid (J.out.step hb)
      have HI := I _ _ _ (HU.out.below hb) hv.is
      clear D I hb hv
      go_wp2_with fail
      refine HI.out.mono ?_
      rintro e w3 ⟨rfl, hb⟩
      replace J := Lib.hid (J.out.step hb)
      clear HI hb
      go_wp2_with fail
      refine (E _ (by first | exact T | exact T.below J.out.below | exact T.below J.out | exact T.below J0.out | exact T.below J1.out | exact T.below J2.out | exact T.below J4.out | exact T.below J6.out | exact T.below J7.out | exact T.below HB.out)).out.mono ?_
      rintro e w4 ⟨rfl, hb⟩
      replace J := Lib.hid (J.out.step hb)
      clear E hb
      go_wp2_with fail
      go_ret
      exact ⟨rfl, J.out.below⟩
    · obtain h : sigT s = false := by simpa using h
      have C := fun W (T : Tab W) => Lib.hid (p_kinds_bad h T)
      have D := fun W => Lib.hid (kinds_bad h W)
      have I := fun (W : World) => Lib.hid (ints_same (w := W) (l := []) ⟨none, 0, rfl, Nat.le_refl _, by simp [maxLen], fun h => by simp at h⟩ ⟨none, 0, rfl, Nat.le_refl _, by simp [maxLen], fun h => by simp at h⟩ (by simp))
      rw [h] at A B
      simp only [List.length_nil] at I
      clear h
      go_enter Tryd.func7, Tryd.ntmps7
      go_wp2_with fail
      refine (A _ (by first | exact T | exact T.below J.out.below | exact T.below J.out | exact T.below J0.out | exact T.below J1.out | exact T.below J2.out | exact T.below J4.out | exact T.below J6.out | exact T.below J7.out | exact T.below HB.out)).out.mono ?_
      rintro e w1 ⟨rfl, rfl⟩
      go_wp2_with fail
      refine (B _).out.mono ?_
      rintro e w1 ⟨rfl, rfl⟩
      clear A B
      go_wp2_with fail
      refine (C _ (by first | exact T | exact T.below J.out.below | exact T.below J.out | exact T.below J0.out | exact T.below J1.out | exact T.below J2.out | exact T.below J4.out | exact T.below J6.out | exact T.below J7.out | exact T.below HB.out)).out.mono ?_
      rintro e w1 ⟨rfl, rfl⟩
      go_wp2_with fail
      refine (D _).out.mono ?_
      rintro e w1 ⟨rfl, rfl⟩
      clear C D
      go_wp2_with fail
      refine (I _).out.mono ?_
      rintro e w1 ⟨rfl, hb⟩
      have J := Lib.hid ((Held.nil w).step hb)
      clear I hb
      go_wp2_with fail
      refine (E _ (by first | exact T | exact T.below J.out.below | exact T.below J.out | exact T.below J0.out | exact T.below J1.out | exact T.below J2.out | exact T.below J4.out | exact T.below J6.out | exact T.below J7.out | exact T.below HB.out)).out.mono ?_
      rintro e w2 ⟨rfl, hb⟩
      replace J := Lib.hid (J.out.step hb)
      clear E hb
      go_wp2_with fail
      go_ret
      exact ⟨rfl, J.out.below⟩

end Go.Proofs.YtjefalkcolmjcaaDoor
