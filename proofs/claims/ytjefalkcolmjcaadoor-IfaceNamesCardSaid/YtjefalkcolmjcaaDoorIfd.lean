/-
  Kinds of the reference.
-/
import Derived.Test.YtjefalkcolmjcaaDoorIfo
import Derived.Test.YtjefalkcolmjcaaDoorIls
namespace Go.Proofs.YtjefalkcolmjcaaDoor
open Go.RowKit

def kdsT (l : List UInt8) : List Nat := l.map fun c => kindN c.toNat

theorem kds_step (s : ByteArray) (i : Nat) (h : i < s.size) : kdsT (s.data.toList.take (i + 1)) = kdsT (s.data.toList.take i) ++ [kindN s[i].toNat] := by
  have e : s.data.toList[i]? = some s[i] := by
    have h2 : i < s.data.toList.length := by rw [← sizeL_eq]; exact h
    rw [List.getElem?_eq_getElem h2]
    rfl
  unfold kdsT
  rw [List.take_add_one, e, List.map_append]
  rfl
theorem kds_le (s : ByteArray) (i : Nat) : (kdsT (s.data.toList.take i)).length ≤ s.size := by
  unfold kdsT
  rw [List.length_map, List.length_take, sizeL_eq]
  omega

theorem kinds_bad {s : ByteArray} (h : sigT s = false) (w : World) : Calls Tryd.prog 26 #[.string s] w fun e w' => e = .returned (.slice none 0 0) ∧ w = w' := by
  have C := fun W => Lib.hid (valid_any s W)
  rw [h] at C
  clear h
  go_enter Tryd.func26, Tryd.ntmps26
  go_wp2_with fail
  refine (C _).out.mono ?_
  rintro e w1 ⟨rfl, rfl⟩
  go_wp2_with fail
  go_ret
  exact ⟨rfl, rfl⟩

set_option maxHeartbeats 2000000 in
theorem kinds_any {s : ByteArray} (h : sigT s = true) (w : World) : Calls Tryd.prog 26 #[.string s] w fun e w' => ∃ v, e = .returned v ∧ OwnI w' w.heap.size v (kdsT s.data.toList) ∧ Below w.heap.size w w' := by
  have hs : s.size ≤ 16 := by
    unfold sigT at h
    simp at h
    exact h.1
  have C := fun W => Lib.hid (valid_any s W)
  have K := fun c W => Lib.hid (kind_any c W)
  rw [h] at C
  clear h
  go_enter Tryd.func26, Tryd.ntmps26
  go_wp2_with fail
  refine (C _).out.mono ?_
  rintro e w1 ⟨rfl, rfl⟩
  clear C
  go_wp2_with fail
  go_loopw [3, 4] (fun s3 s4 wr => ∃ (i : Nat) (A1 : Option Addr) (k1 c1 : Nat), i ≤ s.size ∧ s4 = .int .i64 (i : Int) ∧ s3 = .slice A1 k1 c1 ∧ Hid (OwnI wr w.heap.size (.slice A1 k1 c1) (kdsT (s.data.toList.take i)) ∧ Below w.heap.size w wr)) (fun _ s4 _ => leftN s.size s4)
  case atStart => exact ⟨0, none, 0, 0, Nat.zero_le _, rfl, rfl, Lib.hid ⟨by rw [List.take_zero]; exact ownI_nil _ _, Below.refl _ _⟩⟩
  case round =>
    obtain ⟨i, A1, k1, c1, hi, rfl, rfl, HR⟩ := hrel
    by_cases hlt : i < s.size
    · have q0 : (0 : Int) ≤ i := by omega
      have q1 : (i : Int) < s.size := by omega
      have hst := kds_step s i hlt
      have hle := kds_le s i
      have hbase := HR.out.2.size
      have K1 := fun W => K s[i].toNat W
      have hx7 := kindN_le s[i].toNat
      obtain ⟨x, hx⟩ : ∃ x, kindN s[i].toNat = x := ⟨_, rfl⟩
      rw [hx] at K1 hst hx7
      obtain ⟨L, hL⟩ : ∃ L, kdsT (s.data.toList.take i) = L := ⟨_, rfl⟩
      rw [hL] at HR hst hle
      have hlen := Lib.hid (show L.length + [x].length ≤ 4000000 by rw [List.length_singleton]; omega)
      clear K hx hL hle
      go_wp2_with fail
      refine (K1 _).out.mono ?_
      rintro e w2 ⟨rfl, rfl⟩
      clear K1
      go_wp2_with (at_builtin; refine wpList_appI rfl _ _ rfl (base := w.heap.size) (l := L) (m := [x]) rfl (World.ownsRow.alloc HR.out.1 _) rfl (is_one _ x) hlen.out (by rw [World.size_alloc]; omega) ?_; intro v1 w1 ho1 hg1 hl1 _)
      obtain ⟨A6, c6, rfl, _, _⟩ := ho1.is.shape
      have Z := Lib.hid (show OwnI w1 w.heap.size (.slice A6 (L ++ [x]).length c6) (kdsT (s.data.toList.take (i + 1))) ∧ Below w.heap.size w w1 from by
        rw [hst]
        exact ⟨ho1, below_grownI (HR.out.2.alloc HR.out.2.size _) hg1 (World.ownsRow.alloc HR.out.1 _)⟩)
      clear ho1 hg1 hl1 HR hst
      go_roundw
      case rel => exact ⟨i + 1, A6, _, c6, by omega, by go_num, rfl, Z⟩
      case measure =>
        unfold leftN
        simp [intOf]
        omega
    · obtain rfl : i = s.size := by omega
      have he := HR.out
      rw [List.take_of_length_le (by rw [← sizeL_eq]; omega)] at he
      have HE := Lib.hid he
      clear he HR K
      go_wp2_with fail
      go_ret
      exact ⟨_, rfl, HE.out⟩

end Go.Proofs.YtjefalkcolmjcaaDoor
