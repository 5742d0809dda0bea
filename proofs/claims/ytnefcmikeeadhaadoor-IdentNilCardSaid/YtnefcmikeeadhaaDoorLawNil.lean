/-
  The law IdentNil.
-/
import Derived.Test.YtnefcmikeeadhaaDoorExm
namespace Go.Proofs.YtnefcmikeeadhaaDoor
open Go.RowKit

def zeroTab : List Value := [.int .u32 0, .int .u32 0, .int .u32 0, .map none, .map none, .slice none 0 0, .slice none 0 0, .slice none 0 0, .slice none 0 0, .slice none 0 0, .slice none 0 0, .pointer none]

set_option maxRecDepth 40000 in
set_option maxHeartbeats 4000000 in
theorem nil_walk (n : Nat) (w : World) (hT : Tab w) : Calls Tryd.prog 7 #[.int .u32 (n : Int)] w (Says true w) := by
  have hb : Below w.heap.size w (w.alloc (.cells zeroTab.toArray 55)) := (Below.refl _ _).alloc (Nat.le_refl _) _
  have hblk : (w.alloc (.cells zeroTab.toArray 55)).heap[w.heap.size]? = some (.cells zeroTab.toArray 55) := (MapKept.heap_alloc w _).1
  have N0 : NoTab (w.alloc (.cells zeroTab.toArray 55)) none := created_nil _
  have N1 : NoTab (w.alloc (.cells zeroTab.toArray 55)) (some ⟨w.heap.size, 0, none⟩) := created_zero (by simp only [World.cell?, hblk]; rfl)
  have E := Lib.hid (example_any _ (hT.below hb))
  have hB := Lib.hid hb
  have A0 := Lib.hid (alloc_no N0)
  have A1 := Lib.hid (alloc_no N1)
  have T0 := Lib.hid (take_no (n := n) N0)
  have T1 := Lib.hid (take_no (n := n) N1)
  have R0 := Lib.hid (release_no (n := n) N0)
  have R1 := Lib.hid (release_no (n := n) N1)
  have C0 := Lib.hid (confirm_no (n := n) N0)
  have C1 := Lib.hid (confirm_no (n := n) N1)
  have L0 := Lib.hid (live_no (n := n) N0)
  have L1 := Lib.hid (live_no (n := n) N1)
  have K0 := Lib.hid (count_no N0)
  have K1 := Lib.hid (count_no N1)
  clear N0 N1 hb hblk
  unfold zeroTab at *
  go_enter Tryd.func7, Tryd.ntmps7
  go_wp2_with fail
  generalize w.alloc (.cells (List.toArray [.int .u32 0, .int .u32 0, .int .u32 0, .map none, .map none, .slice none 0 0, .slice none 0 0, .slice none 0 0, .slice none 0 0, .slice none 0 0, .slice none 0 0, .pointer none]) 55) = w1 at *
  refine A0.out.mono ?_
  rintro e w2 ⟨rfl, rfl⟩
  go_wp2_with fail
  refine A1.out.mono ?_
  rintro e w2 ⟨rfl, rfl⟩
  go_wp2_with fail
  refine T0.out.mono ?_
  rintro e w2 ⟨rfl, rfl⟩
  go_wp2_with fail
  refine T1.out.mono ?_
  rintro e w2 ⟨rfl, rfl⟩
  go_wp2_with fail
  refine R0.out.mono ?_
  rintro e w2 ⟨rfl, rfl⟩
  go_wp2_with fail
  refine R1.out.mono ?_
  rintro e w2 ⟨rfl, rfl⟩
  go_wp2_with fail
  refine C0.out.mono ?_
  rintro e w2 ⟨rfl, rfl⟩
  go_wp2_with fail
  refine C1.out.mono ?_
  rintro e w2 ⟨rfl, rfl⟩
  go_wp2_with fail
  refine L0.out.mono ?_
  rintro e w2 ⟨rfl, rfl⟩
  go_wp2_with fail
  refine L1.out.mono ?_
  rintro e w2 ⟨rfl, rfl⟩
  go_wp2_with fail
  refine K0.out.mono ?_
  rintro e w2 ⟨rfl, rfl⟩
  go_wp2_with fail
  refine K1.out.mono ?_
  rintro e w2 ⟨rfl, rfl⟩
  go_wp2_with fail
  refine E.out.mono ?_
  rintro e w2 ⟨rfl, hb⟩
  go_wp2_with fail
  go_ret
  exact ⟨rfl, Below.next hB.out hb⟩

end Go.Proofs.YtnefcmikeeadhaaDoor
