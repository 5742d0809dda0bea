/-
  New; the methods of tables that New did not make.
-/
import Derived.Test.YtnefcmikeeadhaaDoorCal
namespace Go.Proofs.YtnefcmikeeadhaaDoor
open Go.RowKit

/-- the block that New makes, behind the two maps -/
theorem tab_made {w : World} {f l g : Nat} (hT : Tab w) :
    let W := ((w.alloc (.map #[] 0)).alloc (.map #[] 0)).alloc (.cells #[.int .u32 (f : Int), .int .u32 (l : Int), .int .u32 (g : Int), .map (some w.heap.size), .map (some (w.heap.size + 1)), .slice none 0 0, .slice none 0 0, .slice none 0 0, .slice none 0 0, .slice none 0 0, .slice none 0 0, .pointer (some ⟨w.heap.size + 1 + 1, 0, none⟩)] 55)
    TabM w.heap.size W (w.heap.size + 1 + 1) w.heap.size (w.heap.size + 1) (fun _ => .slice none 0 0) (fun _ => []) f l g [] [] ∧ Below w.heap.size w W := by
  intro W
  have b1 : Below w.heap.size w (w.alloc (.map #[] 0)) := (Below.refl _ _).alloc (Nat.le_refl _) _
  have b2 : Below w.heap.size w ((w.alloc (.map #[] 0)).alloc (.map #[] 0)) := b1.alloc (by rw [World.size_alloc]; omega) _
  have b3 : Below w.heap.size w W := b2.alloc (by rw [World.size_alloc, World.size_alloc]; omega) _
  have m1 := mapU_made w
  have m2 := mapU_made (w.alloc (.map #[] 0))
  rw [World.size_alloc] at m2
  have hz : ((w.alloc (.map #[] 0)).alloc (.map #[] 0)).heap.size = w.heap.size + 1 + 1 := by rw [World.size_alloc, World.size_alloc]
  have hblk : W.heap[w.heap.size + 1 + 1]? = some (.cells #[.int .u32 (f : Int), .int .u32 (l : Int), .int .u32 (g : Int), .map (some w.heap.size), .map (some (w.heap.size + 1)), .slice none 0 0, .slice none 0 0, .slice none 0 0, .slice none 0 0, .slice none 0 0, .slice none 0 0, .pointer (some ⟨w.heap.size + 1 + 1, 0, none⟩)] 55) := by
    have := (MapKept.heap_alloc ((w.alloc (.map #[] 0)).alloc (.map #[] 0)) (.cells #[.int .u32 (f : Int), .int .u32 (l : Int), .int .u32 (g : Int), .map (some w.heap.size), .map (some (w.heap.size + 1)), .slice none 0 0, .slice none 0 0, .slice none 0 0, .slice none 0 0, .slice none 0 0, .slice none 0 0, .pointer (some ⟨w.heap.size + 1 + 1, 0, none⟩)] 55)).1
    rwa [hz] at this
  have hc : ∀ i, W.cell? ⟨w.heap.size + 1 + 1, i, none⟩ = (#[.int .u32 (f : Int), .int .u32 (l : Int), .int .u32 (g : Int), .map (some w.heap.size), .map (some (w.heap.size + 1)), .slice none 0 0, .slice none 0 0, .slice none 0 0, .slice none 0 0, .slice none 0 0, .slice none 0 0, .pointer (some ⟨w.heap.size + 1 + 1, 0, none⟩)] : Array Value)[i]? := fun i => by
    simp [World.cell?, hblk]
  refine ⟨⟨⟨fun i hi => ?_, fun i => by simp [World.frozen?, hblk], ⟨_, _, hblk⟩, by omega, fun i _ => ownW_nil _ _, fun i j _ _ _ g hg => by cases hg⟩, by rw [hc]; rfl, by rw [hc]; rfl, by rw [hc]; rfl, by rw [hc]; rfl, by rw [hc]; rfl, by rw [hc]; rfl,
    (m1.below ((Below.refl _ _).alloc (Nat.le_refl _) _)).below ((Below.refl _ _).alloc (Nat.le_refl _) _), m2.below ((Below.refl _ _).alloc (Nat.le_refl _) _), by omega, Nat.le_refl _, by omega, b3.size, hT.1, hT.below b3⟩, b3⟩
  rw [hc]
  have h : i = 0 ∨ i = 1 ∨ i = 2 ∨ i = 3 ∨ i = 4 ∨ i = 5 := by omega
  rcases h with rfl | rfl | rfl | rfl | rfl | rfl <;> rfl

theorem levs_nil {t : Tb} (h : t.lg < (fstN t.sv : Int)) : Levs (freeT t) (fun _ => []) :=
  ⟨fun i _ => lev_nil _ (fun m hm => by have := hm.1; omega) i, fun i _ => by simp⟩

set_option maxRecDepth 40000 in
set_option maxHeartbeats 1000000 in
theorem new_any (s : Bool) (w : World) (hT : Tab w) : Calls Tryd.prog 9 #[.bool s] w fun e w' => ∃ v, e = .returned v ∧ TabP w.heap.size w' v (newT s) 0 ∧ Below w.heap.size w w' := by
  have hmm := @run_makeMap Tryd.prog
  cases s
  · obtain ⟨h1, h2⟩ := tab_made (f := 1) (l := 4278190079) (g := 0) hT
    have HH := Lib.hid (And.intro h1 h2)
    clear h1 h2
    go_enter Tryd.func9, Tryd.ntmps9
    go_wp2_with fail
    go_ret
    exact ⟨_, rfl, ⟨_, _, _, _, _, 0, rfl, HH.out.1, rfl, levs_nil (by decide), good_new false⟩, HH.out.2⟩
  · obtain ⟨h1, h2⟩ := tab_made (f := 4278190080) (l := 4294967295) (g := 4278190079) hT
    have HH := Lib.hid (And.intro h1 h2)
    clear h1 h2
    go_enter Tryd.func9, Tryd.ntmps9
    go_wp2_with fail
    go_ret
    exact ⟨_, rfl, ⟨_, _, _, _, _, 4278190079, rfl, HH.out.1, rfl, levs_nil (by decide), good_new true⟩, HH.out.2⟩

/-- a table that New did not make -/
def NoTab (w : World) (p : Option Addr) : Prop := Calls Tryd.prog 27 #[.pointer p] w fun e w' => e = .returned (.bool false) ∧ w = w'

set_option maxHeartbeats 1000000 in
theorem alloc_no {w : World} {p : Option Addr} (h : NoTab w p) : Calls Tryd.prog 20 #[.pointer p] w fun e w' => e = .returned (.tuple #[.int .u32 0, .int .i64 1]) ∧ w = w' := by
  have C := Lib.hid h
  clear h
  go_enter Tryd.func20, Tryd.ntmps20
  go_wp2_with fail
  refine C.out.mono ?_
  rintro e w1 ⟨rfl, rfl⟩
  go_wp2_with fail
  exact bodyPost_ret (v := .tuple #[.int .u32 0, .int .i64 1]) (by simp [results, Tryd.results20, go_sem]) rfl ⟨rfl, rfl⟩

set_option maxHeartbeats 1000000 in
theorem take_no {w : World} {p : Option Addr} {n : Nat} (h : NoTab w p) : Calls Tryd.prog 19 #[.pointer p, .int .u32 (n : Int)] w fun e w' => e = .returned (.int .i64 1) ∧ w = w' := by
  have C := Lib.hid h
  clear h
  go_enter Tryd.func19, Tryd.ntmps19
  go_wp2_with fail
  refine C.out.mono ?_
  rintro e w1 ⟨rfl, rfl⟩
  go_wp2_with fail
  go_ret
  exact ⟨rfl, rfl⟩

set_option maxHeartbeats 1000000 in
theorem release_no {w : World} {p : Option Addr} {n : Nat} (h : NoTab w p) : Calls Tryd.prog 21 #[.pointer p, .int .u32 (n : Int)] w fun e w' => e = .returned (.int .i64 1) ∧ w = w' := by
  have C := Lib.hid h
  clear h
  go_enter Tryd.func21, Tryd.ntmps21
  go_wp2_with fail
  refine C.out.mono ?_
  rintro e w1 ⟨rfl, rfl⟩
  go_wp2_with fail
  go_ret
  exact ⟨rfl, rfl⟩

set_option maxHeartbeats 1000000 in
theorem confirm_no {w : World} {p : Option Addr} {n : Nat} (h : NoTab w p) : Calls Tryd.prog 22 #[.pointer p, .int .u32 (n : Int)] w fun e w' => e = .returned (.int .i64 1) ∧ w = w' := by
  have C := Lib.hid h
  clear h
  go_enter Tryd.func22, Tryd.ntmps22
  go_wp2_with fail
  refine C.out.mono ?_
  rintro e w1 ⟨rfl, rfl⟩
  go_wp2_with fail
  go_ret
  exact ⟨rfl, rfl⟩

set_option maxHeartbeats 1000000 in
theorem live_no {w : World} {p : Option Addr} {n : Nat} (h : NoTab w p) : Calls Tryd.prog 15 #[.pointer p, .int .u32 (n : Int)] w fun e w' => e = .returned (.bool false) ∧ w = w' := by
  have C := Lib.hid h
  clear h
  go_enter Tryd.func15, Tryd.ntmps15
  go_wp2_with fail
  refine C.out.mono ?_
  rintro e w1 ⟨rfl, rfl⟩
  go_wp2_with fail
  go_ret
  exact ⟨rfl, rfl⟩

set_option maxHeartbeats 1000000 in
theorem count_no {w : World} {p : Option Addr} (h : NoTab w p) : Calls Tryd.prog 13 #[.pointer p] w fun e w' => e = .returned (.int .i64 0) ∧ w = w' := by
  have C := Lib.hid h
  clear h
  go_enter Tryd.func13, Tryd.ntmps13
  go_wp2_with fail
  refine C.out.mono ?_
  rintro e w1 ⟨rfl, rfl⟩
  go_wp2_with fail
  go_ret
  exact ⟨rfl, rfl⟩

end Go.Proofs.YtnefcmikeeadhaaDoor
