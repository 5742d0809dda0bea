/-
  The header of a frame: the closure that reads a number, header, checkSize; the reference's number.
-/
import Derived.Test.YtfmknjfhalkfhaaFrs
import Derived.BigQuiet
import Derived.Deep.QuietTactic
namespace Go.Proofs.Ytfmknjfhalkfhaa
open Go.RowKit Mem Wire

theorem below_draws {B : Nat} {a w : World} (h : Below B a w) (n : Nat) : Below B a (w.drewN n) := ⟨h.os, h.tape, h.output, h.size, h.block⟩

theorem ret_num {k : IntKind} {a b : Int} (h : a = b) : Ending.returned (.int k a) = .returned (.int k b) := by rw [h]

theorem at4_drop (bs : List UInt8) (k : Nat) : at4 (bs.drop k) = num4 (bs.getD k 0).toNat (bs.getD (k + 1) 0).toNat (bs.getD (k + 2) 0).toNat (bs.getD (k + 3) 0).toNat := by
  unfold at4
  simp only [List.getD, List.getElem?_drop, Nat.add_zero]

/-- the four cells of a number at a place of a slice -/
theorem four_cells {w : World} {A : Option Addr} {n c : Nat} {bs : List UInt8} (hs : Sees w (.slice A n c) bs) (k : Nat) (hk : k + 4 ≤ n) :
    ∃ b off x0 x1 x2 x3, A = some ⟨b, off, none⟩ ∧ n ≤ c ∧ c ≤ 9223372036854775807 ∧ b < w.heap.size ∧ x0 < 256 ∧ x1 < 256 ∧ x2 < 256 ∧ x3 < 256 ∧ at4 (bs.drop k) = num4 x0 x1 x2 x3 ∧
      w.cell? ⟨b, off + k, none⟩ = some (.int .u8 (x0 : Int)) ∧ w.cell? ⟨b, off + (k + 1), none⟩ = some (.int .u8 (x1 : Int)) ∧ w.cell? ⟨b, off + (k + 2), none⟩ = some (.int .u8 (x2 : Int)) ∧ w.cell? ⟨b, off + (k + 3), none⟩ = some (.int .u8 (x3 : Int)) := by
  have hbyte : ∀ x : UInt8, x.toNat < 256 := fun x => x.toNat_lt
  have hcap : n ≤ c ∧ c ≤ 9223372036854775807 := by
    obtain ⟨_, _, hv0, h1, h2⟩ := hs.shape
    injection hv0 with _ e2 e3
    simp only [maxLen] at h2
    omega
  rcases hs.ways with ⟨_, _, hv, _⟩ | ⟨b, off, n', c', hv, _, _, _, _, hb, hcell⟩
  · injection hv with _ e2; omega
  · injection hv with e1 e2 e3
    subst e1 e2 e3
    exact ⟨b, off, _, _, _, _, rfl, hcap.1, hcap.2, hb, hbyte _, hbyte _, hbyte _, hbyte _, at4_drop bs k, hcell k (by omega), hcell (k + 1) (by omega), hcell (k + 2) (by omega), hcell (k + 3) (by omega)⟩

theorem closure_any {w : World} {h : Nat} {A : Option Addr} {n c : Nat} {bs : List UInt8} (hh : w.cell? ⟨h, 0, none⟩ = some (.slice A n c)) (hs : Sees w (.slice A n c) bs) (k : Nat) (hk : k + 4 ≤ n) (hk8 : k ≤ 8) :
    Calls Try.prog 32 #[.int .i64 k, .pointer (some ⟨h, 0, none⟩)] w fun e w' => e = .returned (.int .u32 (at4 (bs.drop k) : Int)) ∧ ∃ q, w' = w.drewN q := by
  obtain ⟨b, off, x0, x1, x2, x3, rfl, h1, h2, hb, b0, b1, b2, b3, hv, c0, c1, c2, c3⟩ := four_cells hs k hk
  rw [hv]
  have hor := num4_or x0 x1 x2 x3 b0 b1 b2 b3
  clear hs hv
  go_enter Try.func32, Try.ntmps32
  go_wp2_with fail
  go_quiet (fail)
  go_wp2_with fail
  go_ret
  exact ⟨rfl, _, rfl⟩

theorem checkSize_any (n : Nat) (w : World) (hn : n ≤ 1000000) : Calls Try.prog 28 #[.int .i64 n] w fun e w' => e = .returned (.int .i64 (sizeErr n)) ∧ w = w' := by
  by_cases h8 : n < 8
  · have he : sizeErr n = 3 := by unfold sizeErr; rw [if_pos (.inl h8)]
    rw [he]
    clear he
    go_enter Try.func28, Try.ntmps28
    go_wp2_with fail
    go_ret
    exact ⟨rfl, rfl⟩
  · by_cases h4 : n % 4 = 0
    · have hi4 : (n : Int) % 4 = 0 := by omega
      by_cases hb : 4096 < n
      · have he : sizeErr n = 5 := by unfold sizeErr; rw [if_neg (by omega), if_pos hb]
        rw [he]
        clear he h4
        go_enter Try.func28, Try.ntmps28
        go_wp2_with fail
        go_ret
        exact ⟨rfl, rfl⟩
      · have he : sizeErr n = 0 := by unfold sizeErr; rw [if_neg (by omega), if_neg hb]
        rw [he]
        clear he h4
        go_enter Try.func28, Try.ntmps28
        go_wp2_with fail
        go_ret
        exact ⟨rfl, rfl⟩
    · have he : sizeErr n = 3 := by unfold sizeErr; rw [if_pos (.inr h4)]
      have hi4 : ((n : Int) % 4 == 0) = false := by rw [beq_eq_false_iff_ne]; omega
      have hi5 : ((n : Int) % 4 != 0) = true := by rw [bne, hi4]; rfl
      rw [he]
      clear he h4
      go_enter Try.func28, Try.ntmps28
      go_wp2_with fail
      go_ret
      exact ⟨rfl, rfl⟩

/-- what header returns -/
def headV (bs : List UInt8) : Value := .tuple #[.int .u32 (at4 bs : Int), .int .i64 ((at4 (bs.drop 4) % 65536 : Nat) : Int), .int .i64 (sizeAt bs : Int)]

theorem header_any {w : World} {A : Option Addr} {n c : Nat} {bs : List UInt8} (hs : Sees w (.slice A n c) bs) (hn : 8 ≤ n) :
    Calls Try.prog 27 #[.slice A n c] w fun e w' => e = .returned (headV bs) ∧ Below w.heap.size w w' := by
  have hmf : ∀ (fn : Fn) (first cap : Array Value) (w : World), (Instr.makeFunc fn first cap).run Try.prog w = .ok (.func fn first cap) w := fun _ _ _ _ => rfl
  obtain ⟨w1, hw1⟩ : ∃ w1, w1 = w.alloc (.cells #[.slice A n c] 23) := ⟨_, rfl⟩
  have hb1 : Below w.heap.size w w1 := by rw [hw1]; exact (Below.refl _ _).alloc (Nat.le_refl _) _
  have hc1 : w1.cell? ⟨w.heap.size, 0, none⟩ = some (.slice A n c) := by rw [hw1, World.cell?_alloc_at _ _ _ _ rfl]; rfl
  have hs1 := hs.below hb1
  have K0 : Hid (∀ q, Calls Try.prog 32 #[.int .i64 (0 : Nat), .pointer (some ⟨w.heap.size, 0, none⟩)] (w1.drewN q) fun e w' => e = .returned (.int .u32 (at4 (bs.drop 0) : Int)) ∧ ∃ q', w' = (w1.drewN q).drewN q') := fun q => closure_any (w := w1.drewN q) hc1 hs1 0 (by omega) (by omega)
  have K4 := Lib.hid (closure_any hc1 hs1 4 (by omega) (by omega))
  have l0 := at4_lt bs
  have l4 := at4_lt (bs.drop 4)
  rw [List.drop_zero] at K0
  unfold headV sizeAt
  have HW := Lib.hid hw1
  clear hw1 hs hs1 hc1
  generalize at4 bs = x at *
  generalize at4 (bs.drop 4) = y at *
  go_enter Try.func27, Try.ntmps27
  go_wp2_with fail
  rw [← HW.out]
  refine K4.out.mono ?_
  rintro e w2 ⟨rfl, q, rfl⟩
  go_wp2_with fail
  refine (K0.out _).mono ?_
  rintro e w2 ⟨rfl, q2, rfl⟩
  go_wp2_with fail
  go_ret3
  exact ⟨rfl, below_draws hb1 _⟩

theorem ref_number {w : World} {A : Option Addr} {n c : Nat} {bs : List UInt8} (hs : Sees w (.slice A n c) bs) (k : Nat) (hk : k + 4 ≤ n) :
    Calls Try.prog 25 #[.slice A n c, .int .i64 k] w fun e w' => e = .returned (.int .i64 (at4 (bs.drop k) : Int)) ∧ ∃ q, w' = w.drewN q := by
  obtain ⟨b, off, x0, x1, x2, x3, rfl, h1, h2, hb, b0, b1, b2, b3, hv, c0, c1, c2, c3⟩ := four_cells hs k hk
  rw [hv]
  clear hs hv
  go_enter Try.func25, Try.ntmps25
  go_wp2_with fail
  go_quiet (fail)
  go_wp2_with fail
  go_ret
  exact ⟨ret_num (by unfold num4; omega), _, rfl⟩

end Go.Proofs.Ytfmknjfhalkfhaa
