/-
  Format of the reference.
-/
import Derived.Test.YtnlkcdbeoeaalaaDoorPar
namespace Go.Proofs.YtnlkcdbeoeaalaaDoor
open Go.RowKit

/-- a slice of one byte as a text -/
theorem conv_one (W : World) (c : UInt8) (v : Int) (hv : v = (c.toNat : Int)) :
    (convert 55 9 (.slice (some ⟨W.heap.size, 0, none⟩) 1 1)).run Tryd.prog (W.alloc (.cells #[.int .u8 v] 5)) = .ok (.string ⟨#[c]⟩) (W.alloc (.cells #[.int .u8 v] 5)) := by
  subst hv
  have h := run_convert_bytes_back (P := Tryd.prog) (W.alloc (.cells #[.int .u8 (c.toNat : Int)] 5)) 55 9 5 ⟨W.heap.size, 0, none⟩ 1 [c] Tryd.underlying55 Tryd.underlying5 Tryd.underlying9 (fun j hj => by
    have : j = 0 := by simpa using hj
    subst this
    rw [Lib.add_plain, World.cell?_alloc_at _ _ _ _ rfl]
    rfl)
  exact h

/-- what the loop over the digits keeps -/
def DigR (n : Nat) (w : World) (s0 s3 s4 : Value) (wr : World) : Prop := ∃ j : Nat, j < 20 ∧ s4 = .int .i64 (j : Int) ∧ s0 = .int .u64 ((n / 10 ^ j : Nat) : Int) ∧ s3 = .string ⟨(digs j n).toArray⟩ ∧ (j = 0 ∨ 10 ^ j ≤ n) ∧ Hid (Below w.heap.size w wr)

def left20 (v : Value) : Nat := 20 - (intOf v).toNat
theorem left20_lt {k : Nat} (h : k < 20) {z : Int} (hz : z = (k : Int) + 1) : left20 (.int .i64 z) < left20 (.int .i64 (k : Int)) := by
  subst hz
  show 20 - ((k : Int) + 1).toNat < 20 - ((k : Int)).toNat
  omega

theorem int_u64 {x y : Int} (h : x = y) : Value.int .u64 x = Value.int .u64 y := by rw [h]

theorem digs_more (n j : Nat) : digs (j + 1) n = UInt8.ofNat (48 + n / 10 ^ j % 10) :: digs j n := digs_front j n

set_option maxRecDepth 100000 in
set_option maxHeartbeats 2000000 in
theorem rdigits_any (n : Nat) (hn : n < 18446744073709551616) (w : World) :
    Calls Tryd.prog 40 #[.int .u64 (n : Int)] w fun e w' => e = .returned (.string ⟨(Lib.decDigits n).toArray⟩) ∧ Below w.heap.size w w' := by
  have HNN := Lib.hid hn
  obtain ⟨R, hR⟩ : ∃ R : ByteArray, ⟨(Lib.decDigits n).toArray⟩ = R := ⟨_, rfl⟩
  rw [hR]
  have HR := Lib.hid hR
  clear hR hn
  go_enter Tryd.func40, Tryd.ntmps40
  go_upto_block 0 with (fail)
  go_cut [] (fun _ => False)
  case first =>
    go_wp2_with fail
    go_loopw [0, 3, 4] (fun s0 s3 s4 wr => DigR n w s0 s3 s4 wr) (fun _ _ s4 _ => left20 s4)
    case atStart => exact ⟨0, by omega, rfl, int_u64 (by rw [Nat.pow_zero, Nat.div_one]), rfl, .inl rfl, Lib.hid (Below.refl _ _)⟩
    case round =>
      obtain ⟨j, hj, rfl, rfl, rfl, hjn, H⟩ := hrel
      have hj' : (j : Int) < 20 := by omega
      have hdm := digs_more n j
      have hdl := digs_len j n
      obtain ⟨x, hx⟩ : ∃ x, n / 10 ^ j = x := ⟨_, rfl⟩
      have hxn : x ≤ n := by rw [← hx]; exact Nat.div_le_self _ _
      have hy : n / 10 ^ (j + 1) = x / 10 := by rw [← hx, Nat.div_div_eq_div_mul, Nat.pow_succ]
      rw [hx] at hdm ⊢
      have hx64 : x < 18446744073709551616 := by have := HNN.out; omega
      have e1 : (x : Int) % 10 = ((x % 10 : Nat) : Int) := by omega
      have e2 : (x : Int) / 10 = ((x / 10 : Nat) : Int) := by omega
      have hd : x % 10 < 10 := by omega
      have hyl : x / 10 ≤ x := Nat.div_le_self _ _
      obtain ⟨d, hd'⟩ : ∃ d, x % 10 = d := ⟨_, rfl⟩
      obtain ⟨y, hy'⟩ : ∃ d, x / 10 = d := ⟨_, rfl⟩
      rw [hd'] at e1 hd hdm
      rw [hy'] at e2 hy hyl
      obtain ⟨c, hc⟩ : ∃ c, UInt8.ofNat (48 + d) = c := ⟨_, rfl⟩
      have hcv := conv_one wr c (48 + (d : Int)) (by rw [← hc, ofNat_dig hd]; omega)
      rw [hc] at hdm
      have e3 : IntKind.u64.wrap (y : Int) = (y : Int) := wrap_nat (by omega)
      obtain ⟨A, hA⟩ : ∃ A : ByteArray, ⟨(digs j n).toArray⟩ = A := ⟨_, rfl⟩
      have hAs : A.size ≤ 20 := by rw [← hA, Lib.size_mk, hdl]; omega
      have hA2 : (⟨#[c]⟩ : ByteArray) ++ A = ⟨(digs (j + 1) n).toArray⟩ := by rw [← hA, hdm]; exact app_mk [c] _
      obtain ⟨A2, hA2'⟩ : ∃ A : ByteArray, ⟨(digs (j + 1) n).toArray⟩ = A := ⟨_, rfl⟩
      rw [hA2'] at hA2
      rw [hA]
      have HY := Lib.hid hy
      have HA2 := Lib.hid hA2'
      have HJ := Lib.hid hjn
      clear hd' hy' hc hx hA hA2' hdm hdl hy hjn hxn
      by_cases h0 : y = 0
      · have k0 : ((y : Int) == 0) = true := by rw [beq_iff_eq]; omega
        have hfin : A2 = R := by
          rw [← HA2.out, ← HR.out]
          have h1 : n < 10 ^ (j + 1) := by
            have := HY.out
            rw [h0] at this
            exact (Nat.div_eq_zero_iff.1 this).resolve_left (by have : 0 < 10 ^ (j + 1) := Nat.pow_pos (by decide)
                                                                omega)
          rw [dec_digs (j + 1) n (by omega) h1 (by
            rcases HJ.out with h | h
            · left; omega
            · right; exact h)]
        subst hfin
        clear h0
        go_wp2_with fail
        go_ret
        exact ⟨rfl, H.out.alloc H.out.size _⟩
      · have k0 : ((y : Int) == 0) = false := by rw [beq_eq_false_iff_ne]; omega
        have hj1 : 10 ^ (j + 1) ≤ n := by
          have := HY.out
          rcases Nat.lt_or_ge n (10 ^ (j + 1)) with h | h
          · rw [Nat.div_eq_of_lt h] at this; omega
          · exact h
        have hj2 : j + 1 < 20 := by
          rcases Nat.lt_or_ge (j + 1) 20 with h | h
          · exact h
          · have h20 : j + 1 = 20 := by omega
            rw [h20] at hj1
            have h3 : (10 : Nat) ^ 20 = 100000000000000000000 := by decide
            have := HNN.out
            omega
        have HJ1 := Lib.hid hj1
        clear h0 hj1
        go_wp2_with fail
        exact ⟨⟨j + 1, hj2, rfl, int_u64 (by rw [HY.out]), by rw [HA2.out], .inr HJ1.out, Lib.hid (H.out.alloc H.out.size _)⟩, left20_lt hj rfl⟩
  case rest => exact hcut.elim

end Go.Proofs.YtnlkcdbeoeaalaaDoor
