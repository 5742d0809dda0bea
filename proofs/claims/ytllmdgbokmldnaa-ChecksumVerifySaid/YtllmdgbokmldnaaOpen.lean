/-
  The arguments of the laws, opened: bytes and numbers; and how a law's text is closed.
-/
import Derived.Test.YtllmdgbokmldnaaExam
import Derived.ProofKit
import Derived.OpenShut
namespace Go.Proofs.Ytllmdgbokmldnaa
open Go.ChangeShapes Go.WideShapes Go.ChangeAt Go.RowKit Mem

theorem own : ownKnob Try.prog.godebug = none := by kernel_rfl
theorem laidOut : laidOutB Try.prog = true := by kernel_rfl
theorem cells5 : Try.prog.cellsOf 5 = 1 := by kernel_rfl
theorem byte_of {z : Int} (h : (Lit.int .u8 z).wf = true) : byte (UInt8.ofNat z.toNat) = .int .u8 z := by
  have h1 : IntKind.u8.min = 0 := rfl
  have h2 : IntKind.u8.max = 255 := rfl
  simp only [Lit.wf, Bool.and_eq_true, decide_eq_true_eq, h1, h2] at h
  unfold byte
  rw [UInt8.toNat_ofNat', Nat.mod_eq_of_lt (by omega)]
  rw [Int.toNat_of_nonneg h.1]

section
variable {H : Type} {enc : TypeId × Value → H} {W : World} {fuel : Nat}

theorem open_bytes {v : Value} {x : DataW H × List MemPlace} (h : DataW.trod enc Try.prog W 0 (fun _ => true) true fuel 23 [v] = some x) : ∃ bs, Sees W v bs := by
  rcases open_ints Try.underlying23 Try.underlying5 cells5 h with ⟨hv, _⟩ | ⟨a, len, cap, zs, hv, _, hl, hm, hz, _, hcell, hwf⟩
  · injection hv with hv
    subst hv
    exact ⟨[], sees_nil W⟩
  · injection hv with hv
    subst hv
    simp only [if_true] at hz
    have hlen : ((zs.take len).map fun z => UInt8.ofNat z.toNat).length = len := by simp; omega
    refine ⟨(zs.take len).map fun z => UInt8.ofNat z.toNat, some a, cap, by rw [hlen], by rw [hlen]; exact hl, hm, fun hn => ?_⟩
    rw [hlen] at hn ⊢
    obtain ⟨b, off, spot⟩ := a
    have h0 := hcell 0 (by omega)
    have hspot : spot = none := by simpa [Addr.add] using World.cell?_spot h0
    subst hspot
    have hadd : ∀ j, (⟨b, off, none⟩ : Addr).add j = ⟨b, off + j, none⟩ := fun j => by unfold Addr.add; split <;> simp_all
    refine ⟨b, off, rfl, ?_, fun j hj => ?_⟩
    · have := World.block_lt_of_cell? W _ h0
      rw [hadd] at this
      exact this
    · rw [← hadd, hcell j (by omega)]
      have e : ((zs.take len).map fun z => UInt8.ofNat z.toNat).getD j 0 = UInt8.ofNat (zs.getD j 0).toNat := by
        simp only [List.getD, List.getElem?_map, List.getElem?_take, if_pos hj]
        rw [List.getElem?_eq_getElem (by omega)]
        rfl
      rw [e, byte_of (hwf _ ?_)]
      rw [List.getD, List.getElem?_eq_getElem (by omega)]
      exact List.getElem_mem _

theorem range_u32 {m : Int} (w : (Lit.int .u32 m).wf = true) : ∃ k : Nat, m = (k : Int) ∧ k < 4294967296 := by
  have g1 : IntKind.u32.min = 0 := rfl
  have g2 : IntKind.u32.max = 4294967295 := rfl
  simp only [Lit.wf, Bool.and_eq_true, decide_eq_true_eq, g1, g2] at w
  exact ⟨m.toNat, by omega, by omega⟩
theorem range_u16 {m : Int} (w : (Lit.int .u16 m).wf = true) : ∃ k : Nat, m = (k : Int) ∧ k < 65536 := by
  have g1 : IntKind.u16.min = 0 := rfl
  have g2 : IntKind.u16.max = 65535 := rfl
  simp only [Lit.wf, Bool.and_eq_true, decide_eq_true_eq, g1, g2] at w
  exact ⟨m.toNat, by omega, by omega⟩
theorem range_u8 {m : Int} (w : (Lit.int .u8 m).wf = true) : ∃ k : Nat, m = (k : Int) ∧ k < 256 := by
  have g1 : IntKind.u8.min = 0 := rfl
  have g2 : IntKind.u8.max = 255 := rfl
  simp only [Lit.wf, Bool.and_eq_true, decide_eq_true_eq, g1, g2] at w
  exact ⟨m.toNat, by omega, by omega⟩
theorem range_i64 {m : Int} (w : (Lit.int .i64 m).wf = true) : m ≤ 9223372036854775807 ∧ -9223372036854775808 ≤ m := by
  have g1 : IntKind.i64.min = -9223372036854775808 := rfl
  have g2 : IntKind.i64.max = 9223372036854775807 := rfl
  simp only [Lit.wf, Bool.and_eq_true, decide_eq_true_eq, g1, g2] at w
  exact ⟨by omega, by omega⟩

end
end Go.Proofs.Ytllmdgbokmldnaa
