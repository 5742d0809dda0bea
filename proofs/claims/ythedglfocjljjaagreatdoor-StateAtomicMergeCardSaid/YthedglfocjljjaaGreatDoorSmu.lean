/-
  What merging nothing and merging twice is; a merged state by its fields.
-/
import Derived.Test.YthedglfocjljjaaGreatDoorSmt
namespace Go.Proofs.YthedglfocjljjaaGreatDoor
open Go.RowKit

set_option maxHeartbeats 4000000 in
theorem mrgS_eq (c p : St) : mrgS c p = ⟨0, if bitB p.set 1 = true then p.bf else c.bf, if bitB p.set 2 = true then p.sc else c.sc, if bitB p.set 4 = true then p.tr else c.tr, if bitB p.set 8 = true then p.dm else [], if bitB p.set 16 = true then p.op else c.op,
    if bitB p.set 32 = true then p.is else c.is, if bitB p.set 32 = true then p.ip else c.ip, if bitB p.set 64 = true then p.dx else c.dx, if bitB p.set 64 = true then p.dy else c.dy, if bitB p.set 128 = true then c.cb ++ p.cb else c.cb⟩ := by
  have e : mrgS c p = (if bitB p.set 128 = true then stpS 7 c p (if bitB p.set 64 = true then stpS 6 c p (if bitB p.set 32 = true then stpS 5 c p (if bitB p.set 16 = true then stpS 4 c p (if bitB p.set 8 = true then stpS 3 c p (if bitB p.set 4 = true then stpS 2 c p (if bitB p.set 2 = true then stpS 1 c p (if bitB p.set 1 = true then stpS 0 c p { c with set := 0, dm := [] } else { c with set := 0, dm := [] }) else (if bitB p.set 1 = true then stpS 0 c p { c with set := 0, dm := [] } else { c with set := 0, dm := [] })) else mrgK c p 2) else mrgK c p 3) else mrgK c p 4) else mrgK c p 5) else mrgK c p 6) else mrgK c p 7) := rfl
  have e2 : mrgK c p 2 = (if bitB p.set 2 = true then stpS 1 c p (if bitB p.set 1 = true then stpS 0 c p { c with set := 0, dm := [] } else { c with set := 0, dm := [] }) else (if bitB p.set 1 = true then stpS 0 c p { c with set := 0, dm := [] } else { c with set := 0, dm := [] })) := rfl
  have e3 : mrgK c p 3 = (if bitB p.set 4 = true then stpS 2 c p (mrgK c p 2) else mrgK c p 2) := rfl
  have e4 : mrgK c p 4 = (if bitB p.set 8 = true then stpS 3 c p (mrgK c p 3) else mrgK c p 3) := rfl
  have e5 : mrgK c p 5 = (if bitB p.set 16 = true then stpS 4 c p (mrgK c p 4) else mrgK c p 4) := rfl
  have e6 : mrgK c p 6 = (if bitB p.set 32 = true then stpS 5 c p (mrgK c p 5) else mrgK c p 5) := rfl
  have e7 : mrgK c p 7 = (if bitB p.set 64 = true then stpS 6 c p (mrgK c p 6) else mrgK c p 6) := rfl
  rw [e, e7, e6, e5, e4, e3, e2]
  generalize bitB p.set 1 = b1
  generalize bitB p.set 2 = b2
  generalize bitB p.set 4 = b4
  generalize bitB p.set 8 = b8
  generalize bitB p.set 16 = b16
  generalize bitB p.set 32 = b32
  generalize bitB p.set 64 = b64
  generalize bitB p.set 128 = b128
  cases b1 <;> cases b2 <;> cases b4 <;> cases b8 <;> cases b16 <;> cases b32 <;> cases b64 <;> cases b128 <;> rfl
theorem bit_zero : bitB 0 1 = false ∧ bitB 0 2 = false ∧ bitB 0 4 = false ∧ bitB 0 8 = false ∧ bitB 0 16 = false ∧ bitB 0 32 = false ∧ bitB 0 64 = false ∧ bitB 0 128 = false := by decide
theorem mrg_none (c p : St) : mrgS c { p with set := 0 } = { c with set := 0, dm := [] } := by
  rw [mrgS_eq]
  obtain ⟨h1, h2, h3, h4, h5, h6, h7, h8⟩ := bit_zero
  simp [h1, h2, h3, h4, h5, h6, h7, h8]
theorem canS_nil : canS [] = [] := by decide +kernel
theorem chk_none {c : St} (h : chkS c = 0) : chkS { c with set := 0, dm := [] } = 0 := by
  obtain ⟨a1, a2, a3, a4⟩ := chk_ok h
  have b4 : manyB { c with set := 0, dm := [] } = false := by
    unfold manyB at a4 ⊢
    simp only [Bool.or_eq_false_iff] at a4 ⊢
    refine ⟨⟨?_, a4.1.2⟩, a4.2⟩
    unfold wideB
    rw [canS_nil]
    rfl
  unfold chkS
  rw [show argB { c with set := 0, dm := [] } = argB c from rfl, a1, show bufB { c with set := 0, dm := [] } = bufB c from rfl, a2, b4]
  simp [a3]
theorem mrgR_none {c : St} (p : St) (h : chkS c = 0) : mrgR c { p with set := 0 } = ({ c with set := 0, dm := [] }, 0) := by
  unfold mrgR
  rw [mrg_none, chk_none h, if_pos rfl]
theorem ofInt_wrap (v : BitVec 64) : BitVec.ofInt 64 (IntKind.i64.wrap (v.toNat : Int)) = v := by
  apply BitVec.eq_of_toNat_eq
  rw [BitVec.toNat_ofInt, IntKind.wrap_i64]
  have := v.isLt
  omega
theorem bit_off (n : Int) : bitB (bits .andNot .i64 n 128) 128 = false := by
  unfold bitB
  simp only [ne_eq, decide_not, Bool.not_eq_eq_eq_not, Bool.not_false, decide_eq_true_eq]
  show IntKind.i64.wrap ((BitVec.ofInt 64 (IntKind.i64.wrap ((BitVec.ofInt 64 n &&& ~~~BitVec.ofInt 64 128).toNat : Int)) &&& BitVec.ofInt 64 128).toNat : Int) = 0
  rw [ofInt_wrap]
  have key : ∀ a b : BitVec 64, a &&& ~~~b &&& b = 0#64 := by
    intro a b
    ext i hi
    simp only [BitVec.getElem_and, BitVec.getElem_not, BitVec.getElem_zero]
    cases a[i] <;> cases b[i] <;> rfl
  rw [key]
  rfl
theorem mrg_twice (c p : St) (h : bitB p.set 128 = false) : mrgS (mrgS c p) p = mrgS c p := by
  rw [mrgS_eq (mrgS c p) p, mrgS_eq c p]
  simp only [h, Bool.false_eq_true, if_false, St.mk.injEq, true_and]
  refine ⟨?_, ?_, ?_, ?_, ?_, ?_, ?_, ?_, ?_⟩ <;> first | trivial | (split <;> simp_all)
theorem mrgR_twice {c p : St} (h : bitB p.set 128 = false) (hk : chkS (mrgS c p) = 0) : mrgR (mrgS c p) p = (mrgS c p, 0) := by
  unfold mrgR
  rw [mrg_twice c p h, hk, if_pos rfl]
theorem mrg_cb {c p : St} (h : bitB p.set 128 = false) : (mrgS c p).cb = c.cb := by
  rw [mrgS_eq, h]
  rfl

end Go.Proofs.YthedglfocjljjaaGreatDoor
