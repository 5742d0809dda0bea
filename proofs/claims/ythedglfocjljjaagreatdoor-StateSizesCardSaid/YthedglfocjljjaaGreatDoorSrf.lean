/-
  The reference's state: whole, clipped, DamageRegion, InputRegion.
-/
import Derived.Test.YthedglfocjljjaaGreatDoorSre
namespace Go.Proofs.YthedglfocjljjaaGreatDoor
open Go.RowKit

def wholeR (s : St) : R := ⟨0, 0, (sizS s).1, (sizS s).2⟩
def clipF (s : St) (l : List R) : List R × Int :=
  if chkS s ≠ 0 then ([], chkS s) else if (Rgn.combP (fun x y => x && y) l [wholeR s]).length ≤ 256 then (Rgn.combP (fun x y => x && y) l [wholeR s], 0) else ([], 5)

set_option maxRecDepth 100000 in
set_option maxHeartbeats 4000000 in
theorem rwhole_any {w : World} {s : St} {L : List Bv} {vb vd vo vi vc : Value} (h : StAt w s L vb vd vo vi vc) (hf : Few s) :
    Calls Tryz.prog 62 #[stV s vb vd vo vi vc] w fun e w' => ∃ v, e = .returned v ∧ Rs w' v [wholeR s] ∧ Below w.heap.size w w' := by
  have C := fun (W : World) (hb : Below w.heap.size w W) => Lib.hid (rsz_any (h.below hb) hf)
  obtain ⟨A, c, rfl, h1, h2⟩ := h.bf.shape
  obtain ⟨Ad, cd, rfl, hd1, hd2⟩ := h.dm.shape
  obtain ⟨Ao, co, rfl, ho1, ho2⟩ := h.op.shape
  obtain ⟨Ai, ci, rfl, hi1, hi2⟩ := h.ip.shape
  obtain ⟨Ac, cc, rfl, hc1, hc2⟩ := h.cb.shape
  have J := Lib.hid ((HO.nil w).alloc (stC s (.slice A L.length c) (.slice Ad s.dm.length cd) (.slice Ao s.op.length co) (.slice Ai s.ip.length ci) (.slice Ac s.cb.length cc)) 28)
  unfold wholeR
  generalize (sizS s).1 = zw at *
  generalize (sizS s).2 = zh at *
  clear h hf
  go_enter Tryz.func62, Tryz.ntmps62
  go_wp2_with fail
  refine (C _ J.out.below).out.mono ?_
  rintro e w2 ⟨rfl, hb⟩
  have HBL := Lib.hid (J.out.step hb).below
  have HR := Lib.hid (rs_one w2 ⟨0, 0, zw, zh⟩)
  clear hb C J
  go_wp2_with fail
  go_ret
  exact ⟨_, rfl, HR.out, HBL.out.alloc HBL.out.size _⟩

set_option maxRecDepth 100000 in
set_option maxHeartbeats 4000000 in
theorem rclip_any {w : World} {s : St} {L : List Bv} {vb vd vo vi vc u : Value} {l : List R} (h : StAt w s L vb vd vo vi vc) (hf : Few s) (hu : Rs w u l) (hl : l.length ≤ 400) :
    Calls Tryz.prog 60 #[stV s vb vd vo vi vc, u] w fun e w' => ∃ t, e = .returned (.tuple #[t, .int .i64 (clipF s l).2]) ∧ Rs w' t (clipF s l).1 ∧ Below w.heap.size w w' := by
  have C := fun (W : World) (hb : Below w.heap.size w W) => Lib.hid (rchk_any (h.below hb) hf)
  have D := fun (W : World) (hb : Below w.heap.size w W) => Lib.hid (rwhole_any (h.below hb) hf)
  have I := fun (W : World) (hb : Below w.heap.size w W) (v : Value) (hv : Rs W v [wholeR s]) => Lib.hid (Rgn.rinter_any (rgn_rs (hu.below hb)) (rgn_rs hv) (by simp; omega))
  obtain ⟨A, c, rfl, h1, h2⟩ := h.bf.shape
  obtain ⟨Ad, cd, rfl, hd1, hd2⟩ := h.dm.shape
  obtain ⟨Ao, co, rfl, ho1, ho2⟩ := h.op.shape
  obtain ⟨Ai, ci, rfl, hi1, hi2⟩ := h.ip.shape
  obtain ⟨Ac, cc, rfl, hc1, hc2⟩ := h.cb.shape
  obtain ⟨Au, cu, rfl, hu1, hu2⟩ := hu.shape
  have J := Lib.hid ((HO.nil w).alloc (stC s (.slice A L.length c) (.slice Ad s.dm.length cd) (.slice Ao s.op.length co) (.slice Ai s.ip.length ci) (.slice Ac s.cb.length cc)) 28)
  unfold clipF
  unfold Rgn.Lim at I
  clear h hf hu
  by_cases hc : chkS s = 0
  · rw [if_neg (by simpa using hc)]
    rw [hc] at C
    clear hc
    obtain ⟨z, hz⟩ : ∃ z, Rgn.combP (fun x y => x && y) l [wholeR s] = z := ⟨_, rfl⟩
    rw [hz] at I ⊢
    obtain ⟨rz, hrz⟩ : ∃ r : List R × Int, (if z.length ≤ 256 then (z, (0 : Int)) else ([], 5)) = r := ⟨_, rfl⟩
    have e1 : (if z.length ≤ 256 then z else []) = rz.1 := by rw [← hrz]; split <;> rfl
    have e2 : (if z.length ≤ 256 then (0 : Int) else 5) = rz.2 := by rw [← hrz]; split <;> rfl
    rw [hrz]
    rw [e1, e2] at I
    generalize rz.1 = ra at *
    generalize rz.2 = rb at *
    clear e1 e2 hrz hz
    go_enter Tryz.func60, Tryz.ntmps60
    go_wp2_with fail
    refine (C _ J.out.below).out.mono ?_
    rintro e w2 ⟨rfl, hb⟩
    replace J := Lib.hid (J.out.step hb)
    clear hb C
    obtain ⟨x0, x1, x2, x3, x4, x5, x6, x7, x8, x9, x10, xf, xl⟩ := (show HO w w2 ([] ++ boxO w.heap.size [_, _, _, _, _, _, _, _, _, _, _] :: []) from J.out).c11
    go_wp2_with fail
    refine (D _ J.out.below).out.mono ?_
    rintro e w3 ⟨v, rfl, hv, hb⟩
    have HV := Lib.hid hv
    replace J := Lib.hid (J.out.step hb)
    obtain ⟨Av, cv, rfl, -, -⟩ := hv.shape
    clear hb D hv
    go_wp2_with fail
    refine (I _ J.out.below _ HV.out).out.mono ?_
    rintro e w4 ⟨t, rfl, ht, hb⟩
    have HT := Lib.hid ht
    replace J := Lib.hid (J.out.step hb)
    clear hb ht
    go_wp2_with fail
    go_ret2
    exact ⟨_, rfl, HT.out.rs, J.out.below⟩
  · rw [if_pos hc]
    generalize chkS s = k at *
    clear I D
    have ek : (k == 0) = false := by simpa using hc
    go_enter Tryz.func60, Tryz.ntmps60
    go_wp2_with fail
    refine (C _ J.out.below).out.mono ?_
    rintro e w2 ⟨rfl, hb⟩
    replace J := Lib.hid (J.out.step hb)
    clear hb C
    go_wp2_with fail
    go_ret2
    exact ⟨_, rfl, rs_nil _, J.out.below⟩

end Go.Proofs.YthedglfocjljjaaGreatDoor
