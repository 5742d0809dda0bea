/-
  The reference's state: DamageRegion, InputRegion.
-/
import Derived.Test.YthedglfocjljjaaGreatDoorSrf
namespace Go.Proofs.YthedglfocjljjaaGreatDoor
open Go.RowKit

set_option maxRecDepth 100000 in
set_option maxHeartbeats 4000000 in
theorem rdam_any {w : World} {s : St} {L : List Bv} {vb vd vo vi vc : Value} (h : StAt w s L vb vd vo vi vc) (hf : Few s) :
    Calls Tryz.prog 25 #[stV s vb vd vo vi vc] w fun e w' => ∃ t, e = .returned (.tuple #[t, .int .i64 (clipF s s.dm).2]) ∧ Rs w' t (clipF s s.dm).1 ∧ Below w.heap.size w w' := by
  have C := fun (W : World) (hb : Below w.heap.size w W) => Lib.hid (rclip_any (h.below hb) hf (sn_rs (h.dm.below hb)) (by have := hf.dm; omega))
  obtain ⟨A, c, rfl, h1, h2⟩ := h.bf.shape
  obtain ⟨Ad, cd, rfl, hd1, hd2⟩ := h.dm.shape
  obtain ⟨Ao, co, rfl, ho1, ho2⟩ := h.op.shape
  obtain ⟨Ai, ci, rfl, hi1, hi2⟩ := h.ip.shape
  obtain ⟨Ac, cc, rfl, hc1, hc2⟩ := h.cb.shape
  have J := Lib.hid ((HO.nil w).alloc (stC s (.slice A L.length c) (.slice Ad s.dm.length cd) (.slice Ao s.op.length co) (.slice Ai s.ip.length ci) (.slice Ac s.cb.length cc)) 28)
  generalize (clipF s s.dm).1 = ra at *
  generalize (clipF s s.dm).2 = rb at *
  clear h hf
  go_enter Tryz.func25, Tryz.ntmps25
  go_wp2_with fail
  refine (C _ J.out.below).out.mono ?_
  rintro e w2 ⟨t, rfl, ht, hb⟩
  have HT := Lib.hid ht
  replace J := Lib.hid (J.out.step hb)
  clear hb C ht
  go_wp2_with fail
  go_ret2
  exact ⟨_, rfl, HT.out, J.out.below⟩

def inpL (s : St) : List R := if s.is = true then s.ip else [wholeR s]
set_option maxRecDepth 100000 in
set_option maxHeartbeats 4000000 in
theorem rinp_any {w : World} {s : St} {L : List Bv} {vb vd vo vi vc : Value} (h : StAt w s L vb vd vo vi vc) (hf : Few s) :
    Calls Tryz.prog 27 #[stV s vb vd vo vi vc] w fun e w' => ∃ t, e = .returned (.tuple #[t, .int .i64 (clipF s (inpL s)).2]) ∧ Rs w' t (clipF s (inpL s)).1 ∧ Below w.heap.size w w' := by
  have C := fun (W : World) (hb : Below w.heap.size w W) => Lib.hid (rclip_any (h.below hb) hf (sn_rs (h.ip.below hb)) (by have := hf.ip; omega))
  have D := fun (W : World) (hb : Below w.heap.size w W) => Lib.hid (rwhole_any (h.below hb) hf)
  have E := fun (W : World) (hb : Below w.heap.size w W) (v : Value) (hv : Rs W v [wholeR s]) => Lib.hid (rclip_any (h.below hb) hf hv (by simp))
  unfold inpL
  obtain ⟨set, bf, sc, tr, dm, op, is, ip, dx, dy, cb⟩ := s
  obtain ⟨A, c, rfl, h1, h2⟩ := h.bf.shape
  obtain ⟨Ad, cd, rfl, hd1, hd2⟩ := h.dm.shape
  obtain ⟨Ao, co, rfl, ho1, ho2⟩ := h.op.shape
  obtain ⟨Ai, ci, rfl, hi1, hi2⟩ := h.ip.shape
  obtain ⟨Ac, cc, rfl, hc1, hc2⟩ := h.cb.shape
  dsimp only at C D E ⊢
  have J := Lib.hid ((HO.nil w).alloc (stC ⟨set, bf, sc, tr, dm, op, is, ip, dx, dy, cb⟩ (.slice A L.length c) (.slice Ad dm.length cd) (.slice Ao op.length co) (.slice Ai ip.length ci) (.slice Ac cb.length cc)) 28)
  clear h hf
  cases is with
  | true =>
    rw [if_pos rfl]
    generalize (clipF ⟨set, bf, sc, tr, dm, op, true, ip, dx, dy, cb⟩ ip).1 = ra at *
    generalize (clipF ⟨set, bf, sc, tr, dm, op, true, ip, dx, dy, cb⟩ ip).2 = rb at *
    clear D E
    go_enter Tryz.func27, Tryz.ntmps27
    go_wp2_with fail
    refine (C _ J.out.below).out.mono ?_
    rintro e w2 ⟨t, rfl, ht, hb⟩
    have HT := Lib.hid ht
    replace J := Lib.hid (J.out.step hb)
    clear hb C ht
    go_wp2_with fail
    go_ret2
    exact ⟨_, rfl, HT.out, J.out.below⟩
  | false =>
    rw [if_neg (by simp)]
    obtain ⟨R0, hR⟩ : ∃ r, wholeR ⟨set, bf, sc, tr, dm, op, false, ip, dx, dy, cb⟩ = r := ⟨_, rfl⟩
    rw [hR] at D ⊢
    simp only [hR] at E
    generalize (clipF ⟨set, bf, sc, tr, dm, op, false, ip, dx, dy, cb⟩ [R0]).1 = ra at *
    generalize (clipF ⟨set, bf, sc, tr, dm, op, false, ip, dx, dy, cb⟩ [R0]).2 = rb at *
    clear C
    go_enter Tryz.func27, Tryz.ntmps27
    go_wp2_with fail
    replace J := Lib.hid J.out.drew
    obtain ⟨x0, x1, x2, x3, x4, x5, x6, x7, x8, x9, x10, xf, xl⟩ := (show HO w _ ([] ++ boxO w.heap.size [_, _, _, _, _, _, _, _, _, _, _] :: []) from J.out).c11
    go_region_held3 (fun W => W.cell? ⟨w.heap.size, 0, none⟩ = some (.int .i64 set) ∧ W.cell? ⟨w.heap.size, 1, none⟩ = some (.slice A L.length c) ∧ W.cell? ⟨w.heap.size, 2, none⟩ = some (.int .i64 sc) ∧ W.cell? ⟨w.heap.size, 3, none⟩ = some (.int .i64 tr) ∧ W.cell? ⟨w.heap.size, 4, none⟩ = some (.slice Ad dm.length cd) ∧ W.cell? ⟨w.heap.size, 5, none⟩ = some (.slice Ao op.length co) ∧ W.cell? ⟨w.heap.size, 6, none⟩ = some (.bool false) ∧ W.cell? ⟨w.heap.size, 7, none⟩ = some (.slice Ai ip.length ci) ∧ W.cell? ⟨w.heap.size, 8, none⟩ = some (.int .i64 dx) ∧ W.cell? ⟨w.heap.size, 9, none⟩ = some (.int .i64 dy) ∧ W.cell? ⟨w.heap.size, 10, none⟩ = some (.slice Ac cb.length cc))
      (first
        | exact ⟨x0, x1, x2, x3, x4, x5, x6, x7, x8, x9, x10⟩
        | go_keep)
      (first
        | (go_at_call 62; (with_reducible refine (D _ J.out.below).out.mono ?_); rintro e wq ⟨v9, rfl, hv9, hb9⟩; have HV := Lib.hid hv9; have hsh := hv9.shape; simp only [List.length_cons, List.length_nil, Nat.zero_add] at hsh; obtain ⟨Av, cv, rfl, -, -⟩ := hsh; replace J := Lib.hid (J.out.step hb9); clear hb9 hv9 x0 x1 x2 x3 x4 x5 x6 x7 x8 x9 x10; obtain ⟨x0, x1, x2, x3, x4, x5, x6, x7, x8, x9, x10, -, -⟩ := (show HO w wq ([] ++ boxO w.heap.size [_, _, _, _, _, _, _, _, _, _, _] :: []) from J.out).c11)
        | (go_at_call 60; (with_reducible refine (E _ J.out.below _ HV.out).out.mono ?_); rintro e wr ⟨t9, rfl, ht9, hb9⟩; have HT := Lib.hid ht9; replace J := Lib.hid (J.out.step hb9); clear hb9 ht9 x0 x1 x2 x3 x4 x5 x6 x7 x8 x9 x10; obtain ⟨x0, x1, x2, x3, x4, x5, x6, x7, x8, x9, x10, -, -⟩ := (show HO w wr ([] ++ boxO w.heap.size [_, _, _, _, _, _, _, _, _, _, _] :: []) from J.out).c11)
        | fail)
    go_wp2_with fail
    go_ret2
    exact ⟨_, rfl, HT.out, J.out.below⟩

end Go.Proofs.YthedglfocjljjaaGreatDoor
