/-
  The law's part.
-/
import Derived.Test.YthedglfocjljjaaGreatDoorSmh
namespace Go.Proofs.YthedglfocjljjaaGreatDoor
open Go.RowKit

def prtB : Nat → Int
  | 0 => 1
  | 1 => 2
  | 2 => 4
  | 3 => 16
  | 4 => 32
  | _ => 64
def prtF : Nat → Nat
  | 0 => 0
  | 1 => 1
  | 2 => 2
  | 3 => 4
  | 4 => 5
  | _ => 6
def prtK (a b : St) (n : Int) : Nat → St
  | 0 => { b with set := 0, dm := [], cb := [] }
  | k + 1 => if bitB n (prtB k) = true then stpS (prtF k) b a (prtK a b n k) else prtK a b n k
def PrO (a b : St) (n : Int) (w : World) (e : Ending) (w' : World) : Prop :=
  ∃ (L1 : List Bv) (vb vd vo vi vc : Value), e = .returned (stV (prtK a b n 6) vb vd vo vi vc) ∧ StAt w' (prtK a b n 6) L1 vb vd vo vi vc ∧ Below w.heap.size w w'

set_option maxRecDepth 100000 in
set_option maxHeartbeats 16000000 in
theorem part_any {w : World} {a b : St} {n : Int} {M L : List Bv} {vb vd vo vi vc ub ud uo ui uc : Value} (g : StAt w a M ub ud uo ui uc) (h : StAt w b L vb vd vo vi vc) :
    Calls Tryz.prog 30 #[stV a ub ud uo ui uc, stV b vb vd vo vi vc, .int .i64 n] w (PrO a b n w) := by
  obtain ⟨A1, c1, rfl, h11, h21⟩ := g.bf.shape
  obtain ⟨Ad1, cd1, rfl, hd11, hd21⟩ := g.dm.shape
  obtain ⟨Ao1, co1, rfl, ho11, ho21⟩ := g.op.shape
  obtain ⟨Ai1, ci1, rfl, hi11, hi21⟩ := g.ip.shape
  obtain ⟨Ac1, cc1, rfl, hc11, hc21⟩ := g.cb.shape
  obtain ⟨A2, c2, rfl, h12, h22⟩ := h.bf.shape
  obtain ⟨Ad2, cd2, rfl, hd12, hd22⟩ := h.dm.shape
  obtain ⟨Ao2, co2, rfl, ho12, ho22⟩ := h.op.shape
  obtain ⟨Ai2, ci2, rfl, hi12, hi22⟩ := h.ip.shape
  obtain ⟨Ac2, cc2, rfl, hc12, hc22⟩ := h.cb.shape
  have HG := Lib.hid g
  have HF0 := Lib.hid (show StF w [] { b with set := 0, dm := [], cb := [] } L (.slice A2 L.length c2) (.slice none 0 0) (.slice Ao2 b.op.length co2) (.slice Ai2 b.ip.length ci2) (.slice none 0 0) from fun W hb _ => let H := h.below hb; ⟨H.bf, H.px, H.eq, sn_nil _ _, H.op, H.ip, sn_nil _ _⟩)
  have J := Lib.hid (show HO w ((((w.alloc (.cells #[.int .i64 a.set, .slice A1 M.length c1, .int .i64 a.sc, .int .i64 a.tr, .slice Ad1 a.dm.length cd1, .slice Ao1 a.op.length co1, .bool a.is, .slice Ai1 a.ip.length ci1, .int .i64 a.dx, .int .i64 a.dy, .slice Ac1 a.cb.length cc1] 28)).alloc (.cells #[.int .i64 b.set, .slice A2 L.length c2, .int .i64 b.sc, .int .i64 b.tr, .slice Ad2 b.dm.length cd2, .slice Ao2 b.op.length co2, .bool b.is, .slice Ai2 b.ip.length ci2, .int .i64 b.dx, .int .i64 b.dy, .slice Ac2 b.cb.length cc2] 28)).alloc (.cells #[.int .i64 0, .slice none 0 0, .int .i64 0, .int .i64 0, .slice none 0 0, .slice none 0 0, .bool false, .slice none 0 0, .int .i64 0, .int .i64 0, .slice none 0 0] 28)).alloc (.cells #[.int .i64 0, .slice A2 L.length c2, .int .i64 b.sc, .int .i64 b.tr, .slice none 0 0, .slice Ao2 b.op.length co2, .bool b.is, .slice Ai2 b.ip.length ci2, .int .i64 b.dx, .int .i64 b.dy, .slice none 0 0] 28)) [boxO (w.heap.size + 3) [.int .i64 0, .slice A2 L.length c2, .int .i64 b.sc, .int .i64 b.tr, .slice none 0 0, .slice Ao2 b.op.length co2, .bool b.is, .slice Ai2 b.ip.length ci2, .int .i64 b.dx, .int .i64 b.dy, .slice none 0 0], boxO (w.heap.size + 2) [.int .i64 0, .slice none 0 0, .int .i64 0, .int .i64 0, .slice none 0 0, .slice none 0 0, .bool false, .slice none 0 0, .int .i64 0, .int .i64 0, .slice none 0 0], boxO (w.heap.size + 1) [.int .i64 b.set, .slice A2 L.length c2, .int .i64 b.sc, .int .i64 b.tr, .slice Ad2 b.dm.length cd2, .slice Ao2 b.op.length co2, .bool b.is, .slice Ai2 b.ip.length ci2, .int .i64 b.dx, .int .i64 b.dy, .slice Ac2 b.cb.length cc2], boxO w.heap.size [.int .i64 a.set, .slice A1 M.length c1, .int .i64 a.sc, .int .i64 a.tr, .slice Ad1 a.dm.length cd1, .slice Ao1 a.op.length co1, .bool a.is, .slice Ai1 a.ip.length ci1, .int .i64 a.dx, .int .i64 a.dy, .slice Ac1 a.cb.length cc1]] from by
    have h := ((((HO.nil w).alloc [.int .i64 a.set, .slice A1 M.length c1, .int .i64 a.sc, .int .i64 a.tr, .slice Ad1 a.dm.length cd1, .slice Ao1 a.op.length co1, .bool a.is, .slice Ai1 a.ip.length ci1, .int .i64 a.dx, .int .i64 a.dy, .slice Ac1 a.cb.length cc1] 28).alloc [.int .i64 b.set, .slice A2 L.length c2, .int .i64 b.sc, .int .i64 b.tr, .slice Ad2 b.dm.length cd2, .slice Ao2 b.op.length co2, .bool b.is, .slice Ai2 b.ip.length ci2, .int .i64 b.dx, .int .i64 b.dy, .slice Ac2 b.cb.length cc2] 28).alloc [.int .i64 0, .slice none 0 0, .int .i64 0, .int .i64 0, .slice none 0 0, .slice none 0 0, .bool false, .slice none 0 0, .int .i64 0, .int .i64 0, .slice none 0 0] 28).alloc [.int .i64 0, .slice A2 L.length c2, .int .i64 b.sc, .int .i64 b.tr, .slice none 0 0, .slice Ao2 b.op.length co2, .bool b.is, .slice Ai2 b.ip.length ci2, .int .i64 b.dx, .int .i64 b.dy, .slice none 0 0] 28
    simp only [World.size_alloc] at h
    exact h)
  unfold PrO
  clear h g
  go_enter Tryz.func30, Tryz.ntmps30
  go_upto_region 5 with fail
  generalize (((w.alloc (.cells #[.int .i64 a.set, .slice A1 M.length c1, .int .i64 a.sc, .int .i64 a.tr, .slice Ad1 a.dm.length cd1, .slice Ao1 a.op.length co1, .bool a.is, .slice Ai1 a.ip.length ci1, .int .i64 a.dx, .int .i64 a.dy, .slice Ac1 a.cb.length cc1] 28)).alloc (.cells #[.int .i64 b.set, .slice A2 L.length c2, .int .i64 b.sc, .int .i64 b.tr, .slice Ad2 b.dm.length cd2, .slice Ao2 b.op.length co2, .bool b.is, .slice Ai2 b.ip.length ci2, .int .i64 b.dx, .int .i64 b.dy, .slice Ac2 b.cb.length cc2] 28)).alloc (.cells #[.int .i64 0, .slice none 0 0, .int .i64 0, .int .i64 0, .slice none 0 0, .slice none 0 0, .bool false, .slice none 0 0, .int .i64 0, .int .i64 0, .slice none 0 0] 28)).alloc (.cells #[.int .i64 0, .slice A2 L.length c2, .int .i64 b.sc, .int .i64 b.tr, .slice none 0 0, .slice Ao2 b.op.length co2, .bool b.is, .slice Ai2 b.ip.length ci2, .int .i64 b.dx, .int .i64 b.dy, .slice none 0 0] 28) = v0 at *
  obtain ⟨s1, L1, Ab, cb, nb, Ao, co, no, Ai, ci, ni, HS, HF, J⟩ := (show ∃ (s1 : St) (L1 : List Bv) (Ab : Option Addr) (cb nb : Nat) (Ao : Option Addr) (co no : Nat) (Ai : Option Addr) (ci ni : Nat), Hid (s1 = prtK a b n 0) ∧ Hid (StF w [] s1 L1 (.slice Ab nb cb) (.slice none 0 0) (.slice Ao no co) (.slice Ai ni ci) (.slice none 0 0)) ∧ Hid (HO w _ [boxO (w.heap.size + 3) (stC s1 (.slice Ab nb cb) (.slice none 0 0) (.slice Ao no co) (.slice Ai ni ci) (.slice none 0 0)), boxO (w.heap.size + 2) [.int .i64 0, .slice none 0 0, .int .i64 0, .int .i64 0, .slice none 0 0, .slice none 0 0, .bool false, .slice none 0 0, .int .i64 0, .int .i64 0, .slice none 0 0], boxO (w.heap.size + 1) [.int .i64 b.set, .slice A2 L.length c2, .int .i64 b.sc, .int .i64 b.tr, .slice Ad2 b.dm.length cd2, .slice Ao2 b.op.length co2, .bool b.is, .slice Ai2 b.ip.length ci2, .int .i64 b.dx, .int .i64 b.dy, .slice Ac2 b.cb.length cc2], boxO w.heap.size [.int .i64 a.set, .slice A1 M.length c1, .int .i64 a.sc, .int .i64 a.tr, .slice Ad1 a.dm.length cd1, .slice Ao1 a.op.length co1, .bool a.is, .slice Ai1 a.ip.length ci1, .int .i64 a.dx, .int .i64 a.dy, .slice Ac1 a.cb.length cc1]]) from ⟨{ b with set := 0, dm := [], cb := [] }, L, A2, c2, _, Ao2, co2, _, Ai2, ci2, _, Lib.hid rfl, HF0, J⟩)
  clear HF0
  have HB := Lib.hid (show bitB n 1 = decide (bits .and .i64 n 1 ≠ 0) from rfl)
  obtain ⟨B, hB⟩ : ∃ B, bits .and .i64 n 1 = B := ⟨_, rfl⟩
  rw [hB] at HB
  have HK := Lib.hid (show prtK a b n 1 = if bitB n 1 = true then stpS 0 b a (prtK a b n 0) else prtK a b n 0 from rfl)
  go_upto_if 14 with (fail)
  go_cut [] from 8 (fun wx => ∃ (s1 : St) (L1 : List Bv) (Ab : Option Addr) (cb nb : Nat) (Ao : Option Addr) (co no : Nat) (Ai : Option Addr) (ci ni : Nat), Hid (s1 = prtK a b n 1) ∧ Hid (StF w [] s1 L1 (.slice Ab nb cb) (.slice none 0 0) (.slice Ao no co) (.slice Ai ni ci) (.slice none 0 0)) ∧ Hid (HO w wx [boxO (w.heap.size + 3) (stC s1 (.slice Ab nb cb) (.slice none 0 0) (.slice Ao no co) (.slice Ai ni ci) (.slice none 0 0)), boxO (w.heap.size + 2) [.int .i64 0, .slice none 0 0, .int .i64 0, .int .i64 0, .slice none 0 0, .slice none 0 0, .bool false, .slice none 0 0, .int .i64 0, .int .i64 0, .slice none 0 0], boxO (w.heap.size + 1) [.int .i64 b.set, .slice A2 L.length c2, .int .i64 b.sc, .int .i64 b.tr, .slice Ad2 b.dm.length cd2, .slice Ao2 b.op.length co2, .bool b.is, .slice Ai2 b.ip.length ci2, .int .i64 b.dx, .int .i64 b.dy, .slice Ac2 b.cb.length cc2], boxO w.heap.size [.int .i64 a.set, .slice A1 M.length c1, .int .i64 a.sc, .int .i64 a.tr, .slice Ad1 a.dm.length cd1, .slice Ao1 a.op.length co1, .bool a.is, .slice Ai1 a.ip.length ci1, .int .i64 a.dx, .int .i64 a.dy, .slice Ac1 a.cb.length cc1]]))
  case first =>
    by_cases hz : B = 0
    · subst hz
      have HK2 := Lib.hid (show prtK a b n 1 = prtK a b n 0 from by rw [HK.out, HB.out]; simp)
      clear HB HK
      go_wp2_with fail
      go_meet
      case rel => exact ⟨s1, L1, Ab, cb, nb, Ao, co, no, Ai, ci, ni, Lib.hid (by rw [HK2.out, HS.out]), HF, J⟩
    · have hz2 : (B == 0) = false := by simpa using hz
      have HK2 := Lib.hid (show prtK a b n 1 = stpS 0 b a (prtK a b n 0) from by rw [HK.out, HB.out]; simp [hz])
      clear HB HK
      obtain ⟨x0, x1, x2, x3, x4, x5, x6, x7, x8, x9, x10, xf, xl⟩ := (show HO w _ ([] ++ boxO (w.heap.size + 3) [_, _, _, _, _, _, _, _, _, _, _] :: _) from J.out).c11
      obtain ⟨y0, y1, y2, y3, y4, y5, y6, y7, y8, y9, y10, yf, yl⟩ := (show HO w _ ([_, _, _] ++ boxO w.heap.size [_, _, _, _, _, _, _, _, _, _, _] :: _) from J.out).c11
      replace J := Lib.hid ((show HO w _ ([] ++ boxO (w.heap.size + 3) [_, _, _, _, _, _, _, _, _, _, _] :: _) from J.out).cell (i := 1) (by simp) (.slice A1 M.length c1))
      go_wp2_with fail
      go_meet
      case rel => exact ⟨stpS 0 b a s1, M, A1, c1, M.length, Ao, co, no, Ai, ci, ni, Lib.hid (by rw [HK2.out, HS.out]), Lib.hid (StF.bf (c := b) (p := a) (s := s1) HF.out HG), J⟩
  case rest =>
    clear J HB HK HS HF
    obtain ⟨s1, L1, Ab, cb, nb, Ao, co, no, Ai, ci, ni, HS, HF, J⟩ := hcut
    have HB := Lib.hid (show bitB n 2 = decide (bits .and .i64 n 2 ≠ 0) from rfl)
    obtain ⟨B, hB⟩ : ∃ B, bits .and .i64 n 2 = B := ⟨_, rfl⟩
    rw [hB] at HB
    have HK := Lib.hid (show prtK a b n 2 = if bitB n 2 = true then stpS 1 b a (prtK a b n 1) else prtK a b n 1 from rfl)
    go_upto_if 20 with (fail)
    go_cut [] from 8 (fun wx => ∃ (s1 : St) (L1 : List Bv) (Ab : Option Addr) (cb nb : Nat) (Ao : Option Addr) (co no : Nat) (Ai : Option Addr) (ci ni : Nat), Hid (s1 = prtK a b n 2) ∧ Hid (StF w [] s1 L1 (.slice Ab nb cb) (.slice none 0 0) (.slice Ao no co) (.slice Ai ni ci) (.slice none 0 0)) ∧ Hid (HO w wx [boxO (w.heap.size + 3) (stC s1 (.slice Ab nb cb) (.slice none 0 0) (.slice Ao no co) (.slice Ai ni ci) (.slice none 0 0)), boxO (w.heap.size + 2) [.int .i64 0, .slice none 0 0, .int .i64 0, .int .i64 0, .slice none 0 0, .slice none 0 0, .bool false, .slice none 0 0, .int .i64 0, .int .i64 0, .slice none 0 0], boxO (w.heap.size + 1) [.int .i64 b.set, .slice A2 L.length c2, .int .i64 b.sc, .int .i64 b.tr, .slice Ad2 b.dm.length cd2, .slice Ao2 b.op.length co2, .bool b.is, .slice Ai2 b.ip.length ci2, .int .i64 b.dx, .int .i64 b.dy, .slice Ac2 b.cb.length cc2], boxO w.heap.size [.int .i64 a.set, .slice A1 M.length c1, .int .i64 a.sc, .int .i64 a.tr, .slice Ad1 a.dm.length cd1, .slice Ao1 a.op.length co1, .bool a.is, .slice Ai1 a.ip.length ci1, .int .i64 a.dx, .int .i64 a.dy, .slice Ac1 a.cb.length cc1]]))
    case first =>
      by_cases hz : B = 0
      · subst hz
        have HK2 := Lib.hid (show prtK a b n 2 = prtK a b n 1 from by rw [HK.out, HB.out]; simp)
        clear HB HK
        go_wp2_with fail
        go_meet
        case rel => exact ⟨s1, L1, Ab, cb, nb, Ao, co, no, Ai, ci, ni, Lib.hid (by rw [HK2.out, HS.out]), HF, J⟩
      · have hz2 : (B == 0) = false := by simpa using hz
        have HK2 := Lib.hid (show prtK a b n 2 = stpS 1 b a (prtK a b n 1) from by rw [HK.out, HB.out]; simp [hz])
        clear HB HK
        obtain ⟨x0, x1, x2, x3, x4, x5, x6, x7, x8, x9, x10, xf, xl⟩ := (show HO w _ ([] ++ boxO (w.heap.size + 3) [_, _, _, _, _, _, _, _, _, _, _] :: _) from J.out).c11
        obtain ⟨y0, y1, y2, y3, y4, y5, y6, y7, y8, y9, y10, yf, yl⟩ := (show HO w _ ([_, _, _] ++ boxO w.heap.size [_, _, _, _, _, _, _, _, _, _, _] :: _) from J.out).c11
        replace J := Lib.hid ((show HO w _ ([] ++ boxO (w.heap.size + 3) [_, _, _, _, _, _, _, _, _, _, _] :: _) from J.out).cell (i := 2) (by simp) (.int .i64 a.sc))
        go_wp2_with fail
        go_meet
        case rel => exact ⟨stpS 1 b a s1, L1, Ab, cb, nb, Ao, co, no, Ai, ci, ni, Lib.hid (by rw [HK2.out, HS.out]), Lib.hid (StF.sc (c := b) (p := a) (s := s1) HF.out HG), J⟩
    case rest =>
      clear J HB HK HS HF
      obtain ⟨s1, L1, Ab, cb, nb, Ao, co, no, Ai, ci, ni, HS, HF, J⟩ := hcut
      have HB := Lib.hid (show bitB n 4 = decide (bits .and .i64 n 4 ≠ 0) from rfl)
      obtain ⟨B, hB⟩ : ∃ B, bits .and .i64 n 4 = B := ⟨_, rfl⟩
      rw [hB] at HB
      have HK := Lib.hid (show prtK a b n 3 = if bitB n 4 = true then stpS 2 b a (prtK a b n 2) else prtK a b n 2 from rfl)
      go_upto_if 26 with (fail)
      go_cut [] from 8 (fun wx => ∃ (s1 : St) (L1 : List Bv) (Ab : Option Addr) (cb nb : Nat) (Ao : Option Addr) (co no : Nat) (Ai : Option Addr) (ci ni : Nat), Hid (s1 = prtK a b n 3) ∧ Hid (StF w [] s1 L1 (.slice Ab nb cb) (.slice none 0 0) (.slice Ao no co) (.slice Ai ni ci) (.slice none 0 0)) ∧ Hid (HO w wx [boxO (w.heap.size + 3) (stC s1 (.slice Ab nb cb) (.slice none 0 0) (.slice Ao no co) (.slice Ai ni ci) (.slice none 0 0)), boxO (w.heap.size + 2) [.int .i64 0, .slice none 0 0, .int .i64 0, .int .i64 0, .slice none 0 0, .slice none 0 0, .bool false, .slice none 0 0, .int .i64 0, .int .i64 0, .slice none 0 0], boxO (w.heap.size + 1) [.int .i64 b.set, .slice A2 L.length c2, .int .i64 b.sc, .int .i64 b.tr, .slice Ad2 b.dm.length cd2, .slice Ao2 b.op.length co2, .bool b.is, .slice Ai2 b.ip.length ci2, .int .i64 b.dx, .int .i64 b.dy, .slice Ac2 b.cb.length cc2], boxO w.heap.size [.int .i64 a.set, .slice A1 M.length c1, .int .i64 a.sc, .int .i64 a.tr, .slice Ad1 a.dm.length cd1, .slice Ao1 a.op.length co1, .bool a.is, .slice Ai1 a.ip.length ci1, .int .i64 a.dx, .int .i64 a.dy, .slice Ac1 a.cb.length cc1]]))
      case first =>
        by_cases hz : B = 0
        · subst hz
          have HK2 := Lib.hid (show prtK a b n 3 = prtK a b n 2 from by rw [HK.out, HB.out]; simp)
          clear HB HK
          go_wp2_with fail
          go_meet
          case rel => exact ⟨s1, L1, Ab, cb, nb, Ao, co, no, Ai, ci, ni, Lib.hid (by rw [HK2.out, HS.out]), HF, J⟩
        · have hz2 : (B == 0) = false := by simpa using hz
          have HK2 := Lib.hid (show prtK a b n 3 = stpS 2 b a (prtK a b n 2) from by rw [HK.out, HB.out]; simp [hz])
          clear HB HK
          obtain ⟨x0, x1, x2, x3, x4, x5, x6, x7, x8, x9, x10, xf, xl⟩ := (show HO w _ ([] ++ boxO (w.heap.size + 3) [_, _, _, _, _, _, _, _, _, _, _] :: _) from J.out).c11
          obtain ⟨y0, y1, y2, y3, y4, y5, y6, y7, y8, y9, y10, yf, yl⟩ := (show HO w _ ([_, _, _] ++ boxO w.heap.size [_, _, _, _, _, _, _, _, _, _, _] :: _) from J.out).c11
          replace J := Lib.hid ((show HO w _ ([] ++ boxO (w.heap.size + 3) [_, _, _, _, _, _, _, _, _, _, _] :: _) from J.out).cell (i := 3) (by simp) (.int .i64 a.tr))
          go_wp2_with fail
          go_meet
          case rel => exact ⟨stpS 2 b a s1, L1, Ab, cb, nb, Ao, co, no, Ai, ci, ni, Lib.hid (by rw [HK2.out, HS.out]), Lib.hid (StF.tr (c := b) (p := a) (s := s1) HF.out HG), J⟩
      case rest =>
        clear J HB HK HS HF
        obtain ⟨s1, L1, Ab, cb, nb, Ao, co, no, Ai, ci, ni, HS, HF, J⟩ := hcut
        have HB := Lib.hid (show bitB n 16 = decide (bits .and .i64 n 16 ≠ 0) from rfl)
        obtain ⟨B, hB⟩ : ∃ B, bits .and .i64 n 16 = B := ⟨_, rfl⟩
        rw [hB] at HB
        have HK := Lib.hid (show prtK a b n 4 = if bitB n 16 = true then stpS 4 b a (prtK a b n 3) else prtK a b n 3 from rfl)
        go_upto_if 32 with (fail)
        go_cut [] from 8 (fun wx => ∃ (s1 : St) (L1 : List Bv) (Ab : Option Addr) (cb nb : Nat) (Ao : Option Addr) (co no : Nat) (Ai : Option Addr) (ci ni : Nat), Hid (s1 = prtK a b n 4) ∧ Hid (StF w [] s1 L1 (.slice Ab nb cb) (.slice none 0 0) (.slice Ao no co) (.slice Ai ni ci) (.slice none 0 0)) ∧ Hid (HO w wx [boxO (w.heap.size + 3) (stC s1 (.slice Ab nb cb) (.slice none 0 0) (.slice Ao no co) (.slice Ai ni ci) (.slice none 0 0)), boxO (w.heap.size + 2) [.int .i64 0, .slice none 0 0, .int .i64 0, .int .i64 0, .slice none 0 0, .slice none 0 0, .bool false, .slice none 0 0, .int .i64 0, .int .i64 0, .slice none 0 0], boxO (w.heap.size + 1) [.int .i64 b.set, .slice A2 L.length c2, .int .i64 b.sc, .int .i64 b.tr, .slice Ad2 b.dm.length cd2, .slice Ao2 b.op.length co2, .bool b.is, .slice Ai2 b.ip.length ci2, .int .i64 b.dx, .int .i64 b.dy, .slice Ac2 b.cb.length cc2], boxO w.heap.size [.int .i64 a.set, .slice A1 M.length c1, .int .i64 a.sc, .int .i64 a.tr, .slice Ad1 a.dm.length cd1, .slice Ao1 a.op.length co1, .bool a.is, .slice Ai1 a.ip.length ci1, .int .i64 a.dx, .int .i64 a.dy, .slice Ac1 a.cb.length cc1]]))
        case first =>
          by_cases hz : B = 0
          · subst hz
            have HK2 := Lib.hid (show prtK a b n 4 = prtK a b n 3 from by rw [HK.out, HB.out]; simp)
            clear HB HK
            go_wp2_with fail
            go_meet
            case rel => exact ⟨s1, L1, Ab, cb, nb, Ao, co, no, Ai, ci, ni, Lib.hid (by rw [HK2.out, HS.out]), HF, J⟩
          · have hz2 : (B == 0) = false := by simpa using hz
            have HK2 := Lib.hid (show prtK a b n 4 = stpS 4 b a (prtK a b n 3) from by rw [HK.out, HB.out]; simp [hz])
            clear HB HK
            obtain ⟨x0, x1, x2, x3, x4, x5, x6, x7, x8, x9, x10, xf, xl⟩ := (show HO w _ ([] ++ boxO (w.heap.size + 3) [_, _, _, _, _, _, _, _, _, _, _] :: _) from J.out).c11
            obtain ⟨y0, y1, y2, y3, y4, y5, y6, y7, y8, y9, y10, yf, yl⟩ := (show HO w _ ([_, _, _] ++ boxO w.heap.size [_, _, _, _, _, _, _, _, _, _, _] :: _) from J.out).c11
            replace J := Lib.hid ((show HO w _ ([] ++ boxO (w.heap.size + 3) [_, _, _, _, _, _, _, _, _, _, _] :: _) from J.out).cell (i := 5) (by simp) (.slice Ao1 a.op.length co1))
            go_wp2_with fail
            go_meet
            case rel => exact ⟨stpS 4 b a s1, L1, Ab, cb, nb, Ao1, co1, a.op.length, Ai, ci, ni, Lib.hid (by rw [HK2.out, HS.out]), Lib.hid (StF.op (c := b) (p := a) (s := s1) HF.out HG), J⟩
        case rest =>
          clear J HB HK HS HF
          obtain ⟨s1, L1, Ab, cb, nb, Ao, co, no, Ai, ci, ni, HS, HF, J⟩ := hcut
          have HB := Lib.hid (show bitB n 32 = decide (bits .and .i64 n 32 ≠ 0) from rfl)
          obtain ⟨B, hB⟩ : ∃ B, bits .and .i64 n 32 = B := ⟨_, rfl⟩
          rw [hB] at HB
          have HK := Lib.hid (show prtK a b n 5 = if bitB n 32 = true then stpS 5 b a (prtK a b n 4) else prtK a b n 4 from rfl)
          go_upto_if 38 with (fail)
          go_cut [] from 8 (fun wx => ∃ (s1 : St) (L1 : List Bv) (Ab : Option Addr) (cb nb : Nat) (Ao : Option Addr) (co no : Nat) (Ai : Option Addr) (ci ni : Nat), Hid (s1 = prtK a b n 5) ∧ Hid (StF w [] s1 L1 (.slice Ab nb cb) (.slice none 0 0) (.slice Ao no co) (.slice Ai ni ci) (.slice none 0 0)) ∧ Hid (HO w wx [boxO (w.heap.size + 3) (stC s1 (.slice Ab nb cb) (.slice none 0 0) (.slice Ao no co) (.slice Ai ni ci) (.slice none 0 0)), boxO (w.heap.size + 2) [.int .i64 0, .slice none 0 0, .int .i64 0, .int .i64 0, .slice none 0 0, .slice none 0 0, .bool false, .slice none 0 0, .int .i64 0, .int .i64 0, .slice none 0 0], boxO (w.heap.size + 1) [.int .i64 b.set, .slice A2 L.length c2, .int .i64 b.sc, .int .i64 b.tr, .slice Ad2 b.dm.length cd2, .slice Ao2 b.op.length co2, .bool b.is, .slice Ai2 b.ip.length ci2, .int .i64 b.dx, .int .i64 b.dy, .slice Ac2 b.cb.length cc2], boxO w.heap.size [.int .i64 a.set, .slice A1 M.length c1, .int .i64 a.sc, .int .i64 a.tr, .slice Ad1 a.dm.length cd1, .slice Ao1 a.op.length co1, .bool a.is, .slice Ai1 a.ip.length ci1, .int .i64 a.dx, .int .i64 a.dy, .slice Ac1 a.cb.length cc1]]))
          case first =>
            by_cases hz : B = 0
            · subst hz
              have HK2 := Lib.hid (show prtK a b n 5 = prtK a b n 4 from by rw [HK.out, HB.out]; simp)
              clear HB HK
              go_wp2_with fail
              go_meet
              case rel => exact ⟨s1, L1, Ab, cb, nb, Ao, co, no, Ai, ci, ni, Lib.hid (by rw [HK2.out, HS.out]), HF, J⟩
            · have hz2 : (B == 0) = false := by simpa using hz
              have HK2 := Lib.hid (show prtK a b n 5 = stpS 5 b a (prtK a b n 4) from by rw [HK.out, HB.out]; simp [hz])
              clear HB HK
              obtain ⟨x0, x1, x2, x3, x4, x5, x6, x7, x8, x9, x10, xf, xl⟩ := (show HO w _ ([] ++ boxO (w.heap.size + 3) [_, _, _, _, _, _, _, _, _, _, _] :: _) from J.out).c11
              obtain ⟨y0, y1, y2, y3, y4, y5, y6, y7, y8, y9, y10, yf, yl⟩ := (show HO w _ ([_, _, _] ++ boxO w.heap.size [_, _, _, _, _, _, _, _, _, _, _] :: _) from J.out).c11
              replace J := Lib.hid ((show HO w _ ([] ++ boxO (w.heap.size + 3) [_, _, _, _, _, _, _, _, _, _, _] :: _) from ((show HO w _ ([] ++ boxO (w.heap.size + 3) [_, _, _, _, _, _, _, _, _, _, _] :: _) from J.out).cell (i := 6) (by simp) (.bool a.is))).cell (i := 7) (by simp) (.slice Ai1 a.ip.length ci1))
              go_wp2_with fail
              go_meet
              case rel => exact ⟨stpS 5 b a s1, L1, Ab, cb, nb, Ao, co, no, Ai1, ci1, a.ip.length, Lib.hid (by rw [HK2.out, HS.out]), Lib.hid (StF.ip (c := b) (p := a) (s := s1) HF.out HG), J⟩
          case rest =>
            clear J HB HK HS HF
            obtain ⟨s1, L1, Ab, cb, nb, Ao, co, no, Ai, ci, ni, HS, HF, J⟩ := hcut
            have HB := Lib.hid (show bitB n 64 = decide (bits .and .i64 n 64 ≠ 0) from rfl)
            obtain ⟨B, hB⟩ : ∃ B, bits .and .i64 n 64 = B := ⟨_, rfl⟩
            rw [hB] at HB
            have HK := Lib.hid (show prtK a b n 6 = if bitB n 64 = true then stpS 6 b a (prtK a b n 5) else prtK a b n 5 from rfl)
            go_upto_if 47 with (fail)
            go_cut [] from 8 (fun wx => ∃ (s1 : St) (L1 : List Bv) (Ab : Option Addr) (cb nb : Nat) (Ao : Option Addr) (co no : Nat) (Ai : Option Addr) (ci ni : Nat), Hid (s1 = prtK a b n 6) ∧ Hid (StF w [] s1 L1 (.slice Ab nb cb) (.slice none 0 0) (.slice Ao no co) (.slice Ai ni ci) (.slice none 0 0)) ∧ Hid (HO w wx [boxO (w.heap.size + 3) (stC s1 (.slice Ab nb cb) (.slice none 0 0) (.slice Ao no co) (.slice Ai ni ci) (.slice none 0 0)), boxO (w.heap.size + 2) [.int .i64 0, .slice none 0 0, .int .i64 0, .int .i64 0, .slice none 0 0, .slice none 0 0, .bool false, .slice none 0 0, .int .i64 0, .int .i64 0, .slice none 0 0], boxO (w.heap.size + 1) [.int .i64 b.set, .slice A2 L.length c2, .int .i64 b.sc, .int .i64 b.tr, .slice Ad2 b.dm.length cd2, .slice Ao2 b.op.length co2, .bool b.is, .slice Ai2 b.ip.length ci2, .int .i64 b.dx, .int .i64 b.dy, .slice Ac2 b.cb.length cc2], boxO w.heap.size [.int .i64 a.set, .slice A1 M.length c1, .int .i64 a.sc, .int .i64 a.tr, .slice Ad1 a.dm.length cd1, .slice Ao1 a.op.length co1, .bool a.is, .slice Ai1 a.ip.length ci1, .int .i64 a.dx, .int .i64 a.dy, .slice Ac1 a.cb.length cc1]]))
            case first =>
              by_cases hz : B = 0
              · subst hz
                have HK2 := Lib.hid (show prtK a b n 6 = prtK a b n 5 from by rw [HK.out, HB.out]; simp)
                clear HB HK
                go_wp2_with fail
                go_meet
                case rel => exact ⟨s1, L1, Ab, cb, nb, Ao, co, no, Ai, ci, ni, Lib.hid (by rw [HK2.out, HS.out]), HF, J⟩
              · have hz2 : (B == 0) = false := by simpa using hz
                have HK2 := Lib.hid (show prtK a b n 6 = stpS 6 b a (prtK a b n 5) from by rw [HK.out, HB.out]; simp [hz])
                clear HB HK
                obtain ⟨x0, x1, x2, x3, x4, x5, x6, x7, x8, x9, x10, xf, xl⟩ := (show HO w _ ([] ++ boxO (w.heap.size + 3) [_, _, _, _, _, _, _, _, _, _, _] :: _) from J.out).c11
                obtain ⟨y0, y1, y2, y3, y4, y5, y6, y7, y8, y9, y10, yf, yl⟩ := (show HO w _ ([_, _, _] ++ boxO w.heap.size [_, _, _, _, _, _, _, _, _, _, _] :: _) from J.out).c11
                replace J := Lib.hid ((show HO w _ ([] ++ boxO (w.heap.size + 3) [_, _, _, _, _, _, _, _, _, _, _] :: _) from ((show HO w _ ([] ++ boxO (w.heap.size + 3) [_, _, _, _, _, _, _, _, _, _, _] :: _) from J.out).cell (i := 8) (by simp) (.int .i64 a.dx))).cell (i := 9) (by simp) (.int .i64 a.dy))
                go_wp2_with fail
                go_meet
                case rel => exact ⟨stpS 6 b a s1, L1, Ab, cb, nb, Ao, co, no, Ai, ci, ni, Lib.hid (by rw [HK2.out, HS.out]), Lib.hid (StF.dd (c := b) (p := a) (s := s1) HF.out HG), J⟩
            case rest =>
              clear J HB HK HS HF
              obtain ⟨s1, L1, Ab, cb, nb, Ao, co, no, Ai, ci, ni, HS, HF, J⟩ := hcut
              obtain ⟨x0, x1, x2, x3, x4, x5, x6, x7, x8, x9, x10, xf, xl⟩ := (show HO w _ ([] ++ boxO (w.heap.size + 3) [_, _, _, _, _, _, _, _, _, _, _] :: _) from J.out).c11
              obtain ⟨y0, y1, y2, y3, y4, y5, y6, y7, y8, y9, y10, yf, yl⟩ := (show HO w _ ([_] ++ boxO (w.heap.size + 2) [_, _, _, _, _, _, _, _, _, _, _] :: _) from J.out).c11
              have J2 := Lib.hid ((show HO w _ ([_] ++ boxO (w.heap.size + 2) [_, _, _, _, _, _, _, _, _, _, _] :: _) from J.out).set11 (.int .i64 s1.set) (.slice Ab nb cb) (.int .i64 s1.sc) (.int .i64 s1.tr) (.slice none 0 0) (.slice Ao no co) (.bool s1.is) (.slice Ai ni ci) (.int .i64 s1.dx) (.int .i64 s1.dy) (.slice none 0 0))
              go_wp2_with fail
              obtain ⟨t0, t1, t2, t3, t4, t5, t6, t7, t8, t9, t10, -, -⟩ := (show HO w _ ([_] ++ boxO (w.heap.size + 2) [_, _, _, _, _, _, _, _, _, _, _] :: _) from J2.out).c11
              refine bodyPost_ret (v := stV s1 (.slice Ab nb cb) (.slice none 0 0) (.slice Ao no co) (.slice Ai ni ci) (.slice none 0 0)) (by simp [results, Tryz.results30, go_sem, t0, t1, t2, t3, t4, t5, t6, t7, t8, t9, t10]) rfl ?_
              exact ⟨L1, _, _, _, _, _, by rw [HS.out], by rw [← HS.out]; exact HF.out _ J2.out.below (fun _ h => by simp at h), J2.out.below⟩

end Go.Proofs.YthedglfocjljjaaGreatDoor
