/-
  Package state: Merge.
-/
import Derived.Test.YthedglfocjljjaaGreatDoorScb
import Derived.Test.YthedglfocjljjaaGreatDoorScn
import Derived.Test.YthedglfocjljjaaGreatDoorSuz
namespace Go.Proofs.YthedglfocjljjaaGreatDoor
open Go.RowKit

def stpS (k : Nat) (c p s : St) : St := match k with
  | 0 => { s with bf := p.bf }
  | 1 => { s with sc := p.sc }
  | 2 => { s with tr := p.tr }
  | 3 => { s with dm := p.dm }
  | 4 => { s with op := p.op }
  | 5 => { s with is := p.is, ip := p.ip }
  | 6 => { s with dx := p.dx, dy := p.dy }
  | _ => { s with cb := c.cb ++ p.cb }
def mrgK (c p : St) : Nat → St
  | 0 => { c with set := 0, dm := [] }
  | k + 1 => if bitB p.set (2 ^ k : Nat) = true then stpS k c p (mrgK c p k) else mrgK c p k
def mrgS (c p : St) : St := mrgK c p 8
def mrgR (c p : St) : St × Int := if chkS (mrgS c p) = 0 then (mrgS c p, 0) else (zeroS, chkS (mrgS c p))

set_option maxRecDepth 100000 in
theorem clo70 {w : World} {P O : Nat} {A : Option Addr} {n c : Nat} (h : w.cell? ⟨P, 1, none⟩ = some (.slice A n c)) (g : ∃ u, w.cell? ⟨O, 1, none⟩ = some u) (hf : ∀ i, w.frozen? ⟨O, i, none⟩ = false) :
    Calls Tryz.prog 70 #[.pointer (some ⟨P, 0, none⟩), .pointer (some ⟨O, 0, none⟩)] w fun e w' => e = .returned (.tuple #[]) ∧ w' = w.setCell ⟨O, 1, none⟩ (.slice A n c) := by
  obtain ⟨u, g⟩ := g
  go_enter Tryz.func70, Tryz.ntmps70
  go_wp2_with fail
  exact bodyPost_end (v := .tuple #[]) (by simp [results, Tryz.results70, go_sem]) rfl ⟨rfl, rfl⟩
set_option maxRecDepth 100000 in
theorem clo71 {w : World} {P O : Nat} {x : Int} (h : w.cell? ⟨P, 2, none⟩ = some (.int .i64 x)) (g : ∃ u, w.cell? ⟨O, 2, none⟩ = some u) (hf : ∀ i, w.frozen? ⟨O, i, none⟩ = false) :
    Calls Tryz.prog 71 #[.pointer (some ⟨P, 0, none⟩), .pointer (some ⟨O, 0, none⟩)] w fun e w' => e = .returned (.tuple #[]) ∧ w' = w.setCell ⟨O, 2, none⟩ (.int .i64 x) := by
  obtain ⟨u, g⟩ := g
  go_enter Tryz.func71, Tryz.ntmps71
  go_wp2_with fail
  exact bodyPost_end (v := .tuple #[]) (by simp [results, Tryz.results71, go_sem]) rfl ⟨rfl, rfl⟩
set_option maxRecDepth 100000 in
theorem clo72 {w : World} {P O : Nat} {x : Int} (h : w.cell? ⟨P, 3, none⟩ = some (.int .i64 x)) (g : ∃ u, w.cell? ⟨O, 3, none⟩ = some u) (hf : ∀ i, w.frozen? ⟨O, i, none⟩ = false) :
    Calls Tryz.prog 72 #[.pointer (some ⟨P, 0, none⟩), .pointer (some ⟨O, 0, none⟩)] w fun e w' => e = .returned (.tuple #[]) ∧ w' = w.setCell ⟨O, 3, none⟩ (.int .i64 x) := by
  obtain ⟨u, g⟩ := g
  go_enter Tryz.func72, Tryz.ntmps72
  go_wp2_with fail
  exact bodyPost_end (v := .tuple #[]) (by simp [results, Tryz.results72, go_sem]) rfl ⟨rfl, rfl⟩
set_option maxRecDepth 100000 in
theorem clo73 {w : World} {P O : Nat} {A : Option Addr} {n c : Nat} (h : w.cell? ⟨P, 4, none⟩ = some (.slice A n c)) (g : ∃ u, w.cell? ⟨O, 4, none⟩ = some u) (hf : ∀ i, w.frozen? ⟨O, i, none⟩ = false) :
    Calls Tryz.prog 73 #[.pointer (some ⟨P, 0, none⟩), .pointer (some ⟨O, 0, none⟩)] w fun e w' => e = .returned (.tuple #[]) ∧ w' = w.setCell ⟨O, 4, none⟩ (.slice A n c) := by
  obtain ⟨u, g⟩ := g
  go_enter Tryz.func73, Tryz.ntmps73
  go_wp2_with fail
  exact bodyPost_end (v := .tuple #[]) (by simp [results, Tryz.results73, go_sem]) rfl ⟨rfl, rfl⟩
set_option maxRecDepth 100000 in
theorem clo74 {w : World} {P O : Nat} {A : Option Addr} {n c : Nat} (h : w.cell? ⟨P, 5, none⟩ = some (.slice A n c)) (g : ∃ u, w.cell? ⟨O, 5, none⟩ = some u) (hf : ∀ i, w.frozen? ⟨O, i, none⟩ = false) :
    Calls Tryz.prog 74 #[.pointer (some ⟨P, 0, none⟩), .pointer (some ⟨O, 0, none⟩)] w fun e w' => e = .returned (.tuple #[]) ∧ w' = w.setCell ⟨O, 5, none⟩ (.slice A n c) := by
  obtain ⟨u, g⟩ := g
  go_enter Tryz.func74, Tryz.ntmps74
  go_wp2_with fail
  exact bodyPost_end (v := .tuple #[]) (by simp [results, Tryz.results74, go_sem]) rfl ⟨rfl, rfl⟩
set_option maxRecDepth 100000 in
theorem clo75 {w : World} {P O : Nat} {b : Bool} {A : Option Addr} {n c : Nat} (h : w.cell? ⟨P, 6, none⟩ = some (.bool b)) (h2 : w.cell? ⟨P, 7, none⟩ = some (.slice A n c)) (g : (∃ u, w.cell? ⟨O, 6, none⟩ = some u) ∧ ∃ u, w.cell? ⟨O, 7, none⟩ = some u) (hf : ∀ i, w.frozen? ⟨O, i, none⟩ = false) :
    Calls Tryz.prog 75 #[.pointer (some ⟨P, 0, none⟩), .pointer (some ⟨O, 0, none⟩)] w fun e w' => e = .returned (.tuple #[]) ∧ w' = (w.setCell ⟨O, 6, none⟩ (.bool b)).setCell ⟨O, 7, none⟩ (.slice A n c) := by
  obtain ⟨⟨u, g⟩, ⟨u2, g2⟩⟩ := g
  go_enter Tryz.func75, Tryz.ntmps75
  go_wp2_with fail
  exact bodyPost_end (v := .tuple #[]) (by simp [results, Tryz.results75, go_sem]) rfl ⟨rfl, rfl⟩
set_option maxRecDepth 100000 in
theorem clo76 {w : World} {P O : Nat} {x y : Int} (h : w.cell? ⟨P, 8, none⟩ = some (.int .i64 x)) (h2 : w.cell? ⟨P, 9, none⟩ = some (.int .i64 y)) (g : (∃ u, w.cell? ⟨O, 8, none⟩ = some u) ∧ ∃ u, w.cell? ⟨O, 9, none⟩ = some u) (hf : ∀ i, w.frozen? ⟨O, i, none⟩ = false) :
    Calls Tryz.prog 76 #[.pointer (some ⟨P, 0, none⟩), .pointer (some ⟨O, 0, none⟩)] w fun e w' => e = .returned (.tuple #[]) ∧ w' = (w.setCell ⟨O, 8, none⟩ (.int .i64 x)).setCell ⟨O, 9, none⟩ (.int .i64 y) := by
  obtain ⟨⟨u, g⟩, ⟨u2, g2⟩⟩ := g
  go_enter Tryz.func76, Tryz.ntmps76
  go_wp2_with fail
  exact bodyPost_end (v := .tuple #[]) (by simp [results, Tryz.results76, go_sem]) rfl ⟨rfl, rfl⟩
theorem sn_twoc (w : World) (x y : Value) (e : TypeId) : Sn (w.alloc (.cells #[x, y] e)) 1 (.slice (some ⟨w.heap.size, 0, none⟩) 2 2) 2 [x, y] := by
  refine ⟨_, 2, rfl, Nat.le_refl _, by simp [maxLen], rfl, fun _ => ⟨w.heap.size, 0, rfl, by simp, fun j u hj => ?_⟩⟩
  rw [World.cell?_alloc_at _ _ _ _ rfl]
  simpa using hj
set_option maxRecDepth 100000 in
set_option maxHeartbeats 2000000 in
theorem clo77 {w : World} {C P O : Nat} {Aa Ab : Option Addr} {ca cb : Nat} {la lb : List Nat} (_ : C < w.heap.size) (_ : P < w.heap.size) (hO : O < w.heap.size) (h : w.cell? ⟨C, 10, none⟩ = some (.slice Aa la.length ca)) (h2 : w.cell? ⟨P, 10, none⟩ = some (.slice Ab lb.length cb)) (ha : Sn w 1 (.slice Aa la.length ca) la.length (uL la)) (hb : Sn w 1 (.slice Ab lb.length cb) lb.length (uL lb)) (hla : la.length ≤ 2000) (hlb : lb.length ≤ 2000) (g : ∃ u, w.cell? ⟨O, 10, none⟩ = some u) (hf : ∀ i, w.frozen? ⟨O, i, none⟩ = false) :
    Calls Tryz.prog 77 #[.pointer (some ⟨C, 0, none⟩), .pointer (some ⟨P, 0, none⟩), .pointer (some ⟨O, 0, none⟩)] w fun e w' => ∃ A c W, e = .returned (.tuple #[]) ∧ Below w.heap.size w W ∧ W.ownsRow w.heap.size 50 1 (.slice A (la ++ lb).length c) (la ++ lb).length (uL (la ++ lb)) ∧ w' = W.setCell ⟨O, 10, none⟩ (.slice A (la ++ lb).length c) := by
  obtain ⟨u, g⟩ := g
  have hB : Below w.heap.size w (w.alloc (.cells #[.slice Aa la.length ca, .slice Ab lb.length cb] 26)) := (Below.refl _ w).alloc (Nat.le_refl _) _
  have CC := Lib.hid (concat_any (sn_twoc w (.slice Aa la.length ca) (.slice Ab lb.length cb) 26) (ha.below hB) (hb.below hB) hla hlb)
  have HB := Lib.hid hB
  have HG := Lib.hid (And.intro g hf)
  clear ha hb hB
  generalize la.length = na at *
  generalize lb.length = nb at *
  generalize (la ++ lb).length = nt at *
  generalize uL (la ++ lb) = ut at *
  clear g hf
  go_enter Tryz.func77, Tryz.ntmps77
  go_wp2_with fail
  refine CC.out.mono ?_
  rintro e w2 ⟨A, c, rfl, ho, hb⟩
  have HO2 := Lib.hid (ownO_mono ho (HB.out.size))
  have HB2 := Lib.hid (Below.next HB.out hb)
  clear ho hb CC h h2
  have g2 := (HB2.out.cell (p := ⟨O, 10, none⟩) hO).trans HG.out.1
  have hf2 : ∀ i, w2.frozen? ⟨O, i, none⟩ = false := fun i => (HB2.out.frozen (p := ⟨O, i, none⟩) hO).trans (HG.out.2 i)
  go_wp2_with fail
  exact bodyPost_end (v := .tuple #[]) (by simp [results, Tryz.results77, go_sem]) rfl ⟨A, c, w2, rfl, HB2.out, HO2.out, rfl⟩

end Go.Proofs.YthedglfocjljjaaGreatDoor
