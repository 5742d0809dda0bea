/-
  The functions that Diff and OpaqueRegion give to runs: contracts over the boxes that they read.
-/
import Derived.Test.YtahhcklkcibgoaaEq
namespace Go.Proofs.Ytahhcklkcibgoaa
open Go.RowKit

def diffB (l m : List Px) (i : Nat) : Bool := !decide (l.getD i zeroPx = m.getD i zeroPx)
def opqB (l : List Px) (i : Nat) : Bool := decide ((l.getD i zeroPx).a = 255)

set_option maxRecDepth 100000 in
set_option maxHeartbeats 4000000 in
theorem diff1_any {k1 k2 i : Nat} {v1 v2 : Value} {l m : List Px} {w : World} (h1 : Pxs w v1 l) (h2 : Pxs w v2 m)
    (x2 : w.cell? ⟨k1, 2, none⟩ = some v1)
    (y2 : w.cell? ⟨k2, 2, none⟩ = some v2) (hi : i < l.length) (hj : i < m.length) :
    Calls Try.prog 58 #[.int .i64 (i : Int), .pointer (some ⟨k1, 0, none⟩), .pointer (some ⟨k2, 0, none⟩)] w fun e w' => e = .returned (.bool (diffB l m i)) ∧ Below w.heap.size w w' := by
  obtain ⟨A, c1, rfl, hc, hm, hcell⟩ := h1
  obtain ⟨A', c2, rfl, hc', hm', hcell'⟩ := h2
  obtain ⟨b1, o1, rfl, hb1, hcs⟩ := hcell (by omega)
  obtain ⟨b2, o2, rfl, hb2, hcs'⟩ := hcell' (by omega)
  obtain ⟨t0, t1, t2, t3⟩ := hcs i _ (get_of hi)
  obtain ⟨s0, s1, s2, s3⟩ := hcs' i _ (get_of hj)
  obtain ⟨res, hres⟩ : ∃ res, diffB l m i = res := ⟨_, rfl⟩
  have E1 := fun W => neq_px (l.getD i zeroPx) (m.getD i zeroPx) W
  rw [same_dec, show (!decide (l.getD i zeroPx = m.getD i zeroPx)) = res from hres] at E1
  rw [hres]
  simp only [maxLen] at hm hm'
  have q0 : (0 : Int) ≤ i := by omega
  have q1 : (i : Int) < l.length := by omega
  have q2 : (i : Int) < m.length := by omega
  generalize l.getD i zeroPx = x at *
  generalize m.getD i zeroPx = y at *
  generalize l.length = n1 at *
  generalize m.length = n2 at *
  clear hcs hcs' hcell hcell' hres
  go_enter Try.func58, Try.ntmps58
  go_wp2_with fail
  go_quiet (fail)
  go_wp2_with fail
  go_ret
  exact ⟨rfl, below_draws (Below.refl _ _) _⟩

set_option maxRecDepth 100000 in
set_option maxHeartbeats 4000000 in
theorem opq1_any {k1 i : Nat} {v1 : Value} {l : List Px} {w : World} (h1 : Pxs w v1 l)
    (x2 : w.cell? ⟨k1, 2, none⟩ = some v1) (hi : i < l.length) :
    Calls Try.prog 60 #[.int .i64 (i : Int), .pointer (some ⟨k1, 0, none⟩)] w fun e w' => e = .returned (.bool (opqB l i)) ∧ Below w.heap.size w w' := by
  obtain ⟨A, c1, rfl, hc, hm, hcell⟩ := h1
  obtain ⟨b1, o1, rfl, hb1, hcs⟩ := hcell (by omega)
  obtain ⟨t0, t1, t2, t3⟩ := hcs i _ (get_of hi)
  have C := fun W => Lib.hid (opaque_any (l.getD i zeroPx) W)
  obtain ⟨res, hres⟩ : ∃ res, decide ((l.getD i zeroPx).a = 255) = res := ⟨_, rfl⟩
  rw [show opqB l i = res from hres]
  rw [hres] at C
  simp only [maxLen] at hm
  have q0 : (0 : Int) ≤ i := by omega
  have q1 : (i : Int) < l.length := by omega
  generalize l.getD i zeroPx = x at *
  generalize l.length = n1 at *
  clear hcs hcell hres
  go_enter Try.func60, Try.ntmps60
  go_wp2_with fail
  refine (C _).out.mono ?_
  rintro e w1 ⟨rfl, hb⟩
  go_wp2_with fail
  go_ret
  exact ⟨rfl, hb⟩

end Go.Proofs.Ytahhcklkcibgoaa
