/-
  The closures that Nearest and Box of package scale give to scaled.
-/
import Derived.Test.YtnkbejbpkjkgeaaSpn
namespace Go.Proofs.Ytnkbejbpkjkgeaa
open Go.RowKit

/-- what the closures read: the boxes of a buffer and of a size, and the buffer's pixels -/
structure Reads (w : World) (kb kh kw a b p q : Nat) (v : Value) (l : List Px) : Prop where
  b0 : w.cell? ⟨kb, 0, none⟩ = some (.int .i64 (a : Int))
  b1 : w.cell? ⟨kb, 1, none⟩ = some (.int .i64 (b : Int))
  b2 : w.cell? ⟨kb, 2, none⟩ = some v
  h0 : w.cell? ⟨kh, 0, none⟩ = some (.int .i64 (q : Int))
  w0 : w.cell? ⟨kw, 0, none⟩ = some (.int .i64 (p : Int))
  tb : kb < w.heap.size
  th : kh < w.heap.size
  tw : kw < w.heap.size
  px : Pxs w v l

theorem Reads.step {w w' : World} {kb kh kw a b p q : Nat} {v : Value} {l : List Px} (h : Reads w kb kh kw a b p q v l) (hb : Below w.heap.size w w') : Reads w' kb kh kw a b p q v l :=
  ⟨(hb.cell (p := ⟨kb, 0, none⟩) h.tb).trans h.b0, (hb.cell (p := ⟨kb, 1, none⟩) h.tb).trans h.b1, (hb.cell (p := ⟨kb, 2, none⟩) h.tb).trans h.b2,
    (hb.cell (p := ⟨kh, 0, none⟩) h.th).trans h.h0, (hb.cell (p := ⟨kw, 0, none⟩) h.tw).trans h.w0,
    Nat.lt_of_lt_of_le h.tb hb.size, Nat.lt_of_lt_of_le h.th hb.size, Nat.lt_of_lt_of_le h.tw hb.size, h.px.below hb⟩

set_option maxRecDepth 100000 in
set_option maxHeartbeats 4000000 in
theorem near1_any {kb kh kw a b p q x y : Nat} {v : Value} {l : List Px} {w : World} (h : Reads w kb kh kw a b p q v l) (hv : Vld a b l) (hx : x < p) (hy : y < q) (hp : p ≤ 256) (hq : q ≤ 256) : Calls Try.prog 33 #[.int .i64 (x : Int), .int .i64 (y : Int), .pointer (some ⟨kb, 0, none⟩), .pointer (some ⟨kh, 0, none⟩), .pointer (some ⟨kw, 0, none⟩)] w (GivesP (l.getD (nrsI y b q * a + nrsI x a p) zeroPx) w) := by
  have J := Lib.hid ((Held.nil w).alloc [.int .u8 0, .int .u8 0, .int .u8 0, .int .u8 0] 43)
  have HR := Lib.hid h
  obtain ⟨A, c, rfl, hc1, hc2, hcell⟩ := h.px
  obtain ⟨h0, h6⟩ := hv.small
  obtain ⟨bb, off, rfl, hbb, hcs⟩ := hcell h0
  have C1 := fun W => Lib.hid (center_any (x := y) (n := b) (m := q) hy hv.b1 hv.b2 hq W)
  have C2 := fun W => Lib.hid (center_any (x := x) (n := a) (m := p) hx hv.a1 hv.a2 hp W)
  have hry := near_lt hy hv.b1
  have hrx := near_lt hx hv.a1
  have hK := idx_lt hrx hry
  have hab := mul_small hv.a2 hv.b2
  rw [← hv.len] at hK
  have ha2 := hv.a2
  generalize nrsI y b q = ry at *
  generalize nrsI x a p = rx at *
  obtain ⟨K, hKK⟩ : ∃ K, ry * a + rx = K := ⟨_, rfl⟩
  obtain ⟨Mi, hMi⟩ : ∃ Mi : Int, ((ry * a : Nat) : Int) = Mi := ⟨_, rfl⟩
  rw [hKK] at hK ⊢
  have M1 := Lib.hid (show IntKind.i64.wrap ((ry : Int) * (a : Int)) = Mi ∧ wrap64 ((ry : Int) * (a : Int)) = Mi ∧ IntKind.i64.wrap (Mi + (rx : Int)) = (K : Int) ∧ wrap64 (Mi + (rx : Int)) = (K : Int) from by
    rw [← Int.natCast_mul, hMi]
    refine ⟨IntWalk.i64_in _ (by omega), IntWalk.wrap64_in _ (by omega), ?_, ?_⟩
    · rw [IntWalk.i64_in _ (by omega)]; omega
    · rw [IntWalk.wrap64_in _ (by omega)]; omega)
  obtain ⟨px, hpx⟩ : ∃ px, l[K]? = some px := ⟨_, List.getElem?_eq_getElem hK⟩
  rw [getD_of hpx]
  have cB := Lib.hid (hcs K px hpx)
  have k0 : (0 : Int) ≤ K := by omega
  have kn : (K : Int) < l.length := by omega
  generalize l.length = n at *
  have sk : ∀ o : Obj, (((w.alloc o).drew.cell? ⟨kb, 0, none⟩ = some (.int .i64 (a : Int)) ∧ (w.alloc o).drew.cell? ⟨kb, 1, none⟩ = some (.int .i64 (b : Int)) ∧ (w.alloc o).drew.cell? ⟨kb, 2, none⟩ = some (.slice (some ⟨bb, off, none⟩) n c)) ∧ ((w.alloc o).drew.cell? ⟨kh, 0, none⟩ = some (.int .i64 (q : Int)) ∧ (w.alloc o).drew.cell? ⟨kw, 0, none⟩ = some (.int .i64 (p : Int))) ∧ At4 (w.alloc o).drew bb off K px) := fun o => by
    have R := HR.out.step ((Held.nil w).made o).drew.below
    exact ⟨⟨R.b0, R.b1, R.b2⟩, ⟨R.h0, R.w0⟩, cB.out.keep ((Held.nil w).made o).drew.below hbb⟩
  have t1 := HR.out.tb
  have t2 := HR.out.th
  have t3 := HR.out.tw
  have t4 := hbb
  unfold GivesP
  clear hcell hcs hpx hKK hMi hry hrx hK h0 h6 hab hv HR h hc2 hx hy
  obtain ⟨f1, f2, f3, f4⟩ := M1.out
  go_enter Try.func33, Try.ntmps33
  go_wp2_with fail
  unfold At4 at sk
  have sk0 := sk (.cells #[.int .u8 0, .int .u8 0, .int .u8 0, .int .u8 0] 43)
  go_region_held3 (fun W => (W.cell? ⟨kb, 0, none⟩ = some (.int .i64 (a : Int)) ∧ W.cell? ⟨kb, 1, none⟩ = some (.int .i64 (b : Int)) ∧ W.cell? ⟨kb, 2, none⟩ = some (.slice (some ⟨bb, off, none⟩) n c)) ∧ (W.cell? ⟨kh, 0, none⟩ = some (.int .i64 (q : Int)) ∧ W.cell? ⟨kw, 0, none⟩ = some (.int .i64 (p : Int))) ∧ (W.cell? ⟨bb, off + K * 4, none⟩ = some (.int .u8 (px.r : Int)) ∧ W.cell? ⟨bb, off + K * 4 + 1, none⟩ = some (.int .u8 (px.g : Int)) ∧ W.cell? ⟨bb, off + K * 4 + 2, none⟩ = some (.int .u8 (px.b : Int)) ∧ W.cell? ⟨bb, off + K * 4 + 3, none⟩ = some (.int .u8 (px.a : Int))))
    (first
      | go_keep
      | exact sk _)
    (first
      | (go_at_call 34; (with_reducible refine (C1 _).out.mono ?_); rintro e wq ⟨rfl, rfl⟩)
      | (go_at_call 34; (with_reducible refine (C2 _).out.mono ?_); rintro e wq ⟨rfl, rfl⟩)
      | fail)
  all_goals
    go_wp2_with fail
    exact bodyPost_ret (v := .agg #[.int .u8 (px.r : Int), .int .u8 (px.g : Int), .int .u8 (px.b : Int), .int .u8 (px.a : Int)]) (by simp [results, Try.results33, go_sem]) rfl ⟨rfl, ((Held.nil w).alloc [.int .u8 (px.r : Int), .int .u8 (px.g : Int), .int .u8 (px.b : Int), .int .u8 (px.a : Int)] 43).drew.below⟩

end Go.Proofs.Ytnkbejbpkjkgeaa
