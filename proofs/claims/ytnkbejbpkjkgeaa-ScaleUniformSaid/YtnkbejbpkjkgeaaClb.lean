/-
  The closure that Box of package scale gives to scaled.
-/
import Derived.Test.YtnkbejbpkjkgeaaAver
namespace Go.Proofs.Ytnkbejbpkjkgeaa
open Go.RowKit

set_option maxRecDepth 100000 in
set_option maxHeartbeats 4000000 in
theorem box1_any {kb kh kw a b p q x y : Nat} {v : Value} {l : List Px} {w : World} (h : Reads w kb kh kw a b p q v l) (hv : Vld a b l) (hlb : ∀ z ∈ l, Byt z) (hx : x < p) (hy : y < q) (hp : p ≤ 256) (hq : q ≤ 256) : Calls Try.prog 37 #[.int .i64 (x : Int), .int .i64 (y : Int), .pointer (some ⟨kb, 0, none⟩), .pointer (some ⟨kw, 0, none⟩), .pointer (some ⟨kh, 0, none⟩)] w (GivesP (boxP a b l x y p q) w) := by
  have J := Lib.hid ((Held.nil w).alloc [.int .u8 0, .int .u8 0, .int .u8 0, .int .u8 0] 43)
  have HR := Lib.hid h
  obtain ⟨A, c, rfl, _⟩ := h.px.shape
  have C1 := fun W => Lib.hid (cover_any (x := x) (n := a) (m := p) hx hv.a2 hp W)
  have C2 := fun W => Lib.hid (cover_any (x := y) (n := b) (m := q) hy hv.b2 hq W)
  have C3 := fun W (hb : Below w.heap.size w W) => Lib.hid (average_any (HR.out.px.below hb) hv hlb hx hy hp hq)
  have cA := fun W (hb : Below w.heap.size w W) => Lib.hid (show (W.cell? ⟨kb, 0, none⟩ = some (.int .i64 (a : Int)) ∧ W.cell? ⟨kb, 1, none⟩ = some (.int .i64 (b : Int)) ∧ W.cell? ⟨kb, 2, none⟩ = some (.slice A l.length c)) ∧ (W.cell? ⟨kh, 0, none⟩ = some (.int .i64 (q : Int)) ∧ W.cell? ⟨kw, 0, none⟩ = some (.int .i64 (p : Int))) from by
    have R := HR.out.step hb
    exact ⟨⟨R.b0, R.b1, R.b2⟩, R.h0, R.w0⟩)
  have t1 := HR.out.tb
  have t2 := HR.out.th
  have t3 := HR.out.tw
  unfold GivesP at C3 ⊢
  generalize l.length = n at *
  generalize boxP a b l x y p q = P at *
  generalize x * a = F1 at *
  generalize (x + 1) * a = T1 at *
  generalize y * b = F2 at *
  generalize (y + 1) * b = T2 at *
  clear HR h hv hlb
  go_enter Try.func37, Try.ntmps37
  go_wp2_with fail
  replace J := Lib.hid J.out.drew
  have sk := (cA _ J.out.below).out
  go_region_held3 (fun W => (W.cell? ⟨kb, 0, none⟩ = some (.int .i64 (a : Int)) ∧ W.cell? ⟨kb, 1, none⟩ = some (.int .i64 (b : Int)) ∧ W.cell? ⟨kb, 2, none⟩ = some (.slice A n c)) ∧ (W.cell? ⟨kh, 0, none⟩ = some (.int .i64 (q : Int)) ∧ W.cell? ⟨kw, 0, none⟩ = some (.int .i64 (p : Int))))
    (first
      | exact sk
      | exact sk4
      | go_keep)
    (first
      | (go_at_call 39; (with_reducible refine (C1 _).out.mono ?_); rintro e wq ⟨rfl, hb⟩; replace J := Lib.hid (J.out.step hb); clear hb sk; have sk := (cA _ J.out.below).out)
      | (go_at_call 39; (with_reducible refine (C2 _).out.mono ?_); rintro e wr ⟨rfl, hb⟩; replace J := Lib.hid (J.out.step hb); clear hb sk; have sk := (cA _ J.out.below).out)
      | (go_at_call 38; (with_reducible refine (C3 _ J.out.below).out.mono ?_); rintro e ws ⟨rfl, hb⟩; replace J := Lib.hid (J.out.step hb); clear hb sk; have sk := (cA _ J.out.below).out; obtain ⟨z0, z1, z2, z3, zf, zt⟩ := J.out.four (l1 := []); have K := Lib.hid (J.out.set4 (l1 := []) (.int .u8 (P.r : Int)) (.int .u8 (P.g : Int)) (.int .u8 (P.b : Int)) (.int .u8 (P.a : Int))).below; have sk4 := (cA _ K.out).out; unfold set4 at sk4)
      | fail)
  all_goals
    go_wp2_with fail
    exact bodyPost_ret (v := .agg #[.int .u8 (P.r : Int), .int .u8 (P.g : Int), .int .u8 (P.b : Int), .int .u8 (P.a : Int)]) (by simp [results, Try.results37, go_sem, z0, z1, z2, z3]) rfl ⟨rfl, K.out⟩

end Go.Proofs.Ytnkbejbpkjkgeaa
