/-
  decodePixel of package buffer; what Decode gives.
-/
import Derived.Test.YtahhcklkcibgoaaDec
namespace Go.Proofs.Ytahhcklkcibgoaa
open Go.RowKit Mem

/-- the pixel whose four bytes begin at k -/
def rawP (f : Int) (bs : List UInt8) (k : Nat) : Px := ⟨(bs.getD (k + 2) 0).toNat, (bs.getD (k + 1) 0).toNat, (bs.getD k 0).toNat, if f = 2 then 255 else (bs.getD (k + 3) 0).toNat⟩
def decP (f : Int) (bs : List UInt8) (k : Nat) : Px := clampP (rawP f bs k)
def decL (f : Int) (a b st : Nat) (bs : List UInt8) : List Px := tabL (a * b) (fun k => decP f bs (k / a * st + 4 * (k % a)))
theorem dec_len (f : Int) (a b st : Nat) (bs : List UInt8) : (decL f a b st bs).length = a * b := tab_len _ _

theorem dec_next {f : Int} {a b st x y : Nat} {bs : List UInt8} (hx : x < a) (hy : y < b) : (decL f a b st bs).take (y * a + x + 1) = (decL f a b st bs).take (y * a + x) ++ [decP f bs (y * st + 4 * x)] := by
  have hk := idx_lt hx hy
  rw [take_next (by rw [dec_len]; exact hk)]
  unfold decL
  rw [tab_getD _ _ hk, idx_mod hx, idx_div hx]

theorem byte_lt (x : UInt8) : x.toNat < 256 := x.toNat_lt

/-- the boxes of a result's pixel and of a pixel -/
theorem heldP1 (w : World) : Held w (w.alloc (.cells #[.int .u8 0, .int .u8 0, .int .u8 0, .int .u8 0] 30)) [(w.heap.size, [.int .u8 0, .int .u8 0, .int .u8 0, .int .u8 0])] := (Held.nil w).alloc [.int .u8 0, .int .u8 0, .int .u8 0, .int .u8 0] 30


set_option maxRecDepth 100000 in
set_option maxHeartbeats 4000000 in
theorem decpx_any {f : Int} (hf : f = 1 ∨ f = 2) {w : World} {bb off n c : Nat} {q : Px} (h4 : 4 ≤ n) (hb : bb < w.heap.size) (q0 : w.cell? ⟨bb, off, none⟩ = some (.int .u8 (q.b : Int))) (q1 : w.cell? ⟨bb, off + 1, none⟩ = some (.int .u8 (q.g : Int))) (q2 : w.cell? ⟨bb, off + 2, none⟩ = some (.int .u8 (q.r : Int))) (q3 : w.cell? ⟨bb, off + 3, none⟩ = some (.int .u8 (q.a : Int))) :
    Calls Try.prog 47 #[.int .i64 f, .slice (some ⟨bb, off, none⟩) n c] w (GivesP (clampP (if f = 2 then ⟨q.r, q.g, q.b, 255⟩ else q)) w) := by
  have J := Lib.hid (heldP1 w)
  have n4 : (4 : Int) ≤ n := by omega
  have n0 : (0 : Int) < n := by omega
  have m0 : 0 < n := by omega
  have n1 : (1 : Int) < n := by omega
  have n2 : (2 : Int) < n := by omega
  have n3 : (3 : Int) < n := by omega
  have hbe := And.intro q0 (And.intro q1 (And.intro q2 q3))
  have HQ := fun W (hB : Below w.heap.size w W) => Lib.hid (show W.cell? ⟨bb, off, none⟩ = some (.int .u8 (q.b : Int)) ∧ W.cell? ⟨bb, off + 1, none⟩ = some (.int .u8 (q.g : Int)) ∧ W.cell? ⟨bb, off + 2, none⟩ = some (.int .u8 (q.r : Int)) ∧ W.cell? ⟨bb, off + 3, none⟩ = some (.int .u8 (q.a : Int)) from
    ⟨(hB.cell (p := ⟨bb, off, none⟩) hb).trans q0, (hB.cell (p := ⟨bb, off + 1, none⟩) hb).trans q1, (hB.cell (p := ⟨bb, off + 2, none⟩) hb).trans q2, (hB.cell (p := ⟨bb, off + 3, none⟩) hb).trans q3⟩)
  have C1 := fun p W => Lib.hid (clamp_any p W)
  clear q0 q1 q2 q3 hbe
  unfold GivesP
  rcases hf with rfl | rfl
  · simp only [show ¬ ((1 : Int) = 2) by decide, if_false]
    have C2 := C1 q
    clear C1
    generalize clampP q = o at *
    go_enter Try.func47, Try.ntmps47
    go_wp2_with fail
    generalize w.alloc (.cells #[.int .u8 0, .int .u8 0, .int .u8 0, .int .u8 0] 30) = W1 at *
    have sk := (HQ _ J.out.drew.below).out
    have sa := (HQ _ (J.out.made (.cells #[.int .u8 0, .int .u8 0, .int .u8 0, .int .u8 0] 30)).drew.below).out
    have ss := (HQ _ (J.out.made (.cells #[.int .u8 (q.r : Int), .int .u8 (q.g : Int), .int .u8 (q.b : Int), .int .u8 (q.a : Int)] 30)).drew.below).out
    have hbw : bb < W1.heap.size := Nat.lt_of_lt_of_le hb J.out.below.size
    go_region_held3 (fun W => W.cell? ⟨bb, off, none⟩ = some (.int .u8 (q.b : Int)) ∧ W.cell? ⟨bb, off + 1, none⟩ = some (.int .u8 (q.g : Int)) ∧ W.cell? ⟨bb, off + 2, none⟩ = some (.int .u8 (q.r : Int)) ∧ W.cell? ⟨bb, off + 3, none⟩ = some (.int .u8 (q.a : Int)))
      (first
        | with_reducible exact sk
        | with_reducible exact sa
        | with_reducible exact ss
        | go_keep)
      (fail)
    all_goals
      clear sk sa ss
      go_wp2_with fail
      refine (C2 _).out.mono ?_
      rintro e w4 ⟨rfl, hb4⟩
      have J6 := Lib.hid ((J.out.made (.cells #[.int .u8 (q.r : Int), .int .u8 (q.g : Int), .int .u8 (q.b : Int), .int .u8 (q.a : Int)] 30)).drew.step hb4)
      obtain ⟨z0, z1, z2, z3, zf, zt⟩ := J6.out.four (l1 := [])
      have K := Lib.hid (below_set4 (x0 := .int .u8 (o.r : Int)) (x1 := .int .u8 (o.g : Int)) (x2 := .int .u8 (o.b : Int)) (x3 := .int .u8 (o.a : Int)) J6.out.below (Nat.le_refl w.heap.size))
      go_wp2_with fail
      exact bodyPost_ret (v := .agg #[.int .u8 (o.r : Int), .int .u8 (o.g : Int), .int .u8 (o.b : Int), .int .u8 (o.a : Int)]) (by simp [results, Try.results47, go_sem, z0, z1, z2, z3]) rfl ⟨rfl, K.out⟩
  · simp only [if_true]
    have C2 := C1 ⟨q.r, q.g, q.b, 255⟩
    clear C1
    generalize clampP ⟨q.r, q.g, q.b, 255⟩ = o at *
    go_enter Try.func47, Try.ntmps47
    go_wp2_with fail
    generalize w.alloc (.cells #[.int .u8 0, .int .u8 0, .int .u8 0, .int .u8 0] 30) = W1 at *
    have sk := (HQ _ J.out.drew.below).out
    have sa := (HQ _ (J.out.made (.cells #[.int .u8 0, .int .u8 0, .int .u8 0, .int .u8 0] 30)).drew.below).out
    have ss := (HQ _ (J.out.made (.cells #[.int .u8 (q.r : Int), .int .u8 (q.g : Int), .int .u8 (q.b : Int), .int .u8 (q.a : Int)] 30)).drew.below).out
    have hbw : bb < W1.heap.size := Nat.lt_of_lt_of_le hb J.out.below.size
    go_region_held3 (fun W => W.cell? ⟨bb, off, none⟩ = some (.int .u8 (q.b : Int)) ∧ W.cell? ⟨bb, off + 1, none⟩ = some (.int .u8 (q.g : Int)) ∧ W.cell? ⟨bb, off + 2, none⟩ = some (.int .u8 (q.r : Int)) ∧ W.cell? ⟨bb, off + 3, none⟩ = some (.int .u8 (q.a : Int)))
      (first
        | with_reducible exact sk
        | with_reducible exact sa
        | with_reducible exact ss
        | go_keep)
      (fail)
    all_goals
      clear sk sa ss
      go_wp2_with fail
      refine (C2 _).out.mono ?_
      rintro e w4 ⟨rfl, hb4⟩
      have J6 : Hid (Held w w4 [(w.heap.size, [.int .u8 0, .int .u8 0, .int .u8 0, .int .u8 0])]) := by
        first
          | exact Lib.hid ((Held.tail ((J.out.alloc [.int .u8 (q.r : Int), .int .u8 (q.g : Int), .int .u8 (q.b : Int), .int .u8 (q.a : Int)] 30).drew.cell (l1 := []) (i := 3) (by simp) (.int .u8 255))).step hb4)
          | exact Lib.hid ((J.out.made (.cells #[.int .u8 (q.r : Int), .int .u8 (q.g : Int), .int .u8 (q.b : Int), .int .u8 255] 30)).drew.step hb4)
      obtain ⟨z0, z1, z2, z3, zf, zt⟩ := J6.out.four (l1 := [])
      have K := Lib.hid (below_set4 (x0 := .int .u8 (o.r : Int)) (x1 := .int .u8 (o.g : Int)) (x2 := .int .u8 (o.b : Int)) (x3 := .int .u8 (o.a : Int)) J6.out.below (Nat.le_refl w.heap.size))
      go_wp2_with fail
      exact bodyPost_ret (v := .agg #[.int .u8 (o.r : Int), .int .u8 (o.g : Int), .int .u8 (o.b : Int), .int .u8 (o.a : Int)]) (by simp [results, Try.results47, go_sem, z0, z1, z2, z3]) rfl ⟨rfl, K.out⟩

end Go.Proofs.Ytahhcklkcibgoaa
