/-
  New of package buffer and of the reference.
-/
import Derived.Test.YtahhcklkcibgoaaMul
namespace Go.Proofs.Ytahhcklkcibgoaa
open Go.RowKit

/-- the boxes of a pixel and of a result -/
theorem heldN (w : World) (p : Px) : Held w ((w.alloc (.cells #[.int .u8 (p.r : Int), .int .u8 (p.g : Int), .int .u8 (p.b : Int), .int .u8 (p.a : Int)] 30)).alloc (.cells #[.int .i64 0, .int .i64 0, .slice none 0 0] 24)) [(w.heap.size + 1, [.int .i64 0, .int .i64 0, .slice none 0 0]), (w.heap.size, [.int .u8 (p.r : Int), .int .u8 (p.g : Int), .int .u8 (p.b : Int), .int .u8 (p.a : Int)])] := by
  have h := ((Held.nil w).alloc [.int .u8 (p.r : Int), .int .u8 (p.g : Int), .int .u8 (p.b : Int), .int .u8 (p.a : Int)] 30).alloc [.int .i64 0, .int .i64 0, .slice none 0 0] 24
  rw [World.size_alloc] at h
  exact h


set_option maxRecDepth 100000 in
set_option maxHeartbeats 4000000 in
theorem new_size {a b : Int} (p : Px) (w : World) (h : sizB a b = false) : Calls Try.prog 21 #[.int .i64 a, .int .i64 b, .agg #[.int .u8 (p.r : Int), .int .u8 (p.g : Int), .int .u8 (p.b : Int), .int .u8 (p.a : Int)]] w (Outs 0 0 [] 6 w) := by
  have C1 := fun W => Lib.hid (vsize_any a b W)
  rw [h] at C1
  have J := Lib.hid (heldN w p)
  unfold Outs
  clear h
  have K := Lib.hid (below_set3 (y0 := .int .i64 0) (y1 := .int .i64 0) (y2 := .slice none 0 0) J.out.below (Nat.le_succ w.heap.size))
  go_enter Try.func21, Try.ntmps21
  go_wp2_with (go_at_call 39; (with_reducible refine (C1 _).out.mono ?_); rintro e wq ⟨rfl, rfl⟩)
  exact bodyPost_ret (v := .tuple #[.agg #[.int .i64 0, .int .i64 0, .slice none 0 0], .int .i64 6]) (by simp [results, Try.results21, go_sem]) rfl ⟨_, rfl, .inl ⟨rfl, rfl⟩, by first | exact K.out | exact J.out.below⟩

set_option maxRecDepth 100000 in
set_option maxHeartbeats 4000000 in
theorem new_px {a b : Int} (p : Px) (w : World) (h : sizB a b = true) (h2 : okPx p = false) : Calls Try.prog 21 #[.int .i64 a, .int .i64 b, .agg #[.int .u8 (p.r : Int), .int .u8 (p.g : Int), .int .u8 (p.b : Int), .int .u8 (p.a : Int)]] w (Outs 0 0 [] 15 w) := by
  have C1 := fun W => Lib.hid (vsize_any a b W)
  rw [h] at C1
  have C2 := fun W => Lib.hid (okpx_any p W)
  rw [h2] at C2
  have J := Lib.hid (heldN w p)
  unfold Outs
  clear h h2
  go_enter Try.func21, Try.ntmps21
  go_wp2_with fail
  refine (C1 _).out.mono ?_
  rintro e wq ⟨rfl, rfl⟩
  go_wp2_with fail
  refine (C2 _).out.mono ?_
  rintro e w1 ⟨rfl, hb⟩
  replace J := Lib.hid (J.out.step hb)
  clear hb
  obtain ⟨z0, z1, z2, zf, zt⟩ := J.out.tri (l1 := [])
  have K := Lib.hid (below_set3 (y0 := .int .i64 0) (y1 := .int .i64 0) (y2 := .slice none 0 0) J.out.below (Nat.le_succ w.heap.size))
  clear J
  go_wp2_with fail
  exact bodyPost_ret (v := .tuple #[.agg #[.int .i64 0, .int .i64 0, .slice none 0 0], .int .i64 15]) (by simp [results, Try.results21, go_sem, z0, z1, z2]) rfl ⟨_, rfl, .inl ⟨rfl, rfl⟩, K.out⟩

set_option maxRecDepth 100000 in
set_option maxHeartbeats 4000000 in
theorem rnew_size {a b : Int} (p : Px) (w : World) (h : sizB a b = false) : Calls Try.prog 22 #[.int .i64 a, .int .i64 b, .agg #[.int .u8 (p.r : Int), .int .u8 (p.g : Int), .int .u8 (p.b : Int), .int .u8 (p.a : Int)]] w (Outs 0 0 [] 6 w) := by
  have C1 := fun W => Lib.hid (rsize_any a b W)
  rw [h] at C1
  have J := Lib.hid (heldN w p)
  unfold Outs
  clear h
  have K := Lib.hid (below_set3 (y0 := .int .i64 0) (y1 := .int .i64 0) (y2 := .slice none 0 0) J.out.below (Nat.le_succ w.heap.size))
  go_enter Try.func22, Try.ntmps22
  go_wp2_with (go_at_call 41; (with_reducible refine (C1 _).out.mono ?_); rintro e wq ⟨rfl, rfl⟩)
  exact bodyPost_ret (v := .tuple #[.agg #[.int .i64 0, .int .i64 0, .slice none 0 0], .int .i64 6]) (by simp [results, Try.results22, go_sem]) rfl ⟨_, rfl, .inl ⟨rfl, rfl⟩, by first | exact K.out | exact J.out.below⟩

set_option maxRecDepth 100000 in
set_option maxHeartbeats 4000000 in
theorem rnew_px {a b : Int} (p : Px) (w : World) (h : sizB a b = true) (h2 : okPx p = false) : Calls Try.prog 22 #[.int .i64 a, .int .i64 b, .agg #[.int .u8 (p.r : Int), .int .u8 (p.g : Int), .int .u8 (p.b : Int), .int .u8 (p.a : Int)]] w (Outs 0 0 [] 15 w) := by
  have C1 := fun W => Lib.hid (rsize_any a b W)
  rw [h] at C1
  have C2 := fun W => Lib.hid (rokpx_any p W)
  rw [h2] at C2
  have J := Lib.hid (heldN w p)
  unfold Outs
  clear h h2
  go_enter Try.func22, Try.ntmps22
  go_wp2_with fail
  refine (C1 _).out.mono ?_
  rintro e wq ⟨rfl, rfl⟩
  go_wp2_with fail
  refine (C2 _).out.mono ?_
  rintro e w1 ⟨rfl, hb⟩
  replace J := Lib.hid (J.out.step hb)
  clear hb
  obtain ⟨z0, z1, z2, zf, zt⟩ := J.out.tri (l1 := [])
  have K := Lib.hid (below_set3 (y0 := .int .i64 0) (y1 := .int .i64 0) (y2 := .slice none 0 0) J.out.below (Nat.le_succ w.heap.size))
  clear J
  go_wp2_with fail
  exact bodyPost_ret (v := .tuple #[.agg #[.int .i64 0, .int .i64 0, .slice none 0 0], .int .i64 15]) (by simp [results, Try.results22, go_sem, z0, z1, z2]) rfl ⟨_, rfl, .inl ⟨rfl, rfl⟩, K.out⟩


theorem siz_nat {a b : Int} (h : sizB a b = true) : ∃ A B : Nat, a = A ∧ b = B ∧ 1 ≤ A ∧ A ≤ 256 ∧ 1 ≤ B ∧ B ≤ 256 := by
  obtain ⟨h0, h1⟩ := siz_iff.1 h
  exact ⟨a.toNat, b.toNat, by omega, by omega, by omega, by omega, by omega, by omega⟩

theorem prod_wrap {a b M : Nat} (h : a * b = M) (hb : M ≤ 65536) : wrap64 ((a : Int) * (b : Int)) = (M : Int) := by
  have e : (a : Int) * (b : Int) = ((M : Nat) : Int) := by rw [← h, Int.natCast_mul]
  rw [e]
  exact IntWalk.wrap64_in _ (by omega)

set_option maxRecDepth 100000 in
set_option maxHeartbeats 4000000 in
theorem new_good {a b : Nat} (ha : 1 ≤ a ∧ a ≤ 256) (hb : 1 ≤ b ∧ b ≤ 256) (p : Px) (w : World) (h2 : okPx p = true) : Calls Try.prog 21 #[.int .i64 (a : Int), .int .i64 (b : Int), .agg #[.int .u8 (p.r : Int), .int .u8 (p.g : Int), .int .u8 (p.b : Int), .int .u8 (p.a : Int)]] w (Outs a b (List.replicate (a * b) p) 0 w) := by
  have C1 := fun W => Lib.hid (vsize_any (a : Int) (b : Int) W)
  rw [siz_iff.2 ⟨by omega, by omega⟩] at C1
  have C2 := fun W => Lib.hid (okpx_any p W)
  rw [h2] at C2
  have J := Lib.hid (heldN w p)
  have hm := mul_small ha.2 hb.2
  have hm1 := Nat.mul_le_mul ha.1 hb.1
  unfold Outs
  obtain ⟨M, hM⟩ : ∃ M, a * b = M := ⟨_, rfl⟩
  have HMW := Lib.hid (prod_wrap hM (by omega))
  rw [hM] at hm hm1 ⊢
  clear h2 hM
  go_enter Try.func21, Try.ntmps21
  go_wp2_with fail
  refine (C1 _).out.mono ?_
  rintro e wq ⟨rfl, rfl⟩
  go_wp2_with fail
  refine (C2 _).out.mono ?_
  rintro e w1 ⟨rfl, hb⟩
  replace J := Lib.hid (J.out.step hb)
  clear hb
  obtain ⟨p0, p1, p2, p3, _, _⟩ := J.out.four (l1 := [_])
  have hkt := (J.out.tri (l1 := [])).2.2.2.2
  have J5 := Lib.hid (J.out.made (.cells #[.int .u8 (p.r : Int), .int .u8 (p.g : Int), .int .u8 (p.b : Int), .int .u8 (p.a : Int)] 30))
  have hp4 := Lib.hid (show At4 (w1.alloc (.cells #[.int .u8 (p.r : Int), .int .u8 (p.g : Int), .int .u8 (p.b : Int), .int .u8 (p.a : Int)] 30)) w1.heap.size 0 0 p by unfold At4; simp [go_sem])
  have hmw := HMW.out
  go_wp2_with fail
  clear hmw p0 p1 p2 p3
  refine (repeat_any (by omega) hm (by rw [World.size_alloc]; exact Nat.lt_succ_self _) hp4.out (Nat.le_refl 1)).mono ?_
  rintro e w6 ⟨u, rfl, hrow, hb6⟩
  have J6 := Lib.hid (J5.out.step hb6)
  obtain ⟨g, c6, rfl, h1, h2, h3, h4⟩ := hrow
  rw [List.length_replicate] at h1 ⊢
  rw [World.size_alloc] at h3
  have hgk : g ≠ w.heap.size + 1 := by omega
  have hge : w.heap.size ≤ g := by omega
  have Q := Lib.hid (h4.far hgk (.int .i64 (a : Int)) (.int .i64 (b : Int)) (.slice (some ⟨g, 0, none⟩) M c6))
  have K := Lib.hid (below_set3 (y0 := .int .i64 (a : Int)) (y1 := .int .i64 (b : Int)) (y2 := .slice (some ⟨g, 0, none⟩) M c6) J6.out.below (Nat.le_succ w.heap.size))
  obtain ⟨z0, z1, z2, zf, zt⟩ := J6.out.tri (l1 := [])
  clear h4 hb6 J5 J
  go_wp2_with fail
  exact bodyPost_ret (v := .tuple #[.agg #[.int .i64 (a : Int), .int .i64 (b : Int), .slice (some ⟨g, 0, none⟩) M c6], .int .i64 0]) (by simp [results, Try.results21, go_sem, z0, z1, z2]) rfl ⟨_, rfl, .inr ⟨g, c6, by rw [List.length_replicate], by rw [List.length_replicate]; exact h1, h2, hge, Q.out⟩, K.out⟩

set_option maxRecDepth 100000 in
set_option maxHeartbeats 4000000 in
theorem rnew_good {a b : Nat} (ha : 1 ≤ a ∧ a ≤ 256) (hb : 1 ≤ b ∧ b ≤ 256) (p : Px) (w : World) (h2 : okPx p = true) : Calls Try.prog 22 #[.int .i64 (a : Int), .int .i64 (b : Int), .agg #[.int .u8 (p.r : Int), .int .u8 (p.g : Int), .int .u8 (p.b : Int), .int .u8 (p.a : Int)]] w (Outs a b (List.replicate (a * b) p) 0 w) := by
  have C1 := fun W => Lib.hid (rsize_any (a : Int) (b : Int) W)
  rw [siz_iff.2 ⟨by omega, by omega⟩] at C1
  have C2 := fun W => Lib.hid (rokpx_any p W)
  rw [h2] at C2
  have J := Lib.hid (heldN w p)
  have hm := mul_small ha.2 hb.2
  have hm1 := Nat.mul_le_mul ha.1 hb.1
  unfold Outs
  obtain ⟨M, hM⟩ : ∃ M, a * b = M := ⟨_, rfl⟩
  have HMW := Lib.hid (prod_wrap hM (by omega))
  rw [hM] at hm hm1 ⊢
  clear h2 hM
  go_enter Try.func22, Try.ntmps22
  go_wp2_with fail
  refine (C1 _).out.mono ?_
  rintro e wq ⟨rfl, rfl⟩
  go_wp2_with fail
  refine (C2 _).out.mono ?_
  rintro e w1 ⟨rfl, hb⟩
  replace J := Lib.hid (J.out.step hb)
  clear hb
  go_wp2_with fail
  have hkm := (J.out.tri (l1 := [])).2.2.2.2
  have hwb := J.out.below.size
  have G : Hid (OwnP (w1.alloc (.cells #[.int .i64 (a : Int), .int .i64 (b : Int), .slice none 0 0] 24)) (w1.heap.size + 1) (.slice none 0 0) (List.replicate 0 p) ∧ Held w (w1.alloc (.cells #[.int .i64 (a : Int), .int .i64 (b : Int), .slice none 0 0] 24)) ((w1.heap.size, [.int .i64 (a : Int), .int .i64 (b : Int), .slice none 0 0]) :: [(w.heap.size + 1, [.int .i64 0, .int .i64 0, .slice none 0 0]), (w.heap.size, [.int .u8 (p.r : Int), .int .u8 (p.g : Int), .int .u8 (p.b : Int), .int .u8 (p.a : Int)])])) := Lib.hid ⟨ownP_nil _ _, J.out.alloc [.int .i64 (a : Int), .int .i64 (b : Int), .slice none 0 0] 24⟩
  generalize w1.alloc (.cells #[.int .i64 (a : Int), .int .i64 (b : Int), .slice none 0 0] 24) = w3 at *
  generalize w1.heap.size = mm at *
  have HLT : ∀ vs : List Value, Hid (∀ q ∈ ((mm, vs) :: [(w.heap.size + 1, [.int .i64 0, .int .i64 0, .slice none 0 0]), (w.heap.size, [.int .u8 (p.r : Int), .int .u8 (p.g : Int), .int .u8 (p.b : Int), .int .u8 (p.a : Int)])] : List (Nat × List Value)), q.1 < mm + 1) := fun vs => Lib.hid (fun p hp => by
    simp only [List.mem_cons, List.not_mem_nil, or_false] at hp
    rcases hp with rfl | rfl | rfl
    · simp
    · simp only; omega
    · simp only; omega)
  clear J C1 C2
  go_loopw [9] (fun s9 wr => ∃ (k : Nat) (A1 : Option Addr) (c1 : Nat), k ≤ M ∧ s9 = .int .i64 (k : Int) ∧ Hid (OwnP wr (mm + 1) (.slice A1 k c1) (List.replicate k p) ∧ Held w wr ((mm, [.int .i64 (a : Int), .int .i64 (b : Int), .slice A1 k c1]) :: [(w.heap.size + 1, [.int .i64 0, .int .i64 0, .slice none 0 0]), (w.heap.size, [.int .u8 (p.r : Int), .int .u8 (p.g : Int), .int .u8 (p.b : Int), .int .u8 (p.a : Int)])]))) (fun s9 _ => leftN M s9)
  case atStart => exact ⟨0, none, 0, Nat.zero_le _, rfl, G⟩
  case round =>
    obtain ⟨k, A1, c1, hk, rfl, HR⟩ := hrel
    obtain ⟨m0, m1, m2, _, mt⟩ := HR.out.2.tri (l1 := [])
    obtain ⟨p0, p1, p2, p3, _, pt⟩ := HR.out.2.four (l1 := [_, _])
    by_cases hlt : k < M
    · have q1 : (k : Int) < M := by omega
      have hlen := Lib.hid (show (List.replicate k p).length + [p].length ≤ 4000000 by simp; omega)
      have hbz := HR.out.2.below.size
      have hmw := HMW.out
      go_wp2_with (at_builtin; refine wpList_appP rfl _ _ rfl (base := mm + 1) (l := List.replicate k p) (m := [p]) rfl (HR.out.1.alloc _) rfl (pxs_one wr p) hlen.out (by rw [World.size_alloc]; omega) ?_; intro v6 w6 ho6 hg6 _; have J6 := Lib.hid ((HR.out.2.made _).grownO hg6 (HR.out.1.alloc _) (by omega) (HLT _).out); obtain ⟨A6, c6, rfl, _, _⟩ := ho6.pxs.shape; rw [List.length_append, List.length_singleton, List.length_replicate, ← List.replicate_succ'] at ho6; have O6 := Lib.hid ho6; obtain ⟨z0, z1, z2, zf, zt⟩ := J6.out.tri (l1 := []); clear ho6 hg6)
      have Z := Lib.hid (And.intro (O6.out.cell (k := mm) (Nat.lt_succ_self mm) 2 (.slice A6 (k + 1) c6)) (J6.out.cell (l1 := []) (i := 2) (by simp) (.slice A6 (k + 1) c6)))
      clear hmw z0 z1 z2 zf zt m0 m1 m2 mt p0 p1 p2 p3 pt J6 O6
      go_roundw
      case rel => exact ⟨k + 1, A6, c6, by omega, by go_num, Z⟩
      case measure =>
        unfold leftN
        simp [intOf]
        omega
    · obtain rfl : M = k := by omega
      have q1 : ¬ (M : Int) < M := by omega
      have Q := Lib.hid ((HR.out.1.set3 (k := w.heap.size + 1) (by omega) (.int .i64 (a : Int)) (.int .i64 (b : Int)) (.slice A1 M c1)).res (w := w) (by omega) (by rw [List.length_replicate]; omega))
      have K := Lib.hid (below_set3 (y0 := .int .i64 (a : Int)) (y1 := .int .i64 (b : Int)) (y2 := .slice A1 M c1) HR.out.2.below (Nat.le_succ w.heap.size))
      obtain ⟨z0, z1, z2, zf, zt⟩ := HR.out.2.tri (l1 := [_])
      have hmw := HMW.out
      clear HR p0 p1 p2 p3 pt
      go_wp2_with fail
      exact bodyPost_ret (v := .tuple #[.agg #[.int .i64 (a : Int), .int .i64 (b : Int), .slice A1 M c1], .int .i64 0]) (by simp [results, Try.results22, go_sem, z0, z1, z2]) rfl ⟨_, rfl, Q.out, K.out⟩

end Go.Proofs.Ytahhcklkcibgoaa
