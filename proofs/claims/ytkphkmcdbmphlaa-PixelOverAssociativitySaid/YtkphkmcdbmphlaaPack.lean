/-
  Pack and Unpack of package pixel and of its reference.
-/
import Derived.Test.YtkphkmcdbmphlaaScal
import Derived.Laws.BitsAllLaws
namespace Go.Proofs.Ytkphkmcdbmphlaa
open Go.RowKit

/-- the four bytes of a number, joined -/
theorem or_pack {p : Px} (h : Byt p) : bits .or .u32 (bits .or .u32 (bits .or .u32 ((p.a : Int) * 16777216) ((p.r : Int) * 65536)) ((p.g : Int) * 256)) (p.b : Int) = ((packV p : Nat) : Int) := by
  obtain ⟨h0, h1, h2, h3⟩ := h
  have c3 : (p.a : Int) * 16777216 = ((p.a * 16777216 : Nat) : Int) := by omega
  have c0 : (p.r : Int) * 65536 = ((p.r * 65536 : Nat) : Int) := by omega
  have c1 : (p.g : Int) * 256 = ((p.g * 256 : Nat) : Int) := by omega
  rw [c3, c0, c1, u32_or_nat _ _ (by omega) (by omega), nat_join 24 _ _ (by omega) (by omega), u32_or_nat _ _ (by omega) (by omega), nat_join 16 _ _ (by omega) (by omega), u32_or_nat _ _ (by omega) (by omega), nat_join 8 _ _ (by omega) (by omega)]
  rfl

/-- one box of a pixel -/
structure HeldB (w W : World) (p : Px) : Prop where
  at0 : AtP W w.heap.size p
  below : Below w.heap.size w W
  there : w.heap.size < W.heap.size
theorem HeldB.step {w W w' : World} {p : Px} (h : HeldB w W p) (hb : Below W.heap.size W w') : HeldB w w' p :=
  ⟨h.at0.keep hb h.there, Below.next h.below hb, Nat.lt_of_lt_of_le h.there hb.size⟩
theorem HeldB.set {w W : World} {p : Px} (h : HeldB w W p) (q : Px) : HeldB w (setP W w.heap.size q) q :=
  ⟨h.at0.set q, below_setP h.below (Nat.le_refl _) q, by rw [setP_size]; exact h.there⟩
theorem HeldB.new (w : World) (p : Px) : HeldB w (w.alloc (.cells #[.int .u8 (p.r : Int), .int .u8 (p.g : Int), .int .u8 (p.b : Int), .int .u8 (p.a : Int)] 23)) p :=
  ⟨Four.new w _ _ _ _ _, (Below.refl _ _).alloc (Nat.le_refl _) _, by simp⟩

set_option maxRecDepth 100000 in
set_option maxHeartbeats 4000000 in
theorem pack_any {p : Px} (hp : Byt p) (w : World) : Calls Try.prog 15 #[.agg #[.int .u8 (p.r : Int), .int .u8 (p.g : Int), .int .u8 (p.b : Int), .int .u8 (p.a : Int)]] w fun e w' => e = .returned (.int .u32 ((packP p : Nat) : Int)) ∧ Below w.heap.size w w' := by
  have C1 := fun W => Lib.hid (clamp_any p W)
  have J : Hid (HeldB w (w.alloc (.cells #[.int .u8 (p.r : Int), .int .u8 (p.g : Int), .int .u8 (p.b : Int), .int .u8 (p.a : Int)] 23)) p) := Lib.hid (HeldB.new w p)
  unfold packP
  have ho := or_pack (clamp_byt hp)
  obtain ⟨h0, h1, h2, h3⟩ := clamp_byt hp
  generalize clampP p = q at *
  generalize packV q = v at *
  clear hp
  go_enter Try.func15, Try.ntmps15
  go_wp2_with fail
  refine (C1 _).out.mono ?_
  rintro e w1 ⟨rfl, hb⟩
  replace J := Lib.hid (J.out.step hb)
  have K := Lib.hid (J.out.set q).below
  obtain ⟨a0, a1, a2, a3, af⟩ := J.out.at0
  clear hb
  go_wp2_with fail
  go_ret
  exact ⟨rfl, K.out⟩

set_option maxRecDepth 100000 in
set_option maxHeartbeats 4000000 in
theorem rpack_any {p : Px} (hp : Byt p) (w : World) : Calls Try.prog 16 #[.agg #[.int .u8 (p.r : Int), .int .u8 (p.g : Int), .int .u8 (p.b : Int), .int .u8 (p.a : Int)]] w fun e w' => e = .returned (.int .u32 ((packP p : Nat) : Int)) ∧ Below w.heap.size w w' := by
  have C1 := fun W => Lib.hid (rclamp_any p W)
  have J : Hid (HeldB w (w.alloc (.cells #[.int .u8 (p.r : Int), .int .u8 (p.g : Int), .int .u8 (p.b : Int), .int .u8 (p.a : Int)] 23)) p) := Lib.hid (HeldB.new w p)
  unfold packP
  have hl := pack_lt (clamp_byt hp)
  obtain ⟨h0, h1, h2, h3⟩ := clamp_byt hp
  have ho : (((((clampP p).a : Nat) : Int) * 256 + ((clampP p).r : Nat)) * 256 + ((clampP p).g : Nat)) * 256 + ((clampP p).b : Nat) = ((packV (clampP p) : Nat) : Int) := by
    unfold packV
    omega
  generalize clampP p = q at *
  generalize packV q = v at *
  clear hp
  go_enter Try.func16, Try.ntmps16
  go_wp2_with fail
  refine (C1 _).out.mono ?_
  rintro e w1 ⟨rfl, hb⟩
  replace J := Lib.hid (J.out.step hb)
  have K := Lib.hid (J.out.set q).below
  obtain ⟨a0, a1, a2, a3, af⟩ := J.out.at0
  clear hb
  go_wp2_with fail
  go_ret
  exact ⟨rfl, K.out⟩

/-- Unpack's box -/
structure HeldU (w W : World) : Prop where
  at0 : AtP W w.heap.size zeroPx
  below : Below w.heap.size w W
  there : w.heap.size < W.heap.size
theorem HeldU.step {w W w' : World} (h : HeldU w W) (hb : Below W.heap.size W w') : HeldU w w' :=
  ⟨h.at0.keep hb h.there, Below.next h.below hb, Nat.lt_of_lt_of_le h.there hb.size⟩
theorem HeldU.new (w : World) : HeldU w (w.alloc (.cells #[.int .u8 (zeroPx.r : Int), .int .u8 (zeroPx.g : Int), .int .u8 (zeroPx.b : Int), .int .u8 (zeroPx.a : Int)] 23)) :=
  ⟨Four.new w _ _ _ _ _, (Below.refl _ _).alloc (Nat.le_refl _) _, by simp⟩

set_option maxRecDepth 100000 in
set_option maxHeartbeats 4000000 in
theorem unpack_any {n : Nat} (hn : n < 4294967296) (w : World) : Calls Try.prog 17 #[.int .u32 (n : Int)] w (GivesP (unpackP n) w) := by
  obtain ⟨u, hu⟩ : ∃ u : Px, (⟨n / 65536 % 256, n / 256 % 256, n % 256, n / 16777216 % 256⟩ : Px) = u := ⟨_, rfl⟩
  have C1 := fun W => Lib.hid (clamp_any u W)
  have J : Hid (HeldU w (w.alloc (.cells #[.int .u8 0, .int .u8 0, .int .u8 0, .int .u8 0] 23))) := Lib.hid (HeldU.new w)
  have e0 : (n : Int) / 65536 % 256 = (u.r : Int) := by rw [← hu]; show _ = ((n / 65536 % 256 : Nat) : Int); omega
  have e1 : (n : Int) / 256 % 256 = (u.g : Int) := by rw [← hu]; show _ = ((n / 256 % 256 : Nat) : Int); omega
  have e2 : (n : Int) % 256 = (u.b : Int) := by rw [← hu]; show _ = ((n % 256 : Nat) : Int); omega
  have e3 : (n : Int) / 16777216 = (u.a : Int) := by rw [← hu]; show _ = ((n / 16777216 % 256 : Nat) : Int); omega
  unfold unpackP
  rw [hu]
  clear hu
  generalize clampP u = q at *
  unfold GivesP
  go_enter Try.func17, Try.ntmps17
  go_wp2_with fail
  refine (C1 _).out.mono ?_
  rintro e w1 ⟨rfl, hb⟩
  replace J := Lib.hid (J.out.step hb)
  obtain ⟨a0, a1, a2, a3, af⟩ := J.out.at0
  clear hb
  go_wp2_with fail
  exact bodyPost_ret (v := .agg #[.int .u8 (q.r : Int), .int .u8 (q.g : Int), .int .u8 (q.b : Int), .int .u8 (q.a : Int)]) (by simp [results, Try.results17, go_sem, a0, a1, a2, a3]) rfl ⟨rfl, below_setP J.out.below (Nat.le_refl _) q⟩

set_option maxRecDepth 100000 in
set_option maxHeartbeats 4000000 in
theorem runpack_any {n : Nat} (hn : n < 4294967296) (w : World) : Calls Try.prog 18 #[.int .u32 (n : Int)] w (GivesP (unpackP n) w) := by
  obtain ⟨u, hu⟩ : ∃ u : Px, (⟨n / 65536 % 256, n / 256 % 256, n % 256, n / 16777216 % 256⟩ : Px) = u := ⟨_, rfl⟩
  have C1 := fun W => Lib.hid (rclamp_any u W)
  have J : Hid (HeldU w (w.alloc (.cells #[.int .u8 0, .int .u8 0, .int .u8 0, .int .u8 0] 23))) := Lib.hid (HeldU.new w)
  have e0 : (n : Int) / 65536 % 256 = (u.r : Int) := by rw [← hu]; show _ = ((n / 65536 % 256 : Nat) : Int); omega
  have e1 : (n : Int) / 256 % 256 = (u.g : Int) := by rw [← hu]; show _ = ((n / 256 % 256 : Nat) : Int); omega
  have e2 : (n : Int) % 256 = (u.b : Int) := by rw [← hu]; show _ = ((n % 256 : Nat) : Int); omega
  have e3 : (n : Int) / 16777216 = (u.a : Int) := by rw [← hu]; show _ = ((n / 16777216 % 256 : Nat) : Int); omega
  unfold unpackP
  rw [hu]
  have h0 : u.r < 256 := by rw [← hu]; exact Nat.mod_lt _ (by decide)
  have h1 : u.g < 256 := by rw [← hu]; exact Nat.mod_lt _ (by decide)
  have h2 : u.b < 256 := by rw [← hu]; exact Nat.mod_lt _ (by decide)
  have h3 : u.a < 256 := by rw [← hu]; exact Nat.mod_lt _ (by decide)
  clear hu
  generalize clampP u = q at *
  unfold GivesP
  go_enter Try.func18, Try.ntmps18
  go_wp2_with fail
  refine (C1 _).out.mono ?_
  rintro e w1 ⟨rfl, hb⟩
  replace J := Lib.hid (J.out.step hb)
  obtain ⟨a0, a1, a2, a3, af⟩ := J.out.at0
  clear hb
  go_wp2_with fail
  exact bodyPost_ret (v := .agg #[.int .u8 (q.r : Int), .int .u8 (q.g : Int), .int .u8 (q.b : Int), .int .u8 (q.a : Int)]) (by simp [results, Try.results18, go_sem, a0, a1, a2, a3]) rfl ⟨rfl, below_setP J.out.below (Nat.le_refl _) q⟩

end Go.Proofs.Ytkphkmcdbmphlaa
