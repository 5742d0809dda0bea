/-
  Over of package pixel and of its reference (from the seat of pixel).
-/
import Derived.Test.YtahhcklkcibgoaaRsca
namespace Go.Proofs.Ytahhcklkcibgoaa
open Go.RowKit

/-- Over's boxes: the two pixels and the result -/
structure HeldOv (w W : World) (s d : Px) : Prop where
  at0 : AtP W w.heap.size s
  at1 : AtP W (w.heap.size + 1) d
  at2 : AtP W (w.heap.size + 1 + 1) zeroPx
  below : Below w.heap.size w W
  there : w.heap.size + 1 + 1 < W.heap.size

theorem HeldOv.step {w W w' : World} {s d : Px} (h : HeldOv w W s d) (hb : Below W.heap.size W w') : HeldOv w w' s d := by
  have ht := h.there
  exact ⟨h.at0.keep hb (by omega), h.at1.keep hb (by omega), h.at2.keep hb ht, Below.next h.below hb, Nat.lt_of_lt_of_le ht hb.size⟩
theorem HeldOv.set0 {w W : World} {s d : Px} (h : HeldOv w W s d) (q : Px) : HeldOv w (setP W w.heap.size q) q d :=
  ⟨h.at0.set q, h.at1.far q (by omega), h.at2.far q (by omega), below_setP h.below (Nat.le_refl _) q, by rw [setP_size]; exact h.there⟩
theorem HeldOv.set1 {w W : World} {s d : Px} (h : HeldOv w W s d) (q : Px) : HeldOv w (setP W (w.heap.size + 1) q) s q :=
  ⟨h.at0.far q (by omega), h.at1.set q, h.at2.far q (by omega), below_setP h.below (by omega) q, by rw [setP_size]; exact h.there⟩
theorem HeldOv.new (w : World) (s d : Px) : HeldOv w (((w.alloc (.cells #[.int .u8 (s.r : Int), .int .u8 (s.g : Int), .int .u8 (s.b : Int), .int .u8 (s.a : Int)] 30)).alloc (.cells #[.int .u8 (d.r : Int), .int .u8 (d.g : Int), .int .u8 (d.b : Int), .int .u8 (d.a : Int)] 30)).alloc (.cells #[.int .u8 (zeroPx.r : Int), .int .u8 (zeroPx.g : Int), .int .u8 (zeroPx.b : Int), .int .u8 (zeroPx.a : Int)] 30)) s d := by
  refine ⟨((Four.new w _ _ _ _ _).alloc (by simp) _).alloc (by simp; omega) _, ?_, ?_, (((Below.refl _ _).alloc (Nat.le_refl _) _).alloc (by simp) _).alloc (by simp; omega) _, by simp⟩
  · have := Four.new (w.alloc (.cells #[.int .u8 (s.r : Int), .int .u8 (s.g : Int), .int .u8 (s.b : Int), .int .u8 (s.a : Int)] 30)) (.int .u8 (d.r : Int)) (.int .u8 (d.g : Int)) (.int .u8 (d.b : Int)) (.int .u8 (d.a : Int)) 30
    rw [World.size_alloc] at this
    exact this.alloc (by simp) _
  · have := Four.new ((w.alloc (.cells #[.int .u8 (s.r : Int), .int .u8 (s.g : Int), .int .u8 (s.b : Int), .int .u8 (s.a : Int)] 30)).alloc (.cells #[.int .u8 (d.r : Int), .int .u8 (d.g : Int), .int .u8 (d.b : Int), .int .u8 (d.a : Int)] 30)) (.int .u8 (zeroPx.r : Int)) (.int .u8 (zeroPx.g : Int)) (.int .u8 (zeroPx.b : Int)) (.int .u8 (zeroPx.a : Int)) 30
    rwa [World.size_alloc, World.size_alloc] at this

set_option maxRecDepth 100000 in
set_option maxHeartbeats 4000000 in
theorem over_any {s d : Px} (hs : Byt s) (hd : Byt d) (w : World) : Calls Try.prog 73 #[.agg #[.int .u8 (s.r : Int), .int .u8 (s.g : Int), .int .u8 (s.b : Int), .int .u8 (s.a : Int)], .agg #[.int .u8 (d.r : Int), .int .u8 (d.g : Int), .int .u8 (d.b : Int), .int .u8 (d.a : Int)]] w (GivesP (overP s d) w) := by
  have C1 := fun W => Lib.hid (clamp_any s W)
  have hk : 255 - s.a < 256 := by omega
  have C2 := fun W => Lib.hid (scale_any hd hk W)
  have J : Hid (HeldOv w (((w.alloc (.cells #[.int .u8 (s.r : Int), .int .u8 (s.g : Int), .int .u8 (s.b : Int), .int .u8 (s.a : Int)] 30)).alloc (.cells #[.int .u8 (d.r : Int), .int .u8 (d.g : Int), .int .u8 (d.b : Int), .int .u8 (d.a : Int)] 30)).alloc (.cells #[.int .u8 0, .int .u8 0, .int .u8 0, .int .u8 0] 30)) s d) := Lib.hid (HeldOv.new w s d)
  obtain ⟨b0, b1, b2, b3⟩ := over_byt hs hd
  have e0 : (((clampP s).r : Nat) : Int) + ((scalP d (255 - s.a)).r : Nat) = ((overP s d).r : Nat) := rfl
  have e1 : (((clampP s).g : Nat) : Int) + ((scalP d (255 - s.a)).g : Nat) = ((overP s d).g : Nat) := rfl
  have e2 : (((clampP s).b : Nat) : Int) + ((scalP d (255 - s.a)).b : Nat) = ((overP s d).b : Nat) := rfl
  have e3 : (((clampP s).a : Nat) : Int) + ((scalP d (255 - s.a)).a : Nat) = ((overP s d).a : Nat) := rfl
  have hka : (255 : Int) - ((clampP s).a : Nat) = ((255 - s.a : Nat) : Int) := by
    have := hs.2.2.2
    rw [clamp_a]
    omega
  generalize overP s d = o at *
  generalize scalP d (255 - s.a) = t at *
  generalize 255 - s.a = k at *
  generalize clampP s = q at *
  unfold GivesP
  clear hs hd
  go_enter Try.func73, Try.ntmps73
  go_wp2_with fail
  refine (C1 _).out.mono ?_
  rintro e w1 ⟨rfl, hb⟩
  replace J := Lib.hid (J.out.step hb)
  have J2 := Lib.hid (J.out.set0 q)
  obtain ⟨a0, a1, a2, a3, af⟩ := J.out.at0
  obtain ⟨c0, c1, c2, c3, cf⟩ := J.out.at1
  clear hb
  go_wp2_with fail
  change Calls _ _ _ (setP w1 w.heap.size q) _
  clear a0 a1 a2 a3 af c0 c1 c2 c3 cf J C1
  generalize setP w1 w.heap.size q = w4 at *
  refine (C2 _).out.mono ?_
  rintro e w5 ⟨rfl, hb⟩
  replace J2 := Lib.hid (J2.out.step hb)
  have J3 := Lib.hid (J2.out.set1 t)
  obtain ⟨c0, c1, c2, c3, cf⟩ := J2.out.at1
  obtain ⟨a0, a1, a2, a3, af⟩ := J2.out.at0
  obtain ⟨u0, u1, u2, u3, uf⟩ := J2.out.at2
  have K := Lib.hid (below_setP (k := w.heap.size + 1 + 1) J3.out.below (by omega) o)
  clear hb C2 J2 J3
  go_wp2_with fail
  exact bodyPost_ret (v := .agg #[.int .u8 (o.r : Int), .int .u8 (o.g : Int), .int .u8 (o.b : Int), .int .u8 (o.a : Int)]) (by simp [results, Try.results73, go_sem, u0, u1, u2, u3]) rfl ⟨rfl, K.out⟩

set_option maxRecDepth 100000 in
set_option maxHeartbeats 4000000 in
theorem rover_any {s d : Px} (hs : Byt s) (hd : Byt d) (w : World) : Calls Try.prog 72 #[.agg #[.int .u8 (s.r : Int), .int .u8 (s.g : Int), .int .u8 (s.b : Int), .int .u8 (s.a : Int)], .agg #[.int .u8 (d.r : Int), .int .u8 (d.g : Int), .int .u8 (d.b : Int), .int .u8 (d.a : Int)]] w (GivesP (overP s d) w) := by
  have C1 := fun W => Lib.hid (rclamp_any s W)
  have hk : 255 - s.a < 256 := by omega
  have C2 := fun W => Lib.hid (rscale_any hd hk W)
  have J : Hid (HeldOv w (((w.alloc (.cells #[.int .u8 (s.r : Int), .int .u8 (s.g : Int), .int .u8 (s.b : Int), .int .u8 (s.a : Int)] 30)).alloc (.cells #[.int .u8 (d.r : Int), .int .u8 (d.g : Int), .int .u8 (d.b : Int), .int .u8 (d.a : Int)] 30)).alloc (.cells #[.int .u8 0, .int .u8 0, .int .u8 0, .int .u8 0] 30)) s d) := Lib.hid (HeldOv.new w s d)
  obtain ⟨b0, b1, b2, b3⟩ := over_byt hs hd
  have e0 : (((clampP s).r : Nat) : Int) + ((scalP d (255 - s.a)).r : Nat) = ((overP s d).r : Nat) := rfl
  have e1 : (((clampP s).g : Nat) : Int) + ((scalP d (255 - s.a)).g : Nat) = ((overP s d).g : Nat) := rfl
  have e2 : (((clampP s).b : Nat) : Int) + ((scalP d (255 - s.a)).b : Nat) = ((overP s d).b : Nat) := rfl
  have e3 : (((clampP s).a : Nat) : Int) + ((scalP d (255 - s.a)).a : Nat) = ((overP s d).a : Nat) := rfl
  have hka : (255 : Int) - ((clampP s).a : Nat) = ((255 - s.a : Nat) : Int) := by
    have := hs.2.2.2
    rw [clamp_a]
    omega
  generalize overP s d = o at *
  generalize scalP d (255 - s.a) = t at *
  generalize 255 - s.a = k at *
  generalize clampP s = q at *
  unfold GivesP
  clear hs hd
  go_enter Try.func72, Try.ntmps72
  go_wp2_with fail
  refine (C1 _).out.mono ?_
  rintro e w1 ⟨rfl, hb⟩
  replace J := Lib.hid (J.out.step hb)
  have J2 := Lib.hid (J.out.set0 q)
  obtain ⟨a0, a1, a2, a3, af⟩ := J.out.at0
  obtain ⟨c0, c1, c2, c3, cf⟩ := J.out.at1
  clear hb
  go_wp2_with fail
  change Calls _ _ _ (setP w1 w.heap.size q) _
  clear a0 a1 a2 a3 af c0 c1 c2 c3 cf J C1
  generalize setP w1 w.heap.size q = w4 at *
  refine (C2 _).out.mono ?_
  rintro e w5 ⟨rfl, hb⟩
  replace J2 := Lib.hid (J2.out.step hb)
  have J3 := Lib.hid (J2.out.set1 t)
  obtain ⟨c0, c1, c2, c3, cf⟩ := J2.out.at1
  obtain ⟨a0, a1, a2, a3, af⟩ := J2.out.at0
  obtain ⟨u0, u1, u2, u3, uf⟩ := J2.out.at2
  have K := Lib.hid (below_setP (k := w.heap.size + 1 + 1) J3.out.below (by omega) o)
  clear hb C2 J2 J3
  go_wp2_with fail
  exact bodyPost_ret (v := .agg #[.int .u8 (o.r : Int), .int .u8 (o.g : Int), .int .u8 (o.b : Int), .int .u8 (o.a : Int)]) (by simp [results, Try.results72, go_sem, u0, u1, u2, u3]) rfl ⟨rfl, K.out⟩

end Go.Proofs.Ytahhcklkcibgoaa
