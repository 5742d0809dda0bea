/-
  The walk of the law BufferCrop.
-/
import Derived.Test.YtahhcklkcibgoaaLawC
namespace Go.Proofs.Ytahhcklkcibgoaa
open Go.RowKit Mem


/-- the boxes of a buffer and of a rectangle, and the buffer's pixels -/
theorem heldLR (w : World) (a b : Int) (v : Value) (r : R) {l : List Px} (h1 : Pxs w v l) :
    HeldX w ((w.alloc (.cells #[.int .i64 a, .int .i64 b, v] 24)).alloc (.cells #[.int .i64 r.x0, .int .i64 r.y0, .int .i64 r.x1, .int .i64 r.y1] 44)) [(w.heap.size + 1, [.int .i64 r.x0, .int .i64 r.y0, .int .i64 r.x1, .int .i64 r.y1]), (w.heap.size, [.int .i64 a, .int .i64 b, v])] (fun V => Pxs V v l ∧ True) := by
  have h := (((Held.nil w).toX.addP h1).alloc [.int .i64 a, .int .i64 b, v] 24).alloc [.int .i64 r.x0, .int .i64 r.y0, .int .i64 r.x1, .int .i64 r.y1] 44
  rw [World.size_alloc] at h
  exact h

set_option maxRecDepth 100000 in
set_option maxHeartbeats 4000000 in
theorem crop_walk (a b : Int) (r : R) {v : Value} {l : List Px} {w : World} (hv : Pxs w v l) (hlb : ∀ p ∈ l, Byt p) : Calls Try.prog 7 #[.agg #[.int .i64 a, .int .i64 b, v], .agg #[.int .i64 r.x0, .int .i64 r.y0, .int .i64 r.x1, .int .i64 r.y1]] w (Says true w) := by
  have H := Lib.hid hv
  obtain ⟨A, c, rfl, _⟩ := hv.shape
  have J := Lib.hid (heldLR w a b (.slice A l.length c) r hv)
  have C14 := fun W => Lib.hid (example_any W)
  clear hv
  by_cases hs : l.length ≤ 400
  · have C13 := fun W => Lib.hid (few_any hs a b A c W)
    obtain ⟨oa, ob, er, O, h1, h2, h3⟩ := both_crop a b r hlb
    have C27 := fun W (hb : Below w.heap.size w W) => Lib.hid (h1 W _ (H.out.below hb))
    have C28 := fun W (hb : Below w.heap.size w W) => Lib.hid (h2 W _ (H.out.below hb))
    have HE := Lib.hid h3
    have HB := Lib.hid hlb
    obtain ⟨n, hn⟩ : ∃ n, l.length = n := ⟨_, rfl⟩
    rw [hn] at H J C13 C27 C28 ⊢
    clear h1 h2 h3 hs hlb hn
    go_enter Try.func7, Try.ntmps7
    go_wp2_with fail
    refine (C13 _).out.mono ?_
    rintro e wq ⟨rfl, hb⟩
    replace J := Lib.hid (J.out.step hb)
    clear hb
    obtain ⟨r0, r1, r2, r3, _, rt⟩ := J.out.held.four (l1 := [])
    obtain ⟨b0, b1, b2, _, bt⟩ := J.out.held.tri (l1 := [_])
    go_wp2_with fail
    clear r0 r1 r2 r3 rt b0 b1 b2 bt
    refine (C27 _ J.out.below).out.mono ?_
    rintro e w1 ⟨A1, n1, c1, rfl, hp, hb⟩
    replace J := Lib.hid ((J.out.step hb).addP hp)
    clear hb hp C27
    obtain ⟨r0, r1, r2, r3, _, rt⟩ := J.out.held.four (l1 := [])
    obtain ⟨b0, b1, b2, _, bt⟩ := J.out.held.tri (l1 := [_])
    go_wp2_with fail
    clear r0 r1 r2 r3 rt b0 b1 b2 bt
    replace J := Lib.hid (J.out.alloc [.int .i64 oa, .int .i64 ob, .slice A1 n1 c1] 24)
    generalize w1.alloc (.cells #[.int .i64 oa, .int .i64 ob, .slice A1 n1 c1] 24) = u1 at *
    generalize w1.heap.size = k1 at *
    refine (C28 _ J.out.below).out.mono ?_
    rintro e w2 ⟨A2, n2, c2, rfl, hp, hb⟩
    replace J := Lib.hid ((J.out.step hb).addP hp)
    clear hb hp C28
    obtain ⟨z0, z1, z2, _, zt⟩ := J.out.held.tri (l1 := [])
    go_wp2_with fail
    clear z0 z1 z2 zt
    replace J := Lib.hid (J.out.alloc [.int .i64 oa, .int .i64 ob, .slice A2 n2 c2] 24)
    generalize w2.alloc (.cells #[.int .i64 oa, .int .i64 ob, .slice A2 n2 c2] 24) = u2 at *
    generalize w2.heap.size = k2 at *
    refine (Lib.hid (equal_self (oa := oa) (ob := ob) J.out.fact.2.1 J.out.fact.1)).out.mono ?_
    rintro e wq ⟨rfl, hb⟩
    replace J := Lib.hid (J.out.step hb)
    clear hb
    rcases HE.out with he | ⟨rfl, A0, B0, C0, D0, rfl, rfl, rfl, rfl, hV, hU, hob, hback⟩
    · have he2 : decide (er = 0) = false := decide_eq_false he
      go_wp2_with fail
      refine (C14 _).out.mono ?_
      rintro e wq ⟨rfl, hb⟩
      replace J := Lib.hid (J.out.step hb)
      clear hb
      go_wp2_with fail
      go_ret
      exact ⟨rfl, J.out.below⟩
    · obtain ⟨r0, r1, r2, r3, _, rt⟩ := J.out.held.four (l1 := [_, _])
      obtain ⟨b0, b1, b2, _, bt⟩ := J.out.held.tri (l1 := [_, _, _])
      obtain ⟨z0, z1, z2, _, zt⟩ := J.out.held.tri (l1 := [_])
      have HV := Lib.hid hV
      have HU := Lib.hid hU
      have HO := Lib.hid hob
      have HK := Lib.hid hback
      clear HE hV hU hob hback
      go_wp2_with fail
      clear r0 r1 r2 r3 rt b0 b1 b2 bt z0 z1 z2 zt
      have C29 := (paste_good r.x0 r.y0 J.out.fact.2.2.1 J.out.fact.2.1 HV.out HU.out HB.out HO.out).mono fun _ _ => outB
      rw [HK.out] at C29
      refine C29.mono ?_
      rintro e w3 ⟨A3, n3, c3, rfl, hp, hb⟩
      replace J := Lib.hid ((J.out.step hb).addP hp)
      clear hb hp C29
      obtain ⟨b0, b1, b2, _, bt⟩ := J.out.held.tri (l1 := [_, _, _])
      go_wp2_with fail
      clear b0 b1 b2 bt
      replace J := Lib.hid (J.out.made (.cells #[.int .i64 (A0 : Int), .int .i64 (B0 : Int), .slice A3 n3 c3] 24))
      refine (Lib.hid (equal_self (oa := (A0 : Int)) (ob := (B0 : Int)) J.out.fact.1 J.out.fact.2.2.2.1)).out.mono ?_
      rintro e wq ⟨rfl, hb⟩
      replace J := Lib.hid (J.out.step hb)
      clear hb
      go_wp2_with fail
      refine (C14 _).out.mono ?_
      rintro e wq ⟨rfl, hb⟩
      replace J := Lib.hid (J.out.step hb)
      clear hb
      go_wp2_with fail
      go_ret
      exact ⟨rfl, J.out.below⟩
  · have C13 := fun W => Lib.hid (many_any hs a b A c W)
    generalize l.length = n at *
    clear H hs hlb
    go_enter Try.func7, Try.ntmps7
    go_wp2_with fail
    refine (C13 _).out.mono ?_
    rintro e wq ⟨rfl, hb⟩
    replace J := Lib.hid (J.out.step hb)
    clear hb
    go_wp2_with fail
    refine (C14 _).out.mono ?_
    rintro e wq ⟨rfl, hb⟩
    replace J := Lib.hid (J.out.step hb)
    clear hb
    go_wp2_with fail
    go_ret
    exact ⟨rfl, J.out.below⟩

end Go.Proofs.Ytahhcklkcibgoaa
