/-
  The walk of the law BufferNeutral.
-/
import Derived.Test.YtahhcklkcibgoaaLawC
namespace Go.Proofs.Ytahhcklkcibgoaa
open Go.RowKit Mem





theorem put_out {F : Px → Px → Px} {a sa sb : Nat} {l s : List Px} {x y : Int} (h : ∀ k, k < l.length → covB sa sb x y (k % a) (k / a) = false) : putL F a l sa sb s x y = l := by
  refine eq_of_getD (put_len _ _ _ _ _ _ _ _) fun k hk => ?_
  rw [put_len] at hk
  unfold putL
  rw [tab_getD _ _ hk]
  unfold newP
  rw [if_neg (by rw [h k hk]; decide)]

theorem put_self {a b : Nat} {l : List Px} : putL (fun p _ => p) a l a b l 0 0 = l := by
  refine eq_of_getD (put_len _ _ _ _ _ _ _ _) fun k hk => ?_
  rw [put_len] at hk
  unfold putL
  rw [tab_getD _ _ hk]
  unfold newP
  split
  · have e0 : (((k % a : Nat) : Int) - 0).toNat = k % a := by rw [Int.sub_zero, Int.toNat_natCast]
    have e1 : (((k / a : Nat) : Int) - 0).toNat = k / a := by rw [Int.sub_zero, Int.toNat_natCast]
    rw [e0, e1, idx_of]
  · rfl

theorem put_zero {a b : Nat} {l : List Px} (hv : Vld a b l) : putL overP a l a b (List.replicate (a * b) zeroPx) 0 0 = l := by
  refine eq_of_getD (put_len _ _ _ _ _ _ _ _) fun k hk => ?_
  rw [put_len] at hk
  unfold putL
  rw [tab_getD _ _ hk]
  unfold newP
  split
  · have hz : ∀ i, (List.replicate (a * b) zeroPx).getD i zeroPx = zeroPx := fun i => by
      rw [List.getD_eq_getElem?_getD, List.getElem?_replicate]
      split <;> rfl
    rw [hz]
    exact zero_over (all_ok hv.ok k)
  · rfl

theorem new_zero {a b : Nat} (ha : 1 ≤ a ∧ a ≤ 256) (hb : 1 ≤ b ∧ b ≤ 256) (W : World) : Calls Try.prog 21 #[.int .i64 (a : Int), .int .i64 (b : Int), .agg #[.int .u8 0, .int .u8 0, .int .u8 0, .int .u8 0]] W (OutB a b (List.replicate (a * b) zeroPx) 0 W) :=
  (new_good ha hb zeroPx W rfl).mono fun _ _ => outB

theorem zeros_vld {a b : Nat} {l : List Px} (hv : Vld a b l) : Vld a b (List.replicate (a * b) zeroPx) :=
  ⟨hv.a1, hv.a2, hv.b1, hv.b2, List.length_replicate .., fun p hp => by rw [List.eq_of_mem_replicate hp]; rfl⟩

theorem Held.twob {w W : World} {k1 k2 : Nat} {x0 x1 x2 y0 y1 y2 : Value} {l1 l : List (Nat × List Value)} (h : Held w W (l1 ++ (k2, [y0, y1, y2]) :: (k1, [x0, x1, x2]) :: l)) :
    W.cell? ⟨k1, 0, none⟩ = some x0 ∧ W.cell? ⟨k1, 1, none⟩ = some x1 ∧ W.cell? ⟨k1, 2, none⟩ = some x2 ∧ k1 < W.heap.size ∧ W.cell? ⟨k2, 0, none⟩ = some y0 ∧ W.cell? ⟨k2, 1, none⟩ = some y1 ∧ W.cell? ⟨k2, 2, none⟩ = some y2 ∧ k2 < W.heap.size := by
  obtain ⟨b0, b1, b2, _, bt⟩ := Held.tri h
  have h2 : Held w W ((l1 ++ [(k2, [y0, y1, y2])]) ++ (k1, [x0, x1, x2]) :: l) := by rw [List.append_assoc]; exact h
  obtain ⟨c0, c1, c2, _, ct⟩ := Held.tri h2
  exact ⟨c0, c1, c2, ct, b0, b1, b2, bt⟩


set_option maxRecDepth 100000 in
set_option maxHeartbeats 8000000 in
theorem neutral_walk (a b c d : Int) {v u : Value} {l m : List Px} {w : World} (h1 : Pxs w v l) (h2 : Pxs w u m) (hlb : ∀ p ∈ l, Byt p) (hmb : ∀ p ∈ m, Byt p) : Calls Try.prog 12 #[.agg #[.int .i64 a, .int .i64 b, v], .agg #[.int .i64 c, .int .i64 d, u]] w (Says true w) := by
  have H1 := Lib.hid h1
  have H2 := Lib.hid h2
  obtain ⟨A, n, rfl, _⟩ := h1.shape
  obtain ⟨A', n', rfl, _⟩ := h2.shape
  have J := Lib.hid (heldL2 w a b (.slice A l.length n) c d (.slice A' m.length n') h1 h2)
  have C14 := fun W => Lib.hid (example_any W)
  have C16 := fun W (hb : Below w.heap.size w W) => Lib.hid (rvalid_any a b (H1.out.below hb))
  have C16' := fun W (hb : Below w.heap.size w W) => Lib.hid (rvalid_any c d (H2.out.below hb))
  have HB := Lib.hid hlb
  have HB' := Lib.hid hmb
  clear h1 h2 hlb hmb
  by_cases hs : l.length ≤ 400
  · have C13 := fun W => Lib.hid (few_any hs a b A n W)
    by_cases hs' : m.length ≤ 400
    · have C13' := fun W => Lib.hid (few_any hs' c d A' n' W)
      cases hv : vBuf a b l
      · rw [hv] at C16
        clear hv
        generalize l.length = ln at *
        generalize m.length = lm at *
        clear hs hs' H1 H2
        go_enter Try.func12, Try.ntmps12
        go_wp2_with fail
        refine (C13 _).out.mono ?_
        rintro e wq ⟨rfl, hb⟩
        replace J := Lib.hid (J.out.step hb)
        clear hb
        obtain ⟨b0, b1, b2, bt, d0, d1, d2, dt⟩ := J.out.held.twob (l1 := [])
        go_wp2_with fail
        refine (C13' _).out.mono ?_
        rintro e wq ⟨rfl, hb⟩
        replace J := Lib.hid (J.out.step hb)
        clear hb
        clear b0 b1 b2 bt d0 d1 d2 dt
        obtain ⟨b0, b1, b2, bt, d0, d1, d2, dt⟩ := J.out.held.twob (l1 := [])
        go_wp2_with fail
        clear b0 b1 b2 bt d0 d1 d2 dt
        refine (C16 _ J.out.below).out.mono ?_
        rintro e wq ⟨rfl, hb⟩
        replace J := Lib.hid (J.out.step hb)
        clear hb
        go_wp2_with fail
        refine (C14 _).out.mono ?_
        rintro e wq ⟨rfl, hb⟩
        replace J := Lib.hid (J.out.step hb)
        clear hb
        go_wp2_with fail
        go_ret
        exact ⟨rfl, J.out.below⟩
      · rw [hv] at C16
        cases hu : vBuf c d m
        · rw [hu] at C16'
          clear hv hu
          generalize l.length = ln at *
          generalize m.length = lm at *
          clear hs hs' H1 H2
          go_enter Try.func12, Try.ntmps12
          go_wp2_with fail
          refine (C13 _).out.mono ?_
          rintro e wq ⟨rfl, hb⟩
          replace J := Lib.hid (J.out.step hb)
          clear hb
          obtain ⟨b0, b1, b2, bt, d0, d1, d2, dt⟩ := J.out.held.twob (l1 := [])
          go_wp2_with fail
          refine (C13' _).out.mono ?_
          rintro e wq ⟨rfl, hb⟩
          replace J := Lib.hid (J.out.step hb)
          clear hb
          clear b0 b1 b2 bt d0 d1 d2 dt
          obtain ⟨b0, b1, b2, bt, d0, d1, d2, dt⟩ := J.out.held.twob (l1 := [])
          go_wp2_with fail
          refine (C16 _ J.out.below).out.mono ?_
          rintro e wq ⟨rfl, hb⟩
          replace J := Lib.hid (J.out.step hb)
          clear hb
          clear b0 b1 b2 bt d0 d1 d2 dt
          obtain ⟨b0, b1, b2, bt, d0, d1, d2, dt⟩ := J.out.held.twob (l1 := [])
          go_wp2_with fail
          clear b0 b1 b2 bt d0 d1 d2 dt
          refine (C16' _ J.out.below).out.mono ?_
          rintro e wq ⟨rfl, hb⟩
          replace J := Lib.hid (J.out.step hb)
          clear hb
          go_wp2_with fail
          refine (C14 _).out.mono ?_
          rintro e wq ⟨rfl, hb⟩
          replace J := Lib.hid (J.out.step hb)
          clear hb
          go_wp2_with fail
          go_ret
          exact ⟨rfl, J.out.below⟩
        · rw [hu] at C16'
          obtain ⟨A0, B0, rfl, rfl, hV⟩ := vld_of hv
          obtain ⟨C0, D0, rfl, rfl, hU⟩ := vld_of hu
          have HV := Lib.hid hV
          have HU := Lib.hid hU
          have HL := Lib.hid hV.len
          have c1 : putL (fun p _ => p) A0 l A0 B0 l 0 0 = l := put_self
          have c2 := put_zero hV
          have c3 : putL (fun p _ => p) A0 l C0 D0 m (A0 : Int) 0 = l := put_out (fun k hk => cov_no.2 (by
            have := col_lt (k := k) hV.a1
            omega))
          have c4 : putL overP A0 l C0 D0 m 0 (-(D0 : Int)) = l := put_out (fun k hk => cov_no.2 (by
            generalize k / A0 = j
            generalize k % A0 = i
            omega))
          have R1 := Lib.hid c1
          have R2 := Lib.hid c2
          have R3 := Lib.hid c3
          have R4 := Lib.hid c4
          have hd0 : (D0 : Int) ≤ 256 := by have := hU.b2; omega
          have hd1 : (1 : Int) ≤ D0 := by have := hU.b1; omega
          clear hv hu hV hU c1 c2 c3 c4
          generalize l.length = ln at *
          generalize m.length = lm at *
          clear hs hs' H1 H2
          go_enter Try.func12, Try.ntmps12
          go_wp2_with fail
          refine (C13 _).out.mono ?_
          rintro e wq ⟨rfl, hb⟩
          replace J := Lib.hid (J.out.step hb)
          clear hb
          obtain ⟨b0, b1, b2, bt, d0, d1, d2, dt⟩ := J.out.held.twob (l1 := [])
          go_wp2_with fail
          refine (C13' _).out.mono ?_
          rintro e wq ⟨rfl, hb⟩
          replace J := Lib.hid (J.out.step hb)
          clear hb
          clear b0 b1 b2 bt d0 d1 d2 dt
          obtain ⟨b0, b1, b2, bt, d0, d1, d2, dt⟩ := J.out.held.twob (l1 := [])
          go_wp2_with fail
          refine (C16 _ J.out.below).out.mono ?_
          rintro e wq ⟨rfl, hb⟩
          replace J := Lib.hid (J.out.step hb)
          clear hb
          clear b0 b1 b2 bt d0 d1 d2 dt
          obtain ⟨b0, b1, b2, bt, d0, d1, d2, dt⟩ := J.out.held.twob (l1 := [])
          go_wp2_with fail
          clear b0 b1 b2 bt d0 d1 d2 dt
          refine (C16' _ J.out.below).out.mono ?_
          rintro e wq ⟨rfl, hb⟩
          replace J := Lib.hid (J.out.step hb)
          clear hb
          clear C13 C13' C16 C16'
          obtain ⟨b0, b1, b2, bt, d0, d1, d2, dt⟩ := J.out.held.twob (l1 := [])
          go_wp2_with fail
          clear b0 b1 b2 bt d0 d1 d2 dt
          have K1 := (paste_good 0 0 J.out.fact.2.1 J.out.fact.2.1 HV.out HV.out HB.out HB.out).mono fun _ _ => outB
          rw [R1.out] at K1
          replace K1 := Lib.hid K1
          refine K1.out.mono ?_
          rintro e w1 ⟨A1, n1, c1, rfl, hp, hb⟩
          replace J := Lib.hid ((J.out.step hb).addP hp)
          clear hb hp
          clear K1 R1
          obtain ⟨b0, b1, b2, bt, d0, d1, d2, dt⟩ := J.out.held.twob (l1 := [])
          go_wp2_with fail
          clear b0 b1 b2 bt d0 d1 d2 dt
          replace J := Lib.hid (J.out.alloc [.int .i64 (A0 : Int), .int .i64 (B0 : Int), .slice A1 n1 c1] 24)
          generalize w1.alloc (.cells #[.int .i64 (A0 : Int), .int .i64 (B0 : Int), .slice A1 n1 c1] 24) = u1 at *
          generalize w1.heap.size = k1 at *
          have K2 := Lib.hid (new_zero ⟨HV.out.a1, HV.out.a2⟩ ⟨HV.out.b1, HV.out.b2⟩ u1)
          refine K2.out.mono ?_
          rintro e w2 ⟨A2, n2, c2, rfl, hp, hb⟩
          replace J := Lib.hid ((J.out.step hb).addP hp)
          clear hb hp
          clear K2
          obtain ⟨b0, b1, b2, bt, d0, d1, d2, dt⟩ := J.out.held.twob (l1 := [_])
          go_wp2_with fail
          clear b0 b1 b2 bt d0 d1 d2 dt
          replace J := Lib.hid (J.out.alloc [.int .i64 (A0 : Int), .int .i64 (B0 : Int), .slice A2 n2 c2] 24)
          generalize w2.alloc (.cells #[.int .i64 (A0 : Int), .int .i64 (B0 : Int), .slice A2 n2 c2] 24) = u2 at *
          generalize w2.heap.size = k2 at *
          have K3 := (over_good 0 0 J.out.fact.2.2.2.1 J.out.fact.1 HV.out (zeros_vld HV.out) HB.out (zero_byt _)).mono fun _ _ => outB
          rw [R2.out] at K3
          replace K3 := Lib.hid K3
          refine K3.out.mono ?_
          rintro e w3 ⟨A3, n3, c3, rfl, hp, hb⟩
          replace J := Lib.hid ((J.out.step hb).addP hp)
          clear hb hp
          clear K3 R2
          obtain ⟨b0, b1, b2, bt, d0, d1, d2, dt⟩ := J.out.held.twob (l1 := [_, _])
          go_wp2_with fail
          clear b0 b1 b2 bt d0 d1 d2 dt
          replace J := Lib.hid (J.out.alloc [.int .i64 (A0 : Int), .int .i64 (B0 : Int), .slice A3 n3 c3] 24)
          generalize w3.alloc (.cells #[.int .i64 (A0 : Int), .int .i64 (B0 : Int), .slice A3 n3 c3] 24) = u3 at *
          generalize w3.heap.size = k3 at *
          have K4 := (paste_good (A0 : Int) 0 J.out.fact.2.2.2.2.1 J.out.fact.2.2.2.1 HV.out HU.out HB.out HB'.out).mono fun _ _ => outB
          rw [R3.out] at K4
          replace K4 := Lib.hid K4
          refine K4.out.mono ?_
          rintro e w4 ⟨A4, n4, c4, rfl, hp, hb⟩
          replace J := Lib.hid ((J.out.step hb).addP hp)
          clear hb hp
          clear K4 R3
          obtain ⟨b0, b1, b2, bt, d0, d1, d2, dt⟩ := J.out.held.twob (l1 := [_, _, _])
          go_wp2_with fail
          clear b0 b1 b2 bt d0 d1 d2 dt
          replace J := Lib.hid (J.out.alloc [.int .i64 (A0 : Int), .int .i64 (B0 : Int), .slice A4 n4 c4] 24)
          generalize w4.alloc (.cells #[.int .i64 (A0 : Int), .int .i64 (B0 : Int), .slice A4 n4 c4] 24) = u4 at *
          generalize w4.heap.size = k4 at *
          have K5 := (over_good 0 (-(D0 : Int)) J.out.fact.2.2.2.2.2.1 J.out.fact.2.2.2.2.1 HV.out HU.out HB.out HB'.out).mono fun _ _ => outB
          rw [R4.out] at K5
          replace K5 := Lib.hid K5
          refine K5.out.mono ?_
          rintro e w5 ⟨A5, n5, c5, rfl, hp, hb⟩
          replace J := Lib.hid ((J.out.step hb).addP hp)
          clear hb hp
          clear K5 R4
          obtain ⟨x0, x1, x2, _, xt⟩ := J.out.held.tri (l1 := [_, _, _, _, _])
          obtain ⟨y0, y1, y2, _, yt⟩ := J.out.held.tri (l1 := [_, _, _])
          go_wp2_with fail
          clear x0 x1 x2 xt y0 y1 y2 yt
          replace J := Lib.hid (J.out.alloc [.int .i64 (A0 : Int), .int .i64 (B0 : Int), .slice A5 n5 c5] 24)
          generalize w5.alloc (.cells #[.int .i64 (A0 : Int), .int .i64 (B0 : Int), .slice A5 n5 c5] 24) = u5 at *
          generalize w5.heap.size = k5 at *
          refine (Lib.hid (equal_self (oa := (A0 : Int)) (ob := (B0 : Int)) J.out.fact.2.2.2.2.1 J.out.fact.2.2.2.2.2.2.1)).out.mono ?_
          rintro e wq ⟨rfl, hb⟩
          replace J := Lib.hid (J.out.step hb)
          clear hb
          obtain ⟨x0, x1, x2, _, xt⟩ := J.out.held.tri (l1 := [_, _, _, _, _, _])
          obtain ⟨y0, y1, y2, _, yt⟩ := J.out.held.tri (l1 := [_, _])
          go_wp2_with fail
          clear x0 x1 x2 xt y0 y1 y2 yt
          refine (Lib.hid (equal_self (oa := (A0 : Int)) (ob := (B0 : Int)) J.out.fact.2.2.1 J.out.fact.2.2.2.2.2.2.1)).out.mono ?_
          rintro e wq ⟨rfl, hb⟩
          replace J := Lib.hid (J.out.step hb)
          clear hb
          obtain ⟨x0, x1, x2, _, xt⟩ := J.out.held.tri (l1 := [_, _, _, _, _, _])
          obtain ⟨y0, y1, y2, _, yt⟩ := J.out.held.tri (l1 := [_])
          go_wp2_with fail
          clear x0 x1 x2 xt y0 y1 y2 yt
          refine (Lib.hid (equal_self (oa := (A0 : Int)) (ob := (B0 : Int)) J.out.fact.2.1 J.out.fact.2.2.2.2.2.2.1)).out.mono ?_
          rintro e wq ⟨rfl, hb⟩
          replace J := Lib.hid (J.out.step hb)
          clear hb
          obtain ⟨x0, x1, x2, _, xt⟩ := J.out.held.tri (l1 := [_, _, _, _, _, _])
          obtain ⟨y0, y1, y2, _, yt⟩ := J.out.held.tri (l1 := [])
          go_wp2_with fail
          clear x0 x1 x2 xt y0 y1 y2 yt
          refine (Lib.hid (equal_self (oa := (A0 : Int)) (ob := (B0 : Int)) J.out.fact.1 J.out.fact.2.2.2.2.2.2.1)).out.mono ?_
          rintro e wq ⟨rfl, hb⟩
          replace J := Lib.hid (J.out.step hb)
          clear hb
          go_wp2_with fail
          refine (C14 _).out.mono ?_
          rintro e wq ⟨rfl, hb⟩
          replace J := Lib.hid (J.out.step hb)
          clear hb
          go_wp2_with fail
          go_ret
          exact ⟨rfl, J.out.below⟩
    · have C13' := fun W => Lib.hid (many_any hs' c d A' n' W)
      generalize l.length = ln at *
      generalize m.length = lm at *
      clear hs hs' H1 H2 C16 C16'
      go_enter Try.func12, Try.ntmps12
      go_wp2_with fail
      refine (C13 _).out.mono ?_
      rintro e wq ⟨rfl, hb⟩
      replace J := Lib.hid (J.out.step hb)
      clear hb
      obtain ⟨b0, b1, b2, bt, d0, d1, d2, dt⟩ := J.out.held.twob (l1 := [])
      go_wp2_with fail
      clear b0 b1 b2 bt d0 d1 d2 dt
      refine (C13' _).out.mono ?_
      rintro e wq ⟨rfl, hb⟩
      replace J := Lib.hid (J.out.step hb)
      clear hb
      go_wp2_with fail
      refine (C14 _).out.mono ?_
      rintro e wq ⟨rfl, hb⟩
      replace J := Lib.hid (J.out.step hb)
      clear hb
      go_wp2_with fail
      go_ret
      exact ⟨rfl, J.out.below⟩
  · have C13 := fun W => Lib.hid (many_any hs a b A n W)
    generalize l.length = ln at *
    generalize m.length = lm at *
    clear hs H1 H2 C16 C16'
    go_enter Try.func12, Try.ntmps12
    go_wp2_with fail
    refine (C13 _).out.mono ?_
    rintro e wq ⟨rfl, hb⟩
    replace J := Lib.hid (J.out.step hb)
    clear hb
    go_wp2_with fail
    refine (C14 _).out.mono ?_
    rintro e wq ⟨rfl, hb⟩
    replace J := Lib.hid (J.out.step hb)
    clear hb
    go_wp2_with fail
    go_ret
    exact ⟨rfl, J.out.below⟩

end Go.Proofs.Ytahhcklkcibgoaa
