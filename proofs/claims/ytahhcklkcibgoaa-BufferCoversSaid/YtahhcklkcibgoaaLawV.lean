/-
  The walk of the law BufferCovers.
-/
import Derived.Test.YtahhcklkcibgoaaLawC
import Derived.Deep.DeepCutAuto
namespace Go.Proofs.Ytahhcklkcibgoaa
open Go.RowKit Mem








theorem neq_px_self (p : Px) (W : World) : (binOp .neq 30 (.agg #[.int .u8 (p.r : Int), .int .u8 (p.g : Int), .int .u8 (p.b : Int), .int .u8 (p.a : Int)]) (.agg #[.int .u8 (p.r : Int), .int .u8 (p.g : Int), .int .u8 (p.b : Int), .int .u8 (p.a : Int)])).run Try.prog W = .ok (.bool false) W := by
  rw [neq_px, (same_iff p p).2 rfl]
  rfl

theorem Pxs.cellj {W : World} {A : Option Addr} {n c : Nat} {l : List Px} (h : Pxs W (.slice A n c) l) {j : Nat} {p : Px} (hj : l[j]? = some p) : ∃ b off, A = some ⟨b, off, none⟩ ∧ b < W.heap.size ∧ At4 W b off j p := by
  obtain ⟨A', c', hv, _, _, hc⟩ := h
  injection hv with e
  subst e
  obtain ⟨b, off, rfl, hb, hcs⟩ := hc (Nat.lt_of_le_of_lt (Nat.zero_le _) (List.getElem?_eq_some_iff.1 hj).1)
  exact ⟨b, off, rfl, hb, hcs j p hj⟩



set_option maxRecDepth 100000 in
set_option maxHeartbeats 8000000 in
theorem covers_walk (a b c d x y : Int) {v u : Value} {l m : List Px} {w : World} (h1 : Pxs w v l) (h2 : Pxs w u m) (hlb : ∀ p ∈ l, Byt p) (hmb : ∀ p ∈ m, Byt p) : Calls Try.prog 9 #[.agg #[.int .i64 a, .int .i64 b, v], .agg #[.int .i64 c, .int .i64 d, u], .agg #[.int .i64 x, .int .i64 y]] w (Says true w) := by
  have H1 := Lib.hid h1
  have H2 := Lib.hid h2
  obtain ⟨A, n, rfl, _⟩ := h1.shape
  obtain ⟨A', n', rfl, _⟩ := h2.shape
  have J := Lib.hid (heldL3 w a b (.slice A l.length n) c d (.slice A' m.length n') x y h1 h2)
  have C14 := fun W => Lib.hid (example_any W)
  have C16 := fun W (hb : Below w.heap.size w W) => Lib.hid (rvalid_any a b (H1.out.below hb))
  have C16' := fun W (hb : Below w.heap.size w W) => Lib.hid (rvalid_any c d (H2.out.below hb))
  have HB := Lib.hid hlb
  have HB' := Lib.hid hmb
  clear h1 h2 hlb hmb
  by_cases hs : l.length ≤ 400
  · have C13 := fun W => Lib.hid (few_any hs a b A n W)
    by_cases hs' : m.length ≤ 400
    · have C13' := fun W => Lib.hid (few_any hs' c d A' n' W)
      obtain ⟨bv, hv⟩ : ∃ bv, vBuf a b l = bv := ⟨_, rfl⟩
      obtain ⟨bu, hu⟩ : ∃ bu, vBuf c d m = bu := ⟨_, rfl⟩
      rw [hv] at C16
      rw [hu] at C16'
      obtain ⟨ln, hln⟩ : ∃ ln, l.length = ln := ⟨_, rfl⟩
      obtain ⟨lm, hlm⟩ : ∃ lm, m.length = lm := ⟨_, rfl⟩
      have HLN := Lib.hid hln
      have HLM := Lib.hid hlm
      rw [hln] at J C13 C16 H1 hs ⊢
      rw [hlm] at J C13' C16' H2 ⊢
      clear hs' hln hlm
      cases bv
      · clear hv hu hs
        go_enter Try.func9, Try.ntmps9
        go_wp2_with fail
        obtain ⟨b0, b1, b2, d0, d1, d2, p0, p1⟩ := J.out.held.b332
        go_quiet (fail)
        clear b0 b1 b2 d0 d1 d2 p0 p1
        replace J := Lib.hid (J.out.step (below_draws (Below.refl _ _) nq))
        generalize World.drewN _ nq = wz at *
        obtain ⟨b0, b1, b2, d0, d1, d2, p0, p1⟩ := J.out.held.b332
        go_wp2_with fail
        clear b0 b1 b2 d0 d1 d2 p0 p1
        refine (C13 _).out.mono ?_
        rintro e wq ⟨rfl, hb⟩
        replace J := Lib.hid (J.out.step hb)
        clear hb
        obtain ⟨b0, b1, b2, d0, d1, d2, p0, p1⟩ := J.out.held.b332
        go_wp2_with fail
        clear b0 b1 b2 d0 d1 d2 p0 p1
        refine (C13' _).out.mono ?_
        rintro e wq ⟨rfl, hb⟩
        replace J := Lib.hid (J.out.step hb)
        clear hb
        obtain ⟨b0, b1, b2, d0, d1, d2, p0, p1⟩ := J.out.held.b332
        go_wp2_with fail
        clear b0 b1 b2 d0 d1 d2 p0 p1
        refine (C16 _ J.out.below).out.mono ?_
        rintro e wq ⟨rfl, hb⟩
        replace J := Lib.hid (J.out.step hb)
        clear hb
        go_wp2_with fail
        refine (C14 _).out.mono ?_
        rintro e wq ⟨rfl, hb⟩
        replace J := Lib.hid (J.out.step hb)
        clear hb
        go_wp2_with fail
        go_ret
        exact ⟨rfl, J.out.below⟩
      · cases bu
        · clear hv hu hs
          go_enter Try.func9, Try.ntmps9
          go_wp2_with fail
          obtain ⟨b0, b1, b2, d0, d1, d2, p0, p1⟩ := J.out.held.b332
          go_quiet (fail)
          clear b0 b1 b2 d0 d1 d2 p0 p1
          replace J := Lib.hid (J.out.step (below_draws (Below.refl _ _) nq))
          generalize World.drewN _ nq = wz at *
          obtain ⟨b0, b1, b2, d0, d1, d2, p0, p1⟩ := J.out.held.b332
          go_wp2_with fail
          clear b0 b1 b2 d0 d1 d2 p0 p1
          refine (C13 _).out.mono ?_
          rintro e wq ⟨rfl, hb⟩
          replace J := Lib.hid (J.out.step hb)
          clear hb
          obtain ⟨b0, b1, b2, d0, d1, d2, p0, p1⟩ := J.out.held.b332
          go_wp2_with fail
          clear b0 b1 b2 d0 d1 d2 p0 p1
          refine (C13' _).out.mono ?_
          rintro e wq ⟨rfl, hb⟩
          replace J := Lib.hid (J.out.step hb)
          clear hb
          obtain ⟨b0, b1, b2, d0, d1, d2, p0, p1⟩ := J.out.held.b332
          go_wp2_with fail
          clear b0 b1 b2 d0 d1 d2 p0 p1
          refine (C16 _ J.out.below).out.mono ?_
          rintro e wq ⟨rfl, hb⟩
          replace J := Lib.hid (J.out.step hb)
          clear hb
          obtain ⟨b0, b1, b2, d0, d1, d2, p0, p1⟩ := J.out.held.b332
          go_wp2_with fail
          clear b0 b1 b2 d0 d1 d2 p0 p1
          refine (C16' _ J.out.below).out.mono ?_
          rintro e wq ⟨rfl, hb⟩
          replace J := Lib.hid (J.out.step hb)
          clear hb
          go_wp2_with fail
          refine (C14 _).out.mono ?_
          rintro e wq ⟨rfl, hb⟩
          replace J := Lib.hid (J.out.step hb)
          clear hb
          go_wp2_with fail
          go_ret
          exact ⟨rfl, J.out.below⟩
        · by_cases g0 : x < -30
          · clear hv hu hs
            go_enter Try.func9, Try.ntmps9
            go_wp2_with fail
            obtain ⟨b0, b1, b2, d0, d1, d2, p0, p1⟩ := J.out.held.b332
            go_quiet (fail)
            clear b0 b1 b2 d0 d1 d2 p0 p1
            replace J := Lib.hid (J.out.step (below_draws (Below.refl _ _) nq))
            generalize World.drewN _ nq = wz at *
            obtain ⟨b0, b1, b2, d0, d1, d2, p0, p1⟩ := J.out.held.b332
            go_wp2_with fail
            clear b0 b1 b2 d0 d1 d2 p0 p1
            refine (C13 _).out.mono ?_
            rintro e wq ⟨rfl, hb⟩
            replace J := Lib.hid (J.out.step hb)
            clear hb
            obtain ⟨b0, b1, b2, d0, d1, d2, p0, p1⟩ := J.out.held.b332
            go_wp2_with fail
            clear b0 b1 b2 d0 d1 d2 p0 p1
            refine (C13' _).out.mono ?_
            rintro e wq ⟨rfl, hb⟩
            replace J := Lib.hid (J.out.step hb)
            clear hb
            obtain ⟨b0, b1, b2, d0, d1, d2, p0, p1⟩ := J.out.held.b332
            go_wp2_with fail
            clear b0 b1 b2 d0 d1 d2 p0 p1
            refine (C16 _ J.out.below).out.mono ?_
            rintro e wq ⟨rfl, hb⟩
            replace J := Lib.hid (J.out.step hb)
            clear hb
            obtain ⟨b0, b1, b2, d0, d1, d2, p0, p1⟩ := J.out.held.b332
            go_wp2_with fail
            clear b0 b1 b2 d0 d1 d2 p0 p1
            refine (C16' _ J.out.below).out.mono ?_
            rintro e wq ⟨rfl, hb⟩
            replace J := Lib.hid (J.out.step hb)
            clear hb
            go_wp2_with fail
            refine (C14 _).out.mono ?_
            rintro e wq ⟨rfl, hb⟩
            replace J := Lib.hid (J.out.step hb)
            clear hb
            go_wp2_with fail
            go_ret
            exact ⟨rfl, J.out.below⟩
          · by_cases g1 : 30 < x
            · clear hv hu hs
              go_enter Try.func9, Try.ntmps9
              go_wp2_with fail
              obtain ⟨b0, b1, b2, d0, d1, d2, p0, p1⟩ := J.out.held.b332
              go_quiet (fail)
              clear b0 b1 b2 d0 d1 d2 p0 p1
              replace J := Lib.hid (J.out.step (below_draws (Below.refl _ _) nq))
              generalize World.drewN _ nq = wz at *
              obtain ⟨b0, b1, b2, d0, d1, d2, p0, p1⟩ := J.out.held.b332
              go_wp2_with fail
              clear b0 b1 b2 d0 d1 d2 p0 p1
              refine (C13 _).out.mono ?_
              rintro e wq ⟨rfl, hb⟩
              replace J := Lib.hid (J.out.step hb)
              clear hb
              obtain ⟨b0, b1, b2, d0, d1, d2, p0, p1⟩ := J.out.held.b332
              go_wp2_with fail
              clear b0 b1 b2 d0 d1 d2 p0 p1
              refine (C13' _).out.mono ?_
              rintro e wq ⟨rfl, hb⟩
              replace J := Lib.hid (J.out.step hb)
              clear hb
              obtain ⟨b0, b1, b2, d0, d1, d2, p0, p1⟩ := J.out.held.b332
              go_wp2_with fail
              clear b0 b1 b2 d0 d1 d2 p0 p1
              refine (C16 _ J.out.below).out.mono ?_
              rintro e wq ⟨rfl, hb⟩
              replace J := Lib.hid (J.out.step hb)
              clear hb
              obtain ⟨b0, b1, b2, d0, d1, d2, p0, p1⟩ := J.out.held.b332
              go_wp2_with fail
              clear b0 b1 b2 d0 d1 d2 p0 p1
              refine (C16' _ J.out.below).out.mono ?_
              rintro e wq ⟨rfl, hb⟩
              replace J := Lib.hid (J.out.step hb)
              clear hb
              go_wp2_with fail
              refine (C14 _).out.mono ?_
              rintro e wq ⟨rfl, hb⟩
              replace J := Lib.hid (J.out.step hb)
              clear hb
              go_wp2_with fail
              go_ret
              exact ⟨rfl, J.out.below⟩
            · by_cases g2 : y < -30
              · clear hv hu hs
                go_enter Try.func9, Try.ntmps9
                go_wp2_with fail
                obtain ⟨b0, b1, b2, d0, d1, d2, p0, p1⟩ := J.out.held.b332
                go_quiet (fail)
                clear b0 b1 b2 d0 d1 d2 p0 p1
                replace J := Lib.hid (J.out.step (below_draws (Below.refl _ _) nq))
                generalize World.drewN _ nq = wz at *
                obtain ⟨b0, b1, b2, d0, d1, d2, p0, p1⟩ := J.out.held.b332
                go_wp2_with fail
                clear b0 b1 b2 d0 d1 d2 p0 p1
                refine (C13 _).out.mono ?_
                rintro e wq ⟨rfl, hb⟩
                replace J := Lib.hid (J.out.step hb)
                clear hb
                obtain ⟨b0, b1, b2, d0, d1, d2, p0, p1⟩ := J.out.held.b332
                go_wp2_with fail
                clear b0 b1 b2 d0 d1 d2 p0 p1
                refine (C13' _).out.mono ?_
                rintro e wq ⟨rfl, hb⟩
                replace J := Lib.hid (J.out.step hb)
                clear hb
                obtain ⟨b0, b1, b2, d0, d1, d2, p0, p1⟩ := J.out.held.b332
                go_wp2_with fail
                clear b0 b1 b2 d0 d1 d2 p0 p1
                refine (C16 _ J.out.below).out.mono ?_
                rintro e wq ⟨rfl, hb⟩
                replace J := Lib.hid (J.out.step hb)
                clear hb
                obtain ⟨b0, b1, b2, d0, d1, d2, p0, p1⟩ := J.out.held.b332
                go_wp2_with fail
                clear b0 b1 b2 d0 d1 d2 p0 p1
                refine (C16' _ J.out.below).out.mono ?_
                rintro e wq ⟨rfl, hb⟩
                replace J := Lib.hid (J.out.step hb)
                clear hb
                go_wp2_with fail
                refine (C14 _).out.mono ?_
                rintro e wq ⟨rfl, hb⟩
                replace J := Lib.hid (J.out.step hb)
                clear hb
                go_wp2_with fail
                go_ret
                exact ⟨rfl, J.out.below⟩
              · by_cases g3 : 30 < y
                · clear hv hu hs
                  go_enter Try.func9, Try.ntmps9
                  go_wp2_with fail
                  obtain ⟨b0, b1, b2, d0, d1, d2, p0, p1⟩ := J.out.held.b332
                  go_quiet (fail)
                  clear b0 b1 b2 d0 d1 d2 p0 p1
                  replace J := Lib.hid (J.out.step (below_draws (Below.refl _ _) nq))
                  generalize World.drewN _ nq = wz at *
                  obtain ⟨b0, b1, b2, d0, d1, d2, p0, p1⟩ := J.out.held.b332
                  go_wp2_with fail
                  clear b0 b1 b2 d0 d1 d2 p0 p1
                  refine (C13 _).out.mono ?_
                  rintro e wq ⟨rfl, hb⟩
                  replace J := Lib.hid (J.out.step hb)
                  clear hb
                  obtain ⟨b0, b1, b2, d0, d1, d2, p0, p1⟩ := J.out.held.b332
                  go_wp2_with fail
                  clear b0 b1 b2 d0 d1 d2 p0 p1
                  refine (C13' _).out.mono ?_
                  rintro e wq ⟨rfl, hb⟩
                  replace J := Lib.hid (J.out.step hb)
                  clear hb
                  obtain ⟨b0, b1, b2, d0, d1, d2, p0, p1⟩ := J.out.held.b332
                  go_wp2_with fail
                  clear b0 b1 b2 d0 d1 d2 p0 p1
                  refine (C16 _ J.out.below).out.mono ?_
                  rintro e wq ⟨rfl, hb⟩
                  replace J := Lib.hid (J.out.step hb)
                  clear hb
                  obtain ⟨b0, b1, b2, d0, d1, d2, p0, p1⟩ := J.out.held.b332
                  go_wp2_with fail
                  clear b0 b1 b2 d0 d1 d2 p0 p1
                  refine (C16' _ J.out.below).out.mono ?_
                  rintro e wq ⟨rfl, hb⟩
                  replace J := Lib.hid (J.out.step hb)
                  clear hb
                  go_wp2_with fail
                  refine (C14 _).out.mono ?_
                  rintro e wq ⟨rfl, hb⟩
                  replace J := Lib.hid (J.out.step hb)
                  clear hb
                  go_wp2_with fail
                  go_ret
                  exact ⟨rfl, J.out.below⟩
                · obtain ⟨A0, B0, rfl, rfl, hV⟩ := vld_of hv
                  obtain ⟨C0, D0, rfl, rfl, hU⟩ := vld_of hu
                  have HV := Lib.hid hV
                  have HU := Lib.hid hU
                  clear hv hu hV hU
                  go_enter Try.func9, Try.ntmps9
                  go_wp2_with fail
                  obtain ⟨b0, b1, b2, d0, d1, d2, p0, p1⟩ := J.out.held.b332
                  go_quiet (fail)
                  clear b0 b1 b2 d0 d1 d2 p0 p1
                  replace J := Lib.hid (J.out.step (below_draws (Below.refl _ _) nq))
                  generalize World.drewN _ nq = wz at *
                  obtain ⟨b0, b1, b2, d0, d1, d2, p0, p1⟩ := J.out.held.b332
                  go_wp2_with fail
                  clear b0 b1 b2 d0 d1 d2 p0 p1
                  refine (C13 _).out.mono ?_
                  rintro e wq ⟨rfl, hb⟩
                  replace J := Lib.hid (J.out.step hb)
                  clear hb
                  obtain ⟨b0, b1, b2, d0, d1, d2, p0, p1⟩ := J.out.held.b332
                  go_wp2_with fail
                  clear b0 b1 b2 d0 d1 d2 p0 p1
                  refine (C13' _).out.mono ?_
                  rintro e wq ⟨rfl, hb⟩
                  replace J := Lib.hid (J.out.step hb)
                  clear hb
                  obtain ⟨b0, b1, b2, d0, d1, d2, p0, p1⟩ := J.out.held.b332
                  go_wp2_with fail
                  clear b0 b1 b2 d0 d1 d2 p0 p1
                  refine (C16 _ J.out.below).out.mono ?_
                  rintro e wq ⟨rfl, hb⟩
                  replace J := Lib.hid (J.out.step hb)
                  clear hb
                  obtain ⟨b0, b1, b2, d0, d1, d2, p0, p1⟩ := J.out.held.b332
                  go_wp2_with fail
                  clear b0 b1 b2 d0 d1 d2 p0 p1
                  refine (C16' _ J.out.below).out.mono ?_
                  rintro e wq ⟨rfl, hb⟩
                  replace J := Lib.hid (J.out.step hb)
                  clear hb
                  obtain ⟨b0, b1, b2, d0, d1, d2, p0, p1⟩ := J.out.held.b332
                  go_wp2_with fail
                  clear b0 b1 b2 d0 d1 d2 p0 p1
                  have K := Lib.hid ((paste_good x y J.out.fact.2.1 J.out.fact.1 HV.out HU.out HB.out HB'.out).mono fun _ _ => outB)
                  have HOL := Lib.hid ((put_len (fun p _ => p) A0 l C0 D0 m x y).trans HLN.out)
                  have HOG := fun k (hk : k < ln) => Lib.hid (show (putL (fun p _ => p) A0 l C0 D0 m x y).getD k zeroPx = newP (fun p _ => p) A0 l C0 D0 m x y k by unfold putL; rw [HLN.out, tab_getD _ _ hk])
                  generalize putL (fun p _ => p) A0 l C0 D0 m x y = O at *
                  refine K.out.mono ?_
                  rintro e w1 ⟨A1, n1, c1, rfl, hp, hb⟩
                  obtain rfl : n1 = ln := by rw [hp.len, HOL.out]
                  replace J := Lib.hid ((J.out.step hb).addP hp)
                  clear hb hp K C13 C13' C16 C16'
                  obtain ⟨b0, b1, b2, d0, d1, d2, p0, p1⟩ := J.out.held.b332
                  have bt := (J.out.held.tri (l1 := [_, _])).2.2.2.2
                  go_wp2_with fail
                  clear b0 b1 b2 d0 d1 d2 p0 p1
                  clear bt
                  replace J := Lib.hid (J.out.alloc [.int .i64 (A0 : Int), .int .i64 (B0 : Int), .slice A1 n1 c1] 24)
                  generalize w1.alloc (.cells #[.int .i64 (A0 : Int), .int .i64 (B0 : Int), .slice A1 n1 c1] 24) = u1 at *
                  generalize w1.heap.size = k1 at *
                  go_loopw [11] (fun s11 wr => ∃ j : Nat, j ≤ n1 ∧ s11 = .int .i64 (j : Int) ∧ Hid (HeldX w wr [(k1, [.int .i64 (A0 : Int), .int .i64 (B0 : Int), .slice A1 n1 c1]), (w.heap.size + 1 + 1, [.int .i64 x, .int .i64 y]), (w.heap.size + 1, [.int .i64 (C0 : Int), .int .i64 (D0 : Int), .slice A' lm n']), (w.heap.size, [.int .i64 (A0 : Int), .int .i64 (B0 : Int), .slice A n1 n])] (fun V => Pxs V (.slice A1 n1 c1) O ∧ Pxs V (.slice A' lm n') m ∧ Pxs V (.slice A n1 n) l ∧ True))) (fun s11 _ => leftN n1 s11)
                  case atStart => exact ⟨0, Nat.zero_le _, rfl, J⟩
                  case round =>
                    clear J
                    obtain ⟨j, hj, rfl, HR⟩ := hrel
                    obtain ⟨t0, t1, t2, _, tt⟩ := HR.out.held.tri (l1 := [])
                    by_cases hlt : j < n1
                    · have q0 : (j : Int) < n1 := by omega
                      have q1 : (0 : Int) ≤ j := by omega
                      obtain ⟨s0, s1, s2, _, st⟩ := HR.out.held.tri (l1 := [_, _])
                      obtain ⟨d0, d1, d2, _, dt⟩ := HR.out.held.tri (l1 := [_, _, _])
                      have q2 : (A0 : Int) ≠ 0 := by have := HV.out.a1; omega
                      obtain ⟨px, hpx⟩ : ∃ px, j % A0 = px := ⟨_, rfl⟩
                      obtain ⟨py, hpy⟩ : ∃ py, j / A0 = py := ⟨_, rfl⟩
                      have e1 : (j : Int) % (A0 : Int) = (px : Int) := by rw [← hpx]; exact (Int.natCast_emod j A0).symm
                      have e2 : (j : Int) / (A0 : Int) = (py : Int) := by rw [← hpy]; exact (Int.natCast_ediv j A0).symm
                      go_wp2_with fail
                      go_quiet (fail)
                      have hpj : px ≤ j := by rw [← hpx]; exact Nat.mod_le j A0
                      have hyj : py ≤ j := by rw [← hpy]; exact Nat.div_le_self j A0
                      obtain ⟨U, hU⟩ : ∃ U, (px : Int) - x = U := ⟨_, rfl⟩
                      obtain ⟨V, hV⟩ : ∃ V, (py : Int) - y = V := ⟨_, rfl⟩
                      have w1' : wrap64 ((px : Int) - x) = U := by rw [IntWalk.wrap64_in _ (by omega)]; exact hU
                      have w2' : wrap64 (wrap64 (py : Int) - y) = V := by rw [IntWalk.wrap64_in (py : Int) (by omega), IntWalk.wrap64_in _ (by omega)]; exact hV
                      rw [w1', w2']
                      clear w1' w2' t0 t1 t2 tt s0 s1 s2 st d0 d1 d2 dt e1 e2
                      have J := Lib.hid (HR.out.drews nq)
                      clear HR
                      generalize wr.drewN nq = wd at *
                      have hl : l[j]? = some (l.getD j zeroPx) := get_of (by rw [HLN.out]; exact hlt)
                      have ho : O[j]? = some (O.getD j zeroPx) := get_of (by rw [HOL.out]; exact hlt)
                      have hog := (HOG j hlt).out
                      obtain ⟨t0, t1, t2, _, tt⟩ := J.out.held.tri (l1 := [])
                      obtain ⟨s0, s1, s2, _, st⟩ := J.out.held.tri (l1 := [_, _])
                      obtain ⟨d0, d1, d2, _, dt⟩ := J.out.held.tri (l1 := [_, _, _])
                      obtain ⟨lb, lo, rfl, hlb, l0, l1, l2, l3⟩ := J.out.fact.2.2.1.cellj hl
                      clear hl
                      by_cases g4 : 0 ≤ U
                      · by_cases g5 : U < C0
                        · by_cases g6 : 0 ≤ V
                          · by_cases g7 : V < D0
                            · have hcv : covB C0 D0 x y px py = true := cov_iff.2 (by omega)
                              rw [newP, hpx, hpy, if_pos hcv] at hog
                              obtain ⟨Un, hUn⟩ : ∃ Un : Nat, U = (Un : Int) := ⟨U.toNat, by omega⟩
                              obtain ⟨Vn, hVn⟩ : ∃ Vn : Nat, V = (Vn : Int) := ⟨V.toNat, by omega⟩
                              have eU : ((px : Int) - x).toNat = Un := by omega
                              have eV : ((py : Int) - y).toNat = Vn := by omega
                              rw [eU, eV] at hog
                              obtain ⟨K, hK⟩ : ∃ K, Vn * C0 + Un = K := ⟨_, rfl⟩
                              have hKm : K < lm := by
                                rw [← hK, ← HLM.out, HU.out.len]
                                exact idx_lt (by omega) (by omega)
                              obtain ⟨Mi, hMi⟩ : ∃ Mi : Int, ((Vn * C0 : Nat) : Int) = Mi := ⟨_, rfl⟩
                              have hlm : lm ≤ 65536 := by have := HU.out.small.2; rw [HLM.out] at this; exact this
                              have hw1 : wrap64 (V * (C0 : Int)) = Mi := by
                                rw [hVn, ← Int.natCast_mul, IntWalk.wrap64_in _ (by omega)]
                                exact hMi
                              have hw2 : wrap64 (Mi + U) = (K : Int) := by
                                rw [IntWalk.wrap64_in _ (by omega)]
                                omega
                              rw [hK] at hog
                              rw [hog] at ho
                              obtain ⟨q, hq⟩ : ∃ q, m.getD K zeroPx = q := ⟨_, rfl⟩
                              have hmq : m[K]? = some q := by rw [← hq]; exact get_of (by rw [HLM.out]; exact hKm)
                              rw [hq] at ho
                              obtain ⟨ob, oo, rfl, hob, o0, o1, o2, o3⟩ := J.out.fact.1.cellj ho
                              obtain ⟨mb, mo, rfl, hmb, m0, m1, m2, m3⟩ := J.out.fact.2.1.cellj hmq
                              have E1 := fun W => neq_px_self q W
                              have k0 : (0 : Int) ≤ K := by omega
                              have k1' : (K : Int) < lm := by omega
                              generalize l.getD j zeroPx = p at *
                              have Z := Lib.hid (J.out.made (.cells #[.int .u8 (q.r : Int), .int .u8 (q.g : Int), .int .u8 (q.b : Int), .int .u8 (q.a : Int)] 30))
                              replace hw1 := Lib.hid hw1
                              replace hw2 := Lib.hid hw2
                              clear J hog ho hcv hUn hVn eU eV hK hMi hmq hq hKm hpx hpy hpj hyj hU hV
                              have hw3 := hw1.out
                              have hw4 := hw2.out
                              go_wp2_with fail
                              go_quiet (fail)
                              go_wp2_with fail
                              have Z2 := Lib.hid (Z.out.drews nq)
                              go_roundw
                              case rel => exact ⟨j + 1, by omega, by go_num, Z2⟩
                              case measure =>
                                unfold leftN
                                simp [intOf]
                                omega
                            · rw [newP, hpx, hpy, if_neg (by rw [cov_no.2 (by omega)]; decide)] at hog
                              rw [hog] at ho
                              obtain ⟨ob, oo, rfl, hob, o0, o1, o2, o3⟩ := J.out.fact.1.cellj ho
                              have E1 := fun W => neq_px_self (l.getD j zeroPx) W
                              have Z := J.out.made (.cells #[.int .u8 ((l.getD j zeroPx).r : Int), .int .u8 ((l.getD j zeroPx).g : Int), .int .u8 ((l.getD j zeroPx).b : Int), .int .u8 ((l.getD j zeroPx).a : Int)] 30)
                              generalize l.getD j zeroPx = p at *
                              replace Z := Lib.hid Z
                              clear J hog ho
                              go_wp2_with fail
                              go_quiet (fail)
                              go_wp2_with fail
                              have Z2 := Lib.hid (Z.out.drews nq)
                              go_roundw
                              case rel => exact ⟨j + 1, by omega, by go_num, Z2⟩
                              case measure =>
                                unfold leftN
                                simp [intOf]
                                omega
                          · rw [newP, hpx, hpy, if_neg (by rw [cov_no.2 (by omega)]; decide)] at hog
                            rw [hog] at ho
                            obtain ⟨ob, oo, rfl, hob, o0, o1, o2, o3⟩ := J.out.fact.1.cellj ho
                            have E1 := fun W => neq_px_self (l.getD j zeroPx) W
                            have Z := J.out.made (.cells #[.int .u8 ((l.getD j zeroPx).r : Int), .int .u8 ((l.getD j zeroPx).g : Int), .int .u8 ((l.getD j zeroPx).b : Int), .int .u8 ((l.getD j zeroPx).a : Int)] 30)
                            generalize l.getD j zeroPx = p at *
                            replace Z := Lib.hid Z
                            clear J hog ho
                            go_wp2_with fail
                            go_quiet (fail)
                            go_wp2_with fail
                            have Z2 := Lib.hid (Z.out.drews nq)
                            go_roundw
                            case rel => exact ⟨j + 1, by omega, by go_num, Z2⟩
                            case measure =>
                              unfold leftN
                              simp [intOf]
                              omega
                        · rw [newP, hpx, hpy, if_neg (by rw [cov_no.2 (by omega)]; decide)] at hog
                          rw [hog] at ho
                          obtain ⟨ob, oo, rfl, hob, o0, o1, o2, o3⟩ := J.out.fact.1.cellj ho
                          have E1 := fun W => neq_px_self (l.getD j zeroPx) W
                          have Z := J.out.made (.cells #[.int .u8 ((l.getD j zeroPx).r : Int), .int .u8 ((l.getD j zeroPx).g : Int), .int .u8 ((l.getD j zeroPx).b : Int), .int .u8 ((l.getD j zeroPx).a : Int)] 30)
                          generalize l.getD j zeroPx = p at *
                          replace Z := Lib.hid Z
                          clear J hog ho
                          go_wp2_with fail
                          go_quiet (fail)
                          go_wp2_with fail
                          have Z2 := Lib.hid (Z.out.drews nq)
                          go_roundw
                          case rel => exact ⟨j + 1, by omega, by go_num, Z2⟩
                          case measure =>
                            unfold leftN
                            simp [intOf]
                            omega
                      · rw [newP, hpx, hpy, if_neg (by rw [cov_no.2 (by omega)]; decide)] at hog
                        rw [hog] at ho
                        obtain ⟨ob, oo, rfl, hob, o0, o1, o2, o3⟩ := J.out.fact.1.cellj ho
                        have E1 := fun W => neq_px_self (l.getD j zeroPx) W
                        have Z := J.out.made (.cells #[.int .u8 ((l.getD j zeroPx).r : Int), .int .u8 ((l.getD j zeroPx).g : Int), .int .u8 ((l.getD j zeroPx).b : Int), .int .u8 ((l.getD j zeroPx).a : Int)] 30)
                        generalize l.getD j zeroPx = p at *
                        replace Z := Lib.hid Z
                        clear J hog ho
                        go_wp2_with fail
                        go_quiet (fail)
                        go_wp2_with fail
                        have Z2 := Lib.hid (Z.out.drews nq)
                        go_roundw
                        case rel => exact ⟨j + 1, by omega, by go_num, Z2⟩
                        case measure =>
                          unfold leftN
                          simp [intOf]
                          omega
                    · obtain rfl : n1 = j := by omega
                      have q0 : ¬ (n1 : Int) < n1 := by omega
                      have J := HR
                      clear HR
                      go_wp2_with fail
                      clear t0 t1 t2 tt
                      refine (C14 _).out.mono ?_
                      rintro e wq ⟨rfl, hb⟩
                      replace J := Lib.hid (J.out.step hb)
                      clear hb
                      go_wp2_with fail
                      go_ret
                      exact ⟨rfl, J.out.below⟩
    · have C13' := fun W => Lib.hid (many_any hs' c d A' n' W)
      generalize l.length = ln at *
      generalize m.length = lm at *
      clear hs hs' H1 H2 C16 C16' HB HB'
      go_enter Try.func9, Try.ntmps9
      go_wp2_with fail
      obtain ⟨b0, b1, b2, d0, d1, d2, p0, p1⟩ := J.out.held.b332
      go_quiet (fail)
      clear b0 b1 b2 d0 d1 d2 p0 p1
      replace J := Lib.hid (J.out.step (below_draws (Below.refl _ _) nq))
      generalize World.drewN _ nq = wz at *
      obtain ⟨b0, b1, b2, d0, d1, d2, p0, p1⟩ := J.out.held.b332
      go_wp2_with fail
      clear b0 b1 b2 d0 d1 d2 p0 p1
      refine (C13 _).out.mono ?_
      rintro e wq ⟨rfl, hb⟩
      replace J := Lib.hid (J.out.step hb)
      clear hb
      obtain ⟨b0, b1, b2, d0, d1, d2, p0, p1⟩ := J.out.held.b332
      go_wp2_with fail
      clear b0 b1 b2 d0 d1 d2 p0 p1
      refine (C13' _).out.mono ?_
      rintro e wq ⟨rfl, hb⟩
      replace J := Lib.hid (J.out.step hb)
      clear hb
      go_wp2_with fail
      refine (C14 _).out.mono ?_
      rintro e wq ⟨rfl, hb⟩
      replace J := Lib.hid (J.out.step hb)
      clear hb
      go_wp2_with fail
      go_ret
      exact ⟨rfl, J.out.below⟩
  · have C13 := fun W => Lib.hid (many_any hs a b A n W)
    generalize l.length = ln at *
    generalize m.length = lm at *
    clear hs H1 H2 C16 C16' HB HB'
    go_enter Try.func9, Try.ntmps9
    go_wp2_with fail
    obtain ⟨b0, b1, b2, d0, d1, d2, p0, p1⟩ := J.out.held.b332
    go_quiet (fail)
    clear b0 b1 b2 d0 d1 d2 p0 p1
    replace J := Lib.hid (J.out.step (below_draws (Below.refl _ _) nq))
    generalize World.drewN _ nq = wz at *
    obtain ⟨b0, b1, b2, d0, d1, d2, p0, p1⟩ := J.out.held.b332
    go_wp2_with fail
    clear b0 b1 b2 d0 d1 d2 p0 p1
    refine (C13 _).out.mono ?_
    rintro e wq ⟨rfl, hb⟩
    replace J := Lib.hid (J.out.step hb)
    clear hb
    go_wp2_with fail
    refine (C14 _).out.mono ?_
    rintro e wq ⟨rfl, hb⟩
    replace J := Lib.hid (J.out.step hb)
    clear hb
    go_wp2_with fail
    go_ret
    exact ⟨rfl, J.out.below⟩

end Go.Proofs.Ytahhcklkcibgoaa
