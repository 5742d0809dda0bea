/-
  MessageRoundTrip over the contracts of the program's functions.
-/
import Derived.Test.YtmpkjjmgfakomaaDoorLfw
import Derived.Test.YtmpkjjmgfakomaaDoorPmu
namespace Go.Proofs.YtmpkjjmgfakomaaDoor
open Go.RowKit Mem Wire

theorem enc_bad {s : ByteArray} {m : Ms} {b : List UInt8} {er : Int} (h : encT (sigK s) m = (b, er)) (he : er ≠ 0) : b = [] := by
  unfold encT at h
  split at h
  · exact (congrArg Prod.fst h).symm
  · split at h
    · exact (congrArg Prod.fst h).symm
    · exact absurd (congrArg Prod.snd h).symm he
/-- what the law asks of the bytes of an encoded message -/
theorem rt_facts {s : ByteArray} {m : Ms} {b : List UInt8} (h : encT (sigK s) m = (b, 0)) (ho : m.ob < 4294967296) :
    ∃ n, b.length = n ∧ 8 ≤ n ∧ n % 4 = 0 ∧ n ≤ 4096 ∧ at4 b = m.ob ∧ ∃ hd : Nat, at4 (b.drop 4) = hd ∧ (hd : Int) % 65536 = m.oc ∧ (hd : Int) / 65536 = (n : Int) ∧ hd < 4294967296 ∧ b.drop 8 = bodT m.ags ∧ decT (sigK s) m.ob m.oc (b.drop 8) = (m, 0) := by
  obtain ⟨ks, hk, g1, c1, d1, l1, e1⟩ := enc_ok h
  have hl : b.length = 8 + (bodT m.ags).length := by rw [e1]; simp [enc4]; omega
  have h4 := bod_four m.ags
  have hhd : headT (bodT m.ags).length m.oc < 4294967296 := by unfold headT; omega
  have hb8 : b.drop 8 = bodT m.ags := by rw [e1]; simp [enc4]
  refine ⟨_, hl, by omega, by omega, by omega, ?_, headT (bodT m.ags).length m.oc, ?_, ?_, ?_, hhd, hb8, ?_⟩
  · rw [e1, List.append_assoc, at4_enc _ ho]
  · have : b.drop 4 = enc4 (headT (bodT m.ags).length m.oc) ++ bodT m.ags := by rw [e1]; simp [enc4]
    rw [this, at4_enc _ hhd]
  · unfold headT; omega
  · unfold headT; omega
  · rw [hb8, hk]
    unfold decT
    dsimp only
    rw [if_neg (by omega), if_neg (by omega), dec_good g1]
    simp

theorem at4_drop (b : List UInt8) : at4 (b.drop 4) = num4 (b.getD 4 0).toNat (b.getD 5 0).toNat (b.getD 6 0).toNat (b.getD 7 0).toNat := by
  unfold at4
  simp [List.getD]

theorem cells8 {w : World} {A : Option Addr} {n c : Nat} {bs : List UInt8} (h : Sees w (.slice A n c) bs) (h8 : 8 ≤ n) : ∃ b off, A = some ⟨b, off, none⟩ ∧ b < w.heap.size ∧ ∀ i, i < 8 → w.cell? ⟨b, off + i, none⟩ = some (.int .u8 ((bs.getD i 0).toNat : Int)) := by
  obtain ⟨A', cap', hv, _, _, h3⟩ := h
  injection hv with e1 e2 e3
  subst e1 e2 e3
  obtain ⟨b, off, hA, hlt, hc⟩ := h3 (by omega)
  exact ⟨b, off, hA, hlt, fun i hi => hc i (by omega)⟩

set_option maxRecDepth 100000 in
set_option maxHeartbeats 8000000 in
theorem round_walk {T : World → Prop} (K : PK T) {w : World} (hT : T w) {v : Value} {l : List AgV} (h : Ags w v l) (sg : ByteArray) {ob : Nat} (hob : ob < 4294967296) (oc : Int) :
    Calls Tryd.prog 6 #[.string sg, msVal ob oc v] w (Says true w) := by
  have HA := Lib.hid h
  have HT := Lib.hid hT
  have L := fun (W : World) (hb : Below w.heap.size w W) => Lib.hid (light_any (HA.out.below hb) sg ob oc)
  have EX := fun (W : World) (hb : Below w.heap.size w W) => Lib.hid (K.ex (K.below HT.out hb))
  obtain ⟨A, cap, rfl, hcap, hm⟩ := h.shape
  have J := Lib.hid ((Held.nil w).alloc [.int .u32 (ob : Int), .int .i64 oc, .slice A l.length cap] 25)
  obtain ⟨n, hn⟩ : ∃ n, l.length = n := ⟨_, rfl⟩
  rw [hn] at J HA L ⊢
  obtain ⟨lt, hlt⟩ : ∃ b, lightB sg.size l = b := ⟨_, rfl⟩
  rw [hlt] at L
  obtain ⟨y0, y1, y2, -, -⟩ := (show Held w _ ([] ++ (w.heap.size, _) :: []) from J.out).tri
  cases lt with
  | false =>
    clear h hT hn hlt
    go_enter Tryd.func6, Tryd.ntmps6
    go_wp2_with fail
    refine (L _ J.out.below).out.mono ?_
    rintro e w1 ⟨rfl, hb⟩
    replace J := Lib.hid (J.out.step hb)
    clear hb L
    go_wp2_with fail
    refine (EX _ J.out.below).out.mono ?_
    rintro e w2 ⟨rfl, hb⟩
    replace J := Lib.hid (J.out.step hb)
    clear hb EX
    go_wp2_with fail
    go_ret
    exact ⟨rfl, J.out.below⟩
  | true =>
    have hL := light_of hlt
    have h40 := (light_all hlt).1
    have C := fun (W : World) (hb : Below w.heap.size w W) => Lib.hid (K.enc (K.below HT.out hb) (HA.out.below hb) hL sg h40 hob oc)
    obtain ⟨R, hR⟩ : ∃ R, encT (sigK sg) ⟨ob, oc, agL l⟩ = R := ⟨_, rfl⟩
    rw [hR] at C
    obtain ⟨bs, er⟩ := R
    by_cases he : er = 0
    · subst he
      obtain ⟨N, f1, f2, f3, f4, f5, hd, f6, f7, f8, f9, f10, f11⟩ := rt_facts hR hob
      dsimp only at f5 f7 f11
      have D := fun (W : World) (hb : Below w.heap.size w W) (A1 : Option Addr) (n1 k1 : Nat) (hs : Sees W (.slice A1 n1 k1) (bs.drop 8)) (hn1 : n1 ≤ 300000) => Lib.hid (K.dec (K.below HT.out hb) hs sg h40 hn1 hob oc)
      rw [f11] at D
      have FL := Lib.hid f1
      clear h hT hn hlt hL hR
      go_enter Tryd.func6, Tryd.ntmps6
      go_wp2_with fail
      refine (L _ J.out.below).out.mono ?_
      rintro e w1 ⟨rfl, hb⟩
      replace J := Lib.hid (J.out.step hb)
      clear hb L y0 y1 y2
      obtain ⟨y0, y1, y2, -, -⟩ := (show Held w _ ([] ++ (w.heap.size, _) :: []) from J.out).tri
      go_wp2_with fail
      refine (C _ J.out.below).out.mono ?_
      rintro e w2 ⟨v1, rfl, s1, hb⟩
      replace J := Lib.hid (J.out.step hb)
      obtain ⟨A5, c5, rfl, hc5, hm5⟩ := s1.shape
      dsimp only at s1 hc5 ⊢
      rw [FL.out] at s1 hc5 ⊢
      obtain ⟨b, off, rfl, hbl, cc⟩ := cells8 s1 f2
      have c0 := cc 0 (by omega)
      have c1 := cc 1 (by omega)
      have c2 := cc 2 (by omega)
      have c3 := cc 3 (by omega)
      have c4 := cc 4 (by omega)
      have c5' := cc 5 (by omega)
      have c6 := cc 6 (by omega)
      have c7 := cc 7 (by omega)
      rw [Nat.add_zero] at c0
      have S1 := Lib.hid s1
      have g1 : ¬ (N : Int) < 8 := by omega
      have g2 : (N : Int) % 4 = 0 := by omega
      have g3 : ¬ (4096 : Int) < (N : Int) := by omega
      have hbyte : ∀ x : UInt8, x.toNat < 256 := fun x => x.toNat_lt
      have b0 := hbyte (bs.getD 0 0)
      have b1 := hbyte (bs.getD 1 0)
      have b2 := hbyte (bs.getD 2 0)
      have b3 := hbyte (bs.getD 3 0)
      have b4 := hbyte (bs.getD 4 0)
      have b5 := hbyte (bs.getD 5 0)
      have b6 := hbyte (bs.getD 6 0)
      have b7 := hbyte (bs.getD 7 0)
      rw [at4_drop] at f6
      unfold at4 at f5
      unfold num4 at f5 f6
      generalize (bs.getD 0 0).toNat = x0 at *
      generalize (bs.getD 1 0).toNat = x1 at *
      generalize (bs.getD 2 0).toNat = x2 at *
      generalize (bs.getD 3 0).toNat = x3 at *
      generalize (bs.getD 4 0).toNat = x4 at *
      generalize (bs.getD 5 0).toNat = x5 at *
      generalize (bs.getD 6 0).toNat = x6 at *
      generalize (bs.getD 7 0).toNat = x7 at *
      have F5 : Hid ((x0 : Int) + (x1 : Int) * 256 + (x2 : Int) * 65536 + (x3 : Int) * 16777216 = (ob : Int)) := Lib.hid (by omega)
      have F6 : Hid ((x4 : Int) + (x5 : Int) * 256 + (x6 : Int) * 65536 + (x7 : Int) * 16777216 = (hd : Int)) := Lib.hid (by omega)
      have F7 := Lib.hid f7
      have F8 := Lib.hid f8
      have F2 := Lib.hid f2
      have F4 := Lib.hid f4
      have F9 := Lib.hid f9
      clear hb C y0 y1 y2 s1 cc f1 f3 hbyte f5 f6 f10 f11 f7 f8 f2 f4 f9
      obtain ⟨y0, y1, y2, -, -⟩ := (show Held w _ ([] ++ (w.heap.size, _) :: []) from J.out).tri
      go_wp2_with fail
      go_quiet (fail)
      obtain ⟨k1, hk1⟩ : ∃ k, k = nq := ⟨_, rfl⟩
      subst hk1
      go_wp2_with fail
      go_quiet (fail)
      rw [F5.out, F6.out]
      have BD := (below_draws (Below.refl w2.heap.size w2) k1)
      have BD2 := below_draws BD nq
      replace J := Lib.hid (J.out.step BD2)
      replace S1 := Lib.hid (S1.out.below BD2)
      clear BD BD2 y0 y1 y2 c0 c1 c2 c3 c4 c5' c6 c7 b0 b1 b2 b3 b4 b5 b6 b7 F5 F6 hbl
      generalize (w2.drewN k1).drewN nq = w3 at *
      have f2 := F2.out
      have f4 := F4.out
      have f9 := F9.out
      have f7 := F7.out
      have f8 := F8.out
      have g5 : (0 : Int) ≤ oc := by omega
      have g6 : oc ≤ 65535 := by omega
      have hsl0 := fun W => slice28_l (A := some ⟨b, off, none⟩) (n := N) (c := c5) 8 f2 W
      have hdr := S1.out.drop (k := 8) f2
      obtain ⟨A7, hA7⟩ : ∃ A7, (if c5 = 8 then (some ⟨b, off, none⟩ : Option Addr) else (some ⟨b, off, none⟩ : Option Addr).map (·.add 8)) = A7 := ⟨_, rfl⟩
      rw [hA7] at hsl0 hdr
      have DD := D _ J.out.below _ _ _ hdr (by omega)
      have hsl : ∀ W, (Instr.sliceAt 28 (.slice (some ⟨b, off, none⟩) N c5) (some (.int .i64 8)) none none).run Tryd.prog W = .ok (.slice A7 (N - 8) (c5 - 8)) W := hsl0
      clear hsl0 hdr hA7 D S1
      obtain ⟨N8, hN8⟩ : ∃ k, N - 8 = k := ⟨_, rfl⟩
      rw [hN8] at hsl DD
      clear hN8
      go_wp2_with fail
      refine DD.out.mono ?_
      rintro e w4 ⟨v2, l2, rfl, a2, hl2, hb⟩
      obtain ⟨A8, c8, rfl, -, -⟩ := a2.shape
      dsimp only at hl2 ⊢
      have JX := (J.out.step hb).alloc [.int .u32 (ob : Int), .int .i64 oc, .slice A8 l2.length c8] 25
      have hb2 : Below w4.heap.size w4 (w4.alloc (.cells #[.int .u32 (ob : Int), .int .i64 oc, .slice A8 l2.length c8] 25)) := (Below.refl _ _).alloc (Nat.le_refl _) _
      replace J := Lib.hid JX
      have A2 := Lib.hid (a2.below hb2)
      have Q := fun (W : World) (hb : Below w.heap.size w W) (ha : Ags W (.slice A8 l2.length c8) l2) => Lib.hid (show Calls Tryd.prog 19 #[.agg #[.int .u32 (ob : Int), .int .i64 oc, .slice A8 l2.length c8], .agg #[.int .u32 (ob : Int), .int .i64 oc, .slice A n cap]] W (Says true W) from by
        have := K.eql (K.below HT.out hb) ha (HA.out.below hb) ob ob oc oc
        rw [hl2, (eqM_iff _ _).2 rfl] at this
        exact this)
      have R := fun (W : World) (hb : Below w.heap.size w W) (ha : Ags W (.slice A8 l2.length c8) l2) => Lib.hid (show Calls Tryd.prog 16 #[.agg #[.int .u32 (ob : Int), .int .i64 oc, .slice A8 l2.length c8], .agg #[.int .u32 (ob : Int), .int .i64 oc, .slice A n cap]] W (Says true W) from by
        have := equal_any ha (HA.out.below hb) ob ob oc oc
        rw [hl2, (eqM_iff _ _).2 rfl] at this
        exact this)
      clear hb hb2 JX a2 DD hsl hl2
      generalize l2.length = n2 at *
      obtain ⟨y0, y1, y2, -, -⟩ := (show Held w _ ([_] ++ (w.heap.size, _) :: []) from J.out).tri
      obtain ⟨z0, z1, z2, -, -⟩ := (show Held w _ ([] ++ (w4.heap.size, _) :: [_]) from J.out).tri
      go_wp2_with fail
      refine (Q _ J.out.below A2.out).out.mono ?_
      rintro e w5 ⟨rfl, hb⟩
      replace J := Lib.hid (J.out.step hb)
      replace A2 := Lib.hid (A2.out.below hb)
      clear hb Q y0 y1 y2 z0 z1 z2
      obtain ⟨y0, y1, y2, -, -⟩ := (show Held w _ ([_] ++ (w.heap.size, _) :: []) from J.out).tri
      obtain ⟨z0, z1, z2, -, -⟩ := (show Held w _ ([] ++ (w4.heap.size, _) :: [_]) from J.out).tri
      go_wp2_with fail
      refine (R _ J.out.below A2.out).out.mono ?_
      rintro e w6 ⟨rfl, hb⟩
      replace J := Lib.hid (J.out.step hb)
      clear hb R y0 y1 y2 z0 z1 z2 A2
      go_wp2_with fail
      refine (EX _ J.out.below).out.mono ?_
      rintro e w7 ⟨rfl, hb⟩
      replace J := Lib.hid (J.out.step hb)
      clear hb EX
      go_wp2_with fail
      go_ret
      exact ⟨rfl, J.out.below⟩
    · have hb0 := enc_bad hR he
      subst hb0
      have q4 : (er != 0) = true := bne_iff_ne.2 he
      clear h hT hn hlt hL h40 hR
      go_enter Tryd.func6, Tryd.ntmps6
      go_wp2_with fail
      refine (L _ J.out.below).out.mono ?_
      rintro e w1 ⟨rfl, hb⟩
      replace J := Lib.hid (J.out.step hb)
      clear hb L y0 y1 y2
      obtain ⟨y0, y1, y2, -, -⟩ := (show Held w _ ([] ++ (w.heap.size, _) :: []) from J.out).tri
      go_wp2_with fail
      refine (C _ J.out.below).out.mono ?_
      rintro e w2 ⟨v1, rfl, s1, hb⟩
      replace J := Lib.hid (J.out.step hb)
      obtain ⟨A5, c5, rfl, _, _⟩ := s1.shape
      clear hb C y0 y1 y2 s1
      dsimp only [List.length_nil]
      go_wp2_with fail
      refine (EX _ J.out.below).out.mono ?_
      rintro e w4 ⟨rfl, hb⟩
      replace J := Lib.hid (J.out.step hb)
      clear hb EX
      go_wp2_with fail
      go_ret
      exact ⟨rfl, J.out.below⟩

end Go.Proofs.YtmpkjjmgfakomaaDoor
