/-
  MessageCuts over the contracts of the program's functions.
-/
import Derived.Test.YtmpkjjmgfakomaaDoorLrt
import Derived.Test.YtmpkjjmgfakomaaDoorPjz
namespace Go.Proofs.YtmpkjjmgfakomaaDoor
open Go.RowKit Mem Wire

set_option maxRecDepth 100000 in
theorem slice28_lh {A : Option Addr} {n c : Nat} (lo hi : Nat) (h1 : lo ≤ hi) (h2 : hi ≤ c) (W : World) :
    (Instr.sliceAt 28 (.slice A n c) (some (.int .i64 lo)) (some (.int .i64 hi)) none).run Tryd.prog W = .ok (.slice (if c = lo then A else A.map (·.add lo)) (hi - lo) (c - lo)) W := by
  obtain ⟨i, hi', _, hsz, _⟩ := info_parts byte_info
  have he : Tryd.prog.elem 28 = 5 := by kernel_rfl
  have hu : Tryd.prog.underlying 28 = some (.slice (Tryd.prog.elem 28)) := by rw [he]; exact Tryd.underlying28
  rw [run_sliceAt_slice _ _ _ _ _ _ hu, run_slice_lh W 28 A n c hu .i64 .i64 lo hi (by omega) (by omega) (by omega), he]
  simp [sizeOf, typeInfo, hi', hsz, sliced, Result.andThen]

/-- what the law asks of a body that was cut off, and of one that goes on -/
theorem cut_facts {s : ByteArray} {m : Ms} {b : List UInt8} (h : encT (sigK s) m = (b, 0)) {k : Nat} (hk : 1 ≤ k) (hk2 : k ≤ b.length - 8) :
    decT (sigK s) 0 0 ((b.take (b.length - k)).drop 8) = (⟨0, 0, []⟩, 4) ∧ decT (sigK s) 0 0 (b.drop 8 ++ [0, 0, 0, 0]) = (⟨0, 0, []⟩, if 4096 < b.length - 8 + 4 + 8 then 5 else 3) := by
  obtain ⟨ks, hks, g1, c1, d1, l1, e1⟩ := enc_ok h
  have hl : b.length = 8 + (bodT m.ags).length := by rw [e1]; simp [enc4]; omega
  have hb8 : b.drop 8 = bodT m.ags := by rw [e1]; simp [enc4]
  have ht : (b.take (b.length - k)).drop 8 = (bodT m.ags).take ((bodT m.ags).length - k) := by
    rw [List.drop_take, hb8]
    congr 1
    omega
  refine ⟨?_, ?_⟩
  · rw [ht, hks]
    unfold decT
    dsimp only
    rw [if_neg (by omega), if_neg (by rw [List.length_take]; omega), dec_cut m.ags ks g1 [] _ (by omega)]
    simp
  · rw [hb8, hks]
    unfold decT
    dsimp only
    rw [if_neg (by omega)]
    by_cases hbig : 4088 < (bodT m.ags ++ [0, 0, 0, 0]).length
    · rw [if_pos hbig]
      rw [List.length_append] at hbig
      simp only [List.length_cons, List.length_nil] at hbig
      rw [if_pos (by omega)]
    · rw [if_neg hbig, dec_more g1 (by simp)]
      rw [List.length_append] at hbig
      simp only [List.length_cons, List.length_nil] at hbig
      rw [if_neg (c := 4096 < b.length - 8 + 4 + 8) (by omega)]
      simp

set_option maxRecDepth 100000 in
set_option maxHeartbeats 8000000 in
theorem cuts_walk {T : World → Prop} (K : PK T) {w : World} (hT : T w) {v : Value} {l : List AgV} (h : Ags w v l) (sg : ByteArray) {ob : Nat} (hob : ob < 4294967296) (oc : Int) {cut : Int} (hcut : In64 cut) :
    Calls Tryd.prog 9 #[.string sg, msVal ob oc v, .int .i64 cut] w (Says true w) := by
  have HA := Lib.hid h
  have HT := Lib.hid hT
  have L := fun (W : World) (hb : Below w.heap.size w W) => Lib.hid (light_any (HA.out.below hb) sg ob oc)
  have EX := fun (W : World) (hb : Below w.heap.size w W) => Lib.hid (K.ex (K.below HT.out hb))
  obtain ⟨A, cap, rfl, hcap, hm⟩ := h.shape
  have J := Lib.hid ((Held.nil w).alloc [.int .u32 (ob : Int), .int .i64 oc, .slice A l.length cap] 25)
  obtain ⟨n, hn⟩ : ∃ n, l.length = n := ⟨_, rfl⟩
  rw [hn] at J HA L ⊢
  obtain ⟨lt, hlt⟩ : ∃ b, lightB sg.size l = b := ⟨_, rfl⟩
  rw [hlt] at L
  obtain ⟨y0, y1, y2, -, -⟩ := (show Held w _ ([] ++ (w.heap.size, _) :: []) from J.out).tri
  cases lt with
  | false =>
    clear h hT hn hlt
    go_enter Tryd.func9, Tryd.ntmps9
    go_wp2_with fail
    refine (L _ J.out.below).out.mono ?_
    rintro e w1 ⟨rfl, hb⟩
    replace J := Lib.hid (J.out.step hb)
    clear hb L
    go_wp2_with fail
    refine (EX _ J.out.below).out.mono ?_
    rintro e w2 ⟨rfl, hb⟩
    replace J := Lib.hid (J.out.step hb)
    clear hb EX
    go_wp2_with fail
    go_ret
    exact ⟨rfl, J.out.below⟩
  | true =>
    have hL := light_of hlt
    have h40 := (light_all hlt).1
    have C := fun (W : World) (hb : Below w.heap.size w W) => Lib.hid (K.enc (K.below HT.out hb) (HA.out.below hb) hL sg h40 hob oc)
    obtain ⟨R, hR⟩ : ∃ R, encT (sigK sg) ⟨ob, oc, agL l⟩ = R := ⟨_, rfl⟩
    rw [hR] at C
    obtain ⟨bs, er⟩ := R
    have D := fun (W : World) (hb : Below w.heap.size w W) (A1 : Option Addr) (n1 k1 : Nat) (bb : List UInt8) (hs : Sees W (.slice A1 n1 k1) bb) (hn1 : n1 ≤ 300000) => Lib.hid (show Calls Tryd.prog 14 #[.string sg, .agg #[.int .u32 0, .int .i64 0, .slice A1 n1 k1]] W (GivesM (decT (sigK sg) 0 0 bb) W) from K.dec (K.below HT.out hb) hs sg h40 hn1 (ob := 0) (by decide) 0)
    obtain ⟨N, hN⟩ : ∃ N, bs.length = N := ⟨_, rfl⟩
    have FL := Lib.hid hN
    have CF : Hid (er = 0 → ∀ k : Nat, 1 ≤ k → k ≤ N - 8 → decT (sigK sg) 0 0 ((bs.take (N - k)).drop 8) = (⟨0, 0, []⟩, 4) ∧ decT (sigK sg) 0 0 (bs.drop 8 ++ [0, 0, 0, 0]) = (⟨0, 0, []⟩, if 4096 < N - 8 + 4 + 8 then 5 else 3)) := Lib.hid (fun e k hk hk2 => by
      subst e
      have := cut_facts hR hk (by rw [hN]; exact hk2)
      rw [hN] at this
      exact this)
    have F8 : Hid (er = 0 → 8 ≤ N ∧ N ≤ 4096) := Lib.hid (fun e => by
      subst e
      obtain ⟨N', f1, f2, f3, f4, _⟩ := rt_facts hR hob
      omega)
    clear h hT hn hlt hL hR hN
    go_enter Tryd.func9, Tryd.ntmps9
    go_wp2_with fail
    refine (L _ J.out.below).out.mono ?_
    rintro e w1 ⟨rfl, hb⟩
    replace J := Lib.hid (J.out.step hb)
    clear hb L y0 y1 y2
    obtain ⟨y0, y1, y2, -, -⟩ := (show Held w _ ([] ++ (w.heap.size, _) :: []) from J.out).tri
    go_wp2_with fail
    refine (C _ J.out.below).out.mono ?_
    rintro e w2 ⟨v1, rfl, s1, hb⟩
    replace J := Lib.hid (J.out.step hb)
    obtain ⟨A5, c5, rfl, hc5, hm5⟩ := s1.shape
    dsimp only at s1 hc5 ⊢
    rw [FL.out] at s1 hc5 ⊢
    have S1 := Lib.hid s1
    simp only [maxLen] at hm5
    clear hb C y0 y1 y2 s1
    by_cases he : er = 0
    · subst he
      obtain ⟨f8, f9⟩ := F8.out rfl
      have g1 : ¬ (N : Int) < 8 := by omega
      have g1b : decide ((N : Int) < 8) = false := decide_eq_false g1
      obtain ⟨m8, hm8⟩ : ∃ m, N - 8 = m := ⟨_, rfl⟩
      have e8 : (N : Int) - 8 = (m8 : Int) := by omega
      by_cases h1 : cut < 1
      · have h1b : decide (cut < 1) = true := decide_eq_true h1
        clear D CF F8 S1
        go_wp2_with fail
        refine (EX _ J.out.below).out.mono ?_
        rintro e w4 ⟨rfl, hb⟩
        replace J := Lib.hid (J.out.step hb)
        clear hb EX
        go_wp2_with fail
        go_ret
        exact ⟨rfl, J.out.below⟩
      have h1b : decide (cut < 1) = false := decide_eq_false h1
      by_cases h2 : (m8 : Int) < cut
      · have h2b : decide ((m8 : Int) < cut) = true := decide_eq_true h2
        clear D CF F8 S1
        go_wp2_with fail
        refine (EX _ J.out.below).out.mono ?_
        rintro e w4 ⟨rfl, hb⟩
        replace J := Lib.hid (J.out.step hb)
        clear hb EX
        go_wp2_with fail
        go_ret
        exact ⟨rfl, J.out.below⟩
      have h2b : decide ((m8 : Int) < cut) = false := decide_eq_false h2
      obtain ⟨k, rfl⟩ : ∃ k : Nat, cut = (k : Int) := ⟨cut.toNat, by omega⟩
      obtain ⟨d1, d2⟩ := CF.out rfl k (by omega) (by omega)
      obtain ⟨q, hq⟩ : ∃ q, N - k = q := ⟨_, rfl⟩
      have eq : (N : Int) - (k : Int) = (q : Int) := by omega
      have wq : IntKind.i64.wrap (q : Int) = (q : Int) := IntWalk.i64_in _ (by omega)
      have hsl0 := fun W => slice28_lh (A := A5) (n := N) (c := c5) 8 q (by omega) (by omega) W
      have hs2 := (S1.out.take (k := q) (by omega)).drop (k := 8) (by omega)
      rw [hq] at d1
      obtain ⟨A7, hA7⟩ : ∃ A7, (if c5 = 8 then A5 else A5.map (·.add 8)) = A7 := ⟨_, rfl⟩
      rw [hA7] at hsl0 hs2
      have D1 := fun (W : World) (hb : Below w2.heap.size w2 W) (hb2 : Below w.heap.size w W) => (D W hb2 _ _ _ _ (hs2.below hb) (by omega))
      rw [d1] at D1
      have hsl1 := fun W => slice28_l (A := A5) (n := N) (c := c5) 8 f8 W
      have hs3 := S1.out.drop (k := 8) f8
      rw [hA7, hm8] at hsl1 hs3
      have S3 := Lib.hid hs3
      have hsl : ∀ W, (Instr.sliceAt 28 (.slice A5 N c5) (some (.int .i64 8)) (some (.int .i64 (q : Int))) none).run Tryd.prog W = .ok (.slice A7 (q - 8) (c5 - 8)) W := hsl0
      have hsm : ∀ W, (Instr.sliceAt 28 (.slice A5 N c5) (some (.int .i64 8)) none none).run Tryd.prog W = .ok (.slice A7 m8 (c5 - 8)) W := hsl1
      have D2 := fun (W : World) (hb2 : Below w.heap.size w W) (A1 : Option Addr) (n1 k1 : Nat) (hs : Sees W (.slice A1 n1 k1) (bs.drop 8 ++ [0, 0, 0, 0])) (hn1 : n1 ≤ 300000) => (D W hb2 A1 n1 k1 _ hs hn1)
      rw [d2, hm8] at D2
      obtain ⟨Q8, hQ8⟩ : ∃ x, q - 8 = x := ⟨_, rfl⟩
      rw [hQ8] at hsl D1
      have HM8 := Lib.hid hm8
      have HQ := Lib.hid hq
      clear hsl0 hsl1 hs2 hs3 hA7 D CF F8 S1 d1 d2 hQ8 hm8 hq
      go_wp2_with fail
      refine (D1 _ (Below.refl _ _) J.out.below).out.mono ?_
      rintro e w3 ⟨v2, l2, rfl, a2, hl2, hb⟩
      obtain ⟨A8, c8, rfl, -, -⟩ := a2.shape
      dsimp only
      replace J := Lib.hid ((J.out.step hb).made (.cells #[.int .u32 0, .int .i64 0, .slice A8 l2.length c8] 25))
      replace S3 := Lib.hid ((S3.out.below hb).alloc (.cells #[.int .u32 0, .int .i64 0, .slice A8 l2.length c8] 25))
      clear hb a2 hl2 D1 hsl
      generalize l2.length = n2 at *
      go_upto_region 7 with (fail)
      generalize w3.alloc (.cells #[.int .u32 0, .int .i64 0, .slice A8 n2 c8] 25) = w4 at *
      have SN := fun (W : World) => Lib.hid (sees_new W #[.int .u8 0, .int .u8 0, .int .u8 0, .int .u8 0] (t := 5) [0, 0, 0, 0] 4 rfl rfl (by simp [maxLen]))
      have hL9 : (bs.drop 8 ++ [0, 0, 0, 0]).length = m8 + 4 := by
        rw [List.length_append, List.length_drop, FL.out, HM8.out]
        rfl
      have HL9 := Lib.hid hL9
      have HD8 : Hid ((bs.drop 8).length = m8) := Lib.hid (by rw [List.length_drop, FL.out, HM8.out])
      have HM9 : Hid (m8 ≤ 4096) := Lib.hid (by omega)
      clear hL9
      go_wp2_with (first
        | (at_builtin; refine wpList_app rfl (.tmp 57) (.tmp 59) rfl rfl (own_empty w4) rfl (S3.out.alloc _) (by have := HD8.out; have := HM9.out; simp only [List.length_nil]; omega) (by simp) ?_; intro v5 w5 ho5 hg5 _; rw [List.nil_append] at ho5; have HO5 := Lib.hid ho5; have HB5 := Lib.hid (below_grownB ((Below.refl w4.heap.size w4).alloc (Nat.le_refl _) _) hg5 (own_empty w4)); clear ho5 hg5)
        | (at_builtin; refine wpList_app rfl (.tmp 60) (.tmp 61) rfl rfl (HO5.out.alloc _) rfl (SN w5).out (by have := HD8.out; have := HM9.out; simp only [List.length_cons, List.length_nil]; omega) (HB5.out.alloc HB5.out.size _).size ?_; intro v6 w6 ho6 hg6 _; obtain ⟨A9, c9, hv9, _, _⟩ := ho6.sees.shape; rw [HL9.out] at hv9; subst hv9; have HO6 := Lib.hid ho6; have HB6 := Lib.hid (below_grownB (HB5.out.alloc HB5.out.size _) hg6 (HO5.out.alloc _)); clear ho6 hg6))
      replace J := Lib.hid (J.out.step HB6.out)
      have DD := D2 _ J.out.below _ _ _ HO6.out.sees (by have := HM9.out; omega)
      clear D2 HO6 HB6 HO5 HB5 S3 SN hsm
      obtain ⟨m12, hm12⟩ : ∃ x, m8 + 4 = x := ⟨_, rfl⟩
      rw [hm12] at DD ⊢
      have g12 : (m8 : Int) + 4 = (m12 : Int) := by omega
      have hm13 : m12 ≤ 4100 := by have := HM9.out; omega
      by_cases hbig : 4096 < m12 + 8
      · rw [if_pos hbig] at DD
        have p1 : (4096 : Int) < (m12 : Int) + 8 := by omega
        have p2 : decide ((4096 : Int) < (m12 : Int) + 8) = true := decide_eq_true p1
        refine DD.out.mono ?_
        rintro e w7 ⟨v9, l9, rfl, a9, hl9, hb⟩
        obtain ⟨A10, c10, rfl, -, -⟩ := a9.shape
        dsimp only
        replace J := Lib.hid ((J.out.step hb).made (.cells #[.int .u32 0, .int .i64 0, .slice A10 l9.length c10] 25))
        clear hb a9 hl9 DD
        generalize l9.length = n9 at *
        go_wp2_with fail
        refine (EX _ J.out.below).out.mono ?_
        rintro e w8 ⟨rfl, hb⟩
        replace J := Lib.hid (J.out.step hb)
        clear hb EX
        go_wp2_with fail
        go_ret
        exact ⟨rfl, J.out.below⟩
      · rw [if_neg hbig] at DD
        have p1 : ¬ (4096 : Int) < (m12 : Int) + 8 := by omega
        have p2 : decide ((4096 : Int) < (m12 : Int) + 8) = false := decide_eq_false p1
        refine DD.out.mono ?_
        rintro e w7 ⟨v9, l9, rfl, a9, hl9, hb⟩
        obtain ⟨A10, c10, rfl, -, -⟩ := a9.shape
        dsimp only
        replace J := Lib.hid ((J.out.step hb).made (.cells #[.int .u32 0, .int .i64 0, .slice A10 l9.length c10] 25))
        clear hb a9 hl9 DD
        generalize l9.length = n9 at *
        go_wp2_with fail
        refine (EX _ J.out.below).out.mono ?_
        rintro e w8 ⟨rfl, hb⟩
        replace J := Lib.hid (J.out.step hb)
        clear hb EX
        go_wp2_with fail
        go_ret
        exact ⟨rfl, J.out.below⟩
    · have q4 : (er != 0) = true := bne_iff_ne.2 he
      have q5 : (er == 0) = false := beq_eq_false_iff_ne.2 he
      clear D CF F8 S1
      go_wp2_with fail
      refine (EX _ J.out.below).out.mono ?_
      rintro e w4 ⟨rfl, hb⟩
      replace J := Lib.hid (J.out.step hb)
      clear hb EX
      go_wp2_with fail
      go_ret
      exact ⟨rfl, J.out.below⟩

end Go.Proofs.YtmpkjjmgfakomaaDoor
