/-
  MessageFrames over the contracts of the program's functions.
-/
import Derived.Test.YtmpkjjmgfakomaaDoorLfr
namespace Go.Proofs.YtmpkjjmgfakomaaDoor
open Go.RowKit Mem Wire

set_option maxRecDepth 100000 in
theorem slice28_l {A : Option Addr} {n c : Nat} (lo : Nat) (h1 : lo ≤ n) (W : World) :
    (Instr.sliceAt 28 (.slice A n c) (some (.int .i64 lo)) none none).run Tryd.prog W = .ok (.slice (if c = lo then A else A.map (·.add lo)) (n - lo) (c - lo)) W := by
  obtain ⟨i, hi', _, hsz, _⟩ := info_parts byte_info
  have he : Tryd.prog.elem 28 = 5 := by kernel_rfl
  have hu : Tryd.prog.underlying 28 = some (.slice (Tryd.prog.elem 28)) := by rw [he]; exact Tryd.underlying28
  rw [run_sliceAt_slice _ _ _ _ _ _ hu, run_slice_l W 28 A n c hu .i64 lo (by omega) (by omega), he]
  simp [sizeOf, typeInfo, hi', hsz, sliced, Result.andThen]

theorem fr_sk {w W : World} {k : Nat} {x0 x1 x2 y0 y1 y2 : Value} (h : Held w W [(k, [y0, y1, y2]), (w.heap.size, [x0, x1, x2])]) :
    (W.cell? ⟨w.heap.size, 0, none⟩ = some x0 ∧ W.cell? ⟨w.heap.size, 1, none⟩ = some x1 ∧ W.cell? ⟨w.heap.size, 2, none⟩ = some x2) ∧ W.cell? ⟨k, 0, none⟩ = some y0 ∧ W.cell? ⟨k, 1, none⟩ = some y1 ∧ W.cell? ⟨k, 2, none⟩ = some y2 := by
  obtain ⟨x0, x1, x2, -, -⟩ := (show Held w W ([_] ++ (w.heap.size, [x0, x1, x2]) :: []) from h).tri
  obtain ⟨y0, y1, y2, -, -⟩ := (show Held w W ([] ++ (k, [y0, y1, y2]) :: [_]) from h).tri
  exact ⟨⟨x0, x1, x2⟩, y0, y1, y2⟩

set_option maxRecDepth 100000 in
set_option maxHeartbeats 4000000 in
theorem frames_walk {T : World → Prop} (K : PK T) {w : World} (hT : T w) {A : Option Addr} {n c : Nat} {bs : List UInt8} (h : Sees w (.slice A n c) bs) (sg : ByteArray) {ob : Nat} (hob : ob < 4294967296) (oc : Int) :
    Calls Tryd.prog 7 #[.string sg, .agg #[.int .u32 (ob : Int), .int .i64 oc, .slice A n c]] w (Says true w) := by
  have HA := Lib.hid h
  have HT := Lib.hid hT
  have EX := fun (W : World) (hb : Below w.heap.size w W) => Lib.hid (K.ex (K.below HT.out hb))
  obtain ⟨_, _, hv, hc1, hc2⟩ := h.shape
  simp only [Value.slice.injEq] at hv
  obtain ⟨rfl, hlen, rfl⟩ := hv
  rw [← hlen] at hc1
  simp only [maxLen] at hc2
  have J := Lib.hid ((Held.nil w).alloc [.int .u32 (ob : Int), .int .i64 oc, .slice A n c] 33)
  obtain ⟨y0, y1, y2, -, -⟩ := (show Held w _ ([] ++ (w.heap.size, _) :: []) from J.out).tri
  by_cases h1 : 40 < sg.size
  · have q1 : (40 : Int) < sg.size := by omega
    clear h hT hlen
    go_enter Tryd.func7, Tryd.ntmps7
    go_wp2_with fail
    refine (EX _ J.out.below).out.mono ?_
    rintro e w2 ⟨rfl, hb⟩
    replace J := Lib.hid (J.out.step hb)
    clear hb EX
    go_wp2_with fail
    go_ret
    exact ⟨rfl, J.out.below⟩
  have q1 : ¬ (40 : Int) < sg.size := by omega
  by_cases h2 : 4200 < n
  · have q2 : (4200 : Int) < n := by omega
    have q3 : decide (4200 < n) = true := decide_eq_true h2
    clear h hT hlen
    go_enter Tryd.func7, Tryd.ntmps7
    go_wp2_with fail
    refine (EX _ J.out.below).out.mono ?_
    rintro e w2 ⟨rfl, hb⟩
    replace J := Lib.hid (J.out.step hb)
    clear hb EX
    go_wp2_with fail
    go_ret
    exact ⟨rfl, J.out.below⟩
  have q2 : ¬ (4200 : Int) < n := by omega
  have q3 : decide (4200 < n) = false := decide_eq_false h2
  have C := fun (W : World) (hb : Below w.heap.size w W) => Lib.hid (K.dec (K.below HT.out hb) (HA.out.below hb) sg (by omega) (by omega) hob oc)
  obtain ⟨R, hR⟩ : ∃ R, decT (sigK sg) ob oc bs = R := ⟨_, rfl⟩
  rw [hR] at C
  obtain ⟨m, er⟩ := R
  by_cases he : er = 0
  · subst he
    obtain ⟨d1, d2, d3, d4, d5, d6⟩ := dec_ok hR
    obtain ⟨mo, mc, ml⟩ := m
    dsimp only at d1 d2 d3 d4 d5 d6
    subst d1 d2
    have D := fun (W : World) (hb : Below w.heap.size w W) (v : Value) (l : List AgV) (hA : Ags W v l) (hl : agL l = ml) => Lib.hid (K.enc (K.below HT.out hb) hA (show Light l from by
      refine ⟨?_, fun p hp => ?_⟩
      · have : (agL l).length ≤ 16 := by rw [hl]; exact d6
        unfold agL at this
        rw [List.length_map] at this
        omega
      · have := d5 p.1 (by rw [← hl]; exact List.mem_map.2 ⟨p, hp, rfl⟩)
        omega) sg (by omega) hob mc)
    obtain ⟨B, hB⟩ : ∃ B, enc4 mo ++ enc4 (headT bs.length mc) ++ bs = B := ⟨_, rfl⟩
    have hBl : B.length = n + 8 := by rw [← hB, hlen]; simp [enc4]
    have hBd : B.drop 8 = bs := by rw [← hB]; simp [enc4]
    have HE := Lib.hid d4
    rw [hB] at HE
    have H3 := Lib.hid d3
    have HBD := Lib.hid hBd
    obtain ⟨N8, hN8⟩ : ∃ k, n + 8 = k := ⟨_, rfl⟩
    rw [hN8] at hBl
    have H8 := Lib.hid hN8
    have H42 := Lib.hid h2
    have HBL := Lib.hid hBl
    clear h hT hR d3 d4 d5 d6 hB hBd h1 h2 hlen hBl hN8
    go_enter Tryd.func7, Tryd.ntmps7
    go_wp2_with fail
    refine (C _ J.out.below).out.mono ?_
    rintro e w2 ⟨v1, l1, rfl, s1, a1, hb⟩
    replace J := Lib.hid (J.out.step hb)
    obtain ⟨A5, c5, rfl, _, _⟩ := s1.shape
    dsimp only at a1 ⊢
    have hn1 : l1.length = sg.size := by
      have := congrArg List.length a1
      unfold agL at this
      rw [List.length_map] at this
      rw [this]
      exact H3.out
    have E0 := fun (W : World) (hb : Below w2.heap.size w2 W) (hb2 : Below w.heap.size w W) => (D W hb2 _ l1 (s1.below hb) a1)
    rw [a1, HE.out, hn1] at E0
    rw [hn1]
    clear C s1 a1 hn1 q1 q2 q3 y0 y1 y2 D HE H3
    replace J := Lib.hid (J.out.alloc [.int .u32 (mo : Int), .int .i64 mc, .slice A5 sg.size c5] 25)
    have BW := Lib.hid ((Below.refl w2.heap.size w2).alloc (Nat.le_refl _) (.cells #[.int .u32 (mo : Int), .int .i64 mc, .slice A5 sg.size c5] 25))
    obtain ⟨y0, y1, y2, -, -⟩ := (show Held w _ ([_] ++ (w.heap.size, _) :: []) from J.out).tri
    obtain ⟨z0, z1, z2, -, -⟩ := (show Held w _ ([] ++ (w2.heap.size, _) :: [_]) from J.out).tri
    go_wp2_with fail
    refine (E0 _ BW.out J.out.below).out.mono ?_
    rintro e w3 ⟨v3, rfl, s3, hb⟩
    replace J := Lib.hid (J.out.step hb)
    obtain ⟨A6, c6, rfl, hc6, hm6⟩ := s3.shape
    dsimp only at s3 hc6 ⊢
    rw [HBL.out] at s3 hc6 ⊢
    have S3 := Lib.hid s3
    simp only [maxLen] at hm6
    clear hb s3 E0 BW y0 y1 y2 z0 z1 z2 HBL
    have e8 : N8 - 8 = n := by have := H8.out; omega
    have g8 : 8 ≤ N8 := by have := H8.out; omega
    have hsl0 := fun W => slice28_l (A := A6) (n := N8) (c := c6) 8 g8 W
    rw [e8] at hsl0
    have hdr := S3.out.drop (k := 8) g8
    rw [HBD.out, e8] at hdr
    obtain ⟨A7, hA7⟩ : ∃ A7, (if c6 = 8 then A6 else A6.map (·.add 8)) = A7 := ⟨_, rfl⟩
    rw [hA7] at hsl0 hdr
    have S7 := Lib.hid hdr
    have hsl : ∀ W, (Instr.sliceAt 28 (.slice A6 N8 c6) (some (.int .i64 8)) none none).run Tryd.prog W = .ok (.slice A7 n (c6 - 8)) W := hsl0
    obtain ⟨t, ht⟩ : ∃ s : ByteArray, (⟨bs.toArray⟩ : ByteArray) = s := ⟨_, rfl⟩
    have HTT := Lib.hid ht
    have qt : (t.toList == t.toList) = true := by simp
    have qn : ((N8 : Int) == 8 + (n : Int)) = true := by
      rw [beq_iff_eq]
      have := H8.out
      omega
    have wr : IntKind.i64.wrap (8 + (n : Int)) = 8 + (n : Int) := by
      have := H42.out
      simp [IntKind.wrap, IntKind.bits, IntKind.signed]
      omega
    clear e8 g8 hsl0 hdr hA7 ht HBD
    go_upto_region 7 with (fail)
    replace J := Lib.hid J.out.drew
    replace S7 := Lib.hid S7.out.drew
    have sk := And.intro (fr_sk J.out) (And.intro (text_let S7.out HTT.out) (text_let (HA.out.below J.out.below) HTT.out))
    go_region_held3 (fun W => ((W.cell? ⟨w.heap.size, 0, none⟩ = some (.int .u32 (mo : Int)) ∧ W.cell? ⟨w.heap.size, 1, none⟩ = some (.int .i64 mc) ∧ W.cell? ⟨w.heap.size, 2, none⟩ = some (.slice A n c)) ∧ W.cell? ⟨w2.heap.size, 0, none⟩ = some (.int .u32 (mo : Int)) ∧ W.cell? ⟨w2.heap.size, 1, none⟩ = some (.int .i64 mc) ∧ W.cell? ⟨w2.heap.size, 2, none⟩ = some (.slice A5 sg.size c5)) ∧ (convert 28 9 (.slice A7 n (c6 - 8))).run Tryd.prog W = .ok (.string t) W ∧ (convert 28 9 (.slice A n c)).run Tryd.prog W = .ok (.string t) W)
      (first
        | exact sk
        | go_keep)
      (first
        | (go_at_call 11; (with_reducible refine (EX _ J.out.below).out.mono ?_); rintro e wq ⟨rfl, hb2⟩; replace J := Lib.hid (J.out.step hb2); replace S7 := Lib.hid (S7.out.below hb2); clear sk hb2; have sk := And.intro (fr_sk J.out) (And.intro (text_let S7.out HTT.out) (text_let (HA.out.below J.out.below) HTT.out)))
        | fail)
    all_goals
      go_wp2_with fail
      go_ret
      exact ⟨rfl, J.out.below⟩
  · have hm := dec_bad hR he
    subst hm
    have q4 : (er != 0) = true := bne_iff_ne.2 he
    clear h hT hR h1 h2 hlen
    go_enter Tryd.func7, Tryd.ntmps7
    go_wp2_with fail
    refine (C _ J.out.below).out.mono ?_
    rintro e w2 ⟨v1, l1, rfl, s1, a1, hb⟩
    replace J := Lib.hid (J.out.step hb)
    obtain ⟨A5, c5, rfl, _, _⟩ := s1.shape
    dsimp only at a1 ⊢
    have hn1 : l1.length = 0 := by
      have := congrArg List.length a1
      unfold agL at this
      rwa [List.length_map] at this
    rw [hn1]
    clear hb C s1 a1 hn1 q1 q2 q3 y0 y1 y2
    replace J := Lib.hid (J.out.alloc [.int .u32 0, .int .i64 0, .slice A5 0 c5] 25)
    obtain ⟨y0, y1, y2, -, -⟩ := (show Held w _ ([] ++ (w2.heap.size, _) :: [_]) from J.out).tri
    go_wp2_with fail
    refine (EX _ J.out.below).out.mono ?_
    rintro e w3 ⟨rfl, hb⟩
    replace J := Lib.hid (J.out.step hb)
    clear hb EX
    go_wp2_with fail
    go_ret
    exact ⟨rfl, J.out.below⟩

end Go.Proofs.YtmpkjjmgfakomaaDoor
