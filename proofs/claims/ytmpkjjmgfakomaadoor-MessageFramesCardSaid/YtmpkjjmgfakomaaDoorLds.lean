/-
  MessageDistinct over the contracts of the program's functions.
-/
import Derived.Test.YtmpkjjmgfakomaaDoorLdt
namespace Go.Proofs.YtmpkjjmgfakomaaDoor
open Go.RowKit Mem Wire

set_option maxRecDepth 100000 in
theorem text_let {W : World} {A : Option Addr} {n c : Nat} {bs : List UInt8} {t : ByteArray} (h : Sees W (.slice A n c) bs) (e : (⟨bs.toArray⟩ : ByteArray) = t) : (convert 28 9 (.slice A n c)).run Tryd.prog W = .ok (.string t) W := by
  rw [← e]
  exact run_text Tryd.underlying28 Tryd.underlying5 Tryd.underlying9 h

set_option maxRecDepth 100000 in
set_option maxHeartbeats 4000000 in
theorem distinct_walk {T : World → Prop} (K : PK T) {w : World} (hT : T w) {v v2 : Value} {l l2 : List AgV} (h : Ags w v l) (h64 : ∀ p ∈ l, In64 p.1.nn) (h2 : Ags w v2 l2) (h642 : ∀ p ∈ l2, In64 p.1.nn) (sg : ByteArray) {ob ob2 : Nat} (hob : ob < 4294967296) (hob2 : ob2 < 4294967296) {oc oc2 : Int} (hoc : In64 oc) (hoc2 : In64 oc2) :
    Calls Tryd.prog 8 #[.string sg, msVal ob oc v, msVal ob2 oc2 v2] w (Says true w) := by
  have HA := Lib.hid h
  have HA2 := Lib.hid h2
  have HT := Lib.hid hT
  have L := fun (W : World) (hb : Below w.heap.size w W) => Lib.hid (light_any (HA.out.below hb) sg ob oc)
  have L2 := fun (W : World) (hb : Below w.heap.size w W) => Lib.hid (light_any (HA2.out.below hb) sg ob2 oc2)
  have EX := fun (W : World) (hb : Below w.heap.size w W) => Lib.hid (K.ex (K.below HT.out hb))
  obtain ⟨A, cap, rfl, hcap, hm⟩ := h.shape
  obtain ⟨A2, cap2, rfl, hcap2, hm2⟩ := h2.shape
  have J := Lib.hid (eq_boxes w ob ob2 oc oc2 (.slice A l.length cap) (.slice A2 l2.length cap2))
  obtain ⟨n, hn⟩ : ∃ n, l.length = n := ⟨_, rfl⟩
  obtain ⟨n2, hn2⟩ : ∃ n, l2.length = n := ⟨_, rfl⟩
  rw [hn] at J HA L ⊢
  rw [hn2] at J HA2 L2 ⊢
  obtain ⟨lt, hlt⟩ : ∃ b, lightB sg.size l = b := ⟨_, rfl⟩
  obtain ⟨lt2, hlt2⟩ : ∃ b, lightB sg.size l2 = b := ⟨_, rfl⟩
  rw [hlt] at L
  rw [hlt2] at L2
  obtain ⟨x0, x1, x2, -, -⟩ := (show Held w _ ([_] ++ (w.heap.size, [.int .u32 (ob : Int), .int .i64 oc, .slice A n cap]) :: []) from J.out).tri
  obtain ⟨y0, y1, y2, -, -⟩ := (show Held w _ ([] ++ (w.heap.size + 1, [.int .u32 (ob2 : Int), .int .i64 oc2, .slice A2 n2 cap2]) :: [_]) from J.out).tri
  cases lt with
  | false =>
    clear h h2 hT hn hn2 hlt hlt2
    go_enter Tryd.func8, Tryd.ntmps8
    go_wp2_with fail
    refine (L _ J.out.below).out.mono ?_
    rintro e w1 ⟨rfl, hb⟩
    replace J := Lib.hid (J.out.step hb)
    clear hb L x0 x1 x2 y0 y1 y2
    obtain ⟨x0, x1, x2, -, -⟩ := (show Held w _ ([_] ++ (w.heap.size, [.int .u32 (ob : Int), .int .i64 oc, .slice A n cap]) :: []) from J.out).tri
    obtain ⟨y0, y1, y2, -, -⟩ := (show Held w _ ([] ++ (w.heap.size + 1, [.int .u32 (ob2 : Int), .int .i64 oc2, .slice A2 n2 cap2]) :: [_]) from J.out).tri
    go_wp2_with fail
    refine (EX _ J.out.below).out.mono ?_
    rintro e wx ⟨rfl, hb⟩
    replace J := Lib.hid (J.out.step hb)
    clear hb EX
    go_wp2_with fail
    go_ret
    exact ⟨rfl, J.out.below⟩
  | true =>
    cases lt2 with
    | false =>
      clear h h2 hT hn hn2 hlt hlt2
      go_enter Tryd.func8, Tryd.ntmps8
      go_wp2_with fail
      refine (L _ J.out.below).out.mono ?_
      rintro e w1 ⟨rfl, hb⟩
      replace J := Lib.hid (J.out.step hb)
      clear hb L x0 x1 x2 y0 y1 y2
      obtain ⟨x0, x1, x2, -, -⟩ := (show Held w _ ([_] ++ (w.heap.size, [.int .u32 (ob : Int), .int .i64 oc, .slice A n cap]) :: []) from J.out).tri
      obtain ⟨y0, y1, y2, -, -⟩ := (show Held w _ ([] ++ (w.heap.size + 1, [.int .u32 (ob2 : Int), .int .i64 oc2, .slice A2 n2 cap2]) :: [_]) from J.out).tri
      go_wp2_with fail
      refine (L2 _ J.out.below).out.mono ?_
      rintro e w2 ⟨rfl, hb⟩
      replace J := Lib.hid (J.out.step hb)
      clear hb L2 x0 x1 x2 y0 y1 y2
      obtain ⟨x0, x1, x2, -, -⟩ := (show Held w _ ([_] ++ (w.heap.size, [.int .u32 (ob : Int), .int .i64 oc, .slice A n cap]) :: []) from J.out).tri
      obtain ⟨y0, y1, y2, -, -⟩ := (show Held w _ ([] ++ (w.heap.size + 1, [.int .u32 (ob2 : Int), .int .i64 oc2, .slice A2 n2 cap2]) :: [_]) from J.out).tri
      go_wp2_with fail
      refine (EX _ J.out.below).out.mono ?_
      rintro e wx ⟨rfl, hb⟩
      replace J := Lib.hid (J.out.step hb)
      clear hb EX
      go_wp2_with fail
      go_ret
      exact ⟨rfl, J.out.below⟩
    | true =>
      have hL := light_of hlt
      have hL2 := light_of hlt2
      have h40 := (light_all hlt).1
      have hF := fit_of hlt h64
      have hF2 := fit_of hlt2 h642
      have C := fun (W : World) (hb : Below w.heap.size w W) => Lib.hid (K.enc (K.below HT.out hb) (HA.out.below hb) hL sg h40 hob oc)
      have D := fun (W : World) (hb : Below w.heap.size w W) => Lib.hid (K.enc (K.below HT.out hb) (HA2.out.below hb) hL2 sg h40 hob2 oc2)
      have FA := fun (W : World) (hb : Below w.heap.size w W) => Lib.hid (K.fmt (K.below HT.out hb) (HA.out.below hb) hF (by have := hL.1; omega) hob hoc)
      have FB := fun (W : World) (hb : Below w.heap.size w W) => Lib.hid (K.fmt (K.below HT.out hb) (HA2.out.below hb) hF2 (by have := hL2.1; omega) hob2 hoc2)
      have E := fun (W : World) (hb : Below w.heap.size w W) => Lib.hid (K.eql (K.below HT.out hb) (HA.out.below hb) (HA2.out.below hb) ob ob2 oc oc2)
      have E2 := fun (W : World) (hb : Below w.heap.size w W) => Lib.hid (K.eql (K.below HT.out hb) (HA2.out.below hb) (HA.out.below hb) ob2 ob oc2 oc)
      obtain ⟨m, hm9⟩ : ∃ m : Ms, (⟨ob, oc, agL l⟩ : Ms) = m := ⟨_, rfl⟩
      obtain ⟨m2, hm92⟩ : ∃ m : Ms, (⟨ob2, oc2, agL l2⟩ : Ms) = m := ⟨_, rfl⟩
      rw [hm9] at C FA E E2
      rw [hm92] at D FB E E2
      have o1 : m.ob < 4294967296 := by rw [← hm9]; exact hob
      have o2 : m2.ob < 4294967296 := by rw [← hm92]; exact hob2
      obtain ⟨R1, hR1⟩ : ∃ R, encT (sigK sg) m = R := ⟨_, rfl⟩
      obtain ⟨R2, hR2⟩ : ∃ R, encT (sigK sg) m2 = R := ⟨_, rfl⟩
      rw [hR1] at C
      rw [hR2] at D
      obtain ⟨b1, e1⟩ := R1
      obtain ⟨b2, e2⟩ := R2
      unfold Tells at FA FB
      clear h h2 hT hn hn2 hlt hlt2 hL hL2 h40 hF hF2 hm9 hm92
      by_cases z1 : e1 = 0
      · subst z1
        by_cases z2 : e2 = 0
        · subst z2
          obtain ⟨f1, f2, f3⟩ := distinct_facts hR1 hR2 o1 o2
          rw [f3] at E2
          obtain ⟨r, hr⟩ : ∃ r, eqM m m2 = r := ⟨_, rfl⟩
          rw [hr] at f1 f2 E E2
          obtain ⟨s1, hs1⟩ : ∃ s : ByteArray, (⟨(fmtT m).toArray⟩ : ByteArray) = s := ⟨_, rfl⟩
          obtain ⟨s2, hs2⟩ : ∃ s : ByteArray, (⟨(fmtT m2).toArray⟩ : ByteArray) = s := ⟨_, rfl⟩
          rw [hs1] at FA f2
          rw [hs2] at FB f2
          obtain ⟨t1, ht1⟩ : ∃ s : ByteArray, (⟨b1.toArray⟩ : ByteArray) = s := ⟨_, rfl⟩
          obtain ⟨t2, ht2⟩ : ∃ s : ByteArray, (⟨b2.toArray⟩ : ByteArray) = s := ⟨_, rfl⟩
          rw [ht1, ht2] at f1
          have T1 := Lib.hid ht1
          have T2 := Lib.hid ht2
          clear ht1 ht2
          have qr : (r == r) = true := by simp
          clear hR1 hR2 f3 hr hs1 hs2
          go_enter Tryd.func8, Tryd.ntmps8
          go_wp2_with fail
          refine (L _ J.out.below).out.mono ?_
          rintro e w1 ⟨rfl, hb⟩
          replace J := Lib.hid (J.out.step hb)
          clear hb L x0 x1 x2 y0 y1 y2
          obtain ⟨x0, x1, x2, -, -⟩ := (show Held w _ ([_] ++ (w.heap.size, [.int .u32 (ob : Int), .int .i64 oc, .slice A n cap]) :: []) from J.out).tri
          obtain ⟨y0, y1, y2, -, -⟩ := (show Held w _ ([] ++ (w.heap.size + 1, [.int .u32 (ob2 : Int), .int .i64 oc2, .slice A2 n2 cap2]) :: [_]) from J.out).tri
          go_wp2_with fail
          refine (L2 _ J.out.below).out.mono ?_
          rintro e w2 ⟨rfl, hb⟩
          replace J := Lib.hid (J.out.step hb)
          clear hb L2 x0 x1 x2 y0 y1 y2
          obtain ⟨x0, x1, x2, -, -⟩ := (show Held w _ ([_] ++ (w.heap.size, [.int .u32 (ob : Int), .int .i64 oc, .slice A n cap]) :: []) from J.out).tri
          obtain ⟨y0, y1, y2, -, -⟩ := (show Held w _ ([] ++ (w.heap.size + 1, [.int .u32 (ob2 : Int), .int .i64 oc2, .slice A2 n2 cap2]) :: [_]) from J.out).tri
          go_wp2_with fail
          refine (C _ J.out.below).out.mono ?_
          rintro e w3 ⟨v1, rfl, s1, hb⟩
          replace J := Lib.hid (J.out.step hb)
          have S1 := Lib.hid s1
          obtain ⟨A5, c5, rfl, _, _⟩ := s1.shape
          clear s1
          dsimp only at S1 ⊢
          clear hb C x0 x1 x2 y0 y1 y2
          obtain ⟨x0, x1, x2, -, -⟩ := (show Held w _ ([_] ++ (w.heap.size, [.int .u32 (ob : Int), .int .i64 oc, .slice A n cap]) :: []) from J.out).tri
          obtain ⟨y0, y1, y2, -, -⟩ := (show Held w _ ([] ++ (w.heap.size + 1, [.int .u32 (ob2 : Int), .int .i64 oc2, .slice A2 n2 cap2]) :: [_]) from J.out).tri
          go_wp2_with fail
          refine (D _ J.out.below).out.mono ?_
          rintro e w4 ⟨v2, rfl, s2, hb⟩
          replace J := Lib.hid (J.out.step hb)
          replace S1 := Lib.hid (S1.out.below hb)
          have S2 := Lib.hid s2
          obtain ⟨A6, c6, rfl, _, _⟩ := s2.shape
          clear s2
          dsimp only at S1 S2 ⊢
          clear hb D x0 x1 x2 y0 y1 y2
          obtain ⟨x0, x1, x2, -, -⟩ := (show Held w _ ([_] ++ (w.heap.size, [.int .u32 (ob : Int), .int .i64 oc, .slice A n cap]) :: []) from J.out).tri
          obtain ⟨y0, y1, y2, -, -⟩ := (show Held w _ ([] ++ (w.heap.size + 1, [.int .u32 (ob2 : Int), .int .i64 oc2, .slice A2 n2 cap2]) :: [_]) from J.out).tri
          obtain ⟨k1, hk1⟩ : ∃ k, b1.length = k := ⟨_, rfl⟩
          obtain ⟨k2, hk2⟩ : ∃ k, b2.length = k := ⟨_, rfl⟩
          rw [hk1] at S1 ⊢
          rw [hk2] at S2 ⊢
          clear hk1 hk2
          go_wp2_with fail
          refine (E _ J.out.below).out.mono ?_
          rintro e w5 ⟨rfl, hb⟩
          replace J := Lib.hid (J.out.step hb)
          replace S1 := Lib.hid (S1.out.below hb)
          replace S2 := Lib.hid (S2.out.below hb)
          clear hb E x0 x1 x2 y0 y1 y2
          go_upto_region 8 with (fail)
          replace J := Lib.hid J.out.drew
          replace S1 := Lib.hid S1.out.drew
          replace S2 := Lib.hid S2.out.drew
          have sk := And.intro (eq_all J.out) (And.intro (text_let S1.out T1.out) (text_let S2.out T2.out))
          go_region_held3 (fun W => ((W.cell? ⟨w.heap.size, 0, none⟩ = some (.int .u32 (ob : Int)) ∧ W.cell? ⟨w.heap.size, 1, none⟩ = some (.int .i64 oc) ∧ W.cell? ⟨w.heap.size, 2, none⟩ = some (.slice A n cap)) ∧ W.cell? ⟨w.heap.size + 1, 0, none⟩ = some (.int .u32 (ob2 : Int)) ∧ W.cell? ⟨w.heap.size + 1, 1, none⟩ = some (.int .i64 oc2) ∧ W.cell? ⟨w.heap.size + 1, 2, none⟩ = some (.slice A2 n2 cap2)) ∧ (convert 28 9 (.slice A5 k1 c5)).run Tryd.prog W = .ok (.string t1) W ∧ (convert 28 9 (.slice A6 k2 c6)).run Tryd.prog W = .ok (.string t2) W)
            (first
              | exact sk
              | go_keep)
            (first
              | (go_at_call 17; (with_reducible refine (FA _ J.out.below).out.mono ?_); rintro e wq ⟨rfl, hb2⟩; replace J := Lib.hid (J.out.step hb2); replace S1 := Lib.hid (S1.out.below hb2); replace S2 := Lib.hid (S2.out.below hb2); clear sk hb2; have sk := And.intro (eq_all J.out) (And.intro (text_let S1.out T1.out) (text_let S2.out T2.out)))
              | (go_at_call 17; (with_reducible refine (FB _ J.out.below).out.mono ?_); rintro e wq ⟨rfl, hb2⟩; replace J := Lib.hid (J.out.step hb2); replace S1 := Lib.hid (S1.out.below hb2); replace S2 := Lib.hid (S2.out.below hb2); clear sk hb2; have sk := And.intro (eq_all J.out) (And.intro (text_let S1.out T1.out) (text_let S2.out T2.out)))
              | (go_at_call 19; (with_reducible refine (E2 _ J.out.below).out.mono ?_); rintro e wq ⟨rfl, hb2⟩; replace J := Lib.hid (J.out.step hb2); replace S1 := Lib.hid (S1.out.below hb2); replace S2 := Lib.hid (S2.out.below hb2); clear sk hb2; have sk := And.intro (eq_all J.out) (And.intro (text_let S1.out T1.out) (text_let S2.out T2.out)))
              | (go_at_call 11; (with_reducible refine (EX _ J.out.below).out.mono ?_); rintro e wq ⟨rfl, hb2⟩; replace J := Lib.hid (J.out.step hb2); replace S1 := Lib.hid (S1.out.below hb2); replace S2 := Lib.hid (S2.out.below hb2); clear sk hb2; have sk := And.intro (eq_all J.out) (And.intro (text_let S1.out T1.out) (text_let S2.out T2.out)))
              | fail)
          all_goals
            go_wp2_with fail
            go_ret
            exact ⟨rfl, J.out.below⟩
        · have q2 : (e2 != 0) = true := bne_iff_ne.2 z2
          clear hR1 hR2 o1 o2
          go_enter Tryd.func8, Tryd.ntmps8
          go_wp2_with fail
          refine (L _ J.out.below).out.mono ?_
          rintro e w1 ⟨rfl, hb⟩
          replace J := Lib.hid (J.out.step hb)
          clear hb L x0 x1 x2 y0 y1 y2
          obtain ⟨x0, x1, x2, -, -⟩ := (show Held w _ ([_] ++ (w.heap.size, [.int .u32 (ob : Int), .int .i64 oc, .slice A n cap]) :: []) from J.out).tri
          obtain ⟨y0, y1, y2, -, -⟩ := (show Held w _ ([] ++ (w.heap.size + 1, [.int .u32 (ob2 : Int), .int .i64 oc2, .slice A2 n2 cap2]) :: [_]) from J.out).tri
          go_wp2_with fail
          refine (L2 _ J.out.below).out.mono ?_
          rintro e w2 ⟨rfl, hb⟩
          replace J := Lib.hid (J.out.step hb)
          clear hb L2 x0 x1 x2 y0 y1 y2
          obtain ⟨x0, x1, x2, -, -⟩ := (show Held w _ ([_] ++ (w.heap.size, [.int .u32 (ob : Int), .int .i64 oc, .slice A n cap]) :: []) from J.out).tri
          obtain ⟨y0, y1, y2, -, -⟩ := (show Held w _ ([] ++ (w.heap.size + 1, [.int .u32 (ob2 : Int), .int .i64 oc2, .slice A2 n2 cap2]) :: [_]) from J.out).tri
          go_wp2_with fail
          refine (C _ J.out.below).out.mono ?_
          rintro e w3 ⟨v1, rfl, s1, hb⟩
          replace J := Lib.hid (J.out.step hb)
          obtain ⟨A5, c5, rfl, _, _⟩ := s1.shape
          clear s1
          dsimp only
          clear hb C x0 x1 x2 y0 y1 y2
          obtain ⟨x0, x1, x2, -, -⟩ := (show Held w _ ([_] ++ (w.heap.size, [.int .u32 (ob : Int), .int .i64 oc, .slice A n cap]) :: []) from J.out).tri
          obtain ⟨y0, y1, y2, -, -⟩ := (show Held w _ ([] ++ (w.heap.size + 1, [.int .u32 (ob2 : Int), .int .i64 oc2, .slice A2 n2 cap2]) :: [_]) from J.out).tri
          go_wp2_with fail
          refine (D _ J.out.below).out.mono ?_
          rintro e w4 ⟨v2, rfl, s2, hb⟩
          replace J := Lib.hid (J.out.step hb)
          obtain ⟨A6, c6, rfl, _, _⟩ := s2.shape
          clear s2
          dsimp only
          clear hb D x0 x1 x2 y0 y1 y2
          obtain ⟨x0, x1, x2, -, -⟩ := (show Held w _ ([_] ++ (w.heap.size, [.int .u32 (ob : Int), .int .i64 oc, .slice A n cap]) :: []) from J.out).tri
          obtain ⟨y0, y1, y2, -, -⟩ := (show Held w _ ([] ++ (w.heap.size + 1, [.int .u32 (ob2 : Int), .int .i64 oc2, .slice A2 n2 cap2]) :: [_]) from J.out).tri
          go_wp2_with fail
          refine (EX _ J.out.below).out.mono ?_
          rintro e wx ⟨rfl, hb⟩
          replace J := Lib.hid (J.out.step hb)
          clear hb EX
          go_wp2_with fail
          go_ret
          exact ⟨rfl, J.out.below⟩
      · have q1 : (e1 != 0) = true := bne_iff_ne.2 z1
        clear hR1 hR2 o1 o2
        go_enter Tryd.func8, Tryd.ntmps8
        go_wp2_with fail
        refine (L _ J.out.below).out.mono ?_
        rintro e w1 ⟨rfl, hb⟩
        replace J := Lib.hid (J.out.step hb)
        clear hb L x0 x1 x2 y0 y1 y2
        obtain ⟨x0, x1, x2, -, -⟩ := (show Held w _ ([_] ++ (w.heap.size, [.int .u32 (ob : Int), .int .i64 oc, .slice A n cap]) :: []) from J.out).tri
        obtain ⟨y0, y1, y2, -, -⟩ := (show Held w _ ([] ++ (w.heap.size + 1, [.int .u32 (ob2 : Int), .int .i64 oc2, .slice A2 n2 cap2]) :: [_]) from J.out).tri
        go_wp2_with fail
        refine (L2 _ J.out.below).out.mono ?_
        rintro e w2 ⟨rfl, hb⟩
        replace J := Lib.hid (J.out.step hb)
        clear hb L2 x0 x1 x2 y0 y1 y2
        obtain ⟨x0, x1, x2, -, -⟩ := (show Held w _ ([_] ++ (w.heap.size, [.int .u32 (ob : Int), .int .i64 oc, .slice A n cap]) :: []) from J.out).tri
        obtain ⟨y0, y1, y2, -, -⟩ := (show Held w _ ([] ++ (w.heap.size + 1, [.int .u32 (ob2 : Int), .int .i64 oc2, .slice A2 n2 cap2]) :: [_]) from J.out).tri
        go_wp2_with fail
        refine (C _ J.out.below).out.mono ?_
        rintro e w3 ⟨v1, rfl, s1, hb⟩
        replace J := Lib.hid (J.out.step hb)
        obtain ⟨A5, c5, rfl, _, _⟩ := s1.shape
        clear s1
        dsimp only
        clear hb C x0 x1 x2 y0 y1 y2
        obtain ⟨x0, x1, x2, -, -⟩ := (show Held w _ ([_] ++ (w.heap.size, [.int .u32 (ob : Int), .int .i64 oc, .slice A n cap]) :: []) from J.out).tri
        obtain ⟨y0, y1, y2, -, -⟩ := (show Held w _ ([] ++ (w.heap.size + 1, [.int .u32 (ob2 : Int), .int .i64 oc2, .slice A2 n2 cap2]) :: [_]) from J.out).tri
        go_wp2_with fail
        refine (D _ J.out.below).out.mono ?_
        rintro e w4 ⟨v2, rfl, s2, hb⟩
        replace J := Lib.hid (J.out.step hb)
        obtain ⟨A6, c6, rfl, _, _⟩ := s2.shape
        clear s2
        dsimp only
        clear hb D x0 x1 x2 y0 y1 y2
        obtain ⟨x0, x1, x2, -, -⟩ := (show Held w _ ([_] ++ (w.heap.size, [.int .u32 (ob : Int), .int .i64 oc, .slice A n cap]) :: []) from J.out).tri
        obtain ⟨y0, y1, y2, -, -⟩ := (show Held w _ ([] ++ (w.heap.size + 1, [.int .u32 (ob2 : Int), .int .i64 oc2, .slice A2 n2 cap2]) :: [_]) from J.out).tri
        go_wp2_with fail
        refine (EX _ J.out.below).out.mono ?_
        rintro e wx ⟨rfl, hb⟩
        replace J := Lib.hid (J.out.step hb)
        clear hb EX
        go_wp2_with fail
        go_ret
        exact ⟨rfl, J.out.below⟩

end Go.Proofs.YtmpkjjmgfakomaaDoor
