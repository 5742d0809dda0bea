/-
  MessageTexts over the contracts of the program's functions.
-/
import Derived.Test.YtmpkjjmgfakomaaDoorLmk
namespace Go.Proofs.YtmpkjjmgfakomaaDoor
open Go.RowKit Mem Wire

theorem fit_of {n : Nat} {l : List AgV} (h : lightB n l = true) (h2 : ∀ p ∈ l, In64 p.1.nn) : ∀ p ∈ l, Fit p := fun p hp => by
  have := (light_all h).2.2 p hp
  exact ⟨h2 p hp, by omega, by omega⟩

theorem eq_all {w W : World} {ob ob2 : Nat} {oc oc2 : Int} {v v2 : Value} (h : Held w W (eqB w ob ob2 oc oc2 v v2)) :
    (W.cell? ⟨w.heap.size, 0, none⟩ = some (.int .u32 (ob : Int)) ∧ W.cell? ⟨w.heap.size, 1, none⟩ = some (.int .i64 oc) ∧ W.cell? ⟨w.heap.size, 2, none⟩ = some v) ∧ W.cell? ⟨w.heap.size + 1, 0, none⟩ = some (.int .u32 (ob2 : Int)) ∧ W.cell? ⟨w.heap.size + 1, 1, none⟩ = some (.int .i64 oc2) ∧ W.cell? ⟨w.heap.size + 1, 2, none⟩ = some v2 := by
  obtain ⟨x0, x1, x2, -, -⟩ := (show Held w W ([_] ++ (w.heap.size, [.int .u32 (ob : Int), .int .i64 oc, v]) :: []) from h).tri
  obtain ⟨y0, y1, y2, -, -⟩ := (show Held w W ([] ++ (w.heap.size + 1, [.int .u32 (ob2 : Int), .int .i64 oc2, v2]) :: [_]) from h).tri
  exact ⟨⟨x0, x1, x2⟩, y0, y1, y2⟩

set_option maxRecDepth 100000 in
set_option maxHeartbeats 2000000 in
theorem texts_walk {T : World → Prop} (K : PK T) {w : World} (hT : T w) {v v2 : Value} {l l2 : List AgV} (h : Ags w v l) (h64 : ∀ p ∈ l, In64 p.1.nn) (h2 : Ags w v2 l2) {ob ob2 : Nat} (hob : ob < 4294967296) {oc oc2 : Int} (hoc : In64 oc) :
    Calls Tryd.prog 5 #[msVal ob oc v, msVal ob2 oc2 v2] w (Says true w) := by
  have HA := Lib.hid h
  have HA2 := Lib.hid h2
  have HT := Lib.hid hT
  have L := fun (W : World) (hb : Below w.heap.size w W) => Lib.hid (light_any (HA.out.below hb) ⟨#[]⟩ ob oc)
  have L2 := fun (W : World) (hb : Below w.heap.size w W) => Lib.hid (light_any (HA2.out.below hb) ⟨#[]⟩ ob2 oc2)
  have EX := fun (W : World) (hb : Below w.heap.size w W) => Lib.hid (K.ex (K.below HT.out hb))
  obtain ⟨A, cap, rfl, hcap, hm⟩ := h.shape
  obtain ⟨A2, cap2, rfl, hcap2, hm2⟩ := h2.shape
  have J := Lib.hid (eq_boxes w ob ob2 oc oc2 (.slice A l.length cap) (.slice A2 l2.length cap2))
  obtain ⟨n, hn⟩ : ∃ n, l.length = n := ⟨_, rfl⟩
  obtain ⟨n2, hn2⟩ : ∃ n, l2.length = n := ⟨_, rfl⟩
  rw [hn] at J HA L ⊢
  rw [hn2] at J HA2 L2 ⊢
  obtain ⟨lt, hlt⟩ : ∃ b, lightB (⟨#[]⟩ : ByteArray).size l = b := ⟨_, rfl⟩
  obtain ⟨lt2, hlt2⟩ : ∃ b, lightB (⟨#[]⟩ : ByteArray).size l2 = b := ⟨_, rfl⟩
  rw [hlt] at L
  rw [hlt2] at L2
  obtain ⟨x0, x1, x2, -, -⟩ := (show Held w _ ([_] ++ (w.heap.size, [.int .u32 (ob : Int), .int .i64 oc, .slice A n cap]) :: []) from J.out).tri
  cases lt with
  | false =>
    clear h h2 hT hn hn2 hlt hlt2
    go_enter Tryd.func5, Tryd.ntmps5
    go_wp2_with fail
    refine (L _ J.out.below).out.mono ?_
    rintro e w1 ⟨rfl, hb⟩
    replace J := Lib.hid (J.out.step hb)
    clear hb L
    go_wp2_with fail
    refine (EX _ J.out.below).out.mono ?_
    rintro e w2 ⟨rfl, hb⟩
    replace J := Lib.hid (J.out.step hb)
    clear hb EX
    go_wp2_with fail
    go_ret
    exact ⟨rfl, J.out.below⟩
  | true =>
    cases lt2 with
    | false =>
      clear h h2 hT hn hn2 hlt hlt2
      go_enter Tryd.func5, Tryd.ntmps5
      go_wp2_with fail
      refine (L _ J.out.below).out.mono ?_
      rintro e w1 ⟨rfl, hb⟩
      replace J := Lib.hid (J.out.step hb)
      clear hb L x0 x1 x2
      obtain ⟨y0, y1, y2, -, -⟩ := (show Held w _ ([] ++ (w.heap.size + 1, [.int .u32 (ob2 : Int), .int .i64 oc2, .slice A2 n2 cap2]) :: [_]) from J.out).tri
      go_wp2_with fail
      refine (L2 _ J.out.below).out.mono ?_
      rintro e w1 ⟨rfl, hb⟩
      replace J := Lib.hid (J.out.step hb)
      clear hb L2
      go_wp2_with fail
      refine (EX _ J.out.below).out.mono ?_
      rintro e w2 ⟨rfl, hb⟩
      replace J := Lib.hid (J.out.step hb)
      clear hb EX
      go_wp2_with fail
      go_ret
      exact ⟨rfl, J.out.below⟩
    | true =>
      have hL := light_all hlt
      have hF := fit_of hlt h64
      have C := fun (W : World) (hb : Below w.heap.size w W) => Lib.hid (K.fmt (K.below HT.out hb) (HA.out.below hb) hF (by omega) hob hoc)
      have D := fun (W : World) (hb : Below w.heap.size w W) => Lib.hid (format_any (HA.out.below hb) hF (by omega) hob hoc (K.tbp (K.below HT.out hb)))
      have E := fun (W : World) (hb : Below w.heap.size w W) => Lib.hid (K.eql (K.below HT.out hb) (HA.out.below hb) (HA2.out.below hb) ob ob2 oc oc2)
      have E2 := fun (W : World) (hb : Below w.heap.size w W) => Lib.hid (K.eql (K.below HT.out hb) (HA.out.below hb) (HA.out.below hb) ob ob oc oc)
      have F := fun (W : World) (hb : Below w.heap.size w W) => Lib.hid (equal_any (HA.out.below hb) (HA2.out.below hb) ob ob2 oc oc2)
      rw [(eqM_iff ⟨ob, oc, agL l⟩ ⟨ob, oc, agL l⟩).2 rfl] at E2
      obtain ⟨r, hr⟩ : ∃ r, eqM ⟨ob, oc, agL l⟩ ⟨ob2, oc2, agL l2⟩ = r := ⟨_, rfl⟩
      rw [hr] at E F
      unfold Tells at C D
      obtain ⟨str, hstr⟩ : ∃ s : ByteArray, (⟨(fmtT ⟨ob, oc, agL l⟩).toArray⟩ : ByteArray) = s := ⟨_, rfl⟩
      rw [hstr] at C D
      have qs : (str.toList == str.toList) = true := by simp
      have qr : (r == r) = true := by simp
      clear h h2 hT hn hn2 hlt hlt2 hL hF hr hstr
      go_enter Tryd.func5, Tryd.ntmps5
      go_wp2_with fail
      refine (L _ J.out.below).out.mono ?_
      rintro e w1 ⟨rfl, hb⟩
      replace J := Lib.hid (J.out.step hb)
      clear hb L x0 x1 x2
      obtain ⟨y0, y1, y2, -, -⟩ := (show Held w _ ([] ++ (w.heap.size + 1, [.int .u32 (ob2 : Int), .int .i64 oc2, .slice A2 n2 cap2]) :: [_]) from J.out).tri
      go_wp2_with fail
      refine (L2 _ J.out.below).out.mono ?_
      rintro e w2 ⟨rfl, hb⟩
      replace J := Lib.hid (J.out.step hb)
      clear hb L2 y0 y1 y2
      go_upto_region 3 with (fail)
      replace J := Lib.hid J.out.drew
      have sk := eq_all J.out
      go_region_held3 (fun W => (W.cell? ⟨w.heap.size, 0, none⟩ = some (.int .u32 (ob : Int)) ∧ W.cell? ⟨w.heap.size, 1, none⟩ = some (.int .i64 oc) ∧ W.cell? ⟨w.heap.size, 2, none⟩ = some (.slice A n cap)) ∧ W.cell? ⟨w.heap.size + 1, 0, none⟩ = some (.int .u32 (ob2 : Int)) ∧ W.cell? ⟨w.heap.size + 1, 1, none⟩ = some (.int .i64 oc2) ∧ W.cell? ⟨w.heap.size + 1, 2, none⟩ = some (.slice A2 n2 cap2))
        (first
          | exact sk
          | go_keep)
        (first
          | (go_at_call 17; (with_reducible refine (C _ J.out.below).out.mono ?_); rintro e wq ⟨rfl, hb2⟩; replace J := Lib.hid (J.out.step hb2); clear sk hb2; have sk := eq_all J.out)
          | (go_at_call 18; (with_reducible refine (D _ J.out.below).out.mono ?_); rintro e wq ⟨rfl, hb2⟩; replace J := Lib.hid (J.out.step hb2); clear sk hb2; have sk := eq_all J.out)
          | (go_at_call 19; (with_reducible refine (E _ J.out.below).out.mono ?_); rintro e wq ⟨rfl, hb2⟩; replace J := Lib.hid (J.out.step hb2); clear sk hb2; have sk := eq_all J.out)
          | (go_at_call 19; (with_reducible refine (E2 _ J.out.below).out.mono ?_); rintro e wq ⟨rfl, hb2⟩; replace J := Lib.hid (J.out.step hb2); clear sk hb2; have sk := eq_all J.out)
          | (go_at_call 16; (with_reducible refine (F _ J.out.below).out.mono ?_); rintro e wq ⟨rfl, hb2⟩; replace J := Lib.hid (J.out.step hb2); clear sk hb2; have sk := eq_all J.out)
          | (go_at_call 11; (with_reducible refine (EX _ J.out.below).out.mono ?_); rintro e wq ⟨rfl, hb2⟩; replace J := Lib.hid (J.out.step hb2); clear sk hb2; have sk := eq_all J.out)
          | fail)
      all_goals
        go_wp2_with fail
        go_ret
        exact ⟨rfl, J.out.below⟩

end Go.Proofs.YtmpkjjmgfakomaaDoor
