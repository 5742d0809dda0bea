/-
  The laws of package message over the contracts of its functions: what is asked of them; MessageEncodes.
-/
import Derived.Test.YtmpkjjmgfakomaaDoorMfm
import Derived.Test.YtmpkjjmgfakomaaDoorMrg
import Derived.Test.YtmpkjjmgfakomaaDoorMti
namespace Go.Proofs.YtmpkjjmgfakomaaDoor
open Go.RowKit Mem Wire

/-- what the laws ask of the program's functions, in worlds of the kind T -/
structure PK (T : World → Prop) : Prop where
  below : ∀ {w w' : World}, T w → Below w.heap.size w w' → T w'
  tbp : ∀ {w : World}, T w → Tbp w
  ex : ∀ {w : World}, T w → Calls Tryd.prog 11 #[] w (Says true w)
  enc : ∀ {w : World} {v : Value} {l : List AgV}, T w → Ags w v l → Light l → ∀ (sg : ByteArray), sg.size ≤ 40 → ∀ {ob : Nat}, ob < 4294967296 → ∀ (oc : Int), Calls Tryd.prog 12 #[.string sg, msVal ob oc v] w (GivesE (encT (sigK sg) ⟨ob, oc, agL l⟩) w)
  dec : ∀ {w : World} {A : Option Addr} {n c : Nat} {bs : List UInt8}, T w → Sees w (.slice A n c) bs → ∀ (sg : ByteArray), sg.size ≤ 40 → n ≤ 300000 → ∀ {ob : Nat}, ob < 4294967296 → ∀ (oc : Int), Calls Tryd.prog 14 #[.string sg, .agg #[.int .u32 (ob : Int), .int .i64 oc, .slice A n c]] w (GivesM (decT (sigK sg) ob oc bs) w)
  fmt : ∀ {w : World} {v : Value} {l : List AgV}, T w → Ags w v l → (∀ p ∈ l, Fit p) → l.length ≤ 100 → ∀ {ob : Nat}, ob < 4294967296 → ∀ {oc : Int}, In64 oc → Calls Tryd.prog 17 #[msVal ob oc v] w (Tells (fmtT ⟨ob, oc, agL l⟩) w)
  eql : ∀ {w : World} {v v2 : Value} {l l2 : List AgV}, T w → Ags w v l → Ags w v2 l2 → ∀ (ob ob2 : Nat) (oc oc2 : Int), Calls Tryd.prog 19 #[msVal ob oc v, msVal ob2 oc2 v2] w (Says (eqM ⟨ob, oc, agL l⟩ ⟨ob2, oc2, agL l2⟩) w)

theorem light_all {n : Nat} {l : List AgV} (h : lightB n l = true) : n ≤ 40 ∧ l.length ≤ 40 ∧ ∀ p ∈ l, p.1.ss.size ≤ 1100 ∧ p.1.bb.length ≤ 1100 := by
  unfold lightB at h
  simp only [Bool.and_eq_true, Bool.not_eq_true', Bool.or_eq_false_iff, decide_eq_false_iff_not, List.all_eq_true] at h
  obtain ⟨⟨h1, h2⟩, h3⟩ := h
  refine ⟨by omega, by omega, fun p hp => ?_⟩
  have := h3 p.1 (List.mem_map.2 ⟨p, hp, rfl⟩)
  simp only [litB, Bool.not_eq_true', Bool.or_eq_false_iff, decide_eq_false_iff_not] at this
  omega
theorem light_of {n : Nat} {l : List AgV} (h : lightB n l = true) : Light l := by
  obtain ⟨_, h2, h3⟩ := light_all h
  exact ⟨by omega, fun p hp => by have := h3 p hp; omega⟩

set_option maxRecDepth 100000 in
set_option maxHeartbeats 4000000 in
theorem encodes_walk {T : World → Prop} (K : PK T) {w : World} (hT : T w) {v : Value} {l : List AgV} (h : Ags w v l) (sg : ByteArray) {ob : Nat} (hob : ob < 4294967296) (oc : Int) :
    Calls Tryd.prog 3 #[.string sg, msVal ob oc v] w (Says true w) := by
  have HA := Lib.hid h
  have HT := Lib.hid hT
  have L := fun (W : World) (hb : Below w.heap.size w W) => Lib.hid (light_any (HA.out.below hb) sg ob oc)
  have EX := fun (W : World) (hb : Below w.heap.size w W) => Lib.hid (K.ex (K.below HT.out hb))
  obtain ⟨A, cap, rfl, hcap, hm⟩ := h.shape
  have J := Lib.hid ((Held.nil w).alloc [.int .u32 (ob : Int), .int .i64 oc, .slice A l.length cap] 25)
  obtain ⟨n, hn⟩ : ∃ n, l.length = n := ⟨_, rfl⟩
  rw [hn] at J HA L ⊢
  obtain ⟨lt, hlt⟩ : ∃ b, lightB sg.size l = b := ⟨_, rfl⟩
  rw [hlt] at L
  obtain ⟨y0, y1, y2, -, -⟩ := (show Held w _ ([] ++ (w.heap.size, _) :: []) from J.out).tri
  cases lt with
  | false =>
    clear h hT hn hlt
    go_enter Tryd.func3, Tryd.ntmps3
    go_wp2_with fail
    refine (L _ J.out.below).out.mono ?_
    rintro e w1 ⟨rfl, hb⟩
    replace J := Lib.hid (J.out.step hb)
    clear hb L
    go_wp2_with fail
    refine (EX _ J.out.below).out.mono ?_
    rintro e w2 ⟨rfl, hb⟩
    replace J := Lib.hid (J.out.step hb)
    clear hb EX
    go_wp2_with fail
    go_ret
    exact ⟨rfl, J.out.below⟩
  | true =>
    have hL := light_of hlt
    have h40 := (light_all hlt).1
    have C := fun (W : World) (hb : Below w.heap.size w W) => Lib.hid (K.enc (K.below HT.out hb) (HA.out.below hb) hL sg h40 hob oc)
    have D := fun (W : World) (hb : Below w.heap.size w W) => Lib.hid (encode_any (HA.out.below hb) hL sg hob oc)
    obtain ⟨R, hR⟩ : ∃ R, encT (sigK sg) ⟨ob, oc, agL l⟩ = R := ⟨_, rfl⟩
    rw [hR] at C D
    obtain ⟨bs, er⟩ := R
    clear h hT hn hlt hL h40 hR
    go_enter Tryd.func3, Tryd.ntmps3
    go_wp2_with fail
    refine (L _ J.out.below).out.mono ?_
    rintro e w1 ⟨rfl, hb⟩
    replace J := Lib.hid (J.out.step hb)
    clear hb L y0 y1 y2
    obtain ⟨y0, y1, y2, -, -⟩ := (show Held w _ ([] ++ (w.heap.size, _) :: []) from J.out).tri
    go_wp2_with fail
    refine (C _ J.out.below).out.mono ?_
    rintro e w2 ⟨v1, rfl, s1, hb⟩
    replace J := Lib.hid (J.out.step hb)
    have S1 := Lib.hid s1
    obtain ⟨A5, c5, rfl, _, _⟩ := s1.shape
    clear hb C y0 y1 y2 s1
    obtain ⟨y0, y1, y2, -, -⟩ := (show Held w _ ([] ++ (w.heap.size, _) :: []) from J.out).tri
    dsimp only at S1 ⊢
    go_wp2_with fail
    refine (D _ J.out.below).out.mono ?_
    rintro e w3 ⟨v2, rfl, s2, hb⟩
    replace J := Lib.hid (J.out.step hb)
    replace S1 := Lib.hid (S1.out.below hb)
    obtain ⟨A6, c6, rfl, _, _⟩ := s2.shape
    clear hb D y0 y1 y2
    dsimp only at S1 s2 ⊢
    have t1 := run_text Tryd.underlying28 Tryd.underlying5 Tryd.underlying9 S1.out
    have t2 := run_text Tryd.underlying28 Tryd.underlying5 Tryd.underlying9 s2
    have q2 : ((⟨bs.toArray⟩ : ByteArray).toList == (⟨bs.toArray⟩ : ByteArray).toList) = true := by simp
    generalize (⟨bs.toArray⟩ : ByteArray) = str at *
    clear s2 S1
    go_wp2_with fail
    refine (EX _ J.out.below).out.mono ?_
    rintro e w4 ⟨rfl, hb⟩
    replace J := Lib.hid (J.out.step hb)
    clear hb EX
    go_wp2_with fail
    go_ret
    exact ⟨rfl, J.out.below⟩

end Go.Proofs.YtmpkjjmgfakomaaDoor
