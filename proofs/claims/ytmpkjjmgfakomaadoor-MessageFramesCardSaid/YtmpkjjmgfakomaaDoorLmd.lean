/-
  MessageDecodes over the contracts of the program's functions.
-/
import Derived.Test.YtmpkjjmgfakomaaDoorLmk
import Derived.Test.YtmpkjjmgfakomaaDoorMrk
namespace Go.Proofs.YtmpkjjmgfakomaaDoor
open Go.RowKit Mem Wire

set_option maxRecDepth 100000 in
set_option maxHeartbeats 4000000 in
theorem decodes_walk {T : World → Prop} (K : PK T) {w : World} (hT : T w) {A : Option Addr} {n c : Nat} {bs : List UInt8} (h : Sees w (.slice A n c) bs) (sg : ByteArray) {ob : Nat} (hob : ob < 4294967296) (oc : Int) :
    Calls Tryd.prog 4 #[.string sg, .agg #[.int .u32 (ob : Int), .int .i64 oc, .slice A n c]] w (Says true w) := by
  have HA := Lib.hid h
  have HT := Lib.hid hT
  have EX := fun (W : World) (hb : Below w.heap.size w W) => Lib.hid (K.ex (K.below HT.out hb))
  obtain ⟨_, _, hv, hc1, hc2⟩ := h.shape
  simp only [Value.slice.injEq] at hv
  obtain ⟨rfl, hlen, rfl⟩ := hv
  rw [← hlen] at hc1
  simp only [maxLen] at hc2
  have J := Lib.hid ((Held.nil w).alloc [.int .u32 (ob : Int), .int .i64 oc, .slice A n c] 33)
  obtain ⟨y0, y1, y2, -, -⟩ := (show Held w _ ([] ++ (w.heap.size, _) :: []) from J.out).tri
  by_cases h1 : 40 < sg.size
  · have q1 : (40 : Int) < sg.size := by omega
    clear h hT hlen
    go_enter Tryd.func4, Tryd.ntmps4
    go_wp2_with fail
    refine (EX _ J.out.below).out.mono ?_
    rintro e w2 ⟨rfl, hb⟩
    replace J := Lib.hid (J.out.step hb)
    clear hb EX
    go_wp2_with fail
    go_ret
    exact ⟨rfl, J.out.below⟩
  have q1 : ¬ (40 : Int) < sg.size := by omega
  by_cases h2 : 4200 < n
  · have q2 : (4200 : Int) < n := by omega
    have q3 : decide (4200 < n) = true := decide_eq_true h2
    clear h hT hlen
    go_enter Tryd.func4, Tryd.ntmps4
    go_wp2_with fail
    refine (EX _ J.out.below).out.mono ?_
    rintro e w2 ⟨rfl, hb⟩
    replace J := Lib.hid (J.out.step hb)
    clear hb EX
    go_wp2_with fail
    go_ret
    exact ⟨rfl, J.out.below⟩
  have q2 : ¬ (4200 : Int) < n := by omega
  have q3 : decide (4200 < n) = false := decide_eq_false h2
  have C := fun (W : World) (hb : Below w.heap.size w W) => Lib.hid (K.dec (K.below HT.out hb) (HA.out.below hb) sg (by omega) (by omega) hob oc)
  have D := fun (W : World) (hb : Below w.heap.size w W) => Lib.hid (decode_any (HA.out.below hb) sg (by omega) (by omega) ob oc)
  obtain ⟨R, hR⟩ : ∃ R, decT (sigK sg) ob oc bs = R := ⟨_, rfl⟩
  rw [hR] at C D
  obtain ⟨⟨mo, mc, ml⟩, er⟩ := R
  clear h hT hlen hR h1 h2
  go_enter Tryd.func4, Tryd.ntmps4
  go_wp2_with fail
  refine (C _ J.out.below).out.mono ?_
  rintro e w2 ⟨v1, l1, rfl, s1, a1, hb⟩
  replace J := Lib.hid (J.out.step hb)
  obtain ⟨A5, c5, rfl, _, _⟩ := s1.shape
  dsimp only at a1 ⊢
  have S1 := Lib.hid s1
  have A1 := Lib.hid a1
  clear hb C y0 y1 y2 s1 a1 q1 q2 q3
  obtain ⟨n1, hn1⟩ : ∃ n, l1.length = n := ⟨_, rfl⟩
  rw [hn1] at S1 ⊢
  replace S1 := Lib.hid (S1.out.below ((Below.refl _ _).alloc (Nat.le_refl _) (.cells #[.int .u32 (mo : Int), .int .i64 mc, .slice A5 n1 c5] 25)))
  replace J := Lib.hid (J.out.alloc [.int .u32 (mo : Int), .int .i64 mc, .slice A5 n1 c5] 25)
  clear hn1
  obtain ⟨y0, y1, y2, -, -⟩ := (show Held w _ ([_] ++ (w.heap.size, _) :: []) from J.out).tri
  go_wp2_with fail
  refine (D _ J.out.below).out.mono ?_
  rintro e w3 ⟨v2, l2, rfl, s2, a2, hb⟩
  replace J := Lib.hid (J.out.step hb)
  replace S1 := Lib.hid (S1.out.below hb)
  obtain ⟨A6, c6, rfl, _, _⟩ := s2.shape
  dsimp only at a2 ⊢
  have e12 : eqM ⟨mo, mc, agL l1⟩ ⟨mo, mc, agL l2⟩ = true := (eqM_iff _ _).2 (by rw [A1.out, a2])
  obtain ⟨n2, hn2⟩ : ∃ n, l2.length = n := ⟨_, rfl⟩
  rw [hn2] at s2 ⊢
  have S2 := Lib.hid (s2.below ((Below.refl _ _).alloc (Nat.le_refl _) (.cells #[.int .u32 (mo : Int), .int .i64 mc, .slice A6 n2 c6] 25)))
  replace S1 := Lib.hid (S1.out.below ((Below.refl _ _).alloc (Nat.le_refl _) (.cells #[.int .u32 (mo : Int), .int .i64 mc, .slice A6 n2 c6] 25)))
  replace J := Lib.hid (J.out.alloc [.int .u32 (mo : Int), .int .i64 mc, .slice A6 n2 c6] 25)
  have E0 := equal_any S1.out S2.out mo mo mc mc
  rw [e12] at E0
  have E := Lib.hid E0
  clear hn2 E0 e12 a2 s2 S1 S2 hb D y0 y1 y2 A1
  obtain ⟨y0, y1, y2, -, -⟩ := (show Held w _ ([_] ++ (w2.heap.size, _) :: [_]) from J.out).tri
  obtain ⟨z0, z1, z2, -, -⟩ := (show Held w _ ([] ++ (w3.heap.size, _) :: [_, _]) from J.out).tri
  go_wp2_with fail
  refine E.out.mono ?_
  rintro e w4 ⟨rfl, hb⟩
  replace J := Lib.hid (J.out.step hb)
  clear hb E y0 y1 y2 z0 z1 z2
  go_wp2_with fail
  refine (EX _ J.out.below).out.mono ?_
  rintro e w5 ⟨rfl, hb⟩
  replace J := Lib.hid (J.out.step hb)
  clear hb EX
  go_wp2_with fail
  go_ret
  exact ⟨rfl, J.out.below⟩

end Go.Proofs.YtmpkjjmgfakomaaDoor
