/-
  The reference's Decode: its errors ahead of the body.
-/
import Derived.Test.YtmpkjjmgfakomaaDoorDcq
namespace Go.Proofs.YtmpkjjmgfakomaaDoor
open Go.RowKit Mem Wire

/-- a message and an error, with nothing older turned -/
def GivesM (x : Ms × Int) (w : World) (e : Ending) (w' : World) : Prop :=
  ∃ v l, e = .returned (.tuple #[msVal x.1.ob x.1.oc v, .int .i64 x.2]) ∧ Ags w' v l ∧ agL l = x.1.ags ∧ Below w.heap.size w w'
abbrev zero3 : List Value := [.int .u32 0, .int .i64 0, .slice none 0 0]

theorem u32_nb (n : Int) : nbC (.int .u32 n) := fun x h => by cases h

theorem dec_boxes (w : World) (ob : Nat) (oc : Int) (A : Option Addr) (n c : Nat) :
    Held w ((w.alloc (.cells #[.int .u32 (ob : Int), .int .i64 oc, .slice A n c] 33)).alloc (.cells #[.int .u32 0, .int .i64 0, .slice none 0 0] 25)) [(w.heap.size + 1, zero3), (w.heap.size, [.int .u32 (ob : Int), .int .i64 oc, .slice A n c])] := by
  have h := ((Held.nil w).alloc [.int .u32 (ob : Int), .int .i64 oc, .slice A n c] 33).alloc zero3 25
  simp only [World.size_alloc] at h
  exact h

set_option maxRecDepth 100000 in
set_option maxHeartbeats 2000000 in
theorem dec_nosig {w : World} {A : Option Addr} {n c : Nat} (sg : ByteArray) (hs : sigT sg = false) (oc : Int) (ob : Nat) :
    Calls Tryd.prog 15 #[.string sg, .agg #[.int .u32 (ob : Int), .int .i64 oc, .slice A n c]] w (GivesM (⟨0, 0, []⟩, 2) w) := by
  have S := fun W => Lib.hid (signed_any sg W)
  rw [hs] at S
  have J := Lib.hid (dec_boxes w ob oc A n c)
  obtain ⟨y0, y1, y2, yf, yl⟩ := (show Held w _ ([] ++ (w.heap.size + 1, _) :: [_]) from J.out).tri
  obtain ⟨x0, x1, x2, -, -⟩ := (show Held w _ ([_] ++ (w.heap.size, _) :: []) from J.out).tri
  clear hs
  go_enter Tryd.func15, Tryd.ntmps15
  go_wp2_with fail
  refine (S _).out.mono ?_
  rintro e w1 ⟨rfl, rfl⟩
  clear S
  go_wp2_with fail
  exact bodyPost_ret (v := .tuple #[.agg #[.int .u32 0, .int .i64 0, .slice none 0 0], .int .i64 2]) (by simp [results, Tryd.results15, go_sem, y0, y1, y2]) rfl ⟨_, [], rfl, ags_nil _, rfl, J.out.below⟩

set_option maxRecDepth 100000 in
set_option maxHeartbeats 2000000 in
theorem dec_low {w : World} {A : Option Addr} {n c : Nat} (sg : ByteArray) (hs : sigT sg = true) {oc : Int} (h1 : oc < 0) (ob : Nat) :
    Calls Tryd.prog 15 #[.string sg, .agg #[.int .u32 (ob : Int), .int .i64 oc, .slice A n c]] w (GivesM (⟨0, 0, []⟩, 6) w) := by
  have S := fun W => Lib.hid (signed_any sg W)
  rw [hs] at S
  have J := Lib.hid (dec_boxes w ob oc A n c)
  obtain ⟨y0, y1, y2, yf, yl⟩ := (show Held w _ ([] ++ (w.heap.size + 1, _) :: [_]) from J.out).tri
  obtain ⟨x0, x1, x2, -, -⟩ := (show Held w _ ([_] ++ (w.heap.size, _) :: []) from J.out).tri
  clear hs
  go_enter Tryd.func15, Tryd.ntmps15
  go_wp2_with fail
  refine (S _).out.mono ?_
  rintro e w1 ⟨rfl, rfl⟩
  clear S
  go_wp2_with fail
  exact bodyPost_ret (v := .tuple #[.agg #[.int .u32 0, .int .i64 0, .slice none 0 0], .int .i64 6]) (by simp [results, Tryd.results15, go_sem, y0, y1, y2]) rfl ⟨_, [], rfl, ags_nil _, rfl, J.out.below⟩

set_option maxRecDepth 100000 in
set_option maxHeartbeats 2000000 in
theorem dec_high {w : World} {A : Option Addr} {n c : Nat} (sg : ByteArray) (hs : sigT sg = true) {oc : Int} (h1 : 65535 < oc) (ob : Nat) :
    Calls Tryd.prog 15 #[.string sg, .agg #[.int .u32 (ob : Int), .int .i64 oc, .slice A n c]] w (GivesM (⟨0, 0, []⟩, 6) w) := by
  have S := fun W => Lib.hid (signed_any sg W)
  rw [hs] at S
  have J := Lib.hid (dec_boxes w ob oc A n c)
  obtain ⟨y0, y1, y2, yf, yl⟩ := (show Held w _ ([] ++ (w.heap.size + 1, _) :: [_]) from J.out).tri
  obtain ⟨x0, x1, x2, -, -⟩ := (show Held w _ ([_] ++ (w.heap.size, _) :: []) from J.out).tri
  clear hs
  have h0 : ¬ oc < 0 := by omega
  have b0 : decide (oc < 0) = false := decide_eq_false h0
  have b1 : decide (65535 < oc) = true := decide_eq_true h1
  go_enter Tryd.func15, Tryd.ntmps15
  go_wp2_with fail
  refine (S _).out.mono ?_
  rintro e w1 ⟨rfl, rfl⟩
  clear S
  go_wp2_with fail
  exact bodyPost_ret (v := .tuple #[.agg #[.int .u32 0, .int .i64 0, .slice none 0 0], .int .i64 6]) (by simp [results, Tryd.results15, go_sem, y0, y1, y2]) rfl ⟨_, [], rfl, ags_nil _, rfl, J.out.below⟩

set_option maxRecDepth 100000 in
set_option maxHeartbeats 2000000 in
theorem dec_long {w : World} {A : Option Addr} {n c : Nat} (sg : ByteArray) (hs : sigT sg = true) {oc : Int} (h0 : ¬ oc < 0) (h1 : ¬ 65535 < oc) (hn : 4088 < n) (hl : n ≤ 1000000) (ob : Nat) :
    Calls Tryd.prog 15 #[.string sg, .agg #[.int .u32 (ob : Int), .int .i64 oc, .slice A n c]] w (GivesM (⟨0, 0, []⟩, 5) w) := by
  have S := fun W => Lib.hid (signed_any sg W)
  rw [hs] at S
  have J := Lib.hid (dec_boxes w ob oc A n c)
  obtain ⟨y0, y1, y2, yf, yl⟩ := (show Held w _ ([] ++ (w.heap.size + 1, _) :: [_]) from J.out).tri
  obtain ⟨x0, x1, x2, -, -⟩ := (show Held w _ ([_] ++ (w.heap.size, _) :: []) from J.out).tri
  clear hs
  have b0 : decide (oc < 0) = false := decide_eq_false h0
  have b1 : decide (65535 < oc) = false := decide_eq_false h1
  have e1 : (4096 : Int) < (n : Int) + 8 := by omega
  go_enter Tryd.func15, Tryd.ntmps15
  go_wp2_with fail
  refine (S _).out.mono ?_
  rintro e w1 ⟨rfl, rfl⟩
  clear S
  go_wp2_with fail
  exact bodyPost_ret (v := .tuple #[.agg #[.int .u32 0, .int .i64 0, .slice none 0 0], .int .i64 5]) (by simp [results, Tryd.results15, go_sem, y0, y1, y2]) rfl ⟨_, [], rfl, ags_nil _, rfl, J.out.below⟩

end Go.Proofs.YtmpkjjmgfakomaaDoor
