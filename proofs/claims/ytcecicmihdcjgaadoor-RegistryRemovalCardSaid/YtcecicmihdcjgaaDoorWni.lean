/-
  RegistryNil over the contracts of the registry's functions, for nil and for a zero Registry.
-/
import Derived.Test.YtcecicmihdcjgaaDoorRex
namespace Go.Proofs.YtcecicmihdcjgaaDoor
open Go.RowKit

/-- the cells of a zero Registry -/
def zReg : List Value := [.int .u32 0, .slice none 0 0, .slice none 0 0, .slice none 0 0, .pointer none]
/-- nil, or a Registry that New did not create: its cells are z -/
def Zr (z : List Value) (W : World) (v : Value) : Prop := v = .pointer none ∨ ∃ k, v = .pointer (some ⟨k, 0, none⟩) ∧ k < W.heap.size ∧ ∀ (i : Nat) u, z[i]? = some u → W.cell? ⟨k, i, none⟩ = some u
/-- what RegistryNil asks of the program's functions -/
structure PN (T : World → Prop) (z : List Value) : Prop where
  add : ∀ {W : World} {v : Value}, T W → Zr z W v → ∀ (s : ByteArray) (x : Int), Calls Tryd.prog 12 #[v, .string s, .int .i64 x] W fun e w' => e = .returned (.tuple #[.int .u32 0, .int .i64 1]) ∧ Below W.heap.size W w'
  rem : ∀ {W : World} {v : Value}, T W → Zr z W v → ∀ (q : Nat), Calls Tryd.prog 14 #[v, .int .u32 (q : Int)] W fun e w' => e = .returned (.int .i64 1) ∧ Below W.heap.size W w'
  bind : ∀ {W : World} {v : Value}, T W → Zr z W v → ∀ (q : Nat) (s : ByteArray) (x : Int), Calls Tryd.prog 16 #[v, .int .u32 (q : Int), .string s, .int .i64 x] W fun e w' => e = .returned (.int .i64 1) ∧ Below W.heap.size W w'
  list : ∀ {W : World} {v : Value}, T W → Zr z W v → Calls Tryd.prog 19 #[v] W fun e w' => ∃ A c, e = .returned (.slice A 0 c) ∧ Below W.heap.size W w'
  log : ∀ {W : World} {v : Value}, T W → Zr z W v → Calls Tryd.prog 21 #[v] W fun e w' => ∃ A c, e = .returned (.slice A 0 c) ∧ Below W.heap.size W w'
section
variable {T : World → Prop} {R : World → World → Value → List Gl → (Nat → Prop) → Prop}
theorem zr_nil (z : List Value) (W : World) : Zr z W (.pointer none) := .inl rfl
theorem zr_box {w W : World} {l1 l2 : List (Nat × List Value)} {k : Nat} {z : List Value} (h : Held w W (l1 ++ (k, z) :: l2)) : Zr z W (.pointer (some ⟨k, 0, none⟩)) := .inr ⟨k, rfl, h.at.2.2.1, h.at.1⟩
set_option maxRecDepth 100000 in
set_option maxHeartbeats 16000000 in
theorem nil_walk (K : PR T R) (N : PN T zReg) {w : World} (hT : T w) (o : Op4) (hq : o.nm < 4294967296) : Calls Tryd.prog 8 #[.agg #[.int .i64 o.kd, .int .u32 (o.nm : Int), .string o.it, .int .i64 o.vr]] w (SaysB true w) := by
  obtain ⟨kd, nm, it, vr⟩ := o
  dsimp only at hq ⊢
  have HT := Lib.hid hT
  have EX := fun (W : World) (hb : Below w.heap.size w W) => Lib.hid (ex_any K (K.below HT.out hb))
  by_cases h1 : 200 < it.size
  · have q1 : (200 : Int) < it.size := by omega
    have J := Lib.hid ((Held.nil w).alloc [.int .i64 kd, .int .u32 (nm : Int), .string it, .int .i64 vr] 32)
    obtain ⟨y0, y1, y2, y3, -, -⟩ := (show Held w _ ([] ++ (w.heap.size, _) :: []) from J.out).four
    clear hT
    go_enter Tryd.func8, Tryd.ntmps8
    go_wp2_with fail
    refine (EX _ J.out.below).out.mono ?_
    rintro e wq ⟨rfl, hb⟩
    replace J := Lib.hid (J.out.step hb)
    clear hb
    go_wp2_with fail
    go_ret
    exact ⟨rfl, J.out.below⟩
  have q1 : ¬ (200 : Int) < it.size := by omega
  have J := Lib.hid (show Held w ((w.alloc (.cells #[.int .i64 kd, .int .u32 (nm : Int), .string it, .int .i64 vr] 32)).alloc (.cells zReg.toArray 60)) [(w.heap.size + 1, zReg), (w.heap.size, [.int .i64 kd, .int .u32 (nm : Int), .string it, .int .i64 vr])] from by
    have h := ((Held.nil w).alloc [.int .i64 kd, .int .u32 (nm : Int), .string it, .int .i64 vr] 32).alloc zReg 60
    rw [World.size_alloc] at h
    exact h)
  have J0 := Lib.hid ((Held.nil w).alloc [.int .i64 kd, .int .u32 (nm : Int), .string it, .int .i64 vr] 32)
  obtain ⟨y0, y1, y2, y3, -, -⟩ := (show Held w _ ([] ++ (w.heap.size, _) :: []) from J0.out).four
  clear hT
  go_enter Tryd.func8, Tryd.ntmps8
  go_wp2_with fail
  refine (N.add (K.below HT.out J.out.below) (zr_nil _ _) it vr).mono ?_
  rintro e wq ⟨rfl, hb⟩
  replace J := Lib.hid (J.out.step hb)
  clear hb y0 y1 y2 y3
  obtain ⟨y0, y1, y2, y3, -, -⟩ := (show Held w _ ([_] ++ (w.heap.size, _) :: []) from J.out).four
  go_wp2_with fail
  refine (N.add (K.below HT.out J.out.below) (zr_box (l1 := []) J.out) it vr).mono ?_
  rintro e wq ⟨rfl, hb⟩
  replace J := Lib.hid (J.out.step hb)
  clear hb y0 y1 y2 y3
  obtain ⟨y0, y1, y2, y3, -, -⟩ := (show Held w _ ([_] ++ (w.heap.size, _) :: []) from J.out).four
  go_wp2_with fail
  refine (N.rem (K.below HT.out J.out.below) (zr_nil _ _) nm).mono ?_
  rintro e wq ⟨rfl, hb⟩
  replace J := Lib.hid (J.out.step hb)
  clear hb y0 y1 y2 y3
  obtain ⟨y0, y1, y2, y3, -, -⟩ := (show Held w _ ([_] ++ (w.heap.size, _) :: []) from J.out).four
  go_wp2_with fail
  refine (N.rem (K.below HT.out J.out.below) (zr_box (l1 := []) J.out) nm).mono ?_
  rintro e wq ⟨rfl, hb⟩
  replace J := Lib.hid (J.out.step hb)
  clear hb y0 y1 y2 y3
  obtain ⟨y0, y1, y2, y3, -, -⟩ := (show Held w _ ([_] ++ (w.heap.size, _) :: []) from J.out).four
  go_wp2_with fail
  refine (N.bind (K.below HT.out J.out.below) (zr_nil _ _) nm it vr).mono ?_
  rintro e wq ⟨rfl, hb⟩
  replace J := Lib.hid (J.out.step hb)
  clear hb y0 y1 y2 y3
  obtain ⟨y0, y1, y2, y3, -, -⟩ := (show Held w _ ([_] ++ (w.heap.size, _) :: []) from J.out).four
  go_wp2_with fail
  refine (N.bind (K.below HT.out J.out.below) (zr_box (l1 := []) J.out) nm it vr).mono ?_
  rintro e wq ⟨rfl, hb⟩
  replace J := Lib.hid (J.out.step hb)
  clear hb y0 y1 y2 y3
  obtain ⟨y0, y1, y2, y3, -, -⟩ := (show Held w _ ([_] ++ (w.heap.size, _) :: []) from J.out).four
  go_wp2_with fail
  refine (N.list (K.below HT.out J.out.below) (zr_nil _ _)).mono ?_
  rintro e wq ⟨Aq, cq, rfl, hb⟩
  replace J := Lib.hid (J.out.step hb)
  clear hb y0 y1 y2 y3
  obtain ⟨y0, y1, y2, y3, -, -⟩ := (show Held w _ ([_] ++ (w.heap.size, _) :: []) from J.out).four
  go_wp2_with fail
  refine (N.list (K.below HT.out J.out.below) (zr_box (l1 := []) J.out)).mono ?_
  rintro e wq ⟨Aq, cq, rfl, hb⟩
  replace J := Lib.hid (J.out.step hb)
  clear hb y0 y1 y2 y3
  obtain ⟨y0, y1, y2, y3, -, -⟩ := (show Held w _ ([_] ++ (w.heap.size, _) :: []) from J.out).four
  go_wp2_with fail
  refine (N.log (K.below HT.out J.out.below) (zr_nil _ _)).mono ?_
  rintro e wq ⟨Aq, cq, rfl, hb⟩
  replace J := Lib.hid (J.out.step hb)
  clear hb y0 y1 y2 y3
  obtain ⟨y0, y1, y2, y3, -, -⟩ := (show Held w _ ([_] ++ (w.heap.size, _) :: []) from J.out).four
  go_wp2_with fail
  refine (N.log (K.below HT.out J.out.below) (zr_box (l1 := []) J.out)).mono ?_
  rintro e wq ⟨Aq, cq, rfl, hb⟩
  replace J := Lib.hid (J.out.step hb)
  clear hb y0 y1 y2 y3
  obtain ⟨y0, y1, y2, y3, -, -⟩ := (show Held w _ ([_] ++ (w.heap.size, _) :: []) from J.out).four
  go_wp2_with fail
  refine (EX _ J.out.below).out.mono ?_
  rintro e wq ⟨rfl, hb⟩
  replace J := Lib.hid (J.out.step hb)
  clear hb
  go_wp2_with fail
  go_ret
  exact ⟨rfl, J.out.below⟩
end
end Go.Proofs.YtcecicmihdcjgaaDoor
