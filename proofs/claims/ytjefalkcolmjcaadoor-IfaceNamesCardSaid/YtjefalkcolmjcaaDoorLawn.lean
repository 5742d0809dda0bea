/-
  The law IfaceNames.
-/
import Derived.Test.YtjefalkcolmjcaaDoorTbl
namespace Go.Proofs.YtjefalkcolmjcaaDoor
open Go.RowKit

abbrev s_changed : ByteArray := ⟨#[99, 104, 97, 110, 103, 101, 100]⟩
/-- the names of which i are changed -/
def chgL (i : Nat) : List Value := List.replicate i (.string s_changed) ++ nmsL.drop i

theorem below15 {i : Nat} (hi : i < 15) : i = 0 ∨ i = 1 ∨ i = 2 ∨ i = 3 ∨ i = 4 ∨ i = 5 ∨ i = 6 ∨ i = 7 ∨ i = 8 ∨ i = 9 ∨ i = 10 ∨ i = 11 ∨ i = 12 ∨ i = 13 ∨ i = 14 := by omega
theorem chg_at (i : Nat) (hi : i < 15) : (chgL i)[i]? = some (.string (nmI i)) := by
  rcases below15 hi with rfl | rfl | rfl | rfl | rfl | rfl | rfl | rfl | rfl | rfl | rfl | rfl | rfl | rfl | rfl <;> rfl
theorem chg_set (i : Nat) (hi : i < 15) : (chgL i).set i (.string s_changed) = chgL (i + 1) := by
  rcases below15 hi with rfl | rfl | rfl | rfl | rfl | rfl | rfl | rfl | rfl | rfl | rfl | rfl | rfl | rfl | rfl <;> rfl
theorem chg_len (i : Nat) (hi : i < 15) : i < (chgL i).length := by
  rcases below15 hi with rfl | rfl | rfl | rfl | rfl | rfl | rfl | rfl | rfl | rfl | rfl | rfl | rfl | rfl | rfl <;> decide

/-- the two lists: the program's, of which i names are changed, and the reference's -/
def Two (w W : World) (k1 k2 i : Nat) : Prop := Held w W [(k2, nmsL), (k1, chgL i)]
theorem Two.step {w W W' : World} {k1 k2 i : Nat} (h : Two w W k1 k2 i) (hb : Below W.heap.size W W') : Two w W' k1 k2 i := Held.step h hb
theorem Two.drew {w W : World} {k1 k2 i : Nat} (h : Two w W k1 k2 i) : Two w W.drew k1 k2 i := Held.drew h
theorem Two.below {w W : World} {k1 k2 i : Nat} (h : Two w W k1 k2 i) : Below w.heap.size w W := Held.below h
theorem Two.cells {w W : World} {k1 k2 i : Nat} (h : Two w W k1 k2 i) (hi : i < 15) {n : ByteArray} (hn : nmI i = n) : W.cell? ⟨k1, i, none⟩ = some (.string n) ∧ W.cell? ⟨k2, i, none⟩ = some (.string n) := by
  subst hn
  exact ⟨(show Held w W ([_] ++ (k1, chgL i) :: []) from h).at.1 i _ (chg_at i hi), (show Held w W ([] ++ (k2, nmsL) :: [_]) from h).at.1 i _ (nms_at i hi)⟩
theorem Two.first {w W : World} {k1 k2 i : Nat} (h : Two w W k1 k2 i) : W.cell? ⟨k2, 0, none⟩ = some (.string s_display) :=
  (show Held w W ([] ++ (k2, nmsL) :: [_]) from h).at.1 0 _ rfl
theorem Two.write {w W : World} {k1 k2 i : Nat} (h : Two w W k1 k2 i) (hi : i < 15) : Two w (W.setCell ⟨k1, i, none⟩ (.string s_changed)) k1 k2 (i + 1) := by
  have := (show Held w W ([_] ++ (k1, chgL i) :: []) from h).cell (chg_len i hi) (.string s_changed)
  rw [chg_set i hi] at this
  exact this
theorem Two.free {w W : World} {k1 k2 i : Nat} (h : Two w W k1 k2 i) : W.frozen? ⟨k1, i, none⟩ = false := (show Held w W ([_] ++ (k1, chgL i) :: []) from h).at.2.1 i

set_option maxRecDepth 20000 in
set_option maxHeartbeats 4000000 in
theorem names_walk (n : ByteArray) {w : World} (T : Tab w) : Calls Tryd.prog 3 #[.string n] w (Says true w) := by
  have E := fun W (T : Tab W) => Lib.hid (exam_any T)
  have N := Lib.hid (p_names_own T)
  have M := fun W => Lib.hid (names_any W)
  have A := fun x W (T : Tab W) => Lib.hid (p_version_any T x)
  have B := fun x W => Lib.hid (version_any x W)
  go_enter Tryd.func3, Tryd.ntmps3
  go_wp2_with fail
  refine N.out.mono ?_
  rintro e w1 ⟨k1, cap1, rfl, hc1, hm1, hN⟩
  have J := Lib.hid (show Two w (w1.alloc (.cells (namT.map Value.string).toArray 9)) k1 w1.heap.size 0 from hN.alloc nmsL 9)
  simp only [maxLen] at hm1
  clear N hN
  go_wp2_with fail
  refine (M _).out.mono ?_
  rintro e w2 ⟨rfl, rfl⟩
  generalize w1.alloc (.cells (namT.map Value.string).toArray 9) = w2 at *
  generalize w1.heap.size = k2 at *
  clear M
  go_wp2_with fail
  go_loopw [5] (fun s5 wr => ∃ i : Nat, i ≤ 15 ∧ s5 = .int .i64 (i : Int) ∧ Hid (Two w wr k1 k2 i)) (fun s5 _ => leftN 15 s5)
  case atStart => exact ⟨0, Nat.zero_le _, rfl, J⟩
  case round =>
    clear J
    obtain ⟨i, hi, rfl, J⟩ := hrel
    by_cases hlt : i < 15
    · have q0 : (0 : Int) ≤ i := by omega
      have q1 : (i : Int) < 15 := by omega
      obtain ⟨x, hx⟩ : ∃ x, nmI i = x := ⟨_, rfl⟩
      have HX := Lib.hid hx
      have A1 := fun W T => A x W T
      have B1 := fun W => B x W
      obtain ⟨v, hv⟩ : ∃ v, verT x = v := ⟨_, rfl⟩
      rw [hv] at A1 B1
      have e0 : (x.toList == x.toList) = true := by simp
      have e1 : (v == v) = true := by simp
      clear hx hv A B
      go_upto_region 7 with (fail)
      go_cut [41] from 14 to 44 (fun s41 wx => s41 = .bool false ∧ Hid (Two w wx k1 k2 i))
      case first =>
        replace J := Lib.hid J.out.drew
        have sk := J.out.cells hlt HX.out
        go_region_held3 (fun W => W.cell? ⟨k1, i, none⟩ = some (.string x) ∧ W.cell? ⟨k2, i, none⟩ = some (.string x))
          (first
            | exact sk
            | go_keep)
          (first
            | (go_at_call 13; (with_reducible refine (A1 _ (T.below J.out.below)).out.mono ?_); rintro e wq ⟨rfl, hb⟩; replace J := Lib.hid (J.out.step hb); (try clear sk); have sk := J.out.cells hlt HX.out; clear hb)
            | (go_at_call 14; (with_reducible refine (B1 _).out.mono ?_); rintro e wq ⟨rfl, hb⟩; replace J := Lib.hid (J.out.step hb); (try clear sk); have sk := J.out.cells hlt HX.out; clear hb)
            | fail)
        all_goals
          go_wp2_with fail
          go_meet
          exact ⟨rfl, J⟩
      case rest =>
        obtain ⟨rfl, J2⟩ := hcut
        clear J A1 B1 E
        have cf := J2.out.free
        obtain ⟨c0, c1⟩ := J2.out.cells hlt HX.out
        have J3 := Lib.hid (J2.out.write hlt)
        clear J2
        go_wp2_with fail
        go_roundw
        case rel => exact ⟨i + 1, by omega, by go_num, J3⟩
        case measure =>
          unfold leftN
          simp [intOf]
          omega
    · obtain rfl : i = 15 := by omega
      have A1 := fun W T => A n W T
      have B1 := fun W => B n W
      obtain ⟨v, hv⟩ : ∃ v, verT n = v := ⟨_, rfl⟩
      rw [hv] at A1 B1
      have N := Lib.hid (p_names_own (T.below J.out.below))
      have e1 : (v == v) = true := by simp
      clear hv A B
      go_wp2_with fail
      refine N.out.mono ?_
      rintro e w3 ⟨k3, cap3, rfl, hc3, hm3, hN⟩
      simp only [maxLen] at hm3
      have KB : Hid (∀ W, Below w3.heap.size w3 W → (W.cell? ⟨k3, 0, none⟩ = some (.string s_display) ∧ W.cell? ⟨k2, 0, none⟩ = some (.string s_display)) ∧ Below w.heap.size w W) :=
        Lib.hid (fun W hb => ⟨⟨nms_cell (hN.step hb) (i := 0) (by decide), ((J.out.step hN.below).step hb).first⟩, ((J.out.step hN.below).step hb).below⟩)
      clear N hN J
      have J := Lib.hid ((Below.refl w3.heap.size w3).drew)
      have sk := (KB.out _ J.out).1
      go_upto_region 11 with (fail)
      go_region_held3 (fun W => W.cell? ⟨k3, 0, none⟩ = some (.string s_display) ∧ W.cell? ⟨k2, 0, none⟩ = some (.string s_display))
        (first
          | exact sk
          | go_keep)
        (first
          | (go_at_call 13; (with_reducible refine (A1 _ (T.below (KB.out _ J.out).2)).out.mono ?_); rintro e wq ⟨rfl, hb⟩; replace J := Lib.hid (Below.next J.out hb); (try clear sk); have sk := (KB.out _ J.out).1; clear hb)
          | (go_at_call 14; (with_reducible refine (B1 _).out.mono ?_); rintro e wq ⟨rfl, hb⟩; replace J := Lib.hid (Below.next J.out hb); (try clear sk); have sk := (KB.out _ J.out).1; clear hb)
          | (go_at_call 15; (with_reducible refine (E _ (T.below (KB.out _ J.out).2)).out.mono ?_); rintro e wq ⟨rfl, hb⟩; replace J := Lib.hid (Below.next J.out hb); (try clear sk); have sk := (KB.out _ J.out).1; clear hb)
          | fail)
      all_goals
        go_wp2_with fail
        go_ret
        exact ⟨rfl, (KB.out _ J.out).2⟩

end Go.Proofs.YtjefalkcolmjcaaDoor
