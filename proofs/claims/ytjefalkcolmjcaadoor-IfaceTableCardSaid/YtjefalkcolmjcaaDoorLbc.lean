/-
  The law IfaceTable: one walk for each way through its two conditions.
-/
import Derived.Test.YtjefalkcolmjcaaDoorLawt
namespace Go.Proofs.YtjefalkcolmjcaaDoor
open Go.RowKit

set_option maxHeartbeats 4000000 in
theorem tab_LX {d g h i j x y : Nat} {n nj : ByteArray} {v : Int} {s : Bool} (hd : d < 256) (hg : g < 256) (hh : h < 256) (qi : (d : Int) % 15 = i) (qj : (g : Int) % 15 = j) (qx : (g : Int) % 14 = x) (qy : (h : Int) % 14 = y) (hi : i < 15) (hj : j < 15)
    (ni : nmI i = n) (nj' : nmI j = nj) (e0 : (n.toList == []) = false) (e1 : (n.toList == nj.toList) = s) (e2 : ((i : Int) == (j : Int)) = s) (e4 : ¬ v < 1) (exy : (x : Int) < y) 
    {a1 a2 b1 b2 c1 c2 d1 d2 : ByteArray} {a3 b3 c3 d3 ra rb rc rd : Int}
    (V : ∀ W, Tab W → Hid (Calls Tryd.prog 13 #[.string n] W fun e w' => e = .returned (.int .i64 v) ∧ Below W.heap.size W w'))
    (A : ∀ W, Tab W → Hid (Calls Tryd.prog 16 #[.string n, .int .i64 (x : Int), .int .i64 v] W (GivesP (⟨a1, a2, a3⟩, ra) W)))
    (B : ∀ W, Tab W → Hid (Calls Tryd.prog 16 #[.string n, .int .i64 (y : Int), .int .i64 v] W (GivesP (⟨b1, b2, b3⟩, rb) W)))
    (C : ∀ W, Tab W → Hid (Calls Tryd.prog 18 #[.string n, .int .i64 (x : Int), .int .i64 v] W (GivesP (⟨c1, c2, c3⟩, rc) W)))
    (D : ∀ W, Tab W → Hid (Calls Tryd.prog 18 #[.string n, .int .i64 (y : Int), .int .i64 v] W (GivesP (⟨d1, d2, d3⟩, rd) W)))
    (f1 : ra = 0) (f2 : rb = 0) (g1 : ¬ rc = 0)
    (S : ∀ W, Tab W → Hid (Calls Tryd.prog 27 #[.agg #[.string a1, .string a2, .int .i64 a3], .agg #[.string b1, .string b2, .int .i64 b3], .bool ((x : Int) == (y : Int)), .int .i64 v] W (Says true W))) (s1 : ¬ b3 < a3)
    {w : World} (T : Tab w) : Calls Tryd.prog 10 #[.int .u8 (d : Int), .int .u8 (g : Int), .int .u8 (h : Int)] w (Says true w) := by
  have E := fun W (T : Tab W) => Lib.hid (exam_any T)
  have N := Lib.hid (p_names_own T)
  have e3 : (s == s) = true := by simp
  go_enter Tryd.func10, Tryd.ntmps10
  go_wp2_with fail
  refine N.out.mono ?_
  rintro e w1 ⟨g0, cap0, rfl, hc0, hm0, hN⟩
  have J := Lib.hid ((Held.nil w).step hN.below)
  have c0 := nms_cell hN hi
  have c1' := nms_cell hN hj
  rw [ni] at c0
  rw [nj'] at c1'
  simp only [maxLen] at hm0
  clear N hN ni nj'
  go_wp2_with fail
  refine (V _ (by first | exact T | exact T.below ((Below.refl _ _).alloc (Nat.le_refl _) _) | exact T.below J.out.below | exact T.below J.out | exact T.below J0.out | exact T.below J1.out | exact T.below J2.out | exact T.below J4.out | exact T.below J6.out | exact T.below J7.out | exact T.below HB.out)).out.mono ?_
  rintro e w2 ⟨rfl, hb⟩
  replace J := Lib.hid (J.out.step hb)
  clear hb c0 c1'
  go_wp2_with fail
  refine (V _ (by first | exact T | exact T.below ((Below.refl _ _).alloc (Nat.le_refl _) _) | exact T.below J.out.below | exact T.below J.out | exact T.below J0.out | exact T.below J1.out | exact T.below J2.out | exact T.below J4.out | exact T.below J6.out | exact T.below J7.out | exact T.below HB.out)).out.mono ?_
  rintro e w3 ⟨rfl, hb⟩
  replace J := Lib.hid (J.out.step hb)
  clear hb V
  go_wp2_with fail
  refine (A _ (by first | exact T | exact T.below ((Below.refl _ _).alloc (Nat.le_refl _) _) | exact T.below J.out.below | exact T.below J.out | exact T.below J0.out | exact T.below J1.out | exact T.below J2.out | exact T.below J4.out | exact T.below J6.out | exact T.below J7.out | exact T.below HB.out)).out.mono ?_
  rintro e w4 ⟨rfl, hb⟩
  replace J := Lib.hid ((J.out.step hb).alloc [.string a1, .string a2, .int .i64 a3] 28)
  clear A hb
  go_wp2_with fail
  refine (B _ (by first | exact T | exact T.below ((Below.refl _ _).alloc (Nat.le_refl _) _) | exact T.below J.out.below | exact T.below J.out | exact T.below J0.out | exact T.below J1.out | exact T.below J2.out | exact T.below J4.out | exact T.below J6.out | exact T.below J7.out | exact T.below HB.out)).out.mono ?_
  rintro e w5 ⟨rfl, hb⟩
  replace J := Lib.hid ((J.out.step hb).alloc [.string b1, .string b2, .int .i64 b3] 28)
  clear B hb
  obtain ⟨p0, p1, p2, -, -⟩ := (show Held w _ ([_] ++ (w4.heap.size, _) :: []) from J.out).tri
  obtain ⟨q0, q1, q2, -, -⟩ := (show Held w _ ([] ++ (w5.heap.size, _) :: [_]) from J.out).tri
  go_wp2_with fail
  refine (S _ (by first | exact T | exact T.below ((Below.refl _ _).alloc (Nat.le_refl _) _) | exact T.below J.out.below | exact T.below J.out | exact T.below J0.out | exact T.below J1.out | exact T.below J2.out | exact T.below J4.out | exact T.below J6.out | exact T.below J7.out | exact T.below HB.out)).out.mono ?_
  rintro e w6 ⟨rfl, hb⟩
  replace J := Lib.hid (J.out.step hb)
  clear S hb p0 p1 p2 q0 q1 q2
  obtain ⟨p0, p1, p2, -, -⟩ := (show Held w _ ([_] ++ (w4.heap.size, _) :: []) from J.out).tri
  obtain ⟨q0, q1, q2, -, -⟩ := (show Held w _ ([] ++ (w5.heap.size, _) :: [_]) from J.out).tri
  go_wp2_with fail
  refine (C _ (by first | exact T | exact T.below ((Below.refl _ _).alloc (Nat.le_refl _) _) | exact T.below J.out.below | exact T.below J.out | exact T.below J0.out | exact T.below J1.out | exact T.below J2.out | exact T.below J4.out | exact T.below J6.out | exact T.below J7.out | exact T.below HB.out)).out.mono ?_
  rintro e w7 ⟨rfl, hb⟩
  replace J := Lib.hid (J.out.step hb)
  clear C hb p0 p1 p2 q0 q1 q2
  obtain ⟨p0, p1, p2, pf, pl⟩ := (show Held w _ ([_] ++ (w4.heap.size, _) :: []) from J.out).tri
  replace J := Lib.hid ((show Held w _ ([_] ++ (w4.heap.size, _) :: []) from J.out).set3 (.string c1) (.string c2) (.int .i64 c3))
  go_wp2_with fail
  refine (D _ (by first | exact T | exact T.below ((Below.refl _ _).alloc (Nat.le_refl _) _) | exact T.below J.out.below | exact T.below J.out | exact T.below J0.out | exact T.below J1.out | exact T.below J2.out | exact T.below J4.out | exact T.below J6.out | exact T.below J7.out | exact T.below HB.out)).out.mono ?_
  rintro e w8 ⟨rfl, hb⟩
  replace J := Lib.hid (J.out.step hb)
  clear D hb p0 p1 p2 pf pl
  obtain ⟨p0, p1, p2, -, -⟩ := (show Held w _ ([_] ++ (w4.heap.size, _) :: []) from J.out).tri
  obtain ⟨q0, q1, q2, qf, ql⟩ := (show Held w _ ([] ++ (w5.heap.size, _) :: [_]) from J.out).tri
  replace J := Lib.hid ((show Held w _ ([] ++ (w5.heap.size, _) :: [_]) from J.out).set3 (.string d1) (.string d2) (.int .i64 d3))
  have hne : w4.heap.size ≠ w5.heap.size := (show Held w _ ([] ++ (w5.heap.size, _) :: [_]) from J.out).ne (w4.heap.size, [.string c1, .string c2, .int .i64 c3]) (by simp)
  go_wp2_with fail
  refine (E _ (by first | exact T | exact T.below ((Below.refl _ _).alloc (Nat.le_refl _) _) | exact T.below J.out.below | exact T.below J.out | exact T.below J0.out | exact T.below J1.out | exact T.below J2.out | exact T.below J4.out | exact T.below J6.out | exact T.below J7.out | exact T.below HB.out)).out.mono ?_
  rintro e w10 ⟨rfl, hb⟩
  have HB := Lib.hid (J.out.step hb).below
  clear E J hb
  go_wp2_with fail
  go_ret
  exact ⟨rfl, HB.out⟩

set_option maxHeartbeats 4000000 in
theorem tab_LF {d g h i j x y : Nat} {n nj : ByteArray} {v : Int} {s : Bool} (hd : d < 256) (hg : g < 256) (hh : h < 256) (qi : (d : Int) % 15 = i) (qj : (g : Int) % 15 = j) (qx : (g : Int) % 14 = x) (qy : (h : Int) % 14 = y) (hi : i < 15) (hj : j < 15)
    (ni : nmI i = n) (nj' : nmI j = nj) (e0 : (n.toList == []) = false) (e1 : (n.toList == nj.toList) = s) (e2 : ((i : Int) == (j : Int)) = s) (e4 : ¬ v < 1) (exy : (x : Int) < y) 
    {a1 a2 b1 b2 c1 c2 d1 d2 : ByteArray} {a3 b3 c3 d3 ra rb rc rd : Int}
    (V : ∀ W, Tab W → Hid (Calls Tryd.prog 13 #[.string n] W fun e w' => e = .returned (.int .i64 v) ∧ Below W.heap.size W w'))
    (A : ∀ W, Tab W → Hid (Calls Tryd.prog 16 #[.string n, .int .i64 (x : Int), .int .i64 v] W (GivesP (⟨a1, a2, a3⟩, ra) W)))
    (B : ∀ W, Tab W → Hid (Calls Tryd.prog 16 #[.string n, .int .i64 (y : Int), .int .i64 v] W (GivesP (⟨b1, b2, b3⟩, rb) W)))
    (C : ∀ W, Tab W → Hid (Calls Tryd.prog 18 #[.string n, .int .i64 (x : Int), .int .i64 v] W (GivesP (⟨c1, c2, c3⟩, rc) W)))
    (D : ∀ W, Tab W → Hid (Calls Tryd.prog 18 #[.string n, .int .i64 (y : Int), .int .i64 v] W (GivesP (⟨d1, d2, d3⟩, rd) W)))
    (f1 : ra = 0) (f2 : rb = 0) (g1 : rc = 0) (g2 : ¬ rd = 0)
    (S : ∀ W, Tab W → Hid (Calls Tryd.prog 27 #[.agg #[.string a1, .string a2, .int .i64 a3], .agg #[.string b1, .string b2, .int .i64 b3], .bool ((x : Int) == (y : Int)), .int .i64 v] W (Says true W))) (s1 : ¬ b3 < a3)
    {w : World} (T : Tab w) : Calls Tryd.prog 10 #[.int .u8 (d : Int), .int .u8 (g : Int), .int .u8 (h : Int)] w (Says true w) := by
  have E := fun W (T : Tab W) => Lib.hid (exam_any T)
  have N := Lib.hid (p_names_own T)
  have e3 : (s == s) = true := by simp
  go_enter Tryd.func10, Tryd.ntmps10
  go_wp2_with fail
  refine N.out.mono ?_
  rintro e w1 ⟨g0, cap0, rfl, hc0, hm0, hN⟩
  have J := Lib.hid ((Held.nil w).step hN.below)
  have c0 := nms_cell hN hi
  have c1' := nms_cell hN hj
  rw [ni] at c0
  rw [nj'] at c1'
  simp only [maxLen] at hm0
  clear N hN ni nj'
  go_wp2_with fail
  refine (V _ (by first | exact T | exact T.below ((Below.refl _ _).alloc (Nat.le_refl _) _) | exact T.below J.out.below | exact T.below J.out | exact T.below J0.out | exact T.below J1.out | exact T.below J2.out | exact T.below J4.out | exact T.below J6.out | exact T.below J7.out | exact T.below HB.out)).out.mono ?_
  rintro e w2 ⟨rfl, hb⟩
  replace J := Lib.hid (J.out.step hb)
  clear hb c0 c1'
  go_wp2_with fail
  refine (V _ (by first | exact T | exact T.below ((Below.refl _ _).alloc (Nat.le_refl _) _) | exact T.below J.out.below | exact T.below J.out | exact T.below J0.out | exact T.below J1.out | exact T.below J2.out | exact T.below J4.out | exact T.below J6.out | exact T.below J7.out | exact T.below HB.out)).out.mono ?_
  rintro e w3 ⟨rfl, hb⟩
  replace J := Lib.hid (J.out.step hb)
  clear hb V
  go_wp2_with fail
  refine (A _ (by first | exact T | exact T.below ((Below.refl _ _).alloc (Nat.le_refl _) _) | exact T.below J.out.below | exact T.below J.out | exact T.below J0.out | exact T.below J1.out | exact T.below J2.out | exact T.below J4.out | exact T.below J6.out | exact T.below J7.out | exact T.below HB.out)).out.mono ?_
  rintro e w4 ⟨rfl, hb⟩
  replace J := Lib.hid ((J.out.step hb).alloc [.string a1, .string a2, .int .i64 a3] 28)
  clear A hb
  go_wp2_with fail
  refine (B _ (by first | exact T | exact T.below ((Below.refl _ _).alloc (Nat.le_refl _) _) | exact T.below J.out.below | exact T.below J.out | exact T.below J0.out | exact T.below J1.out | exact T.below J2.out | exact T.below J4.out | exact T.below J6.out | exact T.below J7.out | exact T.below HB.out)).out.mono ?_
  rintro e w5 ⟨rfl, hb⟩
  replace J := Lib.hid ((J.out.step hb).alloc [.string b1, .string b2, .int .i64 b3] 28)
  clear B hb
  obtain ⟨p0, p1, p2, -, -⟩ := (show Held w _ ([_] ++ (w4.heap.size, _) :: []) from J.out).tri
  obtain ⟨q0, q1, q2, -, -⟩ := (show Held w _ ([] ++ (w5.heap.size, _) :: [_]) from J.out).tri
  go_wp2_with fail
  refine (S _ (by first | exact T | exact T.below ((Below.refl _ _).alloc (Nat.le_refl _) _) | exact T.below J.out.below | exact T.below J.out | exact T.below J0.out | exact T.below J1.out | exact T.below J2.out | exact T.below J4.out | exact T.below J6.out | exact T.below J7.out | exact T.below HB.out)).out.mono ?_
  rintro e w6 ⟨rfl, hb⟩
  replace J := Lib.hid (J.out.step hb)
  clear S hb p0 p1 p2 q0 q1 q2
  obtain ⟨p0, p1, p2, -, -⟩ := (show Held w _ ([_] ++ (w4.heap.size, _) :: []) from J.out).tri
  obtain ⟨q0, q1, q2, -, -⟩ := (show Held w _ ([] ++ (w5.heap.size, _) :: [_]) from J.out).tri
  go_wp2_with fail
  refine (C _ (by first | exact T | exact T.below ((Below.refl _ _).alloc (Nat.le_refl _) _) | exact T.below J.out.below | exact T.below J.out | exact T.below J0.out | exact T.below J1.out | exact T.below J2.out | exact T.below J4.out | exact T.below J6.out | exact T.below J7.out | exact T.below HB.out)).out.mono ?_
  rintro e w7 ⟨rfl, hb⟩
  replace J := Lib.hid (J.out.step hb)
  clear C hb p0 p1 p2 q0 q1 q2
  obtain ⟨p0, p1, p2, pf, pl⟩ := (show Held w _ ([_] ++ (w4.heap.size, _) :: []) from J.out).tri
  replace J := Lib.hid ((show Held w _ ([_] ++ (w4.heap.size, _) :: []) from J.out).set3 (.string c1) (.string c2) (.int .i64 c3))
  go_wp2_with fail
  refine (D _ (by first | exact T | exact T.below ((Below.refl _ _).alloc (Nat.le_refl _) _) | exact T.below J.out.below | exact T.below J.out | exact T.below J0.out | exact T.below J1.out | exact T.below J2.out | exact T.below J4.out | exact T.below J6.out | exact T.below J7.out | exact T.below HB.out)).out.mono ?_
  rintro e w8 ⟨rfl, hb⟩
  replace J := Lib.hid (J.out.step hb)
  clear D hb p0 p1 p2 pf pl
  obtain ⟨p0, p1, p2, -, -⟩ := (show Held w _ ([_] ++ (w4.heap.size, _) :: []) from J.out).tri
  obtain ⟨q0, q1, q2, qf, ql⟩ := (show Held w _ ([] ++ (w5.heap.size, _) :: [_]) from J.out).tri
  replace J := Lib.hid ((show Held w _ ([] ++ (w5.heap.size, _) :: [_]) from J.out).set3 (.string d1) (.string d2) (.int .i64 d3))
  have hne : w4.heap.size ≠ w5.heap.size := (show Held w _ ([] ++ (w5.heap.size, _) :: [_]) from J.out).ne (w4.heap.size, [.string c1, .string c2, .int .i64 c3]) (by simp)
  go_wp2_with fail
  refine (E _ (by first | exact T | exact T.below ((Below.refl _ _).alloc (Nat.le_refl _) _) | exact T.below J.out.below | exact T.below J.out | exact T.below J0.out | exact T.below J1.out | exact T.below J2.out | exact T.below J4.out | exact T.below J6.out | exact T.below J7.out | exact T.below HB.out)).out.mono ?_
  rintro e w10 ⟨rfl, hb⟩
  have HB := Lib.hid (J.out.step hb).below
  clear E J hb
  go_wp2_with fail
  go_ret
  exact ⟨rfl, HB.out⟩

set_option maxHeartbeats 4000000 in
theorem tab_GX {d g h i j x y : Nat} {n nj : ByteArray} {v : Int} {s : Bool} (hd : d < 256) (hg : g < 256) (hh : h < 256) (qi : (d : Int) % 15 = i) (qj : (g : Int) % 15 = j) (qx : (g : Int) % 14 = x) (qy : (h : Int) % 14 = y) (hi : i < 15) (hj : j < 15)
    (ni : nmI i = n) (nj' : nmI j = nj) (e0 : (n.toList == []) = false) (e1 : (n.toList == nj.toList) = s) (e2 : ((i : Int) == (j : Int)) = s) (e4 : ¬ v < 1) (exy : ¬ (x : Int) < y) 
    {a1 a2 b1 b2 c1 c2 d1 d2 : ByteArray} {a3 b3 c3 d3 ra rb rc rd : Int}
    (V : ∀ W, Tab W → Hid (Calls Tryd.prog 13 #[.string n] W fun e w' => e = .returned (.int .i64 v) ∧ Below W.heap.size W w'))
    (A : ∀ W, Tab W → Hid (Calls Tryd.prog 16 #[.string n, .int .i64 (x : Int), .int .i64 v] W (GivesP (⟨a1, a2, a3⟩, ra) W)))
    (B : ∀ W, Tab W → Hid (Calls Tryd.prog 16 #[.string n, .int .i64 (y : Int), .int .i64 v] W (GivesP (⟨b1, b2, b3⟩, rb) W)))
    (C : ∀ W, Tab W → Hid (Calls Tryd.prog 18 #[.string n, .int .i64 (x : Int), .int .i64 v] W (GivesP (⟨c1, c2, c3⟩, rc) W)))
    (D : ∀ W, Tab W → Hid (Calls Tryd.prog 18 #[.string n, .int .i64 (y : Int), .int .i64 v] W (GivesP (⟨d1, d2, d3⟩, rd) W)))
    (f1 : ra = 0) (f2 : rb = 0) (g1 : ¬ rc = 0)
    (S : ∀ W, Tab W → Hid (Calls Tryd.prog 27 #[.agg #[.string a1, .string a2, .int .i64 a3], .agg #[.string b1, .string b2, .int .i64 b3], .bool ((x : Int) == (y : Int)), .int .i64 v] W (Says true W)))
    {w : World} (T : Tab w) : Calls Tryd.prog 10 #[.int .u8 (d : Int), .int .u8 (g : Int), .int .u8 (h : Int)] w (Says true w) := by
  have E := fun W (T : Tab W) => Lib.hid (exam_any T)
  have N := Lib.hid (p_names_own T)
  have e3 : (s == s) = true := by simp
  go_enter Tryd.func10, Tryd.ntmps10
  go_wp2_with fail
  refine N.out.mono ?_
  rintro e w1 ⟨g0, cap0, rfl, hc0, hm0, hN⟩
  have J := Lib.hid ((Held.nil w).step hN.below)
  have c0 := nms_cell hN hi
  have c1' := nms_cell hN hj
  rw [ni] at c0
  rw [nj'] at c1'
  simp only [maxLen] at hm0
  clear N hN ni nj'
  go_wp2_with fail
  refine (V _ (by first | exact T | exact T.below ((Below.refl _ _).alloc (Nat.le_refl _) _) | exact T.below J.out.below | exact T.below J.out | exact T.below J0.out | exact T.below J1.out | exact T.below J2.out | exact T.below J4.out | exact T.below J6.out | exact T.below J7.out | exact T.below HB.out)).out.mono ?_
  rintro e w2 ⟨rfl, hb⟩
  replace J := Lib.hid (J.out.step hb)
  clear hb c0 c1'
  go_wp2_with fail
  refine (V _ (by first | exact T | exact T.below ((Below.refl _ _).alloc (Nat.le_refl _) _) | exact T.below J.out.below | exact T.below J.out | exact T.below J0.out | exact T.below J1.out | exact T.below J2.out | exact T.below J4.out | exact T.below J6.out | exact T.below J7.out | exact T.below HB.out)).out.mono ?_
  rintro e w3 ⟨rfl, hb⟩
  replace J := Lib.hid (J.out.step hb)
  clear hb V
  go_wp2_with fail
  refine (A _ (by first | exact T | exact T.below ((Below.refl _ _).alloc (Nat.le_refl _) _) | exact T.below J.out.below | exact T.below J.out | exact T.below J0.out | exact T.below J1.out | exact T.below J2.out | exact T.below J4.out | exact T.below J6.out | exact T.below J7.out | exact T.below HB.out)).out.mono ?_
  rintro e w4 ⟨rfl, hb⟩
  replace J := Lib.hid ((J.out.step hb).alloc [.string a1, .string a2, .int .i64 a3] 28)
  clear A hb
  go_wp2_with fail
  refine (B _ (by first | exact T | exact T.below ((Below.refl _ _).alloc (Nat.le_refl _) _) | exact T.below J.out.below | exact T.below J.out | exact T.below J0.out | exact T.below J1.out | exact T.below J2.out | exact T.below J4.out | exact T.below J6.out | exact T.below J7.out | exact T.below HB.out)).out.mono ?_
  rintro e w5 ⟨rfl, hb⟩
  replace J := Lib.hid ((J.out.step hb).alloc [.string b1, .string b2, .int .i64 b3] 28)
  clear B hb
  obtain ⟨p0, p1, p2, -, -⟩ := (show Held w _ ([_] ++ (w4.heap.size, _) :: []) from J.out).tri
  obtain ⟨q0, q1, q2, -, -⟩ := (show Held w _ ([] ++ (w5.heap.size, _) :: [_]) from J.out).tri
  go_wp2_with fail
  refine (S _ (by first | exact T | exact T.below ((Below.refl _ _).alloc (Nat.le_refl _) _) | exact T.below J.out.below | exact T.below J.out | exact T.below J0.out | exact T.below J1.out | exact T.below J2.out | exact T.below J4.out | exact T.below J6.out | exact T.below J7.out | exact T.below HB.out)).out.mono ?_
  rintro e w6 ⟨rfl, hb⟩
  replace J := Lib.hid (J.out.step hb)
  clear S hb p0 p1 p2 q0 q1 q2
  obtain ⟨p0, p1, p2, -, -⟩ := (show Held w _ ([_] ++ (w4.heap.size, _) :: []) from J.out).tri
  obtain ⟨q0, q1, q2, -, -⟩ := (show Held w _ ([] ++ (w5.heap.size, _) :: [_]) from J.out).tri
  go_wp2_with fail
  refine (C _ (by first | exact T | exact T.below ((Below.refl _ _).alloc (Nat.le_refl _) _) | exact T.below J.out.below | exact T.below J.out | exact T.below J0.out | exact T.below J1.out | exact T.below J2.out | exact T.below J4.out | exact T.below J6.out | exact T.below J7.out | exact T.below HB.out)).out.mono ?_
  rintro e w7 ⟨rfl, hb⟩
  replace J := Lib.hid (J.out.step hb)
  clear C hb p0 p1 p2 q0 q1 q2
  obtain ⟨p0, p1, p2, pf, pl⟩ := (show Held w _ ([_] ++ (w4.heap.size, _) :: []) from J.out).tri
  replace J := Lib.hid ((show Held w _ ([_] ++ (w4.heap.size, _) :: []) from J.out).set3 (.string c1) (.string c2) (.int .i64 c3))
  go_wp2_with fail
  refine (D _ (by first | exact T | exact T.below ((Below.refl _ _).alloc (Nat.le_refl _) _) | exact T.below J.out.below | exact T.below J.out | exact T.below J0.out | exact T.below J1.out | exact T.below J2.out | exact T.below J4.out | exact T.below J6.out | exact T.below J7.out | exact T.below HB.out)).out.mono ?_
  rintro e w8 ⟨rfl, hb⟩
  replace J := Lib.hid (J.out.step hb)
  clear D hb p0 p1 p2 pf pl
  obtain ⟨p0, p1, p2, -, -⟩ := (show Held w _ ([_] ++ (w4.heap.size, _) :: []) from J.out).tri
  obtain ⟨q0, q1, q2, qf, ql⟩ := (show Held w _ ([] ++ (w5.heap.size, _) :: [_]) from J.out).tri
  replace J := Lib.hid ((show Held w _ ([] ++ (w5.heap.size, _) :: [_]) from J.out).set3 (.string d1) (.string d2) (.int .i64 d3))
  have hne : w4.heap.size ≠ w5.heap.size := (show Held w _ ([] ++ (w5.heap.size, _) :: [_]) from J.out).ne (w4.heap.size, [.string c1, .string c2, .int .i64 c3]) (by simp)
  go_wp2_with fail
  refine (E _ (by first | exact T | exact T.below ((Below.refl _ _).alloc (Nat.le_refl _) _) | exact T.below J.out.below | exact T.below J.out | exact T.below J0.out | exact T.below J1.out | exact T.below J2.out | exact T.below J4.out | exact T.below J6.out | exact T.below J7.out | exact T.below HB.out)).out.mono ?_
  rintro e w10 ⟨rfl, hb⟩
  have HB := Lib.hid (J.out.step hb).below
  clear E J hb
  go_wp2_with fail
  go_ret
  exact ⟨rfl, HB.out⟩

set_option maxHeartbeats 4000000 in
theorem tab_GF {d g h i j x y : Nat} {n nj : ByteArray} {v : Int} {s : Bool} (hd : d < 256) (hg : g < 256) (hh : h < 256) (qi : (d : Int) % 15 = i) (qj : (g : Int) % 15 = j) (qx : (g : Int) % 14 = x) (qy : (h : Int) % 14 = y) (hi : i < 15) (hj : j < 15)
    (ni : nmI i = n) (nj' : nmI j = nj) (e0 : (n.toList == []) = false) (e1 : (n.toList == nj.toList) = s) (e2 : ((i : Int) == (j : Int)) = s) (e4 : ¬ v < 1) (exy : ¬ (x : Int) < y) 
    {a1 a2 b1 b2 c1 c2 d1 d2 : ByteArray} {a3 b3 c3 d3 ra rb rc rd : Int}
    (V : ∀ W, Tab W → Hid (Calls Tryd.prog 13 #[.string n] W fun e w' => e = .returned (.int .i64 v) ∧ Below W.heap.size W w'))
    (A : ∀ W, Tab W → Hid (Calls Tryd.prog 16 #[.string n, .int .i64 (x : Int), .int .i64 v] W (GivesP (⟨a1, a2, a3⟩, ra) W)))
    (B : ∀ W, Tab W → Hid (Calls Tryd.prog 16 #[.string n, .int .i64 (y : Int), .int .i64 v] W (GivesP (⟨b1, b2, b3⟩, rb) W)))
    (C : ∀ W, Tab W → Hid (Calls Tryd.prog 18 #[.string n, .int .i64 (x : Int), .int .i64 v] W (GivesP (⟨c1, c2, c3⟩, rc) W)))
    (D : ∀ W, Tab W → Hid (Calls Tryd.prog 18 #[.string n, .int .i64 (y : Int), .int .i64 v] W (GivesP (⟨d1, d2, d3⟩, rd) W)))
    (f1 : ra = 0) (f2 : rb = 0) (g1 : rc = 0) (g2 : ¬ rd = 0)
    (S : ∀ W, Tab W → Hid (Calls Tryd.prog 27 #[.agg #[.string a1, .string a2, .int .i64 a3], .agg #[.string b1, .string b2, .int .i64 b3], .bool ((x : Int) == (y : Int)), .int .i64 v] W (Says true W)))
    {w : World} (T : Tab w) : Calls Tryd.prog 10 #[.int .u8 (d : Int), .int .u8 (g : Int), .int .u8 (h : Int)] w (Says true w) := by
  have E := fun W (T : Tab W) => Lib.hid (exam_any T)
  have N := Lib.hid (p_names_own T)
  have e3 : (s == s) = true := by simp
  go_enter Tryd.func10, Tryd.ntmps10
  go_wp2_with fail
  refine N.out.mono ?_
  rintro e w1 ⟨g0, cap0, rfl, hc0, hm0, hN⟩
  have J := Lib.hid ((Held.nil w).step hN.below)
  have c0 := nms_cell hN hi
  have c1' := nms_cell hN hj
  rw [ni] at c0
  rw [nj'] at c1'
  simp only [maxLen] at hm0
  clear N hN ni nj'
  go_wp2_with fail
  refine (V _ (by first | exact T | exact T.below ((Below.refl _ _).alloc (Nat.le_refl _) _) | exact T.below J.out.below | exact T.below J.out | exact T.below J0.out | exact T.below J1.out | exact T.below J2.out | exact T.below J4.out | exact T.below J6.out | exact T.below J7.out | exact T.below HB.out)).out.mono ?_
  rintro e w2 ⟨rfl, hb⟩
  replace J := Lib.hid (J.out.step hb)
  clear hb c0 c1'
  go_wp2_with fail
  refine (V _ (by first | exact T | exact T.below ((Below.refl _ _).alloc (Nat.le_refl _) _) | exact T.below J.out.below | exact T.below J.out | exact T.below J0.out | exact T.below J1.out | exact T.below J2.out | exact T.below J4.out | exact T.below J6.out | exact T.below J7.out | exact T.below HB.out)).out.mono ?_
  rintro e w3 ⟨rfl, hb⟩
  replace J := Lib.hid (J.out.step hb)
  clear hb V
  go_wp2_with fail
  refine (A _ (by first | exact T | exact T.below ((Below.refl _ _).alloc (Nat.le_refl _) _) | exact T.below J.out.below | exact T.below J.out | exact T.below J0.out | exact T.below J1.out | exact T.below J2.out | exact T.below J4.out | exact T.below J6.out | exact T.below J7.out | exact T.below HB.out)).out.mono ?_
  rintro e w4 ⟨rfl, hb⟩
  replace J := Lib.hid ((J.out.step hb).alloc [.string a1, .string a2, .int .i64 a3] 28)
  clear A hb
  go_wp2_with fail
  refine (B _ (by first | exact T | exact T.below ((Below.refl _ _).alloc (Nat.le_refl _) _) | exact T.below J.out.below | exact T.below J.out | exact T.below J0.out | exact T.below J1.out | exact T.below J2.out | exact T.below J4.out | exact T.below J6.out | exact T.below J7.out | exact T.below HB.out)).out.mono ?_
  rintro e w5 ⟨rfl, hb⟩
  replace J := Lib.hid ((J.out.step hb).alloc [.string b1, .string b2, .int .i64 b3] 28)
  clear B hb
  obtain ⟨p0, p1, p2, -, -⟩ := (show Held w _ ([_] ++ (w4.heap.size, _) :: []) from J.out).tri
  obtain ⟨q0, q1, q2, -, -⟩ := (show Held w _ ([] ++ (w5.heap.size, _) :: [_]) from J.out).tri
  go_wp2_with fail
  refine (S _ (by first | exact T | exact T.below ((Below.refl _ _).alloc (Nat.le_refl _) _) | exact T.below J.out.below | exact T.below J.out | exact T.below J0.out | exact T.below J1.out | exact T.below J2.out | exact T.below J4.out | exact T.below J6.out | exact T.below J7.out | exact T.below HB.out)).out.mono ?_
  rintro e w6 ⟨rfl, hb⟩
  replace J := Lib.hid (J.out.step hb)
  clear S hb p0 p1 p2 q0 q1 q2
  obtain ⟨p0, p1, p2, -, -⟩ := (show Held w _ ([_] ++ (w4.heap.size, _) :: []) from J.out).tri
  obtain ⟨q0, q1, q2, -, -⟩ := (show Held w _ ([] ++ (w5.heap.size, _) :: [_]) from J.out).tri
  go_wp2_with fail
  refine (C _ (by first | exact T | exact T.below ((Below.refl _ _).alloc (Nat.le_refl _) _) | exact T.below J.out.below | exact T.below J.out | exact T.below J0.out | exact T.below J1.out | exact T.below J2.out | exact T.below J4.out | exact T.below J6.out | exact T.below J7.out | exact T.below HB.out)).out.mono ?_
  rintro e w7 ⟨rfl, hb⟩
  replace J := Lib.hid (J.out.step hb)
  clear C hb p0 p1 p2 q0 q1 q2
  obtain ⟨p0, p1, p2, pf, pl⟩ := (show Held w _ ([_] ++ (w4.heap.size, _) :: []) from J.out).tri
  replace J := Lib.hid ((show Held w _ ([_] ++ (w4.heap.size, _) :: []) from J.out).set3 (.string c1) (.string c2) (.int .i64 c3))
  go_wp2_with fail
  refine (D _ (by first | exact T | exact T.below ((Below.refl _ _).alloc (Nat.le_refl _) _) | exact T.below J.out.below | exact T.below J.out | exact T.below J0.out | exact T.below J1.out | exact T.below J2.out | exact T.below J4.out | exact T.below J6.out | exact T.below J7.out | exact T.below HB.out)).out.mono ?_
  rintro e w8 ⟨rfl, hb⟩
  replace J := Lib.hid (J.out.step hb)
  clear D hb p0 p1 p2 pf pl
  obtain ⟨p0, p1, p2, -, -⟩ := (show Held w _ ([_] ++ (w4.heap.size, _) :: []) from J.out).tri
  obtain ⟨q0, q1, q2, qf, ql⟩ := (show Held w _ ([] ++ (w5.heap.size, _) :: [_]) from J.out).tri
  replace J := Lib.hid ((show Held w _ ([] ++ (w5.heap.size, _) :: [_]) from J.out).set3 (.string d1) (.string d2) (.int .i64 d3))
  have hne : w4.heap.size ≠ w5.heap.size := (show Held w _ ([] ++ (w5.heap.size, _) :: [_]) from J.out).ne (w4.heap.size, [.string c1, .string c2, .int .i64 c3]) (by simp)
  go_wp2_with fail
  refine (E _ (by first | exact T | exact T.below ((Below.refl _ _).alloc (Nat.le_refl _) _) | exact T.below J.out.below | exact T.below J.out | exact T.below J0.out | exact T.below J1.out | exact T.below J2.out | exact T.below J4.out | exact T.below J6.out | exact T.below J7.out | exact T.below HB.out)).out.mono ?_
  rintro e w10 ⟨rfl, hb⟩
  have HB := Lib.hid (J.out.step hb).below
  clear E J hb
  go_wp2_with fail
  go_ret
  exact ⟨rfl, HB.out⟩

set_option maxHeartbeats 4000000 in
theorem tab_GG {d g h i j x y : Nat} {n nj : ByteArray} {v : Int} {s : Bool} (hd : d < 256) (hg : g < 256) (hh : h < 256) (qi : (d : Int) % 15 = i) (qj : (g : Int) % 15 = j) (qx : (g : Int) % 14 = x) (qy : (h : Int) % 14 = y) (hi : i < 15) (hj : j < 15)
    (ni : nmI i = n) (nj' : nmI j = nj) (e0 : (n.toList == []) = false) (e1 : (n.toList == nj.toList) = s) (e2 : ((i : Int) == (j : Int)) = s) (e4 : ¬ v < 1) (exy : ¬ (x : Int) < y) 
    {a1 a2 b1 b2 c1 c2 d1 d2 : ByteArray} {a3 b3 c3 d3 ra rb rc rd : Int}
    (V : ∀ W, Tab W → Hid (Calls Tryd.prog 13 #[.string n] W fun e w' => e = .returned (.int .i64 v) ∧ Below W.heap.size W w'))
    (A : ∀ W, Tab W → Hid (Calls Tryd.prog 16 #[.string n, .int .i64 (x : Int), .int .i64 v] W (GivesP (⟨a1, a2, a3⟩, ra) W)))
    (B : ∀ W, Tab W → Hid (Calls Tryd.prog 16 #[.string n, .int .i64 (y : Int), .int .i64 v] W (GivesP (⟨b1, b2, b3⟩, rb) W)))
    (C : ∀ W, Tab W → Hid (Calls Tryd.prog 18 #[.string n, .int .i64 (x : Int), .int .i64 v] W (GivesP (⟨c1, c2, c3⟩, rc) W)))
    (D : ∀ W, Tab W → Hid (Calls Tryd.prog 18 #[.string n, .int .i64 (y : Int), .int .i64 v] W (GivesP (⟨d1, d2, d3⟩, rd) W)))
    (f1 : ra = 0) (f2 : rb = 0) (g1 : rc = 0) (g2 : rd = 0)
    (S : ∀ W, Tab W → Hid (Calls Tryd.prog 27 #[.agg #[.string a1, .string a2, .int .i64 a3], .agg #[.string b1, .string b2, .int .i64 b3], .bool ((x : Int) == (y : Int)), .int .i64 v] W (Says true W)))
    (S2 : ∀ W, Tab W → Hid (Calls Tryd.prog 27 #[.agg #[.string c1, .string c2, .int .i64 c3], .agg #[.string d1, .string d2, .int .i64 d3], .bool ((x : Int) == (y : Int)), .int .i64 v] W (Says true W)))
    {w : World} (T : Tab w) : Calls Tryd.prog 10 #[.int .u8 (d : Int), .int .u8 (g : Int), .int .u8 (h : Int)] w (Says true w) := by
  have E := fun W (T : Tab W) => Lib.hid (exam_any T)
  have N := Lib.hid (p_names_own T)
  have e3 : (s == s) = true := by simp
  go_enter Tryd.func10, Tryd.ntmps10
  go_wp2_with fail
  refine N.out.mono ?_
  rintro e w1 ⟨g0, cap0, rfl, hc0, hm0, hN⟩
  have J := Lib.hid ((Held.nil w).step hN.below)
  have c0 := nms_cell hN hi
  have c1' := nms_cell hN hj
  rw [ni] at c0
  rw [nj'] at c1'
  simp only [maxLen] at hm0
  clear N hN ni nj'
  go_wp2_with fail
  refine (V _ (by first | exact T | exact T.below ((Below.refl _ _).alloc (Nat.le_refl _) _) | exact T.below J.out.below | exact T.below J.out | exact T.below J0.out | exact T.below J1.out | exact T.below J2.out | exact T.below J4.out | exact T.below J6.out | exact T.below J7.out | exact T.below HB.out)).out.mono ?_
  rintro e w2 ⟨rfl, hb⟩
  replace J := Lib.hid (J.out.step hb)
  clear hb c0 c1'
  go_wp2_with fail
  refine (V _ (by first | exact T | exact T.below ((Below.refl _ _).alloc (Nat.le_refl _) _) | exact T.below J.out.below | exact T.below J.out | exact T.below J0.out | exact T.below J1.out | exact T.below J2.out | exact T.below J4.out | exact T.below J6.out | exact T.below J7.out | exact T.below HB.out)).out.mono ?_
  rintro e w3 ⟨rfl, hb⟩
  replace J := Lib.hid (J.out.step hb)
  clear hb V
  go_wp2_with fail
  refine (A _ (by first | exact T | exact T.below ((Below.refl _ _).alloc (Nat.le_refl _) _) | exact T.below J.out.below | exact T.below J.out | exact T.below J0.out | exact T.below J1.out | exact T.below J2.out | exact T.below J4.out | exact T.below J6.out | exact T.below J7.out | exact T.below HB.out)).out.mono ?_
  rintro e w4 ⟨rfl, hb⟩
  replace J := Lib.hid ((J.out.step hb).alloc [.string a1, .string a2, .int .i64 a3] 28)
  clear A hb
  go_wp2_with fail
  refine (B _ (by first | exact T | exact T.below ((Below.refl _ _).alloc (Nat.le_refl _) _) | exact T.below J.out.below | exact T.below J.out | exact T.below J0.out | exact T.below J1.out | exact T.below J2.out | exact T.below J4.out | exact T.below J6.out | exact T.below J7.out | exact T.below HB.out)).out.mono ?_
  rintro e w5 ⟨rfl, hb⟩
  replace J := Lib.hid ((J.out.step hb).alloc [.string b1, .string b2, .int .i64 b3] 28)
  clear B hb
  obtain ⟨p0, p1, p2, -, -⟩ := (show Held w _ ([_] ++ (w4.heap.size, _) :: []) from J.out).tri
  obtain ⟨q0, q1, q2, -, -⟩ := (show Held w _ ([] ++ (w5.heap.size, _) :: [_]) from J.out).tri
  go_wp2_with fail
  refine (S _ (by first | exact T | exact T.below ((Below.refl _ _).alloc (Nat.le_refl _) _) | exact T.below J.out.below | exact T.below J.out | exact T.below J0.out | exact T.below J1.out | exact T.below J2.out | exact T.below J4.out | exact T.below J6.out | exact T.below J7.out | exact T.below HB.out)).out.mono ?_
  rintro e w6 ⟨rfl, hb⟩
  replace J := Lib.hid (J.out.step hb)
  clear S hb p0 p1 p2 q0 q1 q2
  obtain ⟨p0, p1, p2, -, -⟩ := (show Held w _ ([_] ++ (w4.heap.size, _) :: []) from J.out).tri
  obtain ⟨q0, q1, q2, -, -⟩ := (show Held w _ ([] ++ (w5.heap.size, _) :: [_]) from J.out).tri
  go_wp2_with fail
  refine (C _ (by first | exact T | exact T.below ((Below.refl _ _).alloc (Nat.le_refl _) _) | exact T.below J.out.below | exact T.below J.out | exact T.below J0.out | exact T.below J1.out | exact T.below J2.out | exact T.below J4.out | exact T.below J6.out | exact T.below J7.out | exact T.below HB.out)).out.mono ?_
  rintro e w7 ⟨rfl, hb⟩
  replace J := Lib.hid (J.out.step hb)
  clear C hb p0 p1 p2 q0 q1 q2
  obtain ⟨p0, p1, p2, pf, pl⟩ := (show Held w _ ([_] ++ (w4.heap.size, _) :: []) from J.out).tri
  replace J := Lib.hid ((show Held w _ ([_] ++ (w4.heap.size, _) :: []) from J.out).set3 (.string c1) (.string c2) (.int .i64 c3))
  go_wp2_with fail
  refine (D _ (by first | exact T | exact T.below ((Below.refl _ _).alloc (Nat.le_refl _) _) | exact T.below J.out.below | exact T.below J.out | exact T.below J0.out | exact T.below J1.out | exact T.below J2.out | exact T.below J4.out | exact T.below J6.out | exact T.below J7.out | exact T.below HB.out)).out.mono ?_
  rintro e w8 ⟨rfl, hb⟩
  replace J := Lib.hid (J.out.step hb)
  clear D hb p0 p1 p2 pf pl
  obtain ⟨p0, p1, p2, -, -⟩ := (show Held w _ ([_] ++ (w4.heap.size, _) :: []) from J.out).tri
  obtain ⟨q0, q1, q2, qf, ql⟩ := (show Held w _ ([] ++ (w5.heap.size, _) :: [_]) from J.out).tri
  replace J := Lib.hid ((show Held w _ ([] ++ (w5.heap.size, _) :: [_]) from J.out).set3 (.string d1) (.string d2) (.int .i64 d3))
  have hne : w4.heap.size ≠ w5.heap.size := (show Held w _ ([] ++ (w5.heap.size, _) :: [_]) from J.out).ne (w4.heap.size, [.string c1, .string c2, .int .i64 c3]) (by simp)
  go_wp2_with fail
  refine (S2 _ (by first | exact T | exact T.below ((Below.refl _ _).alloc (Nat.le_refl _) _) | exact T.below J.out.below | exact T.below J.out | exact T.below J0.out | exact T.below J1.out | exact T.below J2.out | exact T.below J4.out | exact T.below J6.out | exact T.below J7.out | exact T.below HB.out)).out.mono ?_
  rintro e w9 ⟨rfl, hb⟩
  replace J := Lib.hid (J.out.step hb)
  clear S2 hb p0 p1 p2 q0 q1 q2 qf ql
  obtain ⟨p0, p1, p2, -, -⟩ := (show Held w _ ([_] ++ (w4.heap.size, _) :: []) from J.out).tri
  obtain ⟨q0, q1, q2, -, -⟩ := (show Held w _ ([] ++ (w5.heap.size, _) :: [_]) from J.out).tri
  go_wp2_with fail
  refine (E _ (by first | exact T | exact T.below ((Below.refl _ _).alloc (Nat.le_refl _) _) | exact T.below J.out.below | exact T.below J.out | exact T.below J0.out | exact T.below J1.out | exact T.below J2.out | exact T.below J4.out | exact T.below J6.out | exact T.below J7.out | exact T.below HB.out)).out.mono ?_
  rintro e w10 ⟨rfl, hb⟩
  have HB := Lib.hid (J.out.step hb).below
  clear E J hb
  go_wp2_with fail
  go_ret
  exact ⟨rfl, HB.out⟩

end Go.Proofs.YtjefalkcolmjcaaDoor
