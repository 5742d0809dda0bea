/-
  The law IfaceVersions.
-/
import Derived.Test.YtjefalkcolmjcaaDoorLawr
import Derived.Test.YtjefalkcolmjcaaDoorTbl
namespace Go.Proofs.YtjefalkcolmjcaaDoor
open Go.RowKit

set_option maxHeartbeats 2000000 in
theorem neq_op (a b : ByteArray) (c : Int) (w : World) : (binOp .neq 28 (.agg #[.string a, .string b, .int .i64 c]) (.agg #[.string a, .string b, .int .i64 c])).run Tryd.prog w = .ok (.bool false) w := by
  have h : ∀ d : Nat, (Op.equalIn (d + 3) 28 (.agg #[.string a, .string b, .int .i64 c]) (.agg #[.string a, .string b, .int .i64 c])).run Tryd.prog w = .ok true w := fun d => by
    simp [Op.equalIn, run_underlying Tryd.underlying28, run_underlying Tryd.underlying9, run_underlying Tryd.underlying3, go_sem, str_self]
  simp only [binOp]
  simp [Op.equal, Op.maxDepth, h 9997]

/-- an operation as a value -/
abbrev opV (x : On) : Value := .agg #[.string x.nm, .string x.sg, .int .i64 x.sn]

theorem versions_far (n : ByteArray) (k v : Int) (hv : v < -1000 ∨ 1000 < v) {w : World} (T : Tab w) : Calls Tryd.prog 9 #[.string n, .int .i64 k, .int .i64 v] w (Says true w) := by
  have E := fun W (T : Tab W) => Lib.hid (exam_any T)
  by_cases h : v < -1000
  · go_enter Tryd.func9, Tryd.ntmps9
    go_wp2_with fail
    refine (E _ (by first | exact T | exact T.below ((Below.refl _ _).alloc (Nat.le_refl _) _) | exact T.below J.out.below | exact T.below J.out | exact T.below J0.out | exact T.below J1.out | exact T.below J2.out | exact T.below J4.out | exact T.below J6.out | exact T.below J7.out | exact T.below HB.out)).out.mono ?_
    rintro e w1 ⟨rfl, hb⟩
    clear E
    go_wp2_with fail
    go_ret
    exact ⟨rfl, hb⟩
  · have h2 : 1000 < v := by omega
    go_enter Tryd.func9, Tryd.ntmps9
    go_wp2_with fail
    refine (E _ (by first | exact T | exact T.below ((Below.refl _ _).alloc (Nat.le_refl _) _) | exact T.below J.out.below | exact T.below J.out | exact T.below J0.out | exact T.below J1.out | exact T.below J2.out | exact T.below J4.out | exact T.below J6.out | exact T.below J7.out | exact T.below HB.out)).out.mono ?_
    rintro e w1 ⟨rfl, hb⟩
    clear E
    go_wp2_with fail
    go_ret
    exact ⟨rfl, hb⟩

set_option maxHeartbeats 4000000 in
theorem versions_nn {n : ByteArray} {k v : Int} (h1 : ¬ v < -1000) (h2 : ¬ 1000 < v) {a1 a2 b1 b2 c1 c2 d1 d2 : ByteArray} {a3 b3 c3 d3 ra rb rc rd : Int}
    (A : ∀ W, Tab W → Hid (Calls Tryd.prog 16 #[.string n, .int .i64 k, .int .i64 v] W (GivesP (⟨a1, a2, a3⟩, ra) W)))
    (B : ∀ W, Tab W → Hid (Calls Tryd.prog 16 #[.string n, .int .i64 k, .int .i64 (v + 1)] W (GivesP (⟨b1, b2, b3⟩, rb) W)))
    (C : ∀ W, Tab W → Hid (Calls Tryd.prog 18 #[.string n, .int .i64 k, .int .i64 v] W (GivesP (⟨c1, c2, c3⟩, rc) W)))
    (D : ∀ W, Tab W → Hid (Calls Tryd.prog 18 #[.string n, .int .i64 k, .int .i64 (v + 1)] W (GivesP (⟨d1, d2, d3⟩, rd) W)))
    (x : ¬ ra = 0) (y : ¬ rc = 0) {w : World} (T : Tab w) : Calls Tryd.prog 9 #[.string n, .int .i64 k, .int .i64 v] w (Says true w) := by
  have E := fun W (T : Tab W) => Lib.hid (exam_any T)
  have NQ := neq_op
  go_enter Tryd.func9, Tryd.ntmps9
  go_wp2_with fail
  refine (A _ (by first | exact T | exact T.below ((Below.refl _ _).alloc (Nat.le_refl _) _) | exact T.below J.out.below | exact T.below J.out | exact T.below J0.out | exact T.below J1.out | exact T.below J2.out | exact T.below J4.out | exact T.below J6.out | exact T.below J7.out | exact T.below HB.out)).out.mono ?_
  rintro e w1 ⟨rfl, hb⟩
  have J := Lib.hid (((Held.nil w).step hb).alloc [.string a1, .string a2, .int .i64 a3] 28)
  clear A hb
  go_wp2_with fail
  refine (B _ (by first | exact T | exact T.below ((Below.refl _ _).alloc (Nat.le_refl _) _) | exact T.below J.out.below | exact T.below J.out | exact T.below J0.out | exact T.below J1.out | exact T.below J2.out | exact T.below J4.out | exact T.below J6.out | exact T.below J7.out | exact T.below HB.out)).out.mono ?_
  rintro e w2 ⟨rfl, hb⟩
  replace J := Lib.hid ((J.out.step hb).alloc [.string b1, .string b2, .int .i64 b3] 28)
  clear B hb
  go_wp2_with fail
  refine (C _ (by first | exact T | exact T.below ((Below.refl _ _).alloc (Nat.le_refl _) _) | exact T.below J.out.below | exact T.below J.out | exact T.below J0.out | exact T.below J1.out | exact T.below J2.out | exact T.below J4.out | exact T.below J6.out | exact T.below J7.out | exact T.below HB.out)).out.mono ?_
  rintro e w3 ⟨rfl, hb⟩
  replace J := Lib.hid ((J.out.step hb).alloc [.string c1, .string c2, .int .i64 c3] 28)
  clear C hb
  go_wp2_with fail
  refine (D _ (by first | exact T | exact T.below ((Below.refl _ _).alloc (Nat.le_refl _) _) | exact T.below J.out.below | exact T.below J.out | exact T.below J0.out | exact T.below J1.out | exact T.below J2.out | exact T.below J4.out | exact T.below J6.out | exact T.below J7.out | exact T.below HB.out)).out.mono ?_
  rintro e w4 ⟨rfl, hb⟩
  replace J := Lib.hid ((J.out.step hb).alloc [.string d1, .string d2, .int .i64 d3] 28)
  clear D hb
  obtain ⟨p0, p1, p2, -, -⟩ := (show Held w _ ([_, _, _] ++ (w1.heap.size, _) :: []) from J.out).tri
  obtain ⟨q0, q1, q2, -, -⟩ := (show Held w _ ([_, _] ++ (w2.heap.size, _) :: [_]) from J.out).tri
  obtain ⟨s0, s1, s2, -, -⟩ := (show Held w _ ([_] ++ (w3.heap.size, _) :: [_, _]) from J.out).tri
  obtain ⟨t0, t1, t2, -, -⟩ := (show Held w _ ([] ++ (w4.heap.size, _) :: [_, _, _]) from J.out).tri
  go_wp2_with fail
  refine (E _ (by first | exact T | exact T.below ((Below.refl _ _).alloc (Nat.le_refl _) _) | exact T.below J.out.below | exact T.below J.out | exact T.below J0.out | exact T.below J1.out | exact T.below J2.out | exact T.below J4.out | exact T.below J6.out | exact T.below J7.out | exact T.below HB.out)).out.mono ?_
  rintro e w5 ⟨rfl, hb⟩
  have HB := Lib.hid (J.out.step hb).below
  clear E J hb
  go_wp2_with fail
  go_ret
  exact ⟨rfl, HB.out⟩

set_option maxHeartbeats 4000000 in
theorem versions_yn {n : ByteArray} {k v : Int} (h1 : ¬ v < -1000) (h2 : ¬ 1000 < v) {a1 a2 b1 b2 c1 c2 d1 d2 : ByteArray} {a3 b3 c3 d3 ra rb rc rd : Int}
    (A : ∀ W, Tab W → Hid (Calls Tryd.prog 16 #[.string n, .int .i64 k, .int .i64 v] W (GivesP (⟨a1, a2, a3⟩, ra) W)))
    (B : ∀ W, Tab W → Hid (Calls Tryd.prog 16 #[.string n, .int .i64 k, .int .i64 (v + 1)] W (GivesP (⟨b1, b2, b3⟩, rb) W)))
    (C : ∀ W, Tab W → Hid (Calls Tryd.prog 18 #[.string n, .int .i64 k, .int .i64 v] W (GivesP (⟨c1, c2, c3⟩, rc) W)))
    (D : ∀ W, Tab W → Hid (Calls Tryd.prog 18 #[.string n, .int .i64 k, .int .i64 (v + 1)] W (GivesP (⟨d1, d2, d3⟩, rd) W)))
    (x1 : a1 = b1) (x2 : a2 = b2) (x3 : a3 = b3) (x4 : ra = 0) (x5 : rb = 0) (x6 : ¬ v < a3) (y : ¬ rc = 0) {w : World} (T : Tab w) : Calls Tryd.prog 9 #[.string n, .int .i64 k, .int .i64 v] w (Says true w) := by
  have E := fun W (T : Tab W) => Lib.hid (exam_any T)
  have NQ := neq_op
  subst x1 x2 x3 x4 x5
  go_enter Tryd.func9, Tryd.ntmps9
  go_wp2_with fail
  refine (A _ (by first | exact T | exact T.below ((Below.refl _ _).alloc (Nat.le_refl _) _) | exact T.below J.out.below | exact T.below J.out | exact T.below J0.out | exact T.below J1.out | exact T.below J2.out | exact T.below J4.out | exact T.below J6.out | exact T.below J7.out | exact T.below HB.out)).out.mono ?_
  rintro e w1 ⟨rfl, hb⟩
  have J := Lib.hid (((Held.nil w).step hb).alloc [.string a1, .string a2, .int .i64 a3] 28)
  clear A hb
  go_wp2_with fail
  refine (B _ (by first | exact T | exact T.below ((Below.refl _ _).alloc (Nat.le_refl _) _) | exact T.below J.out.below | exact T.below J.out | exact T.below J0.out | exact T.below J1.out | exact T.below J2.out | exact T.below J4.out | exact T.below J6.out | exact T.below J7.out | exact T.below HB.out)).out.mono ?_
  rintro e w2 ⟨rfl, hb⟩
  replace J := Lib.hid ((J.out.step hb).alloc [.string a1, .string a2, .int .i64 a3] 28)
  clear B hb
  go_wp2_with fail
  refine (C _ (by first | exact T | exact T.below ((Below.refl _ _).alloc (Nat.le_refl _) _) | exact T.below J.out.below | exact T.below J.out | exact T.below J0.out | exact T.below J1.out | exact T.below J2.out | exact T.below J4.out | exact T.below J6.out | exact T.below J7.out | exact T.below HB.out)).out.mono ?_
  rintro e w3 ⟨rfl, hb⟩
  replace J := Lib.hid ((J.out.step hb).alloc [.string c1, .string c2, .int .i64 c3] 28)
  clear C hb
  go_wp2_with fail
  refine (D _ (by first | exact T | exact T.below ((Below.refl _ _).alloc (Nat.le_refl _) _) | exact T.below J.out.below | exact T.below J.out | exact T.below J0.out | exact T.below J1.out | exact T.below J2.out | exact T.below J4.out | exact T.below J6.out | exact T.below J7.out | exact T.below HB.out)).out.mono ?_
  rintro e w4 ⟨rfl, hb⟩
  replace J := Lib.hid ((J.out.step hb).alloc [.string d1, .string d2, .int .i64 d3] 28)
  clear D hb
  obtain ⟨p0, p1, p2, -, -⟩ := (show Held w _ ([_, _, _] ++ (w1.heap.size, _) :: []) from J.out).tri
  obtain ⟨q0, q1, q2, -, -⟩ := (show Held w _ ([_, _] ++ (w2.heap.size, _) :: [_]) from J.out).tri
  obtain ⟨s0, s1, s2, -, -⟩ := (show Held w _ ([_] ++ (w3.heap.size, _) :: [_, _]) from J.out).tri
  obtain ⟨t0, t1, t2, -, -⟩ := (show Held w _ ([] ++ (w4.heap.size, _) :: [_, _, _]) from J.out).tri
  go_wp2_with fail
  refine (E _ (by first | exact T | exact T.below ((Below.refl _ _).alloc (Nat.le_refl _) _) | exact T.below J.out.below | exact T.below J.out | exact T.below J0.out | exact T.below J1.out | exact T.below J2.out | exact T.below J4.out | exact T.below J6.out | exact T.below J7.out | exact T.below HB.out)).out.mono ?_
  rintro e w5 ⟨rfl, hb⟩
  have HB := Lib.hid (J.out.step hb).below
  clear E J hb
  go_wp2_with fail
  go_ret
  exact ⟨rfl, HB.out⟩

set_option maxHeartbeats 4000000 in
theorem versions_ny {n : ByteArray} {k v : Int} (h1 : ¬ v < -1000) (h2 : ¬ 1000 < v) {a1 a2 b1 b2 c1 c2 d1 d2 : ByteArray} {a3 b3 c3 d3 ra rb rc rd : Int}
    (A : ∀ W, Tab W → Hid (Calls Tryd.prog 16 #[.string n, .int .i64 k, .int .i64 v] W (GivesP (⟨a1, a2, a3⟩, ra) W)))
    (B : ∀ W, Tab W → Hid (Calls Tryd.prog 16 #[.string n, .int .i64 k, .int .i64 (v + 1)] W (GivesP (⟨b1, b2, b3⟩, rb) W)))
    (C : ∀ W, Tab W → Hid (Calls Tryd.prog 18 #[.string n, .int .i64 k, .int .i64 v] W (GivesP (⟨c1, c2, c3⟩, rc) W)))
    (D : ∀ W, Tab W → Hid (Calls Tryd.prog 18 #[.string n, .int .i64 k, .int .i64 (v + 1)] W (GivesP (⟨d1, d2, d3⟩, rd) W)))
    (x : ¬ ra = 0) (y1 : c1 = d1) (y2 : c2 = d2) (y3 : c3 = d3) (y4 : rc = 0) (y5 : rd = 0) (y6 : ¬ v < c3) {w : World} (T : Tab w) : Calls Tryd.prog 9 #[.string n, .int .i64 k, .int .i64 v] w (Says true w) := by
  have E := fun W (T : Tab W) => Lib.hid (exam_any T)
  have NQ := neq_op
  subst y1 y2 y3 y4 y5
  go_enter Tryd.func9, Tryd.ntmps9
  go_wp2_with fail
  refine (A _ (by first | exact T | exact T.below ((Below.refl _ _).alloc (Nat.le_refl _) _) | exact T.below J.out.below | exact T.below J.out | exact T.below J0.out | exact T.below J1.out | exact T.below J2.out | exact T.below J4.out | exact T.below J6.out | exact T.below J7.out | exact T.below HB.out)).out.mono ?_
  rintro e w1 ⟨rfl, hb⟩
  have J := Lib.hid (((Held.nil w).step hb).alloc [.string a1, .string a2, .int .i64 a3] 28)
  clear A hb
  go_wp2_with fail
  refine (B _ (by first | exact T | exact T.below ((Below.refl _ _).alloc (Nat.le_refl _) _) | exact T.below J.out.below | exact T.below J.out | exact T.below J0.out | exact T.below J1.out | exact T.below J2.out | exact T.below J4.out | exact T.below J6.out | exact T.below J7.out | exact T.below HB.out)).out.mono ?_
  rintro e w2 ⟨rfl, hb⟩
  replace J := Lib.hid ((J.out.step hb).alloc [.string b1, .string b2, .int .i64 b3] 28)
  clear B hb
  go_wp2_with fail
  refine (C _ (by first | exact T | exact T.below ((Below.refl _ _).alloc (Nat.le_refl _) _) | exact T.below J.out.below | exact T.below J.out | exact T.below J0.out | exact T.below J1.out | exact T.below J2.out | exact T.below J4.out | exact T.below J6.out | exact T.below J7.out | exact T.below HB.out)).out.mono ?_
  rintro e w3 ⟨rfl, hb⟩
  replace J := Lib.hid ((J.out.step hb).alloc [.string c1, .string c2, .int .i64 c3] 28)
  clear C hb
  go_wp2_with fail
  refine (D _ (by first | exact T | exact T.below ((Below.refl _ _).alloc (Nat.le_refl _) _) | exact T.below J.out.below | exact T.below J.out | exact T.below J0.out | exact T.below J1.out | exact T.below J2.out | exact T.below J4.out | exact T.below J6.out | exact T.below J7.out | exact T.below HB.out)).out.mono ?_
  rintro e w4 ⟨rfl, hb⟩
  replace J := Lib.hid ((J.out.step hb).alloc [.string c1, .string c2, .int .i64 c3] 28)
  clear D hb
  obtain ⟨p0, p1, p2, -, -⟩ := (show Held w _ ([_, _, _] ++ (w1.heap.size, _) :: []) from J.out).tri
  obtain ⟨q0, q1, q2, -, -⟩ := (show Held w _ ([_, _] ++ (w2.heap.size, _) :: [_]) from J.out).tri
  obtain ⟨s0, s1, s2, -, -⟩ := (show Held w _ ([_] ++ (w3.heap.size, _) :: [_, _]) from J.out).tri
  obtain ⟨t0, t1, t2, -, -⟩ := (show Held w _ ([] ++ (w4.heap.size, _) :: [_, _, _]) from J.out).tri
  go_wp2_with fail
  refine (E _ (by first | exact T | exact T.below ((Below.refl _ _).alloc (Nat.le_refl _) _) | exact T.below J.out.below | exact T.below J.out | exact T.below J0.out | exact T.below J1.out | exact T.below J2.out | exact T.below J4.out | exact T.below J6.out | exact T.below J7.out | exact T.below HB.out)).out.mono ?_
  rintro e w5 ⟨rfl, hb⟩
  have HB := Lib.hid (J.out.step hb).below
  clear E J hb
  go_wp2_with fail
  go_ret
  exact ⟨rfl, HB.out⟩

set_option maxHeartbeats 4000000 in
theorem versions_yy {n : ByteArray} {k v : Int} (h1 : ¬ v < -1000) (h2 : ¬ 1000 < v) {a1 a2 b1 b2 c1 c2 d1 d2 : ByteArray} {a3 b3 c3 d3 ra rb rc rd : Int}
    (A : ∀ W, Tab W → Hid (Calls Tryd.prog 16 #[.string n, .int .i64 k, .int .i64 v] W (GivesP (⟨a1, a2, a3⟩, ra) W)))
    (B : ∀ W, Tab W → Hid (Calls Tryd.prog 16 #[.string n, .int .i64 k, .int .i64 (v + 1)] W (GivesP (⟨b1, b2, b3⟩, rb) W)))
    (C : ∀ W, Tab W → Hid (Calls Tryd.prog 18 #[.string n, .int .i64 k, .int .i64 v] W (GivesP (⟨c1, c2, c3⟩, rc) W)))
    (D : ∀ W, Tab W → Hid (Calls Tryd.prog 18 #[.string n, .int .i64 k, .int .i64 (v + 1)] W (GivesP (⟨d1, d2, d3⟩, rd) W)))
    (x1 : a1 = b1) (x2 : a2 = b2) (x3 : a3 = b3) (x4 : ra = 0) (x5 : rb = 0) (x6 : ¬ v < a3) (y1 : c1 = d1) (y2 : c2 = d2) (y3 : c3 = d3) (y4 : rc = 0) (y5 : rd = 0) (y6 : ¬ v < c3) {w : World} (T : Tab w) : Calls Tryd.prog 9 #[.string n, .int .i64 k, .int .i64 v] w (Says true w) := by
  have E := fun W (T : Tab W) => Lib.hid (exam_any T)
  have NQ := neq_op
  subst x1 x2 x3 x4 x5 y1 y2 y3 y4 y5
  go_enter Tryd.func9, Tryd.ntmps9
  go_wp2_with fail
  refine (A _ (by first | exact T | exact T.below ((Below.refl _ _).alloc (Nat.le_refl _) _) | exact T.below J.out.below | exact T.below J.out | exact T.below J0.out | exact T.below J1.out | exact T.below J2.out | exact T.below J4.out | exact T.below J6.out | exact T.below J7.out | exact T.below HB.out)).out.mono ?_
  rintro e w1 ⟨rfl, hb⟩
  have J := Lib.hid (((Held.nil w).step hb).alloc [.string a1, .string a2, .int .i64 a3] 28)
  clear A hb
  go_wp2_with fail
  refine (B _ (by first | exact T | exact T.below ((Below.refl _ _).alloc (Nat.le_refl _) _) | exact T.below J.out.below | exact T.below J.out | exact T.below J0.out | exact T.below J1.out | exact T.below J2.out | exact T.below J4.out | exact T.below J6.out | exact T.below J7.out | exact T.below HB.out)).out.mono ?_
  rintro e w2 ⟨rfl, hb⟩
  replace J := Lib.hid ((J.out.step hb).alloc [.string a1, .string a2, .int .i64 a3] 28)
  clear B hb
  go_wp2_with fail
  refine (C _ (by first | exact T | exact T.below ((Below.refl _ _).alloc (Nat.le_refl _) _) | exact T.below J.out.below | exact T.below J.out | exact T.below J0.out | exact T.below J1.out | exact T.below J2.out | exact T.below J4.out | exact T.below J6.out | exact T.below J7.out | exact T.below HB.out)).out.mono ?_
  rintro e w3 ⟨rfl, hb⟩
  replace J := Lib.hid ((J.out.step hb).alloc [.string c1, .string c2, .int .i64 c3] 28)
  clear C hb
  go_wp2_with fail
  refine (D _ (by first | exact T | exact T.below ((Below.refl _ _).alloc (Nat.le_refl _) _) | exact T.below J.out.below | exact T.below J.out | exact T.below J0.out | exact T.below J1.out | exact T.below J2.out | exact T.below J4.out | exact T.below J6.out | exact T.below J7.out | exact T.below HB.out)).out.mono ?_
  rintro e w4 ⟨rfl, hb⟩
  replace J := Lib.hid ((J.out.step hb).alloc [.string c1, .string c2, .int .i64 c3] 28)
  clear D hb
  obtain ⟨p0, p1, p2, -, -⟩ := (show Held w _ ([_, _, _] ++ (w1.heap.size, _) :: []) from J.out).tri
  obtain ⟨q0, q1, q2, -, -⟩ := (show Held w _ ([_, _] ++ (w2.heap.size, _) :: [_]) from J.out).tri
  obtain ⟨s0, s1, s2, -, -⟩ := (show Held w _ ([_] ++ (w3.heap.size, _) :: [_, _]) from J.out).tri
  obtain ⟨t0, t1, t2, -, -⟩ := (show Held w _ ([] ++ (w4.heap.size, _) :: [_, _, _]) from J.out).tri
  go_wp2_with fail
  refine (E _ (by first | exact T | exact T.below ((Below.refl _ _).alloc (Nat.le_refl _) _) | exact T.below J.out.below | exact T.below J.out | exact T.below J0.out | exact T.below J1.out | exact T.below J2.out | exact T.below J4.out | exact T.below J6.out | exact T.below J7.out | exact T.below HB.out)).out.mono ?_
  rintro e w5 ⟨rfl, hb⟩
  have HB := Lib.hid (J.out.step hb).below
  clear E J hb
  go_wp2_with fail
  go_ret
  exact ⟨rfl, HB.out⟩

theorem versions_walk (n : ByteArray) (k v : Int) {w : World} (T : Tab w) : Calls Tryd.prog 9 #[.string n, .int .i64 k, .int .i64 v] w (Says true w) := by
  by_cases h1 : v < -1000
  · exact versions_far n k v (.inl h1) T
  by_cases h2 : 1000 < v
  · exact versions_far n k v (.inr h2) T
  have A := fun W (T : Tab W) => Lib.hid (p_request_any T n k v)
  have B := fun W (T : Tab W) => Lib.hid (p_request_any T n k (v + 1))
  have C := fun W (T : Tab W) => Lib.hid (p_event_any T n k v)
  have D := fun W (T : Tab W) => Lib.hid (p_event_any T n k (v + 1))
  obtain ⟨⟨⟨a1, a2, a3⟩, ra⟩, ha⟩ : ∃ p, pickT n (reqT n) k v = p := ⟨_, rfl⟩
  obtain ⟨⟨⟨b1, b2, b3⟩, rb⟩, hb⟩ : ∃ p, pickT n (reqT n) k (v + 1) = p := ⟨_, rfl⟩
  obtain ⟨⟨⟨c1, c2, c3⟩, rc⟩, hc⟩ : ∃ p, pickT n (evtT n) k v = p := ⟨_, rfl⟩
  obtain ⟨⟨⟨d1, d2, d3⟩, rd⟩, hd⟩ : ∃ p, pickT n (evtT n) k (v + 1) = p := ⟨_, rfl⟩
  rw [ha] at A
  rw [hb] at B
  rw [hc] at C
  rw [hd] at D
  by_cases x : ra = 0
  · subst x
    obtain ⟨x1, x2⟩ := pick_next ha
    rw [hb] at x1
    simp only [Prod.mk.injEq, On.mk.injEq] at x1
    obtain ⟨⟨e1, e2, e3⟩, e4⟩ := x1
    by_cases y : rc = 0
    · subst y
      obtain ⟨y1, y2⟩ := pick_next hc
      rw [hd] at y1
      simp only [Prod.mk.injEq, On.mk.injEq] at y1
      obtain ⟨⟨f1, f2, f3⟩, f4⟩ := y1
      exact versions_yy h1 h2 A B C D e1.symm e2.symm e3.symm rfl e4 (Int.not_lt.2 x2) f1.symm f2.symm f3.symm rfl f4 (Int.not_lt.2 y2) T
    · exact versions_yn h1 h2 A B C D e1.symm e2.symm e3.symm rfl e4 (Int.not_lt.2 x2) y T
  · by_cases y : rc = 0
    · subst y
      obtain ⟨y1, y2⟩ := pick_next hc
      rw [hd] at y1
      simp only [Prod.mk.injEq, On.mk.injEq] at y1
      obtain ⟨⟨f1, f2, f3⟩, f4⟩ := y1
      exact versions_ny h1 h2 A B C D x f1.symm f2.symm f3.symm rfl f4 (Int.not_lt.2 y2) T
    · exact versions_nn h1 h2 A B C D x y T

end Go.Proofs.YtjefalkcolmjcaaDoor
