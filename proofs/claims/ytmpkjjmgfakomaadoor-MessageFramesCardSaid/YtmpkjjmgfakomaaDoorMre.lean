/-
  The reference's read.
-/
import Derived.Test.YtmpkjjmgfakomaaDoorMrd
import Derived.Test.YtmpkjjmgfakomaaDoorMti
namespace Go.Proofs.YtmpkjjmgfakomaaDoor
open Go.RowKit Mem Wire

/-- a reader and an argument come back -/
def BackG (w : World) (x : St × Ag) (e : Ending) (w' : World) : Prop :=
  ∃ v pv, e = .returned (.tuple #[.agg #[v, .int .i64 x.1.2], agVal (x.2, pv)]) ∧ Sees w' v x.1.1 ∧ AgOk w' (x.2, pv) ∧ NewB w.heap.size pv ∧ Below w.heap.size w w'

theorem sees_set {W : World} {v : Value} {bs : List UInt8} (h : Sees W v bs) {k i : Nat} {y : Value} (u : Value) (hc : W.cell? ⟨k, i, none⟩ = some y) (hy : ∀ x : UInt8, y ≠ byte x) : Sees (W.setCell ⟨k, i, none⟩ u) v bs :=
  h.keep (by simp) fun b o _ ⟨x, hx⟩ => by
    by_cases e : b = k ∧ o = i
    · obtain ⟨rfl, rfl⟩ := e
      rw [hc] at hx
      exact absurd (Option.some.inj hx) (hy x)
    · rw [World.cell?_setCell_other]
      intro e2
      simp only [Addr.mk.injEq, and_true] at e2
      exact e ⟨e2.1.symm, e2.2.symm⟩

/-- boxes held beside two rows of bytes -/
def HeldS (w W : World) (l : List (Nat × List Value)) (v1 : Value) (b1 : List UInt8) (v2 : Value) (b2 : List UInt8) : Prop := Held w W l ∧ Sees W v1 b1 ∧ Sees W v2 b2
theorem HeldS.cell {w W : World} {l1 l2 : List (Nat × List Value)} {k : Nat} {vs : List Value} {v1 v2 : Value} {b1 b2 : List UInt8} (h : HeldS w W (l1 ++ (k, vs) :: l2) v1 b1 v2 b2) {i : Nat} {y : Value} (hi : vs[i]? = some y) (hy : ∀ x : UInt8, y ≠ byte x) (u : Value) :
    HeldS w (W.setCell ⟨k, i, none⟩ u) (l1 ++ (k, vs.set i u) :: l2) v1 b1 v2 b2 :=
  ⟨h.1.cell (List.getElem?_eq_some_iff.1 hi).1 u, sees_set h.2.1 u (h.1.at.1 i y hi) hy, sees_set h.2.2 u (h.1.at.1 i y hi) hy⟩

theorem int_nb (n : Int) : ∀ x : UInt8, Value.int .i64 n ≠ byte x := fun x h => by cases h
theorem str_nb (s : ByteArray) : ∀ x : UInt8, Value.string s ≠ byte x := fun x h => by cases h
theorem sli_nb (A : Option Addr) (n c : Nat) : ∀ x : UInt8, Value.slice A n c ≠ byte x := fun x h => by cases h

/-- the two result boxes of read, written -/
theorem back_set {w W : World} {c0 c3 : Nat × List Value} {k1 k2 : Nat} {v1 v2 : Value} {b1 b2 : List UInt8}
    (h : HeldS w W [c0, (k2, [.int .i64 0, .int .i64 0, .string ⟨#[]⟩, .slice none 0 0]), (k1, [.slice none 0 0, .int .i64 0]), c3] v1 b1 v2 b2) (x0 x1 y0 y1 y2 y3 : Value) :
    HeldS w ((((((W.setCell ⟨k1, 0, none⟩ x0).setCell ⟨k1, 1, none⟩ x1).setCell ⟨k2, 0, none⟩ y0).setCell ⟨k2, 1, none⟩ y1).setCell ⟨k2, 2, none⟩ y2).setCell ⟨k2, 3, none⟩ y3) [c0, (k2, [y0, y1, y2, y3]), (k1, [x0, x1]), c3] v1 b1 v2 b2 := by
  have h1 := (show HeldS w W ([c0, _] ++ (k1, [.slice none 0 0, .int .i64 0]) :: [c3]) v1 b1 v2 b2 from h).cell (i := 0) rfl (sli_nb _ _ _) x0
  have h2 := h1.cell (i := 1) rfl (int_nb _) x1
  have h3 := (show HeldS w _ ([c0] ++ (k2, [.int .i64 0, .int .i64 0, .string ⟨#[]⟩, .slice none 0 0]) :: [(k1, [x0, x1]), c3]) v1 b1 v2 b2 from h2).cell (i := 0) rfl (int_nb _) y0
  have h4 := h3.cell (i := 1) rfl (int_nb _) y1
  have h5 := h4.cell (i := 2) rfl (str_nb _) y2
  exact h5.cell (i := 3) rfl (sli_nb _ _ _) y3

set_option maxRecDepth 100000 in
set_option maxHeartbeats 2000000 in
theorem read_one {w : World} {A : Option Addr} {n c : Nat} {s : St} (hs : Sees w (.slice A n c) s.1) (hf : Fine s) :
    Calls Tryd.prog 36 #[.agg #[.slice A n c, .int .i64 s.2], .int .i64 ((1 : Nat) : Int)] w (BackG w (readG s 1)) := by
  have e0 : readG s 1 = ((numS s).1, ⟨(1 : Nat), wrap32 ((numS s).2 : Int), ⟨#[]⟩, []⟩) := by
    unfold readG
    rw [if_pos (by decide)]
  rw [e0]
  have C : ∀ W, Below w.heap.size w W → Hid (Calls Tryd.prog 74 #[.agg #[.slice A n c, .int .i64 s.2]] W (Back2 W (numS s).1 (.int .i32 (wrap32 ((numS s).2 : Int))))) := fun W hb => Lib.hid (rint_any (hs.below hb) hf)
  have J1 := ((((Held.nil w).alloc [.slice A n c, .int .i64 s.2] 58).alloc [.slice none 0 0, .int .i64 0] 58).alloc [.int .i64 0, .int .i64 0, .string ⟨#[]⟩, .slice none 0 0] 43)
  simp only [World.size_alloc] at J1
  have J := Lib.hid J1
  clear J1
  obtain ⟨A', c', hv, hc1, hc2⟩ := hs.shape
  simp only [Value.slice.injEq] at hv
  obtain ⟨rfl, hn, rfl⟩ := hv
  simp only [maxLen] at hc2
  have hx := wrap32_range ((numS s).2 : Int)
  generalize wrap32 ((numS s).2 : Int) = x at *
  generalize (numS s).1 = s1 at *
  obtain ⟨hx1, hx2⟩ := hx
  obtain ⟨er, her⟩ : ∃ er, s.2 = er := ⟨_, rfl⟩
  rw [her] at C J ⊢
  rw [← hn] at hc1
  clear hs hf hn her e0
  go_enter Tryd.func36, Tryd.ntmps36
  go_wp2_with fail
  refine (C _ J.out.below).out.mono ?_
  rintro e w1 ⟨v1, rfl, hv1, hb⟩
  replace J := Lib.hid (J.out.step hb)
  obtain ⟨A1, c1, rfl, h11, h12⟩ := hv1.shape
  unfold rv
  have HV := Lib.hid hv1
  clear C hb hv1
  replace J := Lib.hid (J.out.alloc [.slice A1 s1.1.length c1, .int .i64 s1.2] 58)
  obtain ⟨p0, p1, -, -⟩ := (show Held w _ ([] ++ (w1.heap.size, _) :: [_, _, _]) from J.out).two
  obtain ⟨y0, y1, yf, yl⟩ := (show Held w _ ([_, _] ++ (w.heap.size + 1, _) :: [_]) from J.out).two
  obtain ⟨z0, z1, z2, z3, zf, zl⟩ := (show Held w _ ([_] ++ (w.heap.size + 1 + 1, _) :: [_, _]) from J.out).four
  go_wp2_with fail
  have J5 := back_set (v1 := .slice A1 s1.1.length c1) (b1 := s1.1) (v2 := .slice none 0 0) (b2 := []) ⟨J.out, HV.out.alloc _, sees_nil _⟩ (.slice A1 s1.1.length c1) (.int .i64 s1.2) (.int .i64 1) (.int .i64 x) (.string ⟨#[]⟩) (.slice none 0 0)
  clear HV J p0 p1 y0 y1 yf yl z0 z1 z2 z3 zf zl
  obtain ⟨J5, S1, S2⟩ := J5
  obtain ⟨y0, y1, yf, yl⟩ := (show Held w _ ([_, _] ++ (w.heap.size + 1, _) :: [_]) from J5).two
  obtain ⟨z0, z1, z2, z3, zf, zl⟩ := (show Held w _ ([_] ++ (w.heap.size + 2, _) :: [_, _]) from J5).four
  exact bodyPost_ret (v := .tuple #[.agg #[.slice A1 s1.1.length c1, .int .i64 s1.2], .agg #[.int .i64 1, .int .i64 x, .string ⟨#[]⟩, .slice none 0 0]]) (by simp [results, Tryd.results36, go_sem, y0, y1, z0, z1, z2, z3]) rfl ⟨_, _, rfl, S1, ⟨S2, Nat.zero_le _⟩, newB_nil _ _ _, J5.below⟩

set_option maxRecDepth 100000 in
set_option maxHeartbeats 2000000 in
theorem read_three {w : World} {A : Option Addr} {n c : Nat} {s : St} (hs : Sees w (.slice A n c) s.1) (hf : Fine s) :
    Calls Tryd.prog 36 #[.agg #[.slice A n c, .int .i64 s.2], .int .i64 ((3 : Nat) : Int)] w (BackG w (readG s 3)) := by
  have e0 : readG s 3 = ((numS s).1, ⟨(3 : Nat), wrap32 ((numS s).2 : Int), ⟨#[]⟩, []⟩) := by
    unfold readG
    rw [if_pos (by decide)]
  rw [e0]
  have C : ∀ W, Below w.heap.size w W → Hid (Calls Tryd.prog 74 #[.agg #[.slice A n c, .int .i64 s.2]] W (Back2 W (numS s).1 (.int .i32 (wrap32 ((numS s).2 : Int))))) := fun W hb => Lib.hid (rint_any (hs.below hb) hf)
  have J1 := ((((Held.nil w).alloc [.slice A n c, .int .i64 s.2] 58).alloc [.slice none 0 0, .int .i64 0] 58).alloc [.int .i64 0, .int .i64 0, .string ⟨#[]⟩, .slice none 0 0] 43)
  simp only [World.size_alloc] at J1
  have J := Lib.hid J1
  clear J1
  obtain ⟨A', c', hv, hc1, hc2⟩ := hs.shape
  simp only [Value.slice.injEq] at hv
  obtain ⟨rfl, hn, rfl⟩ := hv
  simp only [maxLen] at hc2
  have hx := wrap32_range ((numS s).2 : Int)
  generalize wrap32 ((numS s).2 : Int) = x at *
  generalize (numS s).1 = s1 at *
  obtain ⟨hx1, hx2⟩ := hx
  obtain ⟨er, her⟩ : ∃ er, s.2 = er := ⟨_, rfl⟩
  rw [her] at C J ⊢
  rw [← hn] at hc1
  clear hs hf hn her e0
  go_enter Tryd.func36, Tryd.ntmps36
  go_wp2_with fail
  refine (C _ J.out.below).out.mono ?_
  rintro e w1 ⟨v1, rfl, hv1, hb⟩
  replace J := Lib.hid (J.out.step hb)
  obtain ⟨A1, c1, rfl, h11, h12⟩ := hv1.shape
  unfold rv
  have HV := Lib.hid hv1
  clear C hb hv1
  replace J := Lib.hid (J.out.alloc [.slice A1 s1.1.length c1, .int .i64 s1.2] 58)
  obtain ⟨p0, p1, -, -⟩ := (show Held w _ ([] ++ (w1.heap.size, _) :: [_, _, _]) from J.out).two
  obtain ⟨y0, y1, yf, yl⟩ := (show Held w _ ([_, _] ++ (w.heap.size + 1, _) :: [_]) from J.out).two
  obtain ⟨z0, z1, z2, z3, zf, zl⟩ := (show Held w _ ([_] ++ (w.heap.size + 1 + 1, _) :: [_, _]) from J.out).four
  go_wp2_with fail
  have J5 := back_set (v1 := .slice A1 s1.1.length c1) (b1 := s1.1) (v2 := .slice none 0 0) (b2 := []) ⟨J.out, HV.out.alloc _, sees_nil _⟩ (.slice A1 s1.1.length c1) (.int .i64 s1.2) (.int .i64 3) (.int .i64 x) (.string ⟨#[]⟩) (.slice none 0 0)
  clear HV J p0 p1 y0 y1 yf yl z0 z1 z2 z3 zf zl
  obtain ⟨J5, S1, S2⟩ := J5
  obtain ⟨y0, y1, yf, yl⟩ := (show Held w _ ([_, _] ++ (w.heap.size + 1, _) :: [_]) from J5).two
  obtain ⟨z0, z1, z2, z3, zf, zl⟩ := (show Held w _ ([_] ++ (w.heap.size + 2, _) :: [_, _]) from J5).four
  exact bodyPost_ret (v := .tuple #[.agg #[.slice A1 s1.1.length c1, .int .i64 s1.2], .agg #[.int .i64 3, .int .i64 x, .string ⟨#[]⟩, .slice none 0 0]]) (by simp [results, Tryd.results36, go_sem, y0, y1, z0, z1, z2, z3]) rfl ⟨_, _, rfl, S1, ⟨S2, Nat.zero_le _⟩, newB_nil _ _ _, J5.below⟩

set_option maxRecDepth 100000 in
set_option maxHeartbeats 2000000 in
theorem read_uint {w : World} {A : Option Addr} {n c : Nat} {s : St} (hs : Sees w (.slice A n c) s.1) (hf : Fine s) {k : Nat} (h1 : ¬ k = 1) (h3 : ¬ k = 3) (h4 : ¬ k = 4) (h7 : ¬ k = 7) :
    Calls Tryd.prog 36 #[.agg #[.slice A n c, .int .i64 s.2], .int .i64 (k : Int)] w (BackG w (readG s k)) := by
  have e0 : readG s k = ((numS s).1, ⟨k, ((numS s).2 : Int), ⟨#[]⟩, []⟩) := by
    unfold readG
    rw [if_neg (by omega), if_neg h4, if_neg h7]
  rw [e0]
  have C : ∀ W, Below w.heap.size w W → Hid (Calls Tryd.prog 77 #[.agg #[.slice A n c, .int .i64 s.2]] W (Back2 W (numS s).1 (.int .u32 ((numS s).2 : Int)))) := fun W hb => Lib.hid (ruint_any (hs.below hb) hf)
  have J1 := ((((Held.nil w).alloc [.slice A n c, .int .i64 s.2] 58).alloc [.slice none 0 0, .int .i64 0] 58).alloc [.int .i64 0, .int .i64 0, .string ⟨#[]⟩, .slice none 0 0] 43)
  simp only [World.size_alloc] at J1
  have J := Lib.hid J1
  clear J1
  obtain ⟨A', c', hv, hc1, hc2⟩ := hs.shape
  simp only [Value.slice.injEq] at hv
  obtain ⟨rfl, hn, rfl⟩ := hv
  simp only [maxLen] at hc2
  have hx := numS_lt s
  generalize (numS s).2 = x at *
  generalize (numS s).1 = s1 at *
  obtain ⟨er, her⟩ : ∃ er, s.2 = er := ⟨_, rfl⟩
  rw [her] at C J ⊢
  rw [← hn] at hc1
  clear hs hf hn her e0
  have e1 : ¬ (k : Int) = 1 := by omega
  have e3 : ¬ (k : Int) = 3 := by omega
  have e4 : ¬ (k : Int) = 4 := by omega
  have e7 : ¬ (k : Int) = 7 := by omega
  have b1 : ((k : Int) == 1) = false := beq_eq_false_iff_ne.2 e1
  have b3 : ((k : Int) == 3) = false := beq_eq_false_iff_ne.2 e3
  go_enter Tryd.func36, Tryd.ntmps36
  go_wp2_with fail
  refine (C _ J.out.below).out.mono ?_
  rintro e w1 ⟨v1, rfl, hv1, hb⟩
  replace J := Lib.hid (J.out.step hb)
  obtain ⟨A1, c1, rfl, h11, h12⟩ := hv1.shape
  unfold rv
  have HV := Lib.hid hv1
  clear C hb hv1
  replace J := Lib.hid (J.out.alloc [.slice A1 s1.1.length c1, .int .i64 s1.2] 58)
  obtain ⟨p0, p1, -, -⟩ := (show Held w _ ([] ++ (w1.heap.size, _) :: [_, _, _]) from J.out).two
  obtain ⟨y0, y1, yf, yl⟩ := (show Held w _ ([_, _] ++ (w.heap.size + 1, _) :: [_]) from J.out).two
  obtain ⟨z0, z1, z2, z3, zf, zl⟩ := (show Held w _ ([_] ++ (w.heap.size + 1 + 1, _) :: [_, _]) from J.out).four
  go_wp2_with fail
  have J5 := back_set (v1 := .slice A1 s1.1.length c1) (b1 := s1.1) (v2 := .slice none 0 0) (b2 := []) ⟨J.out, HV.out.alloc _, sees_nil _⟩ (.slice A1 s1.1.length c1) (.int .i64 s1.2) (.int .i64 (k : Int)) (.int .i64 (x : Int)) (.string ⟨#[]⟩) (.slice none 0 0)
  clear HV J p0 p1 y0 y1 yf yl z0 z1 z2 z3 zf zl
  obtain ⟨J5, S1, S2⟩ := J5
  obtain ⟨y0, y1, yf, yl⟩ := (show Held w _ ([_, _] ++ (w.heap.size + 1, _) :: [_]) from J5).two
  obtain ⟨z0, z1, z2, z3, zf, zl⟩ := (show Held w _ ([_] ++ (w.heap.size + 2, _) :: [_, _]) from J5).four
  exact bodyPost_ret (v := .tuple #[.agg #[.slice A1 s1.1.length c1, .int .i64 s1.2], .agg #[.int .i64 (k : Int), .int .i64 (x : Int), .string ⟨#[]⟩, .slice none 0 0]]) (by simp [results, Tryd.results36, go_sem, y0, y1, z0, z1, z2, z3]) rfl ⟨_, _, rfl, S1, ⟨S2, Nat.zero_le _⟩, newB_nil _ _ _, J5.below⟩

set_option maxRecDepth 100000 in
set_option maxHeartbeats 2000000 in
theorem read_str {w : World} {A : Option Addr} {n c : Nat} {s : St} (hs : Sees w (.slice A n c) s.1) (hf : Fine s) (hl : s.1.length ≤ 1000000) :
    Calls Tryd.prog 36 #[.agg #[.slice A n c, .int .i64 s.2], .int .i64 ((4 : Nat) : Int)] w (BackG w (readG s 4)) := by
  have e0 : readG s 4 = ((strS s 1024).1, ⟨(4 : Nat), 0, ⟨(strS s 1024).2.toArray⟩, []⟩) := by
    unfold readG
    rw [if_neg (by decide), if_pos rfl]
  rw [e0]
  have C : ∀ W, Below w.heap.size w W → Hid (Calls Tryd.prog 75 #[.agg #[.slice A n c, .int .i64 s.2], .int .i64 1024] W (Back2 W (strS s 1024).1 (.string ⟨(strS s 1024).2.toArray⟩))) := fun W hb => Lib.hid (rstring_any 1024 (hs.below hb) hf hl)
  have J1 := ((((Held.nil w).alloc [.slice A n c, .int .i64 s.2] 58).alloc [.slice none 0 0, .int .i64 0] 58).alloc [.int .i64 0, .int .i64 0, .string ⟨#[]⟩, .slice none 0 0] 43)
  simp only [World.size_alloc] at J1
  have J := Lib.hid J1
  clear J1
  obtain ⟨A', c', hv, hc1, hc2⟩ := hs.shape
  simp only [Value.slice.injEq] at hv
  obtain ⟨rfl, hn, rfl⟩ := hv
  simp only [maxLen] at hc2
  have hx := str_le s 1024 hf
  generalize (strS s 1024).2 = x at *
  generalize (strS s 1024).1 = s1 at *
  have hxs : (⟨x.toArray⟩ : ByteArray).size ≤ maxLen := by
    have : (⟨x.toArray⟩ : ByteArray).size = x.length := by rw [← sl_len, sl_mk]
    rw [this]
    simp only [maxLen]
    omega
  obtain ⟨X, hX⟩ : ∃ X : ByteArray, (⟨x.toArray⟩ : ByteArray) = X := ⟨_, rfl⟩
  rw [hX] at C hxs ⊢
  have HXS := Lib.hid hxs
  clear hX hx hxs
  obtain ⟨er, her⟩ : ∃ er, s.2 = er := ⟨_, rfl⟩
  rw [her] at C J ⊢
  rw [← hn] at hc1
  clear hs hf hn her e0
  go_enter Tryd.func36, Tryd.ntmps36
  go_wp2_with fail
  refine (C _ J.out.below).out.mono ?_
  rintro e w1 ⟨v1, rfl, hv1, hb⟩
  replace J := Lib.hid (J.out.step hb)
  obtain ⟨A1, c1, rfl, h11, h12⟩ := hv1.shape
  unfold rv
  have HV := Lib.hid hv1
  clear C hb hv1
  replace J := Lib.hid (J.out.alloc [.slice A1 s1.1.length c1, .int .i64 s1.2] 58)
  obtain ⟨p0, p1, -, -⟩ := (show Held w _ ([] ++ (w1.heap.size, _) :: [_, _, _]) from J.out).two
  obtain ⟨y0, y1, yf, yl⟩ := (show Held w _ ([_, _] ++ (w.heap.size + 1, _) :: [_]) from J.out).two
  obtain ⟨z0, z1, z2, z3, zf, zl⟩ := (show Held w _ ([_] ++ (w.heap.size + 1 + 1, _) :: [_, _]) from J.out).four
  go_wp2_with fail
  have J5 := back_set (v1 := .slice A1 s1.1.length c1) (b1 := s1.1) (v2 := .slice none 0 0) (b2 := []) ⟨J.out, HV.out.alloc _, sees_nil _⟩ (.slice A1 s1.1.length c1) (.int .i64 s1.2) (.int .i64 4) (.int .i64 0) (.string X) (.slice none 0 0)
  clear HV J p0 p1 y0 y1 yf yl z0 z1 z2 z3 zf zl
  obtain ⟨J5, S1, S2⟩ := J5
  obtain ⟨y0, y1, yf, yl⟩ := (show Held w _ ([_, _] ++ (w.heap.size + 1, _) :: [_]) from J5).two
  obtain ⟨z0, z1, z2, z3, zf, zl⟩ := (show Held w _ ([_] ++ (w.heap.size + 2, _) :: [_, _]) from J5).four
  exact bodyPost_ret (v := .tuple #[.agg #[.slice A1 s1.1.length c1, .int .i64 s1.2], .agg #[.int .i64 4, .int .i64 0, .string X, .slice none 0 0]]) (by simp [results, Tryd.results36, go_sem, y0, y1, z0, z1, z2, z3]) rfl ⟨_, _, rfl, S1, ⟨S2, HXS.out⟩, newB_nil _ _ _, J5.below⟩

set_option maxRecDepth 100000 in
set_option maxHeartbeats 2000000 in
theorem read_arr {w : World} {A : Option Addr} {n c : Nat} {s : St} (hs : Sees w (.slice A n c) s.1) (hf : Fine s) (hl : s.1.length ≤ 1000000) :
    Calls Tryd.prog 36 #[.agg #[.slice A n c, .int .i64 s.2], .int .i64 ((7 : Nat) : Int)] w (BackG w (readG s 7)) := by
  have e0 : readG s 7 = ((countS s 1024).1, ⟨(7 : Nat), 0, ⟨#[]⟩, (countS s 1024).2⟩) := by
    unfold readG
    rw [if_neg (by decide), if_neg (by decide), if_pos rfl]
  rw [e0]
  have C : ∀ W, Below w.heap.size w W → Hid (Calls Tryd.prog 76 #[.agg #[.slice A n c, .int .i64 s.2], .int .i64 1024] W (Back3 W (countS s 1024).1 (countS s 1024).2)) := fun W hb => Lib.hid (rarray_any 1024 (hs.below hb) hf hl)
  have J1 := ((((Held.nil w).alloc [.slice A n c, .int .i64 s.2] 58).alloc [.slice none 0 0, .int .i64 0] 58).alloc [.int .i64 0, .int .i64 0, .string ⟨#[]⟩, .slice none 0 0] 43)
  simp only [World.size_alloc] at J1
  have J := Lib.hid J1
  clear J1
  obtain ⟨A', c', hv, hc1, hc2⟩ := hs.shape
  simp only [Value.slice.injEq] at hv
  obtain ⟨rfl, hn, rfl⟩ := hv
  simp only [maxLen] at hc2
  have hx := count_le s 1024 hf
  generalize (countS s 1024).2 = x at *
  generalize (countS s 1024).1 = s1 at *
  clear hx
  obtain ⟨er, her⟩ : ∃ er, s.2 = er := ⟨_, rfl⟩
  rw [her] at C J ⊢
  rw [← hn] at hc1
  clear hs hf hn her e0
  go_enter Tryd.func36, Tryd.ntmps36
  go_wp2_with fail
  refine (C _ J.out.below).out.mono ?_
  rintro e w1 ⟨v1, u1, rfl, hv1, hu1, hnew, hb⟩
  obtain ⟨A2, d2, rfl, h21, h22⟩ := hu1.shape
  have HU := Lib.hid hu1
  have HNEW := Lib.hid (show NewB w.heap.size (.slice A2 x.length d2) from fun k hk => Nat.le_trans J.out.below.size (hnew k hk))
  clear hu1 hnew
  replace J := Lib.hid (J.out.step hb)
  obtain ⟨A1, c1, rfl, h11, h12⟩ := hv1.shape
  unfold rv
  have HV := Lib.hid hv1
  clear C hb hv1
  replace J := Lib.hid (J.out.alloc [.slice A1 s1.1.length c1, .int .i64 s1.2] 58)
  obtain ⟨p0, p1, -, -⟩ := (show Held w _ ([] ++ (w1.heap.size, _) :: [_, _, _]) from J.out).two
  obtain ⟨y0, y1, yf, yl⟩ := (show Held w _ ([_, _] ++ (w.heap.size + 1, _) :: [_]) from J.out).two
  obtain ⟨z0, z1, z2, z3, zf, zl⟩ := (show Held w _ ([_] ++ (w.heap.size + 1 + 1, _) :: [_, _]) from J.out).four
  go_wp2_with fail
  have J5 := back_set (v1 := .slice A1 s1.1.length c1) (b1 := s1.1) (v2 := .slice A2 x.length d2) (b2 := x) ⟨J.out, HV.out.alloc _, HU.out.alloc _⟩ (.slice A1 s1.1.length c1) (.int .i64 s1.2) (.int .i64 7) (.int .i64 0) (.string ⟨#[]⟩) (.slice A2 x.length d2)
  clear HV J p0 p1 y0 y1 yf yl z0 z1 z2 z3 zf zl
  obtain ⟨J5, S1, S2⟩ := J5
  obtain ⟨y0, y1, yf, yl⟩ := (show Held w _ ([_, _] ++ (w.heap.size + 1, _) :: [_]) from J5).two
  obtain ⟨z0, z1, z2, z3, zf, zl⟩ := (show Held w _ ([_] ++ (w.heap.size + 2, _) :: [_, _]) from J5).four
  exact bodyPost_ret (v := .tuple #[.agg #[.slice A1 s1.1.length c1, .int .i64 s1.2], .agg #[.int .i64 7, .int .i64 0, .string ⟨#[]⟩, .slice A2 x.length d2]]) (by simp [results, Tryd.results36, go_sem, y0, y1, z0, z1, z2, z3]) rfl ⟨_, _, rfl, S1, ⟨S2, Nat.zero_le _⟩, HNEW.out, J5.below⟩

set_option maxRecDepth 100000 in
theorem read_any {w : World} {A : Option Addr} {n c : Nat} {s : St} (hs : Sees w (.slice A n c) s.1) (hf : Fine s) (hl : s.1.length ≤ 1000000) (k : Nat) :
    Calls Tryd.prog 36 #[.agg #[.slice A n c, .int .i64 s.2], .int .i64 (k : Int)] w (BackG w (readG s k)) := by
  by_cases h1 : k = 1
  · subst h1
    exact read_one hs hf
  by_cases h3 : k = 3
  · subst h3
    exact read_three hs hf
  by_cases h4 : k = 4
  · subst h4
    exact read_str hs hf hl
  by_cases h7 : k = 7
  · subst h7
    exact read_arr hs hf hl
  exact read_uint hs hf h1 h3 h4 h7

end Go.Proofs.YtmpkjjmgfakomaaDoor
