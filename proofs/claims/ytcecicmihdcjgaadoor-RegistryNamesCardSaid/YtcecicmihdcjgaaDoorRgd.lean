/-
  The reference's New, Log, Add, Remove, Bind.
-/
import Derived.Test.YtcecicmihdcjgaaDoorRgc
namespace Go.Proofs.YtcecicmihdcjgaaDoor
open Go.RowKit

theorem verT_nonneg (n : ByteArray) : 0 ≤ verT n ∧ verT n ≤ 3 := by
  unfold verT
  repeat' split
  all_goals omega

set_option maxRecDepth 100000 in
theorem new14_any (w : World) : Calls Tryd.prog 11 #[] w fun e w' => e = .returned (.agg #[.slice none 0 0]) ∧ Below w.heap.size w w' := by
  have J := Lib.hid ((Held.nil w).alloc [.slice none 0 0] 28)
  obtain ⟨x0, -, -⟩ := (show Held w _ ([] ++ (w.heap.size, _) :: []) from J.out).one
  go_enter Tryd.func11, Tryd.ntmps11
  go_wp2_with fail
  exact bodyPost_ret (v := .agg #[.slice none 0 0]) (by simp [results, Tryd.results11, go_sem, x0]) rfl ⟨rfl, J.out.below⟩

set_option maxRecDepth 100000 in
theorem log_any {w : World} {A : Option Addr} {n c : Nat} : Calls Tryd.prog 22 #[.agg #[.slice A n c]] w fun e w' => e = .returned (.slice A n c) ∧ Below w.heap.size w w' := by
  have J := Lib.hid ((Held.nil w).alloc [.slice A n c] 28)
  go_enter Tryd.func22, Tryd.ntmps22
  go_wp2_with fail
  go_ret
  exact ⟨rfl, J.out.below⟩

/-- a registry and an error -/
def GivesR (v : Value) (x : List Gl × Int) (w : World) (e : Ending) (w' : World) : Prop := ∃ u, e = .returned (.tuple #[.agg #[u], .int .i64 x.2]) ∧ Gs w' u x.1 ∧ (u = v ∨ OwnG w' w.heap.size u x.1) ∧ Below w.heap.size w w'
/-- a registry, a number and an error -/
def GivesA (v : Value) (x : List Gl × Nat × Int) (w : World) (e : Ending) (w' : World) : Prop := ∃ u, e = .returned (.tuple #[.agg #[u], .int .u32 (x.2.1 : Int), .int .i64 x.2.2]) ∧ Gs w' u x.1 ∧ (u = v ∨ OwnG w' w.heap.size u x.1) ∧ Below w.heap.size w w'

set_option maxRecDepth 100000 in
set_option maxHeartbeats 8000000 in
theorem add_any {w : World} {v : Value} {l : List Gl} (h : Gs w v l) (hl : l.length ≤ 1000000) (s : ByteArray) (ver : Int) :
    Calls Tryd.prog 13 #[.agg #[v], .string s, .int .i64 ver] w (GivesA v (addF l s ver) w) := by
  have HA := Lib.hid h
  have V := fun (W : World) => Lib.hid (version_any s W)
  have LS := fun (W : World) (hb : Below w.heap.size w W) => Lib.hid (list_any (h.below hb) hl)
  have AD := fun (W : World) (hb : Below w.heap.size w W) => Lib.hid (added_any (h.below hb) hl)
  obtain ⟨a, ha⟩ : ∃ a, addedF l = a := ⟨_, rfl⟩
  have hal := addedF_le l
  have WT := fun (W : World) (hb : Below w.heap.size w W) => Lib.hid (by
    have := with_any (h.below hb) ⟨a + 1, s, ver⟩ hl
    unfold glVal at this
    dsimp only at this
    rw [show ((a + 1 : Nat) : Int) = (a : Int) + 1 from rfl] at this
    exact this)
  obtain ⟨A, c, rfl, hc, hm⟩ := h.shape
  have J1 := ((Held.nil w).alloc [.slice A l.length c] 28).alloc [.slice none 0 0] 28
  simp only [World.size_alloc] at J1
  have J := Lib.hid J1
  obtain ⟨X, hX⟩ : ∃ X, addF l s ver = X := ⟨_, rfl⟩
  rw [hX]
  unfold addF at hX
  have hv := verT_nonneg s
  obtain ⟨m, hmm⟩ : ∃ m, verT s = m := ⟨_, rfl⟩
  rw [hmm] at V hX hv
  rw [ha] at AD hal hX
  obtain ⟨k, hk⟩ : ∃ k, (listF l).length = k := ⟨_, rfl⟩
  rw [hk] at hX
  have HK := Lib.hid hk
  have HX := Lib.hid hX
  obtain ⟨n, hn⟩ : ∃ n, l.length = n := ⟨_, rfl⟩
  rw [hn] at hc HA J hl hal LS AD WT
  rw [hn]
  have hb1 : (a : Int) + 1 < 4294967296 := by omega
  obtain ⟨x0, -, -⟩ := (show Held w _ ([_] ++ (w.heap.size, _) :: []) from J.out).one
  clear h J1 hX hmm ha hk hn
  go_enter Tryd.func13, Tryd.ntmps13
  go_wp2_with fail
  refine (V _).out.mono ?_
  rintro e w1 ⟨rfl, hb⟩
  replace J := Lib.hid (J.out.step hb)
  clear hb V x0
  obtain ⟨x0, -, -⟩ := (show Held w w1 ([_] ++ (w.heap.size, _) :: []) from J.out).one
  obtain ⟨z0, zf, zl⟩ := (show Held w w1 ([] ++ (w.heap.size + 1, _) :: [_]) from J.out).one
  by_cases h0 : m = 0
  · have hx := HX.out
    rw [if_pos h0] at hx
    subst hx h0
    have K := Lib.hid ((show Held w w1 ([] ++ (w.heap.size + 1, [.slice none 0 0]) :: [_]) from J.out).set1 (.slice A n c))
    clear HX J LS AD WT
    go_wp2_with fail
    obtain ⟨z0, -, -⟩ := (show Held w _ ([] ++ (w.heap.size + 1, [.slice A n c]) :: [_]) from K.out).one
    exact bodyPost_ret (v := .tuple #[.agg #[.slice A n c], .int .u32 0, .int .i64 8]) (by simp [results, Tryd.results13, go_sem, z0]) rfl ⟨_, rfl, HA.out.below K.out.below, .inl rfl, K.out.below⟩
  have hx := HX.out
  rw [if_neg h0] at hx
  have e0 : (m == 0) = false := beq_eq_false_iff_ne.2 h0
  by_cases h1 : ver < 1 ∨ m < ver
  · rw [if_pos h1] at hx
    subst hx
    have K := Lib.hid ((show Held w w1 ([] ++ (w.heap.size + 1, [.slice none 0 0]) :: [_]) from J.out).set1 (.slice A n c))
    clear HX J LS AD WT
    by_cases h2 : ver < 1
    · have e1 : decide (ver < 1) = true := decide_eq_true h2
      clear h1
      go_wp2_with fail
      obtain ⟨z0, -, -⟩ := (show Held w _ ([] ++ (w.heap.size + 1, [.slice A n c]) :: [_]) from K.out).one
      exact bodyPost_ret (v := .tuple #[.agg #[.slice A n c], .int .u32 0, .int .i64 11]) (by simp [results, Tryd.results13, go_sem, z0]) rfl ⟨_, rfl, HA.out.below K.out.below, .inl rfl, K.out.below⟩
    · have e1 : decide (ver < 1) = false := decide_eq_false h2
      have h3 : m < ver := by omega
      have e2 : decide (m < ver) = true := decide_eq_true h3
      clear h1
      go_wp2_with fail
      obtain ⟨z0, -, -⟩ := (show Held w _ ([] ++ (w.heap.size + 1, [.slice A n c]) :: [_]) from K.out).one
      exact bodyPost_ret (v := .tuple #[.agg #[.slice A n c], .int .u32 0, .int .i64 11]) (by simp [results, Tryd.results13, go_sem, z0]) rfl ⟨_, rfl, HA.out.below K.out.below, .inl rfl, K.out.below⟩
  rw [if_neg h1] at hx
  have h2 : ¬ ver < 1 := by omega
  have h3 : ¬ m < ver := by omega
  have e1 : decide (ver < 1) = false := decide_eq_false h2
  have e2 : decide (m < ver) = false := decide_eq_false h3
  replace HX := Lib.hid hx
  clear hx h1
  go_wp2_with fail
  refine (LS _ J.out.below).out.mono ?_
  rintro e w2 ⟨u, rfl, ho, hb⟩
  replace J := Lib.hid (J.out.step hb)
  obtain ⟨A2, c2, rfl, -, -⟩ := ho.gs.shape
  rw [HK.out]
  clear hb LS x0 ho z0 zf zl
  obtain ⟨x0, -, -⟩ := (show Held w w2 ([_] ++ (w.heap.size, _) :: []) from J.out).one
  obtain ⟨z0, zf, zl⟩ := (show Held w w2 ([] ++ (w.heap.size + 1, _) :: [_]) from J.out).one
  by_cases h4 : 64 ≤ k
  · have hx := HX.out
    rw [if_pos h4] at hx
    subst hx
    have e3 : (64 : Int) ≤ k := by omega
    have K := Lib.hid ((show Held w w2 ([] ++ (w.heap.size + 1, [.slice none 0 0]) :: [_]) from J.out).set1 (.slice A n c))
    clear HX J AD WT
    go_wp2_with fail
    obtain ⟨z0, -, -⟩ := (show Held w _ ([] ++ (w.heap.size + 1, [.slice A n c]) :: [_]) from K.out).one
    exact bodyPost_ret (v := .tuple #[.agg #[.slice A n c], .int .u32 0, .int .i64 5]) (by simp [results, Tryd.results13, go_sem, z0]) rfl ⟨_, rfl, HA.out.below K.out.below, .inl rfl, K.out.below⟩
  · have hx := HX.out
    rw [if_neg h4] at hx
    have HX2 := Lib.hid hx
    have e3 : decide ((64 : Int) ≤ (k : Int)) = false := decide_eq_false (by omega)
    clear HX hx h0 h2 h3 e0 e1 e2 hv h4
    go_wp2_with fail
    refine (AD _ J.out.below).out.mono ?_
    rintro e w3 ⟨rfl, hb⟩
    replace J := Lib.hid (J.out.step hb)
    clear hb AD x0 z0 zf zl
    obtain ⟨x0, -, -⟩ := (show Held w w3 ([_] ++ (w.heap.size, _) :: []) from J.out).one
    go_wp2_with fail
    refine (WT _ J.out.below).out.mono ?_
    rintro e w4 ⟨u, rfl, hu, hb⟩
    have zl3 := (show Held w w3 ([] ++ (w.heap.size + 1, _) :: [_]) from J.out).one.2.2
    replace J := Lib.hid (J.out.step hb)
    obtain ⟨A5, c5, rfl, -, -⟩ := hu.gs.shape
    have HSZ := Lib.hid zl3
    have HU := Lib.hid (hu.set (k := w.heap.size + 1) zl3 0 (.slice A5 (l ++ [(⟨a + 1, s, ver⟩ : Gl)]).length c5))
    obtain ⟨n5, hn5⟩ : ∃ n, (l ++ [(⟨a + 1, s, ver⟩ : Gl)]).length = n := ⟨_, rfl⟩
    rw [hn5] at HU ⊢
    clear hb WT x0 hu hn5
    obtain ⟨z0, zf, zl⟩ := (show Held w w4 ([] ++ (w.heap.size + 1, _) :: [_]) from J.out).one
    have K := Lib.hid ((show Held w w4 ([] ++ (w.heap.size + 1, [.slice none 0 0]) :: [_]) from J.out).set1 (.slice A5 n5 c5))
    clear J
    go_wp2_with fail
    obtain ⟨z0, -, -⟩ := (show Held w _ ([] ++ (w.heap.size + 1, [.slice A5 n5 c5]) :: [_]) from K.out).one
    exact bodyPost_ret (v := .tuple #[.agg #[.slice A5 n5 c5], .int .u32 ((a : Int) + 1), .int .i64 0]) (by simp [results, Tryd.results13, go_sem, z0]) rfl (by rw [← HX2.out]; exact ⟨_, rfl, HU.out.gs, .inr (HU.out.mono (by have := HSZ.out; omega)), K.out.below⟩)

set_option maxRecDepth 100000 in
set_option maxHeartbeats 4000000 in
theorem remove_any {w : World} {v : Value} {l : List Gl} (h : Gs w v l) (hl : l.length ≤ 1000000) (q : Nat) :
    Calls Tryd.prog 15 #[.agg #[v], .int .u32 (q : Int)] w (GivesR v (remF l q) w) := by
  have HA := Lib.hid h
  have C := fun (W : World) (hb : Below w.heap.size w W) => Lib.hid (announced_any (h.below hb) q)
  obtain ⟨⟨ga, gb⟩, hg⟩ : ∃ a, annF l q = a := ⟨_, rfl⟩
  have WT := fun (W : World) (hb : Below w.heap.size w W) => Lib.hid (with_any (h.below hb) ⟨ga.nm, ga.it, 0⟩ hl)
  obtain ⟨A, c, rfl, hc, hm⟩ := h.shape
  have J1 := ((Held.nil w).alloc [.slice A l.length c] 28).alloc [.slice none 0 0] 28
  simp only [World.size_alloc] at J1
  have J := Lib.hid J1
  obtain ⟨X, hX⟩ : ∃ X, remF l q = X := ⟨_, rfl⟩
  rw [hX]
  unfold remF at hX
  rw [hg] at C hX
  dsimp only at hX
  have HX := Lib.hid hX
  obtain ⟨n, hn⟩ : ∃ n, l.length = n := ⟨_, rfl⟩
  rw [hn] at hc HA J C WT ⊢
  obtain ⟨x0, -, -⟩ := (show Held w _ ([_] ++ (w.heap.size, _) :: []) from J.out).one
  clear h J1 hg hn hX
  go_enter Tryd.func15, Tryd.ntmps15
  go_wp2_with fail
  refine (C _ J.out.below).out.mono ?_
  rintro e w1 ⟨rfl, hb⟩
  have Jw := Lib.hid (J.out.step hb)
  replace J := Lib.hid ((J.out.step hb).alloc [.int .u32 (ga.nm : Int), .string ga.it, .int .i64 ga.vr] 49)
  clear hb C x0
  dsimp only
  obtain ⟨x0, -, -⟩ := (show Held w _ ([_, _] ++ (w.heap.size, _) :: []) from J.out).one
  obtain ⟨z0, zf, zl⟩ := (show Held w _ ([_] ++ (w.heap.size + 1, _) :: [_]) from J.out).one
  obtain ⟨t0, t1, t2, tf, tl⟩ := (show Held w _ ([] ++ (w1.heap.size, _) :: [_, _]) from J.out).tri
  cases gb with
  | false =>
    have hx := HX.out
    rw [if_neg (by simp)] at hx
    subst hx
    clear HX
    have K := Lib.hid ((show Held w _ ([_] ++ (w.heap.size + 1, [.slice none 0 0]) :: [_]) from J.out).set1 (.slice A n c))
    clear J WT
    go_wp2_with fail
    obtain ⟨z0, -, -⟩ := (show Held w _ ([_] ++ (w.heap.size + 1, [.slice A n c]) :: [_]) from K.out).one
    exact bodyPost_ret (v := .tuple #[.agg #[.slice A n c], .int .i64 8]) (by simp [results, Tryd.results15, go_sem, z0]) rfl ⟨_, rfl, HA.out.below K.out.below, .inl rfl, K.out.below⟩
  | true =>
    have hx := HX.out
    rw [if_pos rfl] at hx
    subst hx
    clear HX
    have K := Lib.hid (Jw.out.alloc [.int .u32 (ga.nm : Int), .string ga.it, .int .i64 0] 49)
    have k0 := (show Held w _ ([_, _] ++ (w.heap.size, _) :: []) from K.out).one.1
    obtain ⟨k1, k2, k3, -, -⟩ := (show Held w _ ([] ++ (w1.heap.size, [.int .u32 (ga.nm : Int), .string ga.it, .int .i64 0]) :: [_, _]) from K.out).tri
    clear J
    go_wp2_with fail
    refine (WT _ K.out.below).out.mono ?_
    rintro e w4 ⟨u, rfl, hu, hb⟩
    have zl3 := (show Held w _ ([_] ++ (w.heap.size + 1, _) :: [_]) from K.out).one.2.2
    obtain ⟨A5, c5, rfl, -, -⟩ := hu.gs.shape
    have HSZ := Lib.hid zl3
    have HU := Lib.hid (hu.set (k := w.heap.size + 1) zl3 0 (.slice A5 (l ++ [(⟨ga.nm, ga.it, 0⟩ : Gl)]).length c5))
    have J5 := K.out.step hb
    obtain ⟨n5, hn5⟩ : ∃ n, (l ++ [(⟨ga.nm, ga.it, 0⟩ : Gl)]).length = n := ⟨_, rfl⟩
    rw [hn5] at HU ⊢
    obtain ⟨z0, zf, -⟩ := (show Held w w4 ([_] ++ (w.heap.size + 1, _) :: [_]) from J5).one
    have K2 := Lib.hid ((show Held w w4 ([_] ++ (w.heap.size + 1, [.slice none 0 0]) :: [_]) from J5).set1 (.slice A5 n5 c5))
    clear hb WT hu hn5 J5 zl3 K t0 t1 t2 tf tl x0 zl k0 k1 k2 k3
    go_wp2_with fail
    obtain ⟨z0, -, -⟩ := (show Held w _ ([_] ++ (w.heap.size + 1, [.slice A5 n5 c5]) :: [_]) from K2.out).one
    exact bodyPost_ret (v := .tuple #[.agg #[.slice A5 n5 c5], .int .i64 0]) (by simp [results, Tryd.results15, go_sem, z0]) rfl ⟨_, rfl, HU.out.gs, .inr (HU.out.mono (by have := HSZ.out; omega)), K2.out.below⟩

set_option maxRecDepth 100000 in
set_option maxHeartbeats 4000000 in
theorem bind_any {w : World} {v : Value} {l : List Gl} (h : Gs w v l) (hl : l.length ≤ 1000000) (q : Nat) (s : ByteArray) (ver : Int) :
    Calls Tryd.prog 17 #[.agg #[v], .int .u32 (q : Int), .string s, .int .i64 ver] w fun e w' => e = .returned (.int .i64 (bindF l q s ver)) ∧ Below w.heap.size w w' := by
  have C := fun (W : World) (hb : Below w.heap.size w W) => Lib.hid (known_any (h.below hb) hl q)
  obtain ⟨⟨⟨gn, gi, gv⟩, gb⟩, hg⟩ : ∃ a, knownF l q = a := ⟨_, rfl⟩
  obtain ⟨A, c, rfl, hc, hm⟩ := h.shape
  have J := Lib.hid ((Held.nil w).alloc [.slice A l.length c] 28)
  obtain ⟨X, hX⟩ : ∃ X, bindF l q s ver = X := ⟨_, rfl⟩
  rw [hX]
  unfold bindF at hX
  rw [hg] at C hX
  dsimp only at hX
  have HX := Lib.hid hX
  obtain ⟨n, hn⟩ : ∃ n, l.length = n := ⟨_, rfl⟩
  rw [hn] at hc J C ⊢
  obtain ⟨x0, -, -⟩ := (show Held w _ ([] ++ (w.heap.size, _) :: []) from J.out).one
  clear h hg hn hX
  go_enter Tryd.func17, Tryd.ntmps17
  go_wp2_with fail
  refine (C _ J.out.below).out.mono ?_
  rintro e w1 ⟨rfl, hb⟩
  replace J := Lib.hid ((J.out.step hb).alloc [.int .u32 (gn : Int), .string gi, .int .i64 gv] 49)
  clear hb C x0
  dsimp only
  obtain ⟨t0, t1, t2, tf, tl⟩ := (show Held w _ ([] ++ (w1.heap.size, _) :: [_]) from J.out).tri
  cases gb with
  | false =>
    have hx := HX.out
    rw [if_pos rfl] at hx
    subst hx
    clear HX
    go_wp2_with fail
    go_ret
    exact ⟨rfl, J.out.below⟩
  | true =>
    have hx := HX.out
    rw [if_neg (by simp)] at hx
    by_cases h1 : gi = s
    · subst h1
      rw [if_neg (by simp)] at hx
      have b1 : (gi.toList != gi.toList) = false := by simp
      by_cases h2 : ver < 1
      · rw [if_pos (.inl h2)] at hx
        subst hx
        have e1 : decide (ver < 1) = true := decide_eq_true h2
        clear HX
        go_wp2_with fail
        go_ret
        exact ⟨rfl, J.out.below⟩
      · have e1 : decide (ver < 1) = false := decide_eq_false h2
        by_cases h3 : gv < ver
        · rw [if_pos (.inr h3)] at hx
          subst hx
          have e2 : decide (gv < ver) = true := decide_eq_true h3
          clear HX
          go_wp2_with fail
          go_ret
          exact ⟨rfl, J.out.below⟩
        · rw [if_neg (by omega)] at hx
          subst hx
          have e2 : decide (gv < ver) = false := decide_eq_false h3
          clear HX
          go_wp2_with fail
          go_ret
          exact ⟨rfl, J.out.below⟩
    · rw [if_pos h1] at hx
      subst hx
      have b1 := str_ne h1
      have b2 : (gi.toList != s.toList) = true := by rw [bne, b1]; rfl
      clear HX
      go_wp2_with fail
      go_ret
      exact ⟨rfl, J.out.below⟩

end Go.Proofs.YtcecicmihdcjgaaDoor
