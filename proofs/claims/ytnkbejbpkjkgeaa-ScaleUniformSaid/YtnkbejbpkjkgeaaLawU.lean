/-
  The walk of the law ScaleUniform.
-/
import Derived.Test.YtnkbejbpkjkgeaaExm
import Derived.Lib.MinMax
import Derived.Deep.CutRange
namespace Go.Proofs.Ytnkbejbpkjkgeaa
open Go.RowKit Mem

def mnP (p q : Px) : Px := ⟨min p.r q.r, min p.g q.g, min p.b q.b, min p.a q.a⟩
def mxP (p q : Px) : Px := ⟨max p.r q.r, max p.g q.g, max p.b q.b, max p.a q.a⟩
/-- the least and the greatest components of the first pixels -/
def loP (l : List Px) : Nat → Px
  | 0 => l.getD 0 zeroPx
  | i + 1 => mnP (loP l i) (l.getD i zeroPx)
def hiP (l : List Px) : Nat → Px
  | 0 => l.getD 0 zeroPx
  | i + 1 => mxP (hiP l i) (l.getD i zeroPx)
theorem lo_le (l : List Px) : ∀ i k, k < i → leP (loP l i) (l.getD k zeroPx)
  | 0, _, h => by omega
  | i + 1, k, h => by
    show leP (mnP (loP l i) (l.getD i zeroPx)) (l.getD k zeroPx)
    rcases Nat.lt_or_ge k i with hk | hk
    · obtain ⟨h1, h2, h3, h4⟩ := lo_le l i k hk
      exact ⟨Nat.le_trans (Nat.min_le_left _ _) h1, Nat.le_trans (Nat.min_le_left _ _) h2, Nat.le_trans (Nat.min_le_left _ _) h3, Nat.le_trans (Nat.min_le_left _ _) h4⟩
    · obtain rfl : k = i := by omega
      exact ⟨Nat.min_le_right _ _, Nat.min_le_right _ _, Nat.min_le_right _ _, Nat.min_le_right _ _⟩
theorem le_hi (l : List Px) : ∀ i k, k < i → leP (l.getD k zeroPx) (hiP l i)
  | 0, _, h => by omega
  | i + 1, k, h => by
    show leP (l.getD k zeroPx) (mxP (hiP l i) (l.getD i zeroPx))
    rcases Nat.lt_or_ge k i with hk | hk
    · obtain ⟨h1, h2, h3, h4⟩ := le_hi l i k hk
      exact ⟨Nat.le_trans h1 (Nat.le_max_left _ _), Nat.le_trans h2 (Nat.le_max_left _ _), Nat.le_trans h3 (Nat.le_max_left _ _), Nat.le_trans h4 (Nat.le_max_left _ _)⟩
    · obtain rfl : k = i := by omega
      exact ⟨Nat.le_max_right _ _, Nat.le_max_right _ _, Nat.le_max_right _ _, Nat.le_max_right _ _⟩
theorem lo_next {l : List Px} {i : Nat} {px L : Px} (hpx : l.getD i zeroPx = px) (hL : loP l i = L) : ∃ L2 : Px, loP l (i + 1) = L2 ∧ min (L.r : Int) (px.r : Int) = (L2.r : Int) ∧ min (L.g : Int) (px.g : Int) = (L2.g : Int) ∧ min (L.b : Int) (px.b : Int) = (L2.b : Int) ∧ min (L.a : Int) (px.a : Int) = (L2.a : Int) := by
  refine ⟨_, rfl, ?_⟩
  show _ ∧ _ ∧ _ ∧ _
  unfold loP mnP
  rw [hpx, hL]
  exact ⟨cast_min _ _, cast_min _ _, cast_min _ _, cast_min _ _⟩
theorem hi_next {l : List Px} {i : Nat} {px L : Px} (hpx : l.getD i zeroPx = px) (hL : hiP l i = L) : ∃ L2 : Px, hiP l (i + 1) = L2 ∧ max (L.r : Int) (px.r : Int) = (L2.r : Int) ∧ max (L.g : Int) (px.g : Int) = (L2.g : Int) ∧ max (L.b : Int) (px.b : Int) = (L2.b : Int) ∧ max (L.a : Int) (px.a : Int) = (L2.a : Int) := by
  refine ⟨_, rfl, ?_⟩
  show _ ∧ _ ∧ _ ∧ _
  unfold hiP mxP
  rw [hpx, hL]
  refine ⟨?_, ?_, ?_, ?_⟩ <;> (simp only; omega)

theorem Held.perm {w W : World} {l l' : List (Nat × List Value)} (h : Held w W l) (hp : l.Perm l') : Held w W l' :=
  ⟨fun p hq => h.cells p (hp.mem_iff.2 hq), fun p hq => h.free p (hp.mem_iff.2 hq), fun p hq => h.there p (hp.mem_iff.2 hq), fun p hq => h.own p (hp.mem_iff.2 hq), (hp.map _).nodup_iff.1 h.nd, h.below⟩
theorem HeldX.perm {w W : World} {l l' : List (Nat × List Value)} {q : World → Prop} (h : HeldX w W l q) (hp : l.Perm l') : HeldX w W l' q := ⟨h.held.perm hp, h.fact, h.kept⟩
theorem HeldX.set4 {w W : World} {l1 l2 : List (Nat × List Value)} {k : Nat} {x0 x1 x2 x3 : Value} {q : World → Prop} (h : HeldX w W (l1 ++ (k, [x0, x1, x2, x3]) :: l2) q) (y0 y1 y2 y3 : Value) (hq : q (set4 W k y0 y1 y2 y3)) : HeldX w (set4 W k y0 y1 y2 y3) (l1 ++ (k, [y0, y1, y2, y3]) :: l2) q := ⟨h.held.set4 y0 y1 y2 y3, hq, h.kept⟩

theorem pxs_at4 {W : World} {b off n c i : Nat} {l : List Px} {px : Px} (h : Pxs W (.slice (some ⟨b, off, none⟩) n c) l) (hi : l[i]? = some px) : At4 W b off i px := by
  obtain ⟨A, cap, hv, _, _, hc⟩ := h
  have h0 := (List.getElem?_eq_some_iff.1 hi).1
  obtain ⟨b', o', hA, _, hcs⟩ := hc (by omega)
  injection hv with e1
  subst e1
  injection hA with hA
  injection hA with e2 e3
  subst e2 e3
  exact hcs i px hi
theorem pxs_some {W : World} {A : Option Addr} {n c : Nat} {l : List Px} (h : Pxs W (.slice A n c) l) (h0 : 0 < l.length) : ∃ b off, A = some ⟨b, off, none⟩ ∧ b < W.heap.size ∧ n ≤ c ∧ c ≤ maxLen := by
  obtain ⟨A', cap, hv, h1, h2, hc⟩ := h
  obtain ⟨b', o', hA, hb, _⟩ := hc h0
  injection hv with e1 e2 e3
  subst e1 e2 e3
  exact ⟨b', o', hA, hb, h1, h2⟩
/-- pixels that lie below what is written stay -/
theorem Pxs.set4 {W : World} {b off n c k : Nat} {l : List Px} (h : Pxs W (.slice (some ⟨b, off, none⟩) n c) l) (hne : b ≠ k) (y0 y1 y2 y3 : Value) : Pxs (set4 W k y0 y1 y2 y3) (.slice (some ⟨b, off, none⟩) n c) l := by
  obtain ⟨A, cap, hv, h1, h2, hc⟩ := h
  refine ⟨A, cap, hv, h1, h2, fun hn => ?_⟩
  obtain ⟨b', o', hA, hb, hcs⟩ := hc hn
  refine ⟨b', o', hA, ?_, fun j p hj => ?_⟩
  · unfold Ytnkbejbpkjkgeaa.set4
    simpa using hb
  · injection hv with e1
    subst e1
    injection hA with hA
    injection hA with e2 e3
    subst e2 e3
    obtain ⟨c0, c1, c2, c3⟩ := hcs j p hj
    have key : ∀ i v, W.cell? ⟨b, i, none⟩ = some v → (Ytnkbejbpkjkgeaa.set4 W k y0 y1 y2 y3).cell? ⟨b, i, none⟩ = some v := fun i v hv => by
      unfold Ytnkbejbpkjkgeaa.set4
      rw [World.cell?_setCell_other _ _ _ _ (fun e => hne (by have := congrArg Addr.block e; simpa using this.symm)), World.cell?_setCell_other _ _ _ _ (fun e => hne (by have := congrArg Addr.block e; simpa using this.symm)), World.cell?_setCell_other _ _ _ _ (fun e => hne (by have := congrArg Addr.block e; simpa using this.symm)), World.cell?_setCell_other _ _ _ _ (fun e => hne (by have := congrArg Addr.block e; simpa using this.symm))]
      exact hv
    exact ⟨key _ _ c0, key _ _ c1, key _ _ c2, key _ _ c3⟩

set_option maxRecDepth 100000 in
set_option maxHeartbeats 8000000 in
theorem uni_walk (a b p q : Int) {v : Value} {l : List Px} {w : World} (h : Pxs w v l) (hlb : ∀ z ∈ l, Byt z) : Calls Try.prog 9 #[.agg #[.int .i64 a, .int .i64 b, v], .int .i64 p, .int .i64 q] w (Says true w) := by
  obtain ⟨A, n, rfl, _⟩ := h.shape
  have J := Lib.hid (((Held.nil w).toX.addP h).alloc [.int .i64 a, .int .i64 b, .slice A l.length n] 24)
  have C12 := fun W => Lib.hid (example_any W)
  have C11 := fun W => Lib.hid (lsmall_any a b p q A l.length n W)
  have C24 := fun W (h : Pxs W (.slice A l.length n) l) => Lib.hid (rvalid10_any a b h)
  cases hs : smB l.length p q
  · rw [hs] at C11
    generalize l.length = m at *
    clear hs h hlb C24
    go_enter Try.func9, Try.ntmps9
    go_wp2_with fail
    refine (C11 _).out.mono ?_
    rintro e wq ⟨rfl, hb⟩
    replace J := Lib.hid (J.out.step hb)
    clear hb
    go_wp2_with fail
    refine (C12 _).out.mono ?_
    rintro e wq ⟨rfl, hb⟩
    replace J := Lib.hid (J.out.step hb)
    clear hb
    go_wp2_with fail
    go_ret
    exact ⟨rfl, J.out.below⟩
  · rw [hs] at C11
    clear hs
    cases hvb : vBuf a b l
    · rw [hvb] at C24
      generalize l.length = m at *
      clear h hlb hvb
      go_enter Try.func9, Try.ntmps9
      go_wp2_with fail
      refine (C11 _).out.mono ?_
      rintro e wq ⟨rfl, hb⟩
      replace J := Lib.hid (J.out.step hb)
      clear hb
      obtain ⟨z0, z1, z2, _, zt⟩ := J.out.held.tri (l1 := [])
      go_wp2_with fail
      refine (C24 _ J.out.fact.1).out.mono ?_
      rintro e wq ⟨rfl, hb⟩
      replace J := Lib.hid (J.out.step hb)
      clear hb
      clear z0 z1 z2 zt
      go_wp2_with fail
      refine (C12 _).out.mono ?_
      rintro e wq ⟨rfl, hb⟩
      replace J := Lib.hid (J.out.step hb)
      clear hb
      go_wp2_with fail
      go_ret
      exact ⟨rfl, J.out.below⟩
    · rw [hvb] at C24
      obtain ⟨a, b, rfl, rfl, hv⟩ := vld_of hvb
      by_cases g0 : p < 1
      · have b1 : decide (p < 1) = true := decide_eq_true g0
        generalize l.length = m at *
        clear h hlb hv hvb
        go_enter Try.func9, Try.ntmps9
        go_wp2_with fail
        refine (C11 _).out.mono ?_
        rintro e wq ⟨rfl, hb⟩
        replace J := Lib.hid (J.out.step hb)
        clear hb
        obtain ⟨z0, z1, z2, _, zt⟩ := J.out.held.tri (l1 := [])
        go_wp2_with fail
        refine (C24 _ J.out.fact.1).out.mono ?_
        rintro e wq ⟨rfl, hb⟩
        replace J := Lib.hid (J.out.step hb)
        clear hb
        clear z0 z1 z2 zt
        obtain ⟨z0, z1, z2, _, zt⟩ := J.out.held.tri (l1 := [])
        go_wp2_with fail
        refine (C12 _).out.mono ?_
        rintro e wq ⟨rfl, hb⟩
        replace J := Lib.hid (J.out.step hb)
        clear hb
        go_wp2_with fail
        go_ret
        exact ⟨rfl, J.out.below⟩
      · have b1 : decide (p < 1) = false := decide_eq_false g0
        by_cases g1 : 12 < p
        · have b2 : decide (12 < p) = true := decide_eq_true g1
          generalize l.length = m at *
          clear h hlb hv hvb
          go_enter Try.func9, Try.ntmps9
          go_wp2_with fail
          refine (C11 _).out.mono ?_
          rintro e wq ⟨rfl, hb⟩
          replace J := Lib.hid (J.out.step hb)
          clear hb
          obtain ⟨z0, z1, z2, _, zt⟩ := J.out.held.tri (l1 := [])
          go_wp2_with fail
          refine (C24 _ J.out.fact.1).out.mono ?_
          rintro e wq ⟨rfl, hb⟩
          replace J := Lib.hid (J.out.step hb)
          clear hb
          clear z0 z1 z2 zt
          obtain ⟨z0, z1, z2, _, zt⟩ := J.out.held.tri (l1 := [])
          go_wp2_with fail
          refine (C12 _).out.mono ?_
          rintro e wq ⟨rfl, hb⟩
          replace J := Lib.hid (J.out.step hb)
          clear hb
          go_wp2_with fail
          go_ret
          exact ⟨rfl, J.out.below⟩
        · have b2 : decide (12 < p) = false := decide_eq_false g1
          by_cases g2 : q < 1
          · have b3 : decide (q < 1) = true := decide_eq_true g2
            generalize l.length = m at *
            clear h hlb hv hvb
            go_enter Try.func9, Try.ntmps9
            go_wp2_with fail
            refine (C11 _).out.mono ?_
            rintro e wq ⟨rfl, hb⟩
            replace J := Lib.hid (J.out.step hb)
            clear hb
            obtain ⟨z0, z1, z2, _, zt⟩ := J.out.held.tri (l1 := [])
            go_wp2_with fail
            refine (C24 _ J.out.fact.1).out.mono ?_
            rintro e wq ⟨rfl, hb⟩
            replace J := Lib.hid (J.out.step hb)
            clear hb
            clear z0 z1 z2 zt
            obtain ⟨z0, z1, z2, _, zt⟩ := J.out.held.tri (l1 := [])
            go_wp2_with fail
            refine (C12 _).out.mono ?_
            rintro e wq ⟨rfl, hb⟩
            replace J := Lib.hid (J.out.step hb)
            clear hb
            go_wp2_with fail
            go_ret
            exact ⟨rfl, J.out.below⟩
          · have b3 : decide (q < 1) = false := decide_eq_false g2
            by_cases g3 : 12 < q
            · have b4 : decide (12 < q) = true := decide_eq_true g3
              generalize l.length = m at *
              clear h hlb hv hvb
              go_enter Try.func9, Try.ntmps9
              go_wp2_with fail
              refine (C11 _).out.mono ?_
              rintro e wq ⟨rfl, hb⟩
              replace J := Lib.hid (J.out.step hb)
              clear hb
              obtain ⟨z0, z1, z2, _, zt⟩ := J.out.held.tri (l1 := [])
              go_wp2_with fail
              refine (C24 _ J.out.fact.1).out.mono ?_
              rintro e wq ⟨rfl, hb⟩
              replace J := Lib.hid (J.out.step hb)
              clear hb
              clear z0 z1 z2 zt
              obtain ⟨z0, z1, z2, _, zt⟩ := J.out.held.tri (l1 := [])
              go_wp2_with fail
              refine (C12 _).out.mono ?_
              rintro e wq ⟨rfl, hb⟩
              replace J := Lib.hid (J.out.step hb)
              clear hb
              go_wp2_with fail
              go_ret
              exact ⟨rfl, J.out.below⟩
            · have b4 : decide (12 < q) = false := decide_eq_false g3
              obtain ⟨p, rfl⟩ : ∃ P : Nat, p = P := ⟨p.toNat, by omega⟩
              obtain ⟨q, rfl⟩ : ∃ Q : Nat, q = Q := ⟨q.toNat, by omega⟩
              have hm1 := hv.small
              obtain ⟨M, hM⟩ : ∃ M, p * q = M := ⟨_, rfl⟩
              have hMb : M ≤ 144 := by rw [← hM]; exact Nat.mul_le_mul (show p ≤ 12 by omega) (show q ≤ 12 by omega)
              have hMp : 0 < M := by rw [← hM]; exact Nat.mul_pos (by omega) (by omega)
              have E := Lib.hid (show wrap64 ((p : Int) * (q : Int)) = (M : Int) ∧ IntKind.i64.wrap ((p : Int) * (q : Int)) = (M : Int) from by
                rw [← Int.natCast_mul, hM]
                exact ⟨IntWalk.wrap64_in _ (by omega), IntWalk.i64_in _ (by omega)⟩)
              have hpq : (1 ≤ p ∧ p ≤ 256) ∧ (1 ≤ q ∧ q ≤ 256) := by omega
              have D1 := fun W v (h : Pxs W v l) => Lib.hid (show Calls Try.prog 13 #[.agg #[.int .i64 (a : Int), .int .i64 (b : Int), v], .int .i64 (p : Int), .int .i64 (q : Int)] W (OutN p q M (nearL a b l p q) 0 W) from (near_good h hv hlb hpq.1 hpq.2).mono fun _ _ h => outN h (by rw [near_len, hM]))
              have D2 := fun W v (h : Pxs W v l) => Lib.hid (show Calls Try.prog 16 #[.agg #[.int .i64 (a : Int), .int .i64 (b : Int), v], .int .i64 (p : Int), .int .i64 (q : Int)] W (OutN p q M (boxL a b l p q) 0 W) from (box_good h hv hlb hpq.1 hpq.2).mono fun _ _ h => outN h (by rw [box_len, hM]))
              have V1 := fun W v (h : Pxs W v (nearL a b l p q)) => Lib.hid (rvalid10_any (p : Int) (q : Int) h)
              rw [(near_vld hv hpq.1 hpq.2).vBuf] at V1
              have V2 := fun W v (h : Pxs W v (boxL a b l p q)) => Lib.hid (rvalid10_any (p : Int) (q : Int) h)
              rw [(box_vld hv hpq.1 hpq.2).vBuf] at V2
              have hbt : ∀ k, k < a * b → leP (loP l l.length) (l.getD k zeroPx) ∧ leP (l.getD k zeroPx) (hiP l l.length) := fun k hk => by
                rw [← hv.len] at hk
                exact ⟨lo_le l _ k hk, le_hi l _ k hk⟩
              have B1 := fun k (hk : k < M) => Lib.hid (near_between hv hpq.1.1 hbt (k := k) (w := p) (h := q) (by rw [hM]; exact hk))
              have B2 := fun k (hk : k < M) => Lib.hid (box_between hv hpq.1.1 hbt (k := k) (w := p) (h := q) (by rw [hM]; exact hk))
              have HN1 := Lib.hid (near_len a b l p q)
              have HN2 := Lib.hid (box_len a b l p q)
              rw [hM] at HN1 HN2
              generalize nearL a b l p q = X at *
              generalize boxL a b l p q = Y at *
              obtain ⟨m, hm⟩ : ∃ m, l.length = m := ⟨_, rfl⟩
              have HL := Lib.hid hm
              rw [hm] at J C11 C24 B1 B2 hm1 h ⊢
              obtain ⟨bb, off, rfl, hbb, hmn, hnm⟩ := pxs_some h (by rw [hm]; exact hm1.1)
              simp only [maxLen] at hnm
              unfold OutN at D1 D2
              obtain ⟨p0, hp0⟩ : ∃ p0, l.getD 0 zeroPx = p0 := ⟨_, rfl⟩
              have hg0 : l[0]? = some p0 := by rw [← hp0]; exact get_of (by rw [hm]; exact hm1.1)
              have HG0 := Lib.hid hg0
              have HP0 := Lib.hid hp0
              have hm2 := hm1.2
              have hm0 := hm1.1
              have hm3 : (0 : Int) < m := by omega
              clear hm hM hv hvb hlb hbt h hg0 hp0 hm1
              go_enter Try.func9, Try.ntmps9
              go_wp2_with fail
              refine (C11 _).out.mono ?_
              rintro e wq ⟨rfl, hb⟩
              replace J := Lib.hid (J.out.step hb)
              clear hb
              obtain ⟨z0, z1, z2, _, zt⟩ := J.out.held.tri (l1 := [])
              go_wp2_with fail
              refine (C24 _ J.out.fact.1).out.mono ?_
              rintro e wq ⟨rfl, hb⟩
              replace J := Lib.hid (J.out.step hb)
              clear hb
              clear z0 z1 z2 zt
              obtain ⟨z0, z1, z2, _, zt⟩ := J.out.held.tri (l1 := [])
              go_upto_region 3 with fail
              clear z0 z1 z2 zt
              go_cut [7, 8] from 43 to 50 (fun s7 s8 wx => ∃ M1 N1 : Nat, s7 = .pointer (some ⟨M1, 0, none⟩) ∧ s8 = .pointer (some ⟨N1, 0, none⟩) ∧ Hid (HeldX w wx ((M1, [.int .u8 (p0.r : Int), .int .u8 (p0.g : Int), .int .u8 (p0.b : Int), .int .u8 (p0.a : Int)]) :: (N1, [.int .u8 (p0.r : Int), .int .u8 (p0.g : Int), .int .u8 (p0.b : Int), .int .u8 (p0.a : Int)]) :: [(w.heap.size, [.int .i64 (a : Int), .int .i64 (b : Int), .slice (some ⟨bb, off, none⟩) m n])]) (fun V => Pxs V (.slice (some ⟨bb, off, none⟩) m n) l ∧ True)))
              case first =>
                have S0 : ∀ V, HeldX w V [(w.heap.size, [.int .i64 (a : Int), .int .i64 (b : Int), .slice (some ⟨bb, off, none⟩) m n])] (fun V => Pxs V (.slice (some ⟨bb, off, none⟩) m n) l ∧ True) → ((V.cell? ⟨w.heap.size, 0, none⟩ = some (.int .i64 (a : Int)) ∧ V.cell? ⟨w.heap.size, 1, none⟩ = some (.int .i64 (b : Int)) ∧ V.cell? ⟨w.heap.size, 2, none⟩ = some (.slice (some ⟨bb, off, none⟩) m n)) ∧ (V.cell? ⟨bb, off, none⟩ = some (.int .u8 (p0.r : Int)) ∧ V.cell? ⟨bb, off + 1, none⟩ = some (.int .u8 (p0.g : Int)) ∧ V.cell? ⟨bb, off + 2, none⟩ = some (.int .u8 (p0.b : Int)) ∧ V.cell? ⟨bb, off + 3, none⟩ = some (.int .u8 (p0.a : Int)))) := fun V hV => by
                  have h4 := pxs_at4 hV.fact.1 HG0.out
                  unfold At4 at h4
                  rw [Nat.zero_mul, Nat.add_zero] at h4
                  exact ⟨hV.held.three (l1 := []), h4⟩
                have sk := S0 _ J.out.drew
                have sj := fun o => S0 _ (J.out.made o).drew
                have sl := fun o o' => S0 _ ((J.out.made o).made o').drew
                have Z1 := (J.out.alloc [.int .u8 (p0.r : Int), .int .u8 (p0.g : Int), .int .u8 (p0.b : Int), .int .u8 (p0.a : Int)] 43).alloc [.int .u8 (p0.r : Int), .int .u8 (p0.g : Int), .int .u8 (p0.b : Int), .int .u8 (p0.a : Int)] 43
                rw [World.size_alloc] at Z1
                have Z2 := Lib.hid (Z1.perm (List.Perm.swap _ _ _)).drew
                replace Z1 := Lib.hid Z1.drew
                go_region_held3 (fun W => ((W.cell? ⟨w.heap.size, 0, none⟩ = some (.int .i64 (a : Int)) ∧ W.cell? ⟨w.heap.size, 1, none⟩ = some (.int .i64 (b : Int)) ∧ W.cell? ⟨w.heap.size, 2, none⟩ = some (.slice (some ⟨bb, off, none⟩) m n)) ∧ (W.cell? ⟨bb, off, none⟩ = some (.int .u8 (p0.r : Int)) ∧ W.cell? ⟨bb, off + 1, none⟩ = some (.int .u8 (p0.g : Int)) ∧ W.cell? ⟨bb, off + 2, none⟩ = some (.int .u8 (p0.b : Int)) ∧ W.cell? ⟨bb, off + 3, none⟩ = some (.int .u8 (p0.a : Int)))))
                  (first
                    | exact sk
                    | exact sj _
                    | exact sl _ _
                    | go_keep)
                  (fail)
                all_goals
                  go_wp2_with fail
                  go_meet
                  first
                    | exact ⟨_, _, rfl, rfl, Z1⟩
                    | exact ⟨_, _, rfl, rfl, Z2⟩
              case rest =>
                obtain ⟨M1, N1, rfl, rfl, HW⟩ := hcut
                clear J
                have G : Hid (HeldX w wc ((M1, [.int .u8 ((loP l 0).r : Int), .int .u8 ((loP l 0).g : Int), .int .u8 ((loP l 0).b : Int), .int .u8 ((loP l 0).a : Int)]) :: (N1, [.int .u8 ((hiP l 0).r : Int), .int .u8 ((hiP l 0).g : Int), .int .u8 ((hiP l 0).b : Int), .int .u8 ((hiP l 0).a : Int)]) :: [(w.heap.size, [.int .i64 (a : Int), .int .i64 (b : Int), .slice (some ⟨bb, off, none⟩) m n])]) (fun V => Pxs V (.slice (some ⟨bb, off, none⟩) m n) l ∧ True)) := by
                  unfold loP hiP
                  rw [HP0.out]
                  exact HW
                clear HW
                have hb1 : bb ≠ M1 := by
                  have := (G.out.held.four (l1 := [])).2.2.2.2.2
                  have := G.out.held.own (M1, [.int .u8 ((loP l 0).r : Int), .int .u8 ((loP l 0).g : Int), .int .u8 ((loP l 0).b : Int), .int .u8 ((loP l 0).a : Int)]) (by simp)
                  simp only at this
                  omega
                have hb2 : bb ≠ N1 := by
                  have := G.out.held.own (N1, [.int .u8 ((hiP l 0).r : Int), .int .u8 ((hiP l 0).g : Int), .int .u8 ((hiP l 0).b : Int), .int .u8 ((hiP l 0).a : Int)]) (by simp)
                  simp only at this
                  omega
                go_wp2_with fail
                go_loopw [9] (fun s9 wr => ∃ i : Nat, i ≤ m ∧ s9 = .int .i64 (i : Int) ∧ Hid (HeldX w wr ((M1, [.int .u8 ((loP l i).r : Int), .int .u8 ((loP l i).g : Int), .int .u8 ((loP l i).b : Int), .int .u8 ((loP l i).a : Int)]) :: (N1, [.int .u8 ((hiP l i).r : Int), .int .u8 ((hiP l i).g : Int), .int .u8 ((hiP l i).b : Int), .int .u8 ((hiP l i).a : Int)]) :: [(w.heap.size, [.int .i64 (a : Int), .int .i64 (b : Int), .slice (some ⟨bb, off, none⟩) m n])]) (fun V => Pxs V (.slice (some ⟨bb, off, none⟩) m n) l ∧ True))) (fun s9 _ => leftN m s9)
                case atStart => exact ⟨0, Nat.zero_le _, rfl, G⟩
                case round =>
                  clear G
                  obtain ⟨i, hi, rfl, HR⟩ := hrel
                  by_cases hlt : i < m
                  · have q1 : (i : Int) < m := by omega
                    have q0 : (0 : Int) ≤ i := by omega
                    obtain ⟨px, hpx⟩ : ∃ px, l[i]? = some px := ⟨_, List.getElem?_eq_getElem (by rw [HL.out]; exact hlt)⟩
                    obtain ⟨c0, c1, c2, c3⟩ := pxs_at4 HR.out.fact.1 hpx
                    obtain ⟨L, hL⟩ : ∃ L, loP l i = L := ⟨_, rfl⟩
                    obtain ⟨H, hH⟩ : ∃ H, hiP l i = H := ⟨_, rfl⟩
                    obtain ⟨L2, hL2, EL⟩ := lo_next (getD_of hpx) hL
                    obtain ⟨H2, hH2, EH⟩ := hi_next (getD_of hpx) hH
                    replace EL := Lib.hid EL
                    replace EH := Lib.hid EH
                    rw [hL, hH] at HR
                    replace hL2 := Lib.hid hL2
                    replace hH2 := Lib.hid hH2
                    have hsz := (HR.out.held.tri (l1 := [_, _])).2.2.2.2
                    have JA := HR.out.set4 (l1 := []) (.int .u8 (min (L.r : Int) (px.r : Int))) (.int .u8 (min (L.g : Int) (px.g : Int))) (.int .u8 (min (L.b : Int) (px.b : Int))) (.int .u8 (min (L.a : Int) (px.a : Int))) ⟨HR.out.fact.1.set4 hb1 _ _ _ _, trivial⟩
                    have JB := Lib.hid ((JA.set4 (l1 := [_]) (.int .u8 (max (H.r : Int) (px.r : Int))) (.int .u8 (max (H.g : Int) (px.g : Int))) (.int .u8 (max (H.b : Int) (px.b : Int))) (.int .u8 (max (H.a : Int) (px.a : Int))) ⟨JA.fact.1.set4 hb2 _ _ _ _, trivial⟩).made (.cells #[.int .u8 (px.r : Int), .int .u8 (px.g : Int), .int .u8 (px.b : Int), .int .u8 (px.a : Int)] 43))
                    obtain ⟨z0, z1, z2, _, zt⟩ := HR.out.held.tri (l1 := [_, _])
                    obtain ⟨l0, l1, l2, l3, lf, lt⟩ := HR.out.held.four (l1 := [])
                    obtain ⟨h0, h1, h2, h3, hf, ht⟩ := HR.out.held.four (l1 := [_])
                    have hMN : M1 ≠ N1 := fun e => by
                      have := HR.out.held.nd
                      simp [e] at this
                    clear hL hH JA hpx
                    go_wp2_with fail
                    go_roundw
                    case rel =>
                      refine ⟨i + 1, by omega, by go_num, ?_⟩
                      rw [hL2.out, hH2.out, ← EL.out.1, ← EL.out.2.1, ← EL.out.2.2.1, ← EL.out.2.2.2, ← EH.out.1, ← EH.out.2.1, ← EH.out.2.2.1, ← EH.out.2.2.2]
                      exact JB
                    case measure =>
                      unfold leftN
                      simp [intOf]
                      omega
                  · obtain rfl : m = i := by omega
                    have q1 : ¬ (m : Int) < m := by omega
                    generalize loP l m = LL at *
                    generalize hiP l m = HH at *
                    have J := HR
                    clear HR
                    obtain ⟨z0, z1, z2, _, zt⟩ := J.out.held.tri (l1 := [_, _])
                    go_wp2_with fail
                    refine (D1 _ _ J.out.fact.1).out.mono ?_
                    rintro e w1 ⟨A1, c1, rfl, hp, hb⟩
                    replace J := Lib.hid ((J.out.step hb).addP hp)
                    clear hb hp z0 z1 z2 zt
                    obtain ⟨z0, z1, z2, _, zt⟩ := J.out.held.tri (l1 := [_, _])
                    go_wp2_with fail
                    clear z0 z1 z2 zt
                    replace J := Lib.hid (J.out.alloc [.int .i64 (p : Int), .int .i64 (q : Int), .slice A1 M c1] 24)
                    generalize w1.alloc (.cells #[.int .i64 (p : Int), .int .i64 (q : Int), .slice A1 M c1] 24) = u1 at *
                    generalize w1.heap.size = k1 at *
                    refine (D2 _ _ J.out.fact.2.1).out.mono ?_
                    rintro e w2 ⟨A2, c2, rfl, hp, hb⟩
                    replace J := Lib.hid ((J.out.step hb).addP hp)
                    clear hb hp
                    obtain ⟨z0, z1, z2, _, zt⟩ := J.out.held.tri (l1 := [])
                    go_wp2_with fail
                    clear z0 z1 z2 zt D1 D2
                    replace J := Lib.hid (J.out.alloc [.int .i64 (p : Int), .int .i64 (q : Int), .slice A2 M c2] 24)
                    generalize w2.alloc (.cells #[.int .i64 (p : Int), .int .i64 (q : Int), .slice A2 M c2] 24) = u2 at *
                    generalize w2.heap.size = k2 at *
                    refine (V1 _ _ J.out.fact.2.1).out.mono ?_
                    rintro e wq ⟨rfl, hb⟩
                    replace J := Lib.hid (J.out.step hb)
                    clear hb
                    obtain ⟨z0, z1, z2, _, zt⟩ := J.out.held.tri (l1 := [])
                    go_wp2_with fail
                    clear z0 z1 z2 zt
                    refine (V2 _ _ J.out.fact.1).out.mono ?_
                    rintro e wq ⟨rfl, hb⟩
                    replace J := Lib.hid (J.out.step hb)
                    clear hb
                    obtain ⟨z0, z1, z2, _, zt⟩ := J.out.held.tri (l1 := [])
                    obtain ⟨y0, y1, y2, _, yt⟩ := J.out.held.tri (l1 := [_])
                    go_wp2_with fail
                    clear z0 z1 z2 zt y0 y1 y2 yt V1 V2
                    obtain ⟨b1, o1, rfl, _, g1, g2⟩ := pxs_some J.out.fact.2.1 (by rw [HN1.out]; exact hMp)
                    obtain ⟨b2, o2, rfl, _, g3, g4⟩ := pxs_some J.out.fact.1 (by rw [HN2.out]; exact hMp)
                    simp only [maxLen] at g2 g4
                    go_loopw [15] (fun s15 wr => ∃ i : Nat, i ≤ M ∧ s15 = .int .i64 (i : Int) ∧ Hid (HeldX w wr [(k2, [.int .i64 (p : Int), .int .i64 (q : Int), .slice (some ⟨b2, o2, none⟩) M c2]), (k1, [.int .i64 (p : Int), .int .i64 (q : Int), .slice (some ⟨b1, o1, none⟩) M c1]), (M1, [.int .u8 (LL.r : Int), .int .u8 (LL.g : Int), .int .u8 (LL.b : Int), .int .u8 (LL.a : Int)]), (N1, [.int .u8 (HH.r : Int), .int .u8 (HH.g : Int), .int .u8 (HH.b : Int), .int .u8 (HH.a : Int)]), (w.heap.size, [.int .i64 (a : Int), .int .i64 (b : Int), .slice (some ⟨bb, off, none⟩) m n])] (fun V => Pxs V (.slice (some ⟨b2, o2, none⟩) M c2) Y ∧ Pxs V (.slice (some ⟨b1, o1, none⟩) M c1) X ∧ Pxs V (.slice (some ⟨bb, off, none⟩) m n) l ∧ True))) (fun s15 _ => leftN M s15)
                    case atStart => exact ⟨0, Nat.zero_le _, rfl, J⟩
                    case round =>
                      clear J
                      obtain ⟨i, hi, rfl, J⟩ := hrel
                      by_cases hlt : i < M
                      · have q1 : (i : Int) < M := by omega
                        have q0 : (0 : Int) ≤ i := by omega
                        obtain ⟨px, hpx⟩ : ∃ px, X[i]? = some px := ⟨_, List.getElem?_eq_getElem (by rw [HN1.out]; exact hlt)⟩
                        obtain ⟨py, hpy⟩ : ∃ py, Y[i]? = some py := ⟨_, List.getElem?_eq_getElem (by rw [HN2.out]; exact hlt)⟩
                        have T1 := (B1 i hlt).out
                        rw [getD_of hpx] at T1
                        have T2 := (B2 i hlt).out
                        rw [getD_of hpy] at T2
                        have C1 := fun W => Lib.hid (between_any T1.1 T1.2 W)
                        have C2 := fun W => Lib.hid (between_any T2.1 T2.2 W)
                        have S0 : ∀ W, HeldX w W [(k2, [.int .i64 (p : Int), .int .i64 (q : Int), .slice (some ⟨b2, o2, none⟩) M c2]), (k1, [.int .i64 (p : Int), .int .i64 (q : Int), .slice (some ⟨b1, o1, none⟩) M c1]), (M1, [.int .u8 (LL.r : Int), .int .u8 (LL.g : Int), .int .u8 (LL.b : Int), .int .u8 (LL.a : Int)]), (N1, [.int .u8 (HH.r : Int), .int .u8 (HH.g : Int), .int .u8 (HH.b : Int), .int .u8 (HH.a : Int)]), (w.heap.size, [.int .i64 (a : Int), .int .i64 (b : Int), .slice (some ⟨bb, off, none⟩) m n])] (fun V => Pxs V (.slice (some ⟨b2, o2, none⟩) M c2) Y ∧ Pxs V (.slice (some ⟨b1, o1, none⟩) M c1) X ∧ Pxs V (.slice (some ⟨bb, off, none⟩) m n) l ∧ True) → ((W.cell? ⟨k2, 0, none⟩ = some (.int .i64 (p : Int)) ∧ W.cell? ⟨k2, 1, none⟩ = some (.int .i64 (q : Int)) ∧ W.cell? ⟨k2, 2, none⟩ = some (.slice (some ⟨b2, o2, none⟩) M c2)) ∧ (W.cell? ⟨k1, 0, none⟩ = some (.int .i64 (p : Int)) ∧ W.cell? ⟨k1, 1, none⟩ = some (.int .i64 (q : Int)) ∧ W.cell? ⟨k1, 2, none⟩ = some (.slice (some ⟨b1, o1, none⟩) M c1)) ∧ (W.cell? ⟨M1, 0, none⟩ = some (.int .u8 (LL.r : Int)) ∧ W.cell? ⟨M1, 1, none⟩ = some (.int .u8 (LL.g : Int)) ∧ W.cell? ⟨M1, 2, none⟩ = some (.int .u8 (LL.b : Int)) ∧ W.cell? ⟨M1, 3, none⟩ = some (.int .u8 (LL.a : Int))) ∧ (W.cell? ⟨N1, 0, none⟩ = some (.int .u8 (HH.r : Int)) ∧ W.cell? ⟨N1, 1, none⟩ = some (.int .u8 (HH.g : Int)) ∧ W.cell? ⟨N1, 2, none⟩ = some (.int .u8 (HH.b : Int)) ∧ W.cell? ⟨N1, 3, none⟩ = some (.int .u8 (HH.a : Int))) ∧ (W.cell? ⟨b2, o2 + i * 4, none⟩ = some (.int .u8 (py.r : Int)) ∧ W.cell? ⟨b2, o2 + i * 4 + 1, none⟩ = some (.int .u8 (py.g : Int)) ∧ W.cell? ⟨b2, o2 + i * 4 + 2, none⟩ = some (.int .u8 (py.b : Int)) ∧ W.cell? ⟨b2, o2 + i * 4 + 3, none⟩ = some (.int .u8 (py.a : Int))) ∧ (W.cell? ⟨b1, o1 + i * 4, none⟩ = some (.int .u8 (px.r : Int)) ∧ W.cell? ⟨b1, o1 + i * 4 + 1, none⟩ = some (.int .u8 (px.g : Int)) ∧ W.cell? ⟨b1, o1 + i * 4 + 2, none⟩ = some (.int .u8 (px.b : Int)) ∧ W.cell? ⟨b1, o1 + i * 4 + 3, none⟩ = some (.int .u8 (px.a : Int)))) := fun W hW =>
                          ⟨hW.held.three (l1 := []), hW.held.three (l1 := [_]), four4 (hW.held.four (l1 := [_, _])), four4 (hW.held.four (l1 := [_, _, _])), pxs_at4 hW.fact.1 hpy, pxs_at4 hW.fact.2.1 hpx⟩
                        clear T1 T2
                        have e1 := E.out.1
                        have e2 := E.out.2
                        go_wp2_with fail
                        clear e1 e2
                        replace J := Lib.hid J.out.drew
                        have sk := S0 _ J.out
                        go_region_held3 (fun W => ((W.cell? ⟨k2, 0, none⟩ = some (.int .i64 (p : Int)) ∧ W.cell? ⟨k2, 1, none⟩ = some (.int .i64 (q : Int)) ∧ W.cell? ⟨k2, 2, none⟩ = some (.slice (some ⟨b2, o2, none⟩) M c2)) ∧ (W.cell? ⟨k1, 0, none⟩ = some (.int .i64 (p : Int)) ∧ W.cell? ⟨k1, 1, none⟩ = some (.int .i64 (q : Int)) ∧ W.cell? ⟨k1, 2, none⟩ = some (.slice (some ⟨b1, o1, none⟩) M c1)) ∧ (W.cell? ⟨M1, 0, none⟩ = some (.int .u8 (LL.r : Int)) ∧ W.cell? ⟨M1, 1, none⟩ = some (.int .u8 (LL.g : Int)) ∧ W.cell? ⟨M1, 2, none⟩ = some (.int .u8 (LL.b : Int)) ∧ W.cell? ⟨M1, 3, none⟩ = some (.int .u8 (LL.a : Int))) ∧ (W.cell? ⟨N1, 0, none⟩ = some (.int .u8 (HH.r : Int)) ∧ W.cell? ⟨N1, 1, none⟩ = some (.int .u8 (HH.g : Int)) ∧ W.cell? ⟨N1, 2, none⟩ = some (.int .u8 (HH.b : Int)) ∧ W.cell? ⟨N1, 3, none⟩ = some (.int .u8 (HH.a : Int))) ∧ (W.cell? ⟨b2, o2 + i * 4, none⟩ = some (.int .u8 (py.r : Int)) ∧ W.cell? ⟨b2, o2 + i * 4 + 1, none⟩ = some (.int .u8 (py.g : Int)) ∧ W.cell? ⟨b2, o2 + i * 4 + 2, none⟩ = some (.int .u8 (py.b : Int)) ∧ W.cell? ⟨b2, o2 + i * 4 + 3, none⟩ = some (.int .u8 (py.a : Int))) ∧ (W.cell? ⟨b1, o1 + i * 4, none⟩ = some (.int .u8 (px.r : Int)) ∧ W.cell? ⟨b1, o1 + i * 4 + 1, none⟩ = some (.int .u8 (px.g : Int)) ∧ W.cell? ⟨b1, o1 + i * 4 + 2, none⟩ = some (.int .u8 (px.b : Int)) ∧ W.cell? ⟨b1, o1 + i * 4 + 3, none⟩ = some (.int .u8 (px.a : Int)))))
                          (first
                            | exact sk
                            | go_keep)
                          (first
                            | (go_at_call 26; (with_reducible refine (C1 _).out.mono ?_); rintro e x1 ⟨rfl, hb⟩; replace J := Lib.hid (J.out.step hb); clear hb sk; have sk := S0 _ J.out)
                            | (go_at_call 26; (with_reducible refine (C2 _).out.mono ?_); rintro e x2 ⟨rfl, hb⟩; replace J := Lib.hid (J.out.step hb); clear hb sk; have sk := S0 _ J.out)
                            | fail)
                        all_goals
                          clear sk S0
                          go_wp2_with fail
                          go_roundw
                          case rel => exact ⟨i + 1, by omega, by go_num, J⟩
                          case measure =>
                            unfold leftN
                            simp [intOf]
                            omega
                      · obtain rfl : M = i := by omega
                        have q1 : ¬ (M : Int) < M := by omega
                        have e1 := E.out.1
                        have e2 := E.out.2
                        go_wp2_with fail
                        clear e1 e2
                        refine (C12 _).out.mono ?_
                        rintro e wq ⟨rfl, hb⟩
                        replace J := Lib.hid (J.out.step hb)
                        clear hb
                        go_wp2_with fail
                        go_ret
                        exact ⟨rfl, J.out.below⟩

end Go.Proofs.Ytnkbejbpkjkgeaa
