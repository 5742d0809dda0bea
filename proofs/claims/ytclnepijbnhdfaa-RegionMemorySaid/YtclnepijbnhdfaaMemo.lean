/-
  RegionMemory: the walk of the law.
-/
import Derived.Test.YtclnepijbnhdfaaLaws
namespace Go.Proofs.Ytclnepijbnhdfaa
open Go.RowKit

/-- the three results that the law overwrites: three rows of one's own, none the other's -/
structure MemI (w0 W : World) (tu tv tx : Value) (nu nv nx : Nat) : Prop where
  below : Below w0.heap.size w0 W
  u : ∃ l : List R, W.ownsRow w0.heap.size 32 4 tu nu (flat l) ∧ l.length = nu
  v : ∃ l : List R, W.ownsRow w0.heap.size 32 4 tv nv (flat l) ∧ l.length = nv
  x : ∃ l : List R, W.ownsRow w0.heap.size 32 4 tx nx (flat l) ∧ l.length = nx
  uv : ∀ k, tu.ownBlock = some k → tv.ownBlock ≠ some k
  ux : ∀ k, tu.ownBlock = some k → tx.ownBlock ≠ some k
  vx : ∀ k, tv.ownBlock = some k → tx.ownBlock ≠ some k

theorem MemI.setU {w0 W : World} {g cap nu nv nx j : Nat} {tv tx : Value} (h : MemI w0 W (.slice (some ⟨g, 0, none⟩) nu cap) tv tx nu nv nx) (hj : j < nu) :
    MemI w0 (W.setCell ⟨g, j * 4, none⟩ (.int .i64 7)) (.slice (some ⟨g, 0, none⟩) nu cap) tv tx nu nv nx := by
  obtain ⟨h0, ⟨l, ho, hl⟩, ⟨lv, hv, hlv⟩, ⟨lx, hx, hlx⟩, h4, h5, h6⟩ := h
  obtain ⟨r, hr⟩ : ∃ r, l[j]? = some r := ⟨_, List.getElem?_eq_getElem (by omega)⟩
  exact ⟨h0.setCell (own_blk ho g rfl).1 _, ⟨_, OwnR.set_x0 ho hr 7, by simpa using hl⟩, ⟨lv, owns_far hv (h4 g rfl) _ _, hlv⟩, ⟨lx, owns_far hx (h5 g rfl) _ _, hlx⟩, h4, h5, h6⟩

theorem MemI.setV {w0 W : World} {g cap nu nv nx j : Nat} {tu tx : Value} (h : MemI w0 W tu (.slice (some ⟨g, 0, none⟩) nv cap) tx nu nv nx) (hj : j < nv) :
    MemI w0 (W.setCell ⟨g, j * 4, none⟩ (.int .i64 7)) tu (.slice (some ⟨g, 0, none⟩) nv cap) tx nu nv nx := by
  obtain ⟨h0, ⟨l, ho, hl⟩, ⟨lv, hv, hlv⟩, ⟨lx, hx, hlx⟩, h4, h5, h6⟩ := h
  obtain ⟨r, hr⟩ : ∃ r, lv[j]? = some r := ⟨_, List.getElem?_eq_getElem (by omega)⟩
  exact ⟨h0.setCell (own_blk hv g rfl).1 _, ⟨l, owns_far ho (fun e => h4 g e rfl) _ _, hl⟩, ⟨_, OwnR.set_x0 hv hr 7, by simpa using hlv⟩, ⟨lx, owns_far hx (h6 g rfl) _ _, hlx⟩, h4, h5, h6⟩

theorem MemI.setW {w0 W : World} {g cap nu nv nx j : Nat} {tu tv : Value} (h : MemI w0 W tu tv (.slice (some ⟨g, 0, none⟩) nx cap) nu nv nx) (hj : j < nx) :
    MemI w0 (W.setCell ⟨g, j * 4, none⟩ (.int .i64 7)) tu tv (.slice (some ⟨g, 0, none⟩) nx cap) nu nv nx := by
  obtain ⟨h0, ⟨l, ho, hl⟩, ⟨lv, hv, hlv⟩, ⟨lx, hx, hlx⟩, h4, h5, h6⟩ := h
  obtain ⟨r, hr⟩ : ∃ r, lx[j]? = some r := ⟨_, List.getElem?_eq_getElem (by omega)⟩
  exact ⟨h0.setCell (own_blk hx g rfl).1 _, ⟨l, owns_far ho (fun e => h5 g e rfl) _ _, hl⟩, ⟨lv, owns_far hv (fun e => h6 g e rfl) _ _, hlv⟩, ⟨_, OwnR.set_x0 hx hr 7, by simpa using hlx⟩, h4, h5, h6⟩

/-- three rows that were made one after the other -/
theorem memI_mk {w0 w1 w2 w3 : World} {tu tv tx : Value} {lu lv lx : List R} (b1 : Below w0.heap.size w0 w1) (b2 : Below w1.heap.size w1 w2) (b3 : Below w2.heap.size w2 w3)
    (hu : OwnR w1 w0.heap.size tu lu) (hv : OwnR w2 w1.heap.size tv lv) (hx : OwnR w3 w2.heap.size tx lx) : MemI w0 w3 tu tv tx lu.length lv.length lx.length := by
  have s1 := b1.size
  have s2 := b2.size
  have s3 := b3.size
  refine ⟨(b1.trans (b2.mono s1)).trans (b3.mono (by omega)), ⟨lu, own_below (own_below hu b2) b3, rfl⟩, ⟨lv, own_weaken (own_below hv b3) s1, rfl⟩, ⟨lx, own_weaken hx (by omega), rfl⟩, ?_, ?_, ?_⟩
  · intro k hk e
    have := hu.block k hk
    have := hv.block k e
    omega
  · intro k hk e
    have := hu.block k hk
    have := hx.block k e
    omega
  · intro k hk e
    have := hv.block k hk
    have := hx.block k e
    omega

theorem lim_own {L : List R} {w w' : World} {e : Ending} (h : Lim L w e w') : ∃ t cc M, e = .returned (.tuple #[t, .int .i64 cc]) ∧ OwnR w' w.heap.size t M ∧ Below w.heap.size w w' := by
  obtain ⟨t, rfl, ho, hb⟩ := h
  exact ⟨t, _, _, rfl, ho, hb⟩

set_option maxRecDepth 100000 in
set_option maxHeartbeats 8000000 in
theorem memory_walk {w : World} {va vb : Value} {a b : List R} (ha : Rs w va a) (hb : Rs w vb b) : Calls Try.prog 9 #[va, vb] w (Says true w) := by
  have HA := Lib.hid ha
  have HB := Lib.hid hb
  have K : Hid (Below w.heap.size w w) := Lib.hid (Below.refl _ _)
  obtain ⟨A, ca, rfl, hca, hma, jk1⟩ := ha
  obtain ⟨B, cb, rfl, hcb, hmb, jk2⟩ := hb
  obtain ⟨n, hn⟩ : ∃ n, a.length = n := ⟨_, rfl⟩
  obtain ⟨m, hm⟩ : ∃ m, b.length = m := ⟨_, rfl⟩
  have HN : Hid (a.length = n ∧ b.length = m) := Lib.hid ⟨hn, hm⟩
  simp only [maxLen] at hma hmb
  rw [hn] at hca HA ⊢
  rw [hm] at hcb HB ⊢
  clear jk1 jk2 hn hm
  by_cases h1 : 20 < n
  · have q0 : (20 : Int) < n := by omega
    go_enter Try.func9, Try.ntmps9
    go_wp2_with fail
    refine (example_any _).mono ?_
    rintro e w1 ⟨rfl, hb⟩
    have HB := Lib.hid (Below.next K.out hb)
    clear hb
    go_wp2_with fail
    go_ret
    exact ⟨rfl, HB.out⟩
  by_cases h2 : 20 < m
  · have q0 : (n : Int) ≤ 20 := by omega
    have q1 : (20 : Int) < m := by omega
    go_enter Try.func9, Try.ntmps9
    go_wp2_with fail
    refine (example_any _).mono ?_
    rintro e w1 ⟨rfl, hb⟩
    have HB := Lib.hid (Below.next K.out hb)
    clear hb
    go_wp2_with fail
    go_ret
    exact ⟨rfl, HB.out⟩
  have q0 : (n : Int) ≤ 20 := by omega
  have q1 : (m : Int) ≤ 20 := by omega
  have H30 : Hid (a.length ≤ 20 ∧ b.length ≤ 20) := Lib.hid (by have := HN.out; omega)
  clear h1 h2
  go_enter Try.func9, Try.ntmps9
  have O1 := World.ownsRow_made (e := 32) (base := w.heap.size) w #[] 0 (size := 4) (Nat.le_refl _) (by simp [maxLen]) rfl
  go_wp2_with (first
    | (at_builtin; refine wpList_appR rfl _ _ rfl (base := w.heap.size) (l := []) (m := a) rfl O1 rfl (HA.out.below ((Below.refl _ _).alloc (Nat.le_refl _) _)) (by simp only [List.length_nil]; have := H30.out; omega) (by simp) ?_; intro tx w1 ho1 hg1 hl1 _; have hb1 := below_grown0 ((Below.refl _ w).alloc (Nat.le_refl _) _) (by simp) (Nat.le_refl _) O1 hg1)
    | (at_builtin; have O2 := World.ownsRow_made (e := 32) (base := w1.heap.size) w1 #[] 0 (size := 4) (Nat.le_refl _) (by simp [maxLen]) rfl; refine wpList_appR rfl _ _ rfl (base := w1.heap.size) (l := []) (m := b) rfl O2 rfl (HB.out.below (hb1.alloc hb1.size _)) (by simp only [List.length_nil]; have := H30.out; omega) (by simp) ?_; intro ty w0 ho2 hg2 hl2 _; have hb2 := below_grown0 ((Below.refl _ w1).alloc (Nat.le_refl _) _) (by simp) (Nat.le_refl _) O2 hg2; clear O2))
  rw [List.nil_append] at ho1 ho2
  have B0 := Lib.hid (hb1.trans (hb2.mono hb1.size))
  have HX := Lib.hid (ho1.rs.below hb2)
  have HY := Lib.hid ho2.rs
  replace HA := Lib.hid (HA.out.below B0.out)
  replace HB := Lib.hid (HB.out.below B0.out)
  clear O1 ho1 hg1 hl1 hb1 ho2 hg2 hl2 hb2 K
  obtain ⟨cU, hcU⟩ : ∃ cc, (if (combP (fun x y => x || y) a b).length ≤ 256 then 0 else 5 : Int) = cc := ⟨_, rfl⟩
  obtain ⟨MU, hMU⟩ : ∃ M, (if (combP (fun x y => x || y) a b).length ≤ 256 then (combP (fun x y => x || y) a b) else []) = M := ⟨_, rfl⟩
  have C22 : ∀ W, Below w0.heap.size w0 W → Hid (Calls Try.prog 22 #[.slice A n ca, .slice B m cb] W fun e w' => ∃ t, e = .returned (.tuple #[t, .int .i64 cU]) ∧ Rs w' t MU ∧ Below W.heap.size W w') := fun W hW => Lib.hid ((union_any (HA.out.below hW) (HB.out.below hW) (by have := HN.out; omega)).mono fun e w' hh => lim_at hcU hMU hh)
  have C23 : ∀ W, Below w0.heap.size w0 W → Hid (Calls Try.prog 22 #[tx, ty] W fun e w' => ∃ t, e = .returned (.tuple #[t, .int .i64 cU]) ∧ Rs w' t MU ∧ Below W.heap.size W w') := fun W hW => Lib.hid ((union_any (HX.out.below hW) (HY.out.below hW) (by have := HN.out; omega)).mono fun e w' hh => lim_at hcU hMU hh)
  clear hcU hMU hca hcb hma hmb
  go_wp2_with fail
  refine (union_any HA.out HB.out (by have := HN.out; omega)).mono ?_
  rintro e w1 hL
  obtain ⟨tu, cc1, lu, rfl, ou, hb1⟩ := lim_own hL
  have OU := Lib.hid ou
  have B1 := Lib.hid hb1
  clear hL ou hb1
  go_wp2_with fail
  refine (new_any (HA.out.below B1.out) (by have := HN.out; omega)).mono ?_
  rintro e w2 hL
  obtain ⟨tv, cc2, lv, rfl, ov, hb2⟩ := lim_own hL
  have OV := Lib.hid ov
  have B2 := Lib.hid hb2
  clear hL ov hb2
  go_wp2_with fail
  refine (transl_any (HB.out.below (B1.out.trans (B2.out.mono B1.out.size))) (by have := HN.out; omega) 0 0).mono ?_
  rintro e w3 hL
  obtain ⟨tw, cc3, lw, rfl, ow, hb3⟩ := lim_own hL
  have HM := Lib.hid (memI_mk B1.out B2.out hb3 OU.out OV.out ow)
  obtain ⟨Au, cu, rfl, hu1, hu2⟩ := OU.out.rs.shape
  obtain ⟨Av, cv, rfl, hv1, hv2⟩ := OV.out.rs.shape
  obtain ⟨Aw, cw, rfl, hw1, hw2⟩ := ow.rs.shape
  clear OU OV ow hL hb3 B1 B2
  generalize lu.length = nu at *
  generalize lv.length = nv at *
  generalize lw.length = nw at *
  simp only [maxLen] at hu2 hv2 hw2
  go_wp2_with fail
  go_loopw [53] (fun k wr => ∃ j : Nat, j ≤ nu ∧ k = .int .i64 (j : Int) ∧ Hid (MemI w0 wr (.slice Au nu cu) (.slice Av nv cv) (.slice Aw nw cw) nu nv nw)) (fun k _ => nu - (intOf k).toNat)
  case atStart => exact ⟨0, by omega, rfl, HM⟩
  case round =>
    clear HM
    obtain ⟨j, hj, rfl, HM⟩ := hrel
    by_cases hlt : j < nu
    · obtain ⟨l, ho, hl⟩ := HM.out.u
      obtain ⟨g, cap, hv, _, hgl, _, _⟩ := owns_shape ho (by omega)
      injection hv with e1 e2 e3
      subst e1 e3
      clear e2
      obtain ⟨r, hr⟩ : ∃ r, l[j]? = some r := ⟨_, List.getElem?_eq_getElem (by omega)⟩
      obtain ⟨⟨c0, _, _, _⟩, cf⟩ := OwnR.cells ho hr
      have q0 : (j : Int) < nu := by omega
      have q1 : (0 : Int) ≤ j := by omega
      have HS := Lib.hid (HM.out.setU hlt)
      clear ho hl hr HM
      go_wp2_with fail
      clear c0 cf
      go_roundw
      case rel => exact ⟨j + 1, by omega, by go_num, HS⟩
      case measure => simp [intOf]; omega
    · have q0 : (nu : Int) ≤ j := by omega
      clear hlt
      go_wp2_with fail
      go_loopw [63] (fun k wr => ∃ j : Nat, j ≤ nv ∧ k = .int .i64 (j : Int) ∧ Hid (MemI w0 wr (.slice Au nu cu) (.slice Av nv cv) (.slice Aw nw cw) nu nv nw)) (fun k _ => nv - (intOf k).toNat)
      case atStart => exact ⟨0, by omega, rfl, HM⟩
      case round =>
        clear HM
        obtain ⟨j, hj, rfl, HM⟩ := hrel
        by_cases hlt : j < nv
        · obtain ⟨l, ho, hl⟩ := HM.out.v
          obtain ⟨g, cap, hv, _, hgl, _, _⟩ := owns_shape ho (by omega)
          injection hv with e1 e2 e3
          subst e1 e3
          clear e2
          obtain ⟨r, hr⟩ : ∃ r, l[j]? = some r := ⟨_, List.getElem?_eq_getElem (by omega)⟩
          obtain ⟨⟨c0, _, _, _⟩, cf⟩ := OwnR.cells ho hr
          have q0 : (j : Int) < nv := by omega
          have q1 : (0 : Int) ≤ j := by omega
          have HS := Lib.hid (HM.out.setV hlt)
          clear ho hl hr HM
          go_wp2_with fail
          clear c0 cf
          go_roundw
          case rel => exact ⟨j + 1, by omega, by go_num, HS⟩
          case measure => simp [intOf]; omega
        · have q0 : (nv : Int) ≤ j := by omega
          clear hlt
          go_wp2_with fail
          go_loopw [73] (fun k wr => ∃ j : Nat, j ≤ nw ∧ k = .int .i64 (j : Int) ∧ Hid (MemI w0 wr (.slice Au nu cu) (.slice Av nv cv) (.slice Aw nw cw) nu nv nw)) (fun k _ => nw - (intOf k).toNat)
          case atStart => exact ⟨0, by omega, rfl, HM⟩
          case round =>
            clear HM
            obtain ⟨j, hj, rfl, HM⟩ := hrel
            by_cases hlt : j < nw
            · obtain ⟨l, ho, hl⟩ := HM.out.x
              obtain ⟨g, cap, hv, _, hgl, _, _⟩ := owns_shape ho (by omega)
              injection hv with e1 e2 e3
              subst e1 e3
              clear e2
              obtain ⟨r, hr⟩ : ∃ r, l[j]? = some r := ⟨_, List.getElem?_eq_getElem (by omega)⟩
              obtain ⟨⟨c0, _, _, _⟩, cf⟩ := OwnR.cells ho hr
              have q0 : (j : Int) < nw := by omega
              have q1 : (0 : Int) ≤ j := by omega
              have HS := Lib.hid (HM.out.setW hlt)
              clear ho hl hr HM
              go_wp2_with fail
              clear c0 cf
              go_roundw
              case rel => exact ⟨j + 1, by omega, by go_num, HS⟩
              case measure => simp [intOf]; omega
            · have q0 : (nw : Int) ≤ j := by omega
              clear hlt
              go_wp2_with fail
              refine (C22 _ HM.out.below).out.mono ?_
              rintro e w7 ⟨t7, rfl, r7, hb7⟩
              have K := Lib.hid (Below.next HM.out.below hb7)
              have R7 := Lib.hid r7
              clear r7 hb7 HM
              go_wp2_with fail
              refine (C23 _ K.out).out.mono ?_
              rintro e w8 ⟨t8, rfl, r8, hb8⟩
              replace K := Lib.hid (Below.next K.out hb8)
              have S3 := Lib.hid (same_true (R7.out.below hb8) r8)
              have S1 : ∀ W, Below w0.heap.size w0 W → Hid _ := fun W hW => Lib.hid (same_true (HA.out.below hW) (HX.out.below hW))
              have S2 : ∀ W, Below w0.heap.size w0 W → Hid _ := fun W hW => Lib.hid (same_true (HB.out.below hW) (HY.out.below hW))
              replace R7 := Lib.hid (R7.out.below hb8)
              have R8 := Lib.hid r8
              clear r8 hb8
              go_wp2_with fail
              refine (S1 _ K.out).out.mono ?_
              rintro e w9 ⟨rfl, hb9⟩
              replace K := Lib.hid (Below.next K.out hb9)
              replace R7 := Lib.hid (R7.out.below hb9)
              replace R8 := Lib.hid (R8.out.below hb9)
              clear hb9
              go_wp2_with fail
              refine (S2 _ K.out).out.mono ?_
              rintro e w10 ⟨rfl, hb10⟩
              replace K := Lib.hid (Below.next K.out hb10)
              replace R7 := Lib.hid (R7.out.below hb10)
              replace R8 := Lib.hid (R8.out.below hb10)
              clear hb10
              go_wp2_with fail
              refine (same_true R7.out R8.out).mono ?_
              rintro e w11 ⟨rfl, hb11⟩
              replace K := Lib.hid (Below.next K.out hb11)
              clear hb11
              go_wp2_with fail
              refine (example_any _).mono ?_
              rintro e w12 ⟨rfl, hb12⟩
              replace K := Lib.hid (Below.next K.out hb12)
              clear hb12
              go_wp2_with fail
              go_ret
              exact ⟨rfl, B0.out.trans (K.out.mono B0.out.size)⟩


end Go.Proofs.Ytclnepijbnhdfaa
