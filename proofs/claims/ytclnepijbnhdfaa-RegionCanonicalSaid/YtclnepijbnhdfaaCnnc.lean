/-
  RegionCanonical: the list in another order, with duplicates and divided rectangles; the walk of the law.
-/
import Derived.Test.YtclnepijbnhdfaaAlg
import Derived.Test.YtclnepijbnhdfaaOrd
import Derived.Deep.RegionHeld3
namespace Go.Proofs.Ytclnepijbnhdfaa
open Go.RowKit

theorem setS_nil (l : List R) (x y : Int) : setS orB l [] x y = inL l x y := by simp [setS, inL]

theorem comb_fix {S : Int → Int → Bool} {l : List R} (h : Region S l) (hi : Inside S) : combP orB l [] = l :=
  region_unique ((combP_ok (op := orB) rfl l []).congr fun x y => by rw [setS_nil, region_in h hi]) h

theorem comb_idem {op : Op2} (h0 : op false false = false) (a b : List R) : combP orB (combP op a b) [] = combP op a b :=
  comb_fix (combP_ok h0 a b) (setS_inside h0 a b)

/-- what the law makes of one rectangle: two of it, behind a part of it if the column divides it -/
def othR (cut : Int) (r : R) : List R := if r.x0 < cut ∧ cut < r.x1 then [⟨cut, r.y0, r.x1, r.y1⟩, ⟨r.x0, r.y0, cut, r.y1⟩, ⟨r.x0, r.y0, cut, r.y1⟩] else [r, r]
/-- the other list, of the rectangles from j on -/
def othP (cut : Int) (l : List R) (j : Nat) : List R := (l.drop j).reverse.flatMap (othR cut)

theorem othP_end (cut : Int) {l : List R} {j : Nat} (h : l.length ≤ j) : othP cut l j = [] := by
  unfold othP
  rw [List.drop_eq_nil_of_le h]
  rfl

theorem othP_next {cut : Int} {l : List R} {j : Nat} {r : R} (h : l[j]? = some r) : othP cut l (j + 1) ++ othR cut r = othP cut l j := by
  unfold othP
  rw [drop_at h, List.reverse_cons, List.flatMap_append]
  simp

theorem othR_len (cut : Int) (r : R) : (othR cut r).length ≤ 3 := by
  unfold othR
  split <;> simp

theorem othP_len (cut : Int) (l : List R) : ∀ k j : Nat, j + k = l.length → (othP cut l j).length ≤ 3 * k
  | 0, j, h => by rw [othP_end cut (by omega)]; simp
  | k + 1, j, h => by
    obtain ⟨r, hr⟩ : ∃ r, l[j]? = some r := ⟨_, List.getElem?_eq_getElem (by omega)⟩
    have h1 := othP_len cut l k (j + 1) (by omega)
    have h2 := othR_len cut r
    rw [← othP_next hr, List.length_append]
    omega

/-- the columns of a rectangle lie within the limits -/
def colB (r : R) : Bool := decide (-16384 ≤ r.x0) && decide (r.x1 ≤ 16384)

theorem oth_con {cut : Int} {r : R} (h : colB r = true) (x y : Int) : inL (othR cut r) x y = conB r x y := by
  unfold colB at h
  rw [Bool.and_eq_true, decide_eq_true_eq, decide_eq_true_eq] at h
  rw [Bool.eq_iff_iff, inL_iff, con_iff]
  unfold othR
  split
  · rename_i hc
    simp only [List.mem_cons, List.not_mem_nil, or_false, exists_eq_or_imp, exists_eq_left, con_iff, emp_no]
    omega
  · simp only [List.mem_cons, List.not_mem_nil, or_false, exists_eq_left, or_self, con_iff]

theorem oth_in {cut : Int} {l : List R} (h : l.all colB = true) (x y : Int) : inL (othP cut l 0) x y = inL l x y := by
  rw [Bool.eq_iff_iff, inL_iff, inL_iff]
  unfold othP
  rw [List.drop_zero]
  constructor
  · rintro ⟨q, hq, hc⟩
    obtain ⟨r, hr, hqr⟩ := List.mem_flatMap.1 hq
    have hr := List.mem_reverse.1 hr
    refine ⟨r, hr, ?_⟩
    rw [← oth_con (cut := cut) (List.all_eq_true.1 h r hr)]
    exact (inL_iff _ _ _).2 ⟨q, hqr, hc⟩
  · rintro ⟨r, hr, hc⟩
    rw [← oth_con (cut := cut) (List.all_eq_true.1 h r hr)] at hc
    obtain ⟨q, hq, hqc⟩ := (inL_iff _ _ _).1 hc
    exact ⟨q, List.mem_flatMap.2 ⟨r, List.mem_reverse.2 hr, hq⟩, hqc⟩

/-- what the law compares, of its list l, the other list O and the region L -/
structure Cn (l O L : List R) : Prop where
  comb : combP orB l [] = L
  same : l.all colB = true → combP orB O [] = L ∧ eqP l O = true
  again : combP orB L [] = L
  ord : ∃ bs, L = flatB bs ∧ OrdF bs
  inn : ∀ x y, inL L x y = inL l x y
  equ : eqP L l = true

theorem cn_ok (cut : Int) (l : List R) : Cn l (othP cut l 0) (combP orB l []) := by
  have hin : ∀ x y, inL (combP orB l []) x y = inL l x y := fun x y => by
    rw [comb_in (op := orB) rfl]
    simp [inL]
  exact ⟨rfl, fun h => ⟨((comb_eq_iff _ _).2 fun x y => oth_in h x y), (eqP_iff _ _).2 fun x y => (oth_in h x y).symm⟩, comb_idem rfl l [], region_ord (combP_ok (op := orB) rfl l []), hin, (eqP_iff _ _).2 hin⟩

theorem Four.grown {W W' : World} {row : Option Nat} {k : Nat} {x0 x1 x2 x3 : Value} (h : Four W k x0 x1 x2 x3) (hk : k < W.heap.size) (hg : W.grownBy W' row) (hne : some k ≠ row) : Four W' k x0 x1 x2 x3 :=
  ⟨hg.cell h.1 hne, hg.cell h.2.1 hne, hg.cell h.2.2.1 hne, hg.cell h.2.2.2.1 hne, fun i => (World.frozen?_of_block (w := W) (hg.block k hk hne)).trans (h.2.2.2.2 i)⟩

theorem Four.set2 {W : World} {k : Nat} {x0 x1 x2 x3 : Value} (h : Four W k x0 x1 x2 x3) (y : Value) : Four (W.setCell ⟨k, 2, none⟩ y) k x0 x1 y x3 := by
  obtain ⟨h0, h1, h2, h3, h4⟩ := h
  unfold Four
  simp [go_sem, h0, h1, h2, h3, h4]

set_option maxRecDepth 100000 in
set_option maxHeartbeats 8000000 in
theorem canonical_walk {w : World} {va : Value} {l : List R} (h : Rs w va l) (x y cut : Int) : Calls Try.prog 6 #[va, .agg #[.int .i64 x, .int .i64 y], .int .i64 cut] w (Says true w) := by
  have HL := Lib.hid h
  have K : Hid (Below w.heap.size w (w.alloc (.cells #[.int .i64 x, .int .i64 y] 37))) := Lib.hid ((Below.refl _ _).alloc (Nat.le_refl _) _)
  obtain ⟨A, c, rfl, hc, hm, jk⟩ := h
  obtain ⟨n, hn⟩ : ∃ n, l.length = n := ⟨_, rfl⟩
  have HN := Lib.hid hn
  simp only [maxLen] at hm
  rw [hn] at hc HL ⊢
  clear jk hn
  by_cases h40 : 40 < n
  · have q0 : (40 : Int) < n := by omega
    go_enter Try.func6, Try.ntmps6
    go_wp2_with fail
    refine (example_any _).mono ?_
    rintro e w1 ⟨rfl, hb⟩
    have HB := Lib.hid (Below.next K.out hb)
    clear hb
    go_wp2_with fail
    go_ret
    exact ⟨rfl, HB.out⟩
  have q0 : (n : Int) ≤ 40 := by omega
  have H40 : Hid (n ≤ 40) := Lib.hid (by omega)
  clear h40
  have F := Lib.hid (cn_ok cut l)
  obtain ⟨O, hO⟩ : ∃ O, othP cut l 0 = O := ⟨_, rfl⟩
  obtain ⟨L, hL⟩ : ∃ L, combP orB l [] = L := ⟨_, rfl⟩
  rw [hO, hL] at F
  have HO := Lib.hid hO
  clear hO hL
  obtain ⟨w0, hw0⟩ : ∃ w0, w.alloc (.cells #[.int .i64 x, .int .i64 y] 37) = w0 := ⟨_, rfl⟩
  have P : Hid (w0.cell? ⟨w.heap.size, 0, none⟩ = some (.int .i64 x) ∧ w0.cell? ⟨w.heap.size, 1, none⟩ = some (.int .i64 y) ∧ w.heap.size < w0.heap.size) := Lib.hid (by
    subst hw0
    exact ⟨by rw [World.cell?_alloc_at _ _ _ _ rfl]; rfl, by rw [World.cell?_alloc_at _ _ _ _ rfl]; rfl, by simp⟩)
  have HL0 := Lib.hid (HL.out.below K.out)
  rw [hw0] at K HL0
  have C11 : ∀ W, Below w0.heap.size w0 W → Hid (Calls Try.prog 11 #[.slice A n c] W (Lim L W)) := fun W hW => Lib.hid (by
    have := new_any (HL0.out.below hW) (by have := HN.out; have := H40.out; omega)
    rw [F.out.comb] at this
    exact this)
  have J : Hid (Below w0.heap.size w0 w0) := Lib.hid (Below.refl _ _)
  go_enter Try.func6, Try.ntmps6
  go_wp2_with fail
  refine (C11 _ J.out).out.mono ?_
  rintro e w1 hL1
  obtain ⟨a, rfl, oa, hb1⟩ := hL1
  clear hw0 C11
  obtain ⟨ce, hce⟩ : ∃ cc : Int, (if L.length ≤ 256 then 0 else 5) = cc := ⟨_, rfl⟩
  obtain ⟨M, hM⟩ : ∃ M, (if L.length ≤ 256 then L else []) = M := ⟨_, rfl⟩
  have CL := Lib.hid (code_cases L)
  rw [hM] at oa
  rw [hce]
  rw [hce, hM] at CL
  have RA := Lib.hid oa.rs
  replace J := Lib.hid hb1
  have B1 := Lib.hid hb1
  have HCM := Lib.hid (And.intro hce hM)
  clear hce hM oa hb1
  go_wp2_with fail
  go_loopw [9, 10] (fun s9 s10 wr => ∃ j : Nat, j ≤ n ∧ s10 = .int .i64 ((j : Int) - 1) ∧ Hid (OwnR wr w1.heap.size s9 (othP cut l j) ∧ Below w1.heap.size w1 wr)) (fun _ s10 _ => (intOf s10 + 1).toNat)
  case atStart => exact ⟨n, by omega, by go_num, Lib.hid ⟨by rw [othP_end cut (by rw [HN.out]; omega)]; exact ownR_nil _ _, Below.refl _ _⟩⟩
  case round =>
    obtain ⟨j, hj, rfl, HR⟩ := hrel
    have HLen := Lib.hid (othP_len cut l (n - j) j (by rw [HN.out]; omega))
    obtain ⟨A1, c1, rfl, _, hm1⟩ := (OwnR.rs HR.out.1).shape
    simp only [maxLen] at hm1
    by_cases hlt : 0 < j
    · obtain ⟨i, rfl⟩ : ∃ i, j = i + 1 := ⟨j - 1, by omega⟩
      obtain ⟨r, hr⟩ : ∃ r, l[i]? = some r := ⟨_, List.getElem?_eq_getElem (by rw [HN.out]; omega)⟩
      have HE := Lib.hid (othP_next (cut := cut) hr)
      obtain ⟨A2, c2, e2, _, _, hcell⟩ := HL0.out.below (B1.out.trans (HR.out.2.mono B1.out.size))
      have T : ∃ b off, A = some ⟨b, off, none⟩ ∧ b < wr.heap.size ∧ wr.cell? ⟨b, off + i * 4, none⟩ = some (.int .i64 r.x0) ∧ wr.cell? ⟨b, off + i * 4 + 1, none⟩ = some (.int .i64 r.y0) ∧ wr.cell? ⟨b, off + i * 4 + 2, none⟩ = some (.int .i64 r.x1) ∧ wr.cell? ⟨b, off + i * 4 + 3, none⟩ = some (.int .i64 r.y1) := by
        obtain ⟨b, off, hA, hb, hcs⟩ := hcell (by have := HN.out; omega)
        injection e2 with e2 _ _
        exact ⟨b, off, e2.trans hA, hb, hcs i r hr⟩
      obtain ⟨b, off, rfl, hb, t0, t1, t2, t3⟩ := T
      clear e2 hcell hr
      have q1 : (i : Int) < n := by omega
      have q2 : ((i + 1 : Nat) : Int) - 1 = i := by omega
      rw [q2]
      clear q2
      have HO := HR.out.1
      have HB := HR.out.2
      have hsz := HB.size
      have hl3 := HLen.out
      have key : ¬ (r.x0 < cut ∧ cut < r.x1) → othR cut r = [r, r] := fun hc => if_neg hc
      clear HR
      by_cases hd : r.x0 < cut ∧ cut < r.x1
      · have d1 := hd.1
        have d2 := hd.2
        have HK : Hid (othR cut r = [⟨cut, r.y0, r.x1, r.y1⟩] ++ [⟨r.x0, r.y0, cut, r.y1⟩, ⟨r.x0, r.y0, cut, r.y1⟩]) := Lib.hid (if_pos hd)
        clear hd key
        obtain ⟨wb, hwb⟩ : ∃ wb, wr.alloc (.cells #[.int .i64 r.x0, .int .i64 r.y0, .int .i64 r.x1, .int .i64 r.y1] 32) = wb := ⟨_, rfl⟩
        obtain ⟨kb, hkb⟩ : ∃ kb, wr.heap.size = kb := ⟨_, rfl⟩
        have hwz : wb.heap.size = kb + 1 := by rw [← hwb, ← hkb]; simp
        have R1 := rs_one wb ⟨cut, r.y0, r.x1, r.y1⟩
        have HOb : OwnR wb w1.heap.size (.slice A1 (othP cut l (i + 1)).length c1) (othP cut l (i + 1)) := by rw [← hwb]; exact World.ownsRow.alloc HO _
        have HBb : Below w1.heap.size w1 wb := by rw [← hwb]; exact HB.alloc hsz _
        have F4 := Four.new wr (.int .i64 r.x0) (.int .i64 r.y0) (.int .i64 r.x1) (.int .i64 r.y1) 32
        rw [hwb, hkb] at F4
        rw [hkb] at hsz hb
        have HBL : Hid (some kb ≠ (Value.slice A1 (othP cut l (i + 1)).length c1).ownBlock) := Lib.hid (fun hk => by
          have := (OwnR.block HO kb hk.symm).2
          omega)
        have HWZ := Lib.hid hwz
        have hwz2 : w1.heap.size ≤ wb.heap.size := by omega
        have HF4 := Lib.hid F4
        have ⟨g0, g1, g2, g3, gf⟩ := F4
        clear HO HB F4 hwz
        go_upto_region 12 with (at_builtin; refine wpList_appR rfl _ _ rfl (base := w1.heap.size) (l := othP cut l (i + 1)) (m := [⟨cut, r.y0, r.x1, r.y1⟩]) rfl (World.ownsRow.alloc HOb _) rfl R1 (by simp only [List.length_singleton]; omega) (by simp; omega) ?_; intro v6 w6 ho6 hg6 hl6 _; clear g0 g1 g2 g3 gf; have ⟨g0, g1, g2, g3, gf⟩ := (HF4.out.alloc (by have := HWZ.out; omega) _).grown (by have := HWZ.out; simp; omega) hg6 HBL.out)
        have hb6 := (below_grown0 (HBb.alloc hwz2 _) (by simp; omega) (Nat.le_refl _) (World.ownsRow.alloc HOb _) hg6).setCell (p := ⟨kb, 2, none⟩) hsz (.int .i64 cut)
        have ho7 : OwnR (w6.setCell ⟨kb, 2, none⟩ (.int .i64 cut)) w1.heap.size v6 (othP cut l (i + 1) ++ [⟨cut, r.y0, r.x1, r.y1⟩]) := owns_far ho6 (fun e => by
          rcases hl6 with hh | hh
          · exact HBL.out (e.symm.trans hh)
          · have h3 := e.symm.trans hh
            have := HWZ.out
            simp at h3
            omega) _ _
        have F6 : Four w6 kb (.int .i64 r.x0) (.int .i64 r.y0) (.int .i64 r.x1) (.int .i64 r.y1) := ⟨g0, g1, g2, g3, gf⟩
        have F7 := Four.set2 F6 (.int .i64 cut)
        clear F6
        generalize w6.setCell ⟨kb, 2, none⟩ (.int .i64 cut) = w7 at *
        have hs7 := hb6.size
        obtain ⟨A3, c3, rfl, hc3, hm3⟩ := (OwnR.rs ho7).shape
        have R2 := rs_two w7 ⟨r.x0, r.y0, cut, r.y1⟩ ⟨r.x0, r.y0, cut, r.y1⟩
        simp only [maxLen] at hm3
        have hln : (othP cut l (i + 1) ++ ([⟨cut, r.y0, r.x1, r.y1⟩] : List R)).length ≤ 400 := by simp only [List.length_append, List.length_singleton]; omega
        have HSum : Hid (othP cut l (i + 1) ++ [⟨cut, r.y0, r.x1, r.y1⟩] ++ [⟨r.x0, r.y0, cut, r.y1⟩, ⟨r.x0, r.y0, cut, r.y1⟩] = othP cut l i) := Lib.hid (by rw [List.append_assoc, ← HK.out, HE.out])
        clear g0 g1 g2 g3 gf ho6 hg6 hl6 R1 HOb HBb hwz2 HF4 HK HE
        generalize othP cut l (i + 1) ++ [⟨cut, r.y0, r.x1, r.y1⟩] = acc at *
        have ⟨g0, g1, g2, g3, gf⟩ := F7
        clear F7
        go_wp2_with (at_builtin; refine wpList_appR rfl _ _ rfl (base := w1.heap.size) (l := acc) (m := [⟨r.x0, r.y0, cut, r.y1⟩, ⟨r.x0, r.y0, cut, r.y1⟩]) rfl (World.ownsRow.alloc ho7 _) rfl R2 (by simp only [List.length_cons, List.length_nil]; omega) (by simp; omega) ?_; intro v9 w9 ho9 hg9 hl9 _; have hb9 := below_grown0 (hb6.alloc hs7 _) (by simp; omega) (Nat.le_refl _) (World.ownsRow.alloc ho7 _) hg9)
        rw [HSum.out] at ho9
        have HR9 := Lib.hid (And.intro ho9 hb9)
        clear g0 g1 g2 g3 gf ho7 hb6 R2 ho9 hb9 hg9 hl9 HSum hln hc3 hm3
        go_wp2_with fail
        go_roundw
        case rel => exact ⟨i, by omega, (by first | rfl | go_num), HR9⟩
        case measure => first | (simp [intOf]; done) | (simp [intOf]; omega)
      · have hk := key hd
        have HE2 : Hid (othP cut l (i + 1) ++ [r, r] = othP cut l i) := Lib.hid (by rw [← hk, HE.out])
        have R2 := rs_two (wr.alloc (.cells #[.int .i64 r.x0, .int .i64 r.y0, .int .i64 r.x1, .int .i64 r.y1] 32)) r r
        have hwz : (wr.alloc (.cells #[.int .i64 r.x0, .int .i64 r.y0, .int .i64 r.x1, .int .i64 r.y1] 32)).heap.size = wr.heap.size + 1 := by simp
        rw [hwz] at R2
        clear hk key HE
        by_cases d1 : r.x0 < cut
        · have d2 : ¬ cut < r.x1 := fun h => hd ⟨d1, h⟩
          clear hd
          go_wp2_with (at_builtin; refine wpList_appR rfl _ _ rfl (base := w1.heap.size) (l := othP cut l (i + 1)) (m := [r, r]) rfl (World.ownsRow.alloc (World.ownsRow.alloc HO _) _) rfl R2 (by simp only [List.length_cons, List.length_nil]; omega) (by simp; omega) ?_; intro v9 w9 ho9 hg9 hl9 _; have hb9 := below_grown0 ((HB.alloc hsz _).alloc (by simp; omega) _) (by simp; omega) (Nat.le_refl _) (World.ownsRow.alloc (World.ownsRow.alloc HO _) _) hg9)
          rw [HE2.out] at ho9
          have HR9 := Lib.hid (And.intro ho9 hb9)
          clear R2 ho9 hb9 hg9 hl9 HE2 t0 t1 t2 t3 HO HB
          go_wp2_with fail
          go_roundw
          case rel => exact ⟨i, by omega, (by first | rfl | go_num), HR9⟩
          case measure => first | (simp [intOf]; done) | (simp [intOf]; omega)
        · clear hd
          go_wp2_with (at_builtin; refine wpList_appR rfl _ _ rfl (base := w1.heap.size) (l := othP cut l (i + 1)) (m := [r, r]) rfl (World.ownsRow.alloc (World.ownsRow.alloc HO _) _) rfl R2 (by simp only [List.length_cons, List.length_nil]; omega) (by simp; omega) ?_; intro v9 w9 ho9 hg9 hl9 _; have hb9 := below_grown0 ((HB.alloc hsz _).alloc (by simp; omega) _) (by simp; omega) (Nat.le_refl _) (World.ownsRow.alloc (World.ownsRow.alloc HO _) _) hg9)
          rw [HE2.out] at ho9
          have HR9 := Lib.hid (And.intro ho9 hb9)
          clear R2 ho9 hb9 hg9 hl9 HE2 t0 t1 t2 t3 HO HB
          go_wp2_with fail
          go_roundw
          case rel => exact ⟨i, by omega, (by first | rfl | go_num), HR9⟩
          case measure => first | (simp [intOf]; done) | (simp [intOf]; omega)
    · rename World => wu
      obtain rfl : j = 0 := by omega
      rw [HO.out] at HR HLen ⊢
      have RO := Lib.hid (OwnR.rs HR.out.1)
      have B2 := Lib.hid HR.out.2
      have HOL : Hid (O.length ≤ 120) := Lib.hid (by have := HLen.out; have := H40.out; omega)
      clear HR HLen hlt hj HO
      obtain ⟨no, hno⟩ : ∃ no, O.length = no := ⟨_, rfl⟩
      rw [hno] at RO HOL ⊢
      have HNO := Lib.hid hno
      clear hno hm1
      have qm : ((0 : Nat) : Int) - 1 = -1 := rfl
      rw [qm]
      clear qm
      go_wp2_with fail
      go_loopw [12, 68] (fun s12 s68 wx => ∃ k : Nat, k ≤ n ∧ s12 = .bool ((l.take k).all colB) ∧ s68 = .int .i64 (k : Int) ∧ Hid (Below wu.heap.size wu wx)) (fun _ s68 _ => n - (intOf s68).toNat)
      case atStart => exact ⟨0, by omega, by simp, rfl, Lib.hid (Below.refl _ _)⟩
      case round =>
        obtain ⟨k, hk, rfl, rfl, HB⟩ := hrel
        by_cases hlt : k < n
        · obtain ⟨r, hr⟩ : ∃ r, l[k]? = some r := ⟨_, List.getElem?_eq_getElem (by rw [HN.out]; omega)⟩
          have HT : Hid ((l.take (k + 1)).all colB = ((l.take k).all colB && colB r)) := Lib.hid (by rw [List.take_add_one, hr]; simp)
          have hbx : Below w0.heap.size w0 wr := (B1.out.trans (B2.out.mono B1.out.size)).trans (HB.out.mono (by have := B1.out.size; have := B2.out.size; omega))
          obtain ⟨A2, c2, e2, _, _, hcell⟩ := HL0.out.below hbx
          have T : ∃ b off, A = some ⟨b, off, none⟩ ∧ b < wr.heap.size ∧ wr.cell? ⟨b, off + k * 4, none⟩ = some (.int .i64 r.x0) ∧ wr.cell? ⟨b, off + k * 4 + 1, none⟩ = some (.int .i64 r.y0) ∧ wr.cell? ⟨b, off + k * 4 + 2, none⟩ = some (.int .i64 r.x1) ∧ wr.cell? ⟨b, off + k * 4 + 3, none⟩ = some (.int .i64 r.y1) := by
            obtain ⟨b, off, hA, hb, hcs⟩ := hcell (by have := HN.out; omega)
            injection e2 with e2 _ _
            exact ⟨b, off, e2.trans hA, hb, hcs k r hr⟩
          obtain ⟨b, off, rfl, _, t0, t1, t2, t3⟩ := T
          have q1 : (k : Int) < n := by omega
          clear e2 hcell hr hbx t1 t3
          generalize (l.take k).all colB = v at *
          have hcb : colB r = (decide (-16384 ≤ r.x0) && decide (r.x1 ≤ 16384)) := rfl
          cases v
          · have HT2 : Hid ((l.take (k + 1)).all colB = false) := Lib.hid (by rw [HT.out]; rfl)
            clear HT hcb t0 t2
            go_wp2_with fail
            go_roundw
            case rel => exact ⟨k + 1, by omega, by rw [HT2.out], by go_num, HB⟩
            case measure => simp [intOf]; omega
          · by_cases d1 : -16384 ≤ r.x0
            · by_cases d2 : r.x1 ≤ 16384
              · have HT2 : Hid ((l.take (k + 1)).all colB = true) := Lib.hid (by rw [HT.out, hcb, decide_eq_true d1, decide_eq_true d2]; rfl)
                clear HT hcb
                go_wp2_with fail
                clear t0 t2
                go_roundw
                case rel => exact ⟨k + 1, by omega, by rw [HT2.out], by go_num, HB⟩
                case measure => simp [intOf]; omega
              · have HT2 : Hid ((l.take (k + 1)).all colB = false) := Lib.hid (by rw [HT.out, hcb, decide_eq_true d1, decide_eq_false d2]; rfl)
                clear HT hcb
                go_wp2_with fail
                clear t0 t2
                go_roundw
                case rel => exact ⟨k + 1, by omega, by rw [HT2.out], by go_num, HB⟩
                case measure => simp [intOf]; omega
            · have HT2 : Hid ((l.take (k + 1)).all colB = false) := Lib.hid (by rw [HT.out, hcb, decide_eq_false d1]; rfl)
              clear HT hcb
              go_wp2_with fail
              clear t0 t2
              go_roundw
              case rel => exact ⟨k + 1, by omega, by rw [HT2.out], by go_num, HB⟩
              case measure => simp [intOf]; omega
        · obtain rfl : k = n := by omega
          have q1 : ¬ (k : Int) < k := by omega
          rw [List.take_of_length_le (by rw [HN.out]; omega)]
          clear hlt hk
          have BJ : Below w1.heap.size w1 wr := B2.out.trans (HB.out.mono B2.out.size)
          replace J := Lib.hid (B1.out.trans (BJ.mono B1.out.size))
          replace RA := Lib.hid (RA.out.below BJ)
          replace RO := Lib.hid (RO.out.below HB.out)
          have RL := Lib.hid (HL0.out.below J.out)
          have PC : Hid (wr.cell? ⟨w.heap.size, 0, none⟩ = some (.int .i64 x) ∧ wr.cell? ⟨w.heap.size, 1, none⟩ = some (.int .i64 y)) := Lib.hid ⟨(J.out.cell (p := ⟨w.heap.size, 0, none⟩) P.out.2.2).trans P.out.1, (J.out.cell (p := ⟨w.heap.size, 1, none⟩) P.out.2.2).trans P.out.2.1⟩
          have HPB : Hid (w.heap.size < wr.heap.size) := Lib.hid (Nat.lt_of_lt_of_le P.out.2.2 J.out.size)
          have KW := Lib.hid (K.out.trans (J.out.mono K.out.size))
          clear HB BJ HL0 HL J P K B1 B2
          have J : Hid (Below wr.heap.size wr wr) := Lib.hid (Below.refl _ _)
          obtain ⟨v, hv⟩ : ∃ v, l.all colB = v := ⟨_, rfl⟩
          rw [hv]
          have HV := Lib.hid hv
          clear hv
          have CO : Hid (Calls Try.prog 11 #[.slice A1 no c1] wr fun e w' => ∃ t cc M3, e = .returned (.tuple #[t, .int .i64 cc]) ∧ Rs w' t M3 ∧ Below wr.heap.size wr w' ∧ (v = true → cc = ce ∧ M3 = M)) := Lib.hid ((new_any RO.out (by have := HOL.out; have := HNO.out; omega)).mono fun e w' hh => by
            cases v
            · obtain ⟨t, rfl, ho, hb⟩ := hh
              exact ⟨t, _, _, rfl, ho.rs, hb, fun h => by cases h⟩
            · rw [(F.out.same HV.out).1] at hh
              obtain ⟨t, rfl, ho, hb⟩ := lim_at HCM.out.1 HCM.out.2 hh
              exact ⟨t, ce, M, rfl, ho, hb, fun _ => ⟨rfl, rfl⟩⟩)
          go_wp2_with fail
          refine CO.out.mono ?_
          rintro e w3 ⟨t3, cc3, M3, rfl, r3, hb3, h3⟩
          replace J := Lib.hid hb3
          have R3 := Lib.hid r3
          have H3 := Lib.hid h3
          clear r3 hb3 h3 CO
          go_upto_region 20 with (fail)
          go_cut [111] (fun s111 wx => s111 = .bool false ∧ Hid (Below wr.heap.size wr wx))
          case first =>
            cases v
            · go_wp2_with fail
              go_meet
              exact ⟨rfl, J⟩
            · obtain ⟨e1, e2⟩ := H3.out rfl
              subst e1 e2
              have C13 := Lib.hid (same_true (RA.out.below J.out) R3.out)
              have C28 : ∀ W, Below wr.heap.size wr W → Hid (Calls Try.prog 28 #[.slice A k c, .slice A1 no c1] W fun e w' => e = .returned (.bool true) ∧ Below W.heap.size W w') := fun W hW => Lib.hid (by
                have := equals_any (RL.out.below hW) (RO.out.below hW) (by have := HOL.out; have := HNO.out; have := HN.out; have := H40.out; omega)
                rw [(F.out.same HV.out).2] at this
                exact this)
              go_wp2_with fail
              refine C13.out.mono ?_
              rintro e w4 ⟨rfl, hb4⟩
              replace J := Lib.hid (Below.next J.out hb4)
              clear hb4 C13
              go_wp2_with fail
              refine (C28 _ J.out).out.mono ?_
              rintro e w5 ⟨rfl, hb5⟩
              replace J := Lib.hid (Below.next J.out hb5)
              clear hb5
              go_wp2_with fail
              go_meet
              exact ⟨rfl, J⟩
          case rest =>
            clear J
            obtain ⟨rfl, J⟩ := hcut
            rcases CL.out with ⟨e1, e1', l1⟩ | ⟨e1, e1'⟩
            rotate_left 1
            · subst e1 e1'
              obtain ⟨A2, c2, rfl, _, _⟩ := RA.out.shape
              simp only [List.length_nil]
              clear CL F RA R3 H3 HCM
              go_wp2_with fail
              refine (example_any _).mono ?_
              rintro e w6 ⟨rfl, hb6⟩
              replace J := Lib.hid (Below.next J.out hb6)
              clear hb6
              go_wp2_with fail
              go_ret
              exact ⟨rfl, KW.out.trans (J.out.mono KW.out.size)⟩
            · subst e1 e1'
              obtain ⟨bs, hbs, hord⟩ := F.out.ord
              have HLL := Lib.hid l1
              have HBS := Lib.hid hbs
              have HORD := Lib.hid hord
              obtain ⟨bx, hbx⟩ : ∃ bx, inL l x y = bx := ⟨_, rfl⟩
              have HBX := Lib.hid hbx
              obtain ⟨A2, c2, rfl, _, _⟩ := RA.out.shape
              obtain ⟨nl, hnl⟩ : ∃ nl, M.length = nl := ⟨_, rfl⟩
              rw [hnl] at RA ⊢
              have l2 : (nl : Int) ≤ 256 := by omega
              clear CL R3 H3 HCM l1 hbs hord hbx
              have C11 : Hid (Calls Try.prog 11 #[.slice A2 nl c2] wc fun e w' => ∃ t, e = .returned (.tuple #[t, .int .i64 0]) ∧ Rs w' t M ∧ Below wc.heap.size wc w') := Lib.hid (by
                have := new_any (RA.out.below J.out) (by have := HLL.out; omega)
                rw [F.out.again] at this
                exact this.mono fun e w' hh => lim_ok hh HLL.out)
              go_wp2_with fail
              refine C11.out.mono ?_
              rintro e w6 ⟨t6, rfl, r6, hb6⟩
              replace J := Lib.hid (Below.next J.out hb6)
              clear hb6 C11
              obtain ⟨A6, c6, rfl, _, _⟩ := r6.shape
              rw [hnl]
              have KW6 := Lib.hid (KW.out.trans (J.out.mono KW.out.size))
              have R6 := Lib.hid r6
              rw [hnl] at R6
              have RA6 := Lib.hid (RA.out.below J.out)
              have RL6 := Lib.hid (RL.out.below J.out)
              have CELL : ∀ W, Below w6.heap.size w6 W → Hid (W.cell? ⟨w.heap.size, 0, none⟩ = some (.int .i64 x) ∧ W.cell? ⟨w.heap.size, 1, none⟩ = some (.int .i64 y)) := fun W hW => Lib.hid (by
                have h6 := J.out.trans (hW.mono J.out.size)
                exact ⟨(h6.cell (p := ⟨w.heap.size, 0, none⟩) HPB.out).trans PC.out.1, (h6.cell (p := ⟨w.heap.size, 1, none⟩) HPB.out).trans PC.out.2⟩)
              have C13 : ∀ W, Below w6.heap.size w6 W → Hid (Calls Try.prog 13 #[.slice A2 nl c2, .slice A6 nl c6] W fun e w' => e = .returned (.bool true) ∧ Below W.heap.size W w') := fun W hW => Lib.hid (same_true (RA6.out.below hW) (R6.out.below hW))
              have C32 : ∀ W, Below w6.heap.size w6 W → Hid (Calls Try.prog 32 #[.slice A2 nl c2] W fun e w' => e = .returned (.bool true) ∧ Below W.heap.size W w') := fun W hW => Lib.hid (ordered_any (bs := bs) (by rw [← HBS.out]; exact RA6.out.below hW) HORD.out (by rw [← HBS.out]; have := HLL.out; omega))
              have C14 : ∀ W, Below w6.heap.size w6 W → Hid (Calls Try.prog 14 #[.slice A2 nl c2] W fun e w' => e = .returned (.bool true) ∧ Below W.heap.size W w') := fun W hW => Lib.hid (by
                have := iscan_any (RA6.out.below hW) (by have := HLL.out; omega)
                unfold isCanP at this
                rw [F.out.again, sameL_refl, decide_eq_true HLL.out] at this
                exact this)
              have C16a : ∀ W, Below w6.heap.size w6 W → Hid (Calls Try.prog 16 #[.slice A2 nl c2, .int .i64 x, .int .i64 y] W fun e w' => e = .returned (.bool bx) ∧ Below W.heap.size W w') := fun W hW => Lib.hid (by
                have := incl_any (RA6.out.below hW) x y
                rw [F.out.inn, HBX.out] at this
                exact this)
              have C16l : ∀ W, Below w6.heap.size w6 W → Hid (Calls Try.prog 16 #[.slice A k c, .int .i64 x, .int .i64 y] W fun e w' => e = .returned (.bool bx) ∧ Below W.heap.size W w') := fun W hW => Lib.hid (by
                have := incl_any (RL6.out.below hW) x y
                rw [HBX.out] at this
                exact this)
              have C28 : ∀ W, Below w6.heap.size w6 W → Hid (Calls Try.prog 28 #[.slice A2 nl c2, .slice A k c] W fun e w' => e = .returned (.bool true) ∧ Below W.heap.size W w') := fun W hW => Lib.hid (by
                have := equals_any (RA6.out.below hW) (RL6.out.below hW) (by have := HLL.out; have := HN.out; have := H40.out; omega)
                rw [F.out.equ] at this
                exact this)
              have C10 : ∀ W, Below w6.heap.size w6 W → Hid (Calls Try.prog 10 #[] W fun e w' => e = .returned (.bool true) ∧ Below W.heap.size W w') := fun W _ => Lib.hid (example_any W)
              clear J RA RL PC HPB R6 RA6 RL6 F HLL HBS HORD HBX r6 KW hnl HNO HOL RO HV H40 HN hc
              have J : Hid (Below w6.heap.size w6 w6.drew) := Lib.hid (Below.refl _ _).drew
              have sk := (CELL _ J.out).out
              go_wp2_with fail
              have hbb : (bx == bx) = true := beq_self_eq_true bx
              go_region_held3 (fun W => W.cell? ⟨w.heap.size, 0, none⟩ = some (.int .i64 x) ∧ W.cell? ⟨w.heap.size, 1, none⟩ = some (.int .i64 y))
                (first
                  | exact sk
                  | go_keep)
                (first
                  | (go_at_call 13; (with_reducible refine (C13 _ J.out).out.mono ?_); rintro e wq ⟨rfl, hbq⟩; replace J := Lib.hid (Below.next J.out hbq); (try clear sk); have sk := (CELL _ J.out).out; clear hbq)
                  | (go_at_call 32; (with_reducible refine (C32 _ J.out).out.mono ?_); rintro e wq ⟨rfl, hbq⟩; replace J := Lib.hid (Below.next J.out hbq); (try clear sk); have sk := (CELL _ J.out).out; clear hbq)
                  | (go_at_call 14; (with_reducible refine (C14 _ J.out).out.mono ?_); rintro e wq ⟨rfl, hbq⟩; replace J := Lib.hid (Below.next J.out hbq); (try clear sk); have sk := (CELL _ J.out).out; clear hbq)
                  | (go_at_call 16; (with_reducible refine (C16a _ J.out).out.mono ?_); rintro e wq ⟨rfl, hbq⟩; replace J := Lib.hid (Below.next J.out hbq); (try clear sk); have sk := (CELL _ J.out).out; clear hbq)
                  | (go_at_call 16; (with_reducible refine (C16l _ J.out).out.mono ?_); rintro e wq ⟨rfl, hbq⟩; replace J := Lib.hid (Below.next J.out hbq); (try clear sk); have sk := (CELL _ J.out).out; clear hbq)
                  | (go_at_call 28; (with_reducible refine (C28 _ J.out).out.mono ?_); rintro e wq ⟨rfl, hbq⟩; replace J := Lib.hid (Below.next J.out hbq); (try clear sk); have sk := (CELL _ J.out).out; clear hbq)
                  | (go_at_call 10; (with_reducible refine (C10 _ J.out).out.mono ?_); rintro e wq ⟨rfl, hbq⟩; replace J := Lib.hid (Below.next J.out hbq); (try clear sk); have sk := (CELL _ J.out).out; clear hbq)
                  | fail)
              all_goals
                go_wp2_with fail
                go_ret
                exact ⟨rfl, KW6.out.trans (J.out.mono KW6.out.size)⟩

end Go.Proofs.Ytclnepijbnhdfaa
