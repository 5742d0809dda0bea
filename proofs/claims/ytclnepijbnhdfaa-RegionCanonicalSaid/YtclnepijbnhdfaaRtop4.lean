/-
  Translate of the reference.
-/
import Derived.Test.YtclnepijbnhdfaaRtop3
import Derived.Test.YtclnepijbnhdfaaUni
namespace Go.Proofs.Ytclnepijbnhdfaa
open Go.RowKit

/-- a number held to the border -/
def midI (n : Int) : Int := max (-16384) (min 16384 n)
/-- a distance held to four borders -/
def farI (n : Int) : Int := max (-65536) (min 65536 n)
def mvR (dx dy : Int) (r : R) : R := ⟨midI (r.x0 + dx), midI (r.y0 + dy), midI (r.x1 + dx), midI (r.y1 + dy)⟩
/-- the rectangles with points, moved -/
def mvL (dx dy : Int) : List R → List R
  | [] => []
  | r :: l => if empB r then mvL dx dy l else mvR dx dy r :: mvL dx dy l

theorem mvL_len (dx dy : Int) : ∀ l, (mvL dx dy l).length ≤ l.length
  | [] => Nat.le_refl _
  | r :: l => by
    have := mvL_len dx dy l
    unfold mvL
    split
    · simp only [List.length_cons]; omega
    · simp only [List.length_cons]; omega

set_option maxRecDepth 100000 in
set_option maxHeartbeats 8000000 in
theorem rtrans_any {w : World} {v : Value} {l : List R} (h : Rs w v l) (hl : l.length ≤ 500) (x y : Int) :
    Calls Try.prog 31 #[v, .int .i64 x, .int .i64 y] w (Lim (combP orB (mvL (farI x) (farI y) l) []) w) := by
  obtain ⟨A, c, rfl, hc, hm, hcell⟩ := h
  simp only [maxLen] at hm
  have HC := Lib.hid hcell
  obtain ⟨len, hn⟩ : ∃ len, l.length = len := ⟨_, rfl⟩
  have HN := Lib.hid hn
  rw [hn] at hc hl ⊢
  obtain ⟨X, hX⟩ : ∃ X, farI x = X := ⟨_, rfl⟩
  obtain ⟨Y, hY⟩ : ∃ Y, farI y = Y := ⟨_, rfl⟩
  have hxb : -65536 ≤ X ∧ X ≤ 65536 := by unfold farI at hX; omega
  have hyb : -65536 ≤ Y ∧ Y ≤ 65536 := by unfold farI at hY; omega
  obtain ⟨res, hres⟩ : ∃ res, mvL X Y l = res := ⟨_, rfl⟩
  have HRES := Lib.hid hres
  have HRL : Hid (res.length ≤ 500) := Lib.hid (by have := mvL_len X Y l; rw [hres] at this; omega)
  rw [hX, hY, hres]
  unfold farI at hX hY
  clear hcell hn hres
  go_enter Try.func31, Try.ntmps31
  go_wp2_with fail
  try rw [hX]
  try rw [hY]
  clear hX hY
  go_loopw [8, 9] (fun u k wr => ∃ (j : Nat) (acc : List R), j ≤ len ∧ k = .int .i64 (j : Int) ∧ Hid (OwnR wr w.heap.size u acc ∧ Below w.heap.size w wr ∧ acc ++ mvL X Y (l.drop j) = res)) (fun _ k _ => len - (intOf k).toNat)
  case atStart => exact ⟨0, [], by omega, rfl, ownR_nil _ _, Below.refl _ _, HRES.out⟩
  case round =>
    obtain ⟨j, acc, hj, rfl, hrel⟩ := hrel
    have HB := Lib.hid hrel.out.2.1
    have HO := Lib.hid hrel.out.1
    have HAL : Hid (acc.length ≤ 500) := Lib.hid (by have h1 := HRL.out; rw [← hrel.out.2.2, List.length_append] at h1; omega)
    by_cases hlt : j < len
    · obtain ⟨r, hr⟩ : ∃ r, l[j]? = some r := ⟨_, List.getElem?_eq_getElem (by rw [HN.out]; exact hlt)⟩
      obtain ⟨b, off, rfl, hb, hcs⟩ := HC.out (by rw [HN.out]; omega)
      have T := Lib.hid (hcs j r hr)
      have HR : Hid (acc ++ mvL X Y (r :: l.drop (j + 1)) = res) := Lib.hid (by rw [← hrel.out.2.2, drop_at hr])
      have q0 : (j : Int) < len := by omega
      have q1 : (0 : Int) ≤ j := by omega
      have hbr : b < wr.heap.size := Nat.lt_of_lt_of_le hb HB.out.size
      have t0 := (HB.out.cell (p := ⟨b, off + j * 4, none⟩) hb).trans T.out.1
      have t1 := (HB.out.cell (p := ⟨b, off + j * 4 + 1, none⟩) hb).trans T.out.2.1
      have t2 := (HB.out.cell (p := ⟨b, off + j * 4 + 2, none⟩) hb).trans T.out.2.2.1
      have t3 := (HB.out.cell (p := ⟨b, off + j * 4 + 3, none⟩) hb).trans T.out.2.2.2
      have C1 := fun W => Lib.hid (usable_any r W)
      obtain ⟨A2, c2, rfl, hc2, hm2, _⟩ := id (OwnR.rs HO.out)
      simp only [maxLen] at hm2
      clear hr hcs hrel
      cases he : empB r
      · have hbd := (emp_no r).1 he
        rw [he] at C1
        have HR2 : Hid ((acc ++ [mvR X Y r]) ++ mvL X Y (l.drop (j + 1)) = res) := Lib.hid (by rw [← HR.out, mvL, he]; simp)
        have f0 := IntWalk.i64_in (n := r.x0 + X) (by omega)
        have f1 := IntWalk.i64_in (n := r.y0 + Y) (by omega)
        have f2 := IntWalk.i64_in (n := r.x1 + X) (by omega)
        have f3 := IntWalk.i64_in (n := r.y1 + Y) (by omega)
        have M0 := fun W => Lib.hid (within_any (r.x0 + X) W)
        have M1 := fun W => Lib.hid (within_any (r.y0 + Y) W)
        have M2 := fun W => Lib.hid (within_any (r.x1 + X) W)
        have M3 := fun W => Lib.hid (within_any (r.y1 + Y) W)
        obtain ⟨mr, hmr⟩ : ∃ mr, mvR X Y r = mr := ⟨_, rfl⟩
        have e0 : max (-16384) (min 16384 (r.x0 + X)) = mr.x0 := by rw [← hmr]; rfl
        have e1 : max (-16384) (min 16384 (r.y0 + Y)) = mr.y0 := by rw [← hmr]; rfl
        have e2 : max (-16384) (min 16384 (r.x1 + X)) = mr.x1 := by rw [← hmr]; rfl
        have e3 : max (-16384) (min 16384 (r.y1 + Y)) = mr.y1 := by rw [← hmr]; rfl
        rw [e0] at M0
        rw [e1] at M1
        rw [e2] at M2
        rw [e3] at M3
        rw [hmr] at HR2
        clear e0 e1 e2 e3 hmr he hbd HR
        go_wp2_with fail
        refine (C1 _).out.mono ?_
        rintro e w1 ⟨rfl, hb1⟩
        have HB1 := Lib.hid (HB.out.trans (hb1.mono HB.out.size))
        have HO1 := Lib.hid (show OwnR w1 _ _ _ from own_below HO.out hb1)
        replace t0 := (hb1.cell (p := ⟨b, off + j * 4, none⟩) hbr).trans t0
        replace t1 := (hb1.cell (p := ⟨b, off + j * 4 + 1, none⟩) hbr).trans t1
        replace t2 := (hb1.cell (p := ⟨b, off + j * 4 + 2, none⟩) hbr).trans t2
        replace t3 := (hb1.cell (p := ⟨b, off + j * 4 + 3, none⟩) hbr).trans t3
        have HO1' := HO1.out
        have HAL' := HAL.out
        have hszw := HB1.out.size
        clear hb1 C1 HO HB
        go_wp2_with fail
        have s1 := And.intro t0 (And.intro t1 (And.intro t2 t3))
        go_region_held3 (fun W => W.cell? ⟨b, off + j * 4, none⟩ = some (.int .i64 r.x0) ∧ W.cell? ⟨b, off + j * 4 + 1, none⟩ = some (.int .i64 r.y0) ∧ W.cell? ⟨b, off + j * 4 + 2, none⟩ = some (.int .i64 r.x1) ∧ W.cell? ⟨b, off + j * 4 + 3, none⟩ = some (.int .i64 r.y1))
          (first
            | go_keep
            | exact s1)
          (first
            | (go_at_call 49; (with_reducible refine (M0 _).out.mono ?_); rintro e wz ⟨rfl, rfl⟩)
            | (go_at_call 49; (with_reducible refine (M1 _).out.mono ?_); rintro e wz ⟨rfl, rfl⟩)
            | (go_at_call 49; (with_reducible refine (M2 _).out.mono ?_); rintro e wz ⟨rfl, rfl⟩)
            | (go_at_call 49; (with_reducible refine (M3 _).out.mono ?_); rintro e wz ⟨rfl, rfl⟩)
            | (refine step_appR (by rfl) _ _ (by rfl) (base := w.heap.size) (l := acc) (m := [mr]) (by rfl) (World.ownsRow.drew (World.ownsRow.alloc HO1' _)) (by rfl) (rs_one w1 mr).drew (by simp only [List.length_singleton]; omega) (by simp; omega) ?_; intro v8 w8 ho8 hg8 hl8 _; have hbb8 := below_grown0 (HB1.out.alloc hszw _).drew (by simp; omega) (Nat.le_refl _) ((World.ownsRow.alloc HO1' _).drew) hg8; have s1 := And.intro ((hbb8.cell (p := ⟨b, off + j * 4, none⟩) hb).trans T.out.1) (And.intro ((hbb8.cell (p := ⟨b, off + j * 4 + 1, none⟩) hb).trans T.out.2.1) (And.intro ((hbb8.cell (p := ⟨b, off + j * 4 + 2, none⟩) hb).trans T.out.2.2.1) ((hbb8.cell (p := ⟨b, off + j * 4 + 3, none⟩) hb).trans T.out.2.2.2)))))
        have HO8 := Lib.hid ho8
        have HB8 := Lib.hid hbb8
        clear f0 f1 f2 f3 s1 ho8 hbb8 hg8 hl8 t0 t1 t2 t3 HO1' HO1 M0 M1 M2 M3
        go_wp2_with fail
        go_roundw
        case rel => exact ⟨j + 1, acc ++ [mr], by omega, by go_num, HO8.out, HB8.out, HR2.out⟩
        case measure => simp [intOf]; omega
      · rw [he] at C1
        have HR2 : Hid (acc ++ mvL X Y (l.drop (j + 1)) = res) := Lib.hid (by rw [← HR.out, mvL, he]; rfl)
        clear he HR t0 t1 t2 t3
        have t0 := (HB.out.cell (p := ⟨b, off + j * 4, none⟩) hb).trans T.out.1
        have t1 := (HB.out.cell (p := ⟨b, off + j * 4 + 1, none⟩) hb).trans T.out.2.1
        have t2 := (HB.out.cell (p := ⟨b, off + j * 4 + 2, none⟩) hb).trans T.out.2.2.1
        have t3 := (HB.out.cell (p := ⟨b, off + j * 4 + 3, none⟩) hb).trans T.out.2.2.2
        go_wp2_with fail
        refine (C1 _).out.mono ?_
        rintro e w1 ⟨rfl, hb1⟩
        have HB1 := Lib.hid (HB.out.trans (hb1.mono HB.out.size))
        have HO1 := Lib.hid (show OwnR w1 _ _ _ from own_below HO.out hb1)
        clear hb1 C1 t0 t1 t2 t3 HO HB
        go_wp2_with fail
        go_roundw
        case rel => exact ⟨j + 1, acc, by omega, by go_num, HO1.out, HB1.out, HR2.out⟩
        case measure => simp [intOf]; omega
    · have q0 : (len : Int) ≤ (j : Int) := by omega
      have e : acc = res := by
        rw [← hrel.out.2.2, List.drop_eq_nil_of_le (by rw [HN.out]; omega)]
        simp [mvL]
      subst e
      have C := Lib.hid (combined_any HO.out.rs (rs_nil wr) (mode := 1) (op := orB) (.inl ⟨rfl, rfl⟩) (by simpa using HRL.out))
      obtain ⟨A2, c2, rfl, _, _, _⟩ := id (OwnR.rs HO.out)
      generalize combP orB acc [] = L at *
      clear hrel HRES HRL HAL HO
      go_wp2_with fail
      refine C.out.mono ?_
      rintro e w1 ⟨t, rfl, ho, hb⟩
      obtain ⟨t2, ht2⟩ : ∃ t2, (if L.length ≤ 256 then t else .slice none 0 0) = t2 := ⟨_, rfl⟩
      obtain ⟨c2, hc2⟩ : ∃ c2 : Int, (if L.length ≤ 256 then 0 else 5) = c2 := ⟨_, rfl⟩
      have D := Lib.hid (limited_any ho.rs)
      have HO := Lib.hid (lim_mk (w := w) (own_weaken ho HB.out.size) (HB.out.trans (hb.mono HB.out.size)))
      rw [ht2, hc2] at D HO
      clear C ho ht2 hc2
      go_wp2_with fail
      refine D.out.mono ?_
      rintro e w2 ⟨rfl, rfl⟩
      clear D
      go_wp2_with fail
      go_ret2
      exact HO.out

end Go.Proofs.Ytclnepijbnhdfaa
