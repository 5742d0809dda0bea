/-
  IsCanonical, Equal, Contains, Area of the reference.
-/
import Derived.Test.YtclnepijbnhdfaaRtop
import Derived.Test.YtclnepijbnhdfaaSame2
namespace Go.Proofs.Ytclnepijbnhdfaa
open Go.RowKit

abbrev orB : Op2 := fun x y => x || y

/-- whether a list is its own canonical region and not too long -/
def isCanP (a : List R) : Bool := decide (a.length ≤ 256) && sameL a (combP orB a [])

set_option maxRecDepth 100000 in
set_option maxHeartbeats 2000000 in
theorem riscan_any {w : World} {va : Value} {a : List R} (h : Rs w va a) (hl : a.length ≤ 500) : Calls Try.prog 15 #[va] w fun e w' => e = .returned (.bool (isCanP a)) ∧ Below w.heap.size w w' := by
  have C := Lib.hid (combined_any h (rs_nil w) (mode := 1) (op := orB) (.inl ⟨rfl, rfl⟩) (by simpa using hl))
  have HA := Lib.hid h
  obtain ⟨A, c, rfl, hc, hm, _⟩ := h
  simp only [maxLen] at hm
  obtain ⟨n, hn⟩ : ∃ n, a.length = n := ⟨_, rfl⟩
  obtain ⟨r, hr⟩ : ∃ r, isCanP a = r := ⟨_, rfl⟩
  rw [hr]
  unfold isCanP at hr
  rw [hn] at hr C HA hc ⊢
  generalize combP orB a [] = L at *
  by_cases h1 : n ≤ 256
  · have q0 : (n : Int) ≤ 256 := by omega
    have e : sameL a L = r := by rw [← hr]; simp [h1]
    have HE := Lib.hid e
    clear hr hn e
    go_enter Try.func15, Try.ntmps15
    go_wp2_with fail
    refine C.out.mono ?_
    rintro e w1 ⟨t, rfl, ho, hb⟩
    have D : Hid (Calls Try.prog 13 #[.slice A n c, t] w1 fun e w' => e = .returned (.bool r) ∧ Below w1.heap.size w1 w') := Lib.hid (by rw [← HE.out]; exact same_any (HA.out.below hb) ho.rs)
    have HB := Lib.hid hb
    clear C ho hb
    go_wp2_with fail
    refine D.out.mono ?_
    rintro e w2 ⟨rfl, hb2⟩
    clear D
    cases r
    · go_wp2_with fail
      go_ret
      exact ⟨rfl, HB.out.trans (hb2.mono HB.out.size)⟩
    · go_wp2_with fail
      go_ret
      exact ⟨rfl, HB.out.trans (hb2.mono HB.out.size)⟩
  · have q0 : (256 : Int) < n := by omega
    have e : false = r := by rw [← hr]; simp [h1]
    subst e
    clear hr hn C
    go_enter Try.func15, Try.ntmps15
    go_wp2_with fail
    go_ret
    exact ⟨rfl, Below.refl _ _⟩

set_option maxRecDepth 100000 in
set_option maxHeartbeats 2000000 in
theorem requal_any {w : World} {va vb : Value} {a b : List R} (h : Rs w va a) (hu : Rs w vb b) (hl : a.length ≤ 500 ∧ b.length ≤ 500) : Calls Try.prog 29 #[va, vb] w fun e w' => e = .returned (.bool (sameL (combP orB a []) (combP orB b []))) ∧ Below w.heap.size w w' := by
  have C := Lib.hid (combined_any h (rs_nil w) (mode := 1) (op := orB) (.inl ⟨rfl, rfl⟩) (by simpa using hl.1))
  have HB := Lib.hid hu
  obtain ⟨A, c, rfl, _, _, _⟩ := h
  obtain ⟨A', c', rfl, _, _, _⟩ := hu
  have hl2 := hl.2
  obtain ⟨r, hr⟩ : ∃ r, sameL (combP orB a []) (combP orB b []) = r := ⟨_, rfl⟩
  have HR := Lib.hid hr
  rw [hr]
  clear hr
  go_enter Try.func29, Try.ntmps29
  go_wp2_with fail
  refine C.out.mono ?_
  rintro e w1 ⟨t, rfl, ho, hb⟩
  have C2 := Lib.hid (combined_any (HB.out.below hb) (rs_nil w1) (mode := 1) (op := orB) (.inl ⟨rfl, rfl⟩) (by simpa using hl2))
  have HO := Lib.hid ho.rs
  have HBB := Lib.hid hb
  clear C ho hb
  go_wp2_with fail
  refine C2.out.mono ?_
  rintro e w2 ⟨t2, rfl, ho2, hb2⟩
  have D := Lib.hid (same_any (HO.out.below hb2) ho2.rs)
  rw [HR.out] at D
  replace HBB := Lib.hid (HBB.out.trans (hb2.mono HBB.out.size))
  clear C2 ho2 hb2
  go_wp2_with fail
  refine D.out.mono ?_
  rintro e w3 ⟨rfl, hb3⟩
  clear D
  go_wp2_with fail
  go_ret
  exact ⟨rfl, HBB.out.trans (hb3.mono HBB.out.size)⟩

set_option maxRecDepth 100000 in
set_option maxHeartbeats 4000000 in
theorem rcontains_any {w : World} {v : Value} {l : List R} (h : Rs w v l) (x y : Int) :
    Calls Try.prog 17 #[v, .int .i64 x, .int .i64 y] w fun e w' => e = .returned (.bool (inL l x y)) ∧ Below w.heap.size w w' := by
  obtain ⟨A, c, rfl, hc, hm, hcell⟩ := h
  simp only [maxLen] at hm
  have HC := Lib.hid hcell
  obtain ⟨len, hn⟩ : ∃ len, l.length = len := ⟨_, rfl⟩
  have HN := Lib.hid hn
  rw [hn] at hc ⊢
  obtain ⟨res, hres⟩ : ∃ res, inL l x y = res := ⟨_, rfl⟩
  have HRES := Lib.hid hres
  rw [hres]
  clear hcell hn hres
  go_enter Try.func17, Try.ntmps17
  go_wp2_with fail
  go_loopw [7] (fun k wr => ∃ (j : Nat), j ≤ len ∧ k = .int .i64 (j : Int) ∧ Hid (Below w.heap.size w wr ∧ inL (l.drop j) x y = res)) (fun k _ => len - (intOf k).toNat)
  case atStart => exact ⟨0, by omega, rfl, Below.refl _ _, HRES.out⟩
  case round =>
    obtain ⟨j, hj, rfl, hrel⟩ := hrel
    have HB := Lib.hid hrel.out.1
    by_cases hlt : j < len
    · obtain ⟨r, hr⟩ : ∃ r, l[j]? = some r := ⟨_, List.getElem?_eq_getElem (by rw [HN.out]; exact hlt)⟩
      obtain ⟨b, off, rfl, hb, hcs⟩ := HC.out (by rw [HN.out]; omega)
      have T := Lib.hid (hcs j r hr)
      have HR : Hid ((conB r x y || inL (l.drop (j + 1)) x y) = res) := Lib.hid (by rw [← hrel.out.2, drop_at hr]; rfl)
      have q0 : (j : Int) < len := by omega
      have q1 : (0 : Int) ≤ j := by omega
      have hbr : b < wr.heap.size := Nat.lt_of_lt_of_le hb HB.out.size
      have t0 := (HB.out.cell (p := ⟨b, off + j * 4, none⟩) hb).trans T.out.1
      have t1 := (HB.out.cell (p := ⟨b, off + j * 4 + 1, none⟩) hb).trans T.out.2.1
      have t2 := (HB.out.cell (p := ⟨b, off + j * 4 + 2, none⟩) hb).trans T.out.2.2.1
      have t3 := (HB.out.cell (p := ⟨b, off + j * 4 + 3, none⟩) hb).trans T.out.2.2.2
      have C1 := fun W => Lib.hid (usable_any r W)
      clear hr hcs hrel
      have HCB := Lib.hid (con_emp r x y)
      cases he : empB r
      · rw [he] at C1 HCB
        clear he
        go_wp2_with fail
        refine (C1 _).out.mono ?_
        rintro e w1 ⟨rfl, hb1⟩
        replace t0 := (hb1.cell (p := ⟨b, off + j * 4, none⟩) hbr).trans t0
        replace t1 := (hb1.cell (p := ⟨b, off + j * 4 + 1, none⟩) hbr).trans t1
        replace t2 := (hb1.cell (p := ⟨b, off + j * 4 + 2, none⟩) hbr).trans t2
        replace t3 := (hb1.cell (p := ⟨b, off + j * 4 + 3, none⟩) hbr).trans t3
        have HB1 := Lib.hid (HB.out.trans (hb1.mono HB.out.size))
        clear hb1 C1
        by_cases h1 : r.x0 ≤ x <;> by_cases h2 : x < r.x1 <;> by_cases h3 : r.y0 ≤ y <;> by_cases h4 : y < r.y1
        case pos =>
          have e : res = true := by rw [← HR.out, HCB.out]; simp [h1, h2, h3, h4]
          clear HR HCB
          subst e
          go_wp2_with fail
          go_ret
          exact ⟨rfl, HB1.out⟩
        all_goals
          have HE : Hid (inL (l.drop (j + 1)) x y = res) := Lib.hid (by rw [← HR.out, HCB.out]; simp [h1, h2, h3, h4])
          clear HR HCB
          simp only [Int.not_le, Int.not_lt] at h1 h2 h3 h4
          go_wp2_with fail
          go_roundw
          case rel => exact ⟨j + 1, by omega, by go_num, Lib.hid ⟨HB1.out, HE.out⟩⟩
          case measure => simp [intOf]; omega
      · rw [he] at C1 HCB
        clear he
        have HE : Hid (inL (l.drop (j + 1)) x y = res) := Lib.hid (by rw [← HR.out, HCB.out]; simp)
        clear HR HCB
        go_wp2_with fail
        refine (C1 _).out.mono ?_
        rintro e w1 ⟨rfl, hb1⟩
        have HB1 := Lib.hid (HB.out.trans (hb1.mono HB.out.size))
        clear hb1 C1 t0 t1 t2 t3
        go_wp2_with fail
        go_roundw
        case rel => exact ⟨j + 1, by omega, by go_num, Lib.hid ⟨HB1.out, HE.out⟩⟩
        case measure => simp [intOf]; omega
    · have q0 : (len : Int) ≤ (j : Int) := by omega
      have HE := hrel.out.2
      rw [List.drop_eq_nil_of_le (by rw [HN.out]; omega)] at HE
      have e : res = false := by rw [← HE]; rfl
      clear HE hrel
      subst e
      go_wp2_with fail
      go_ret
      exact ⟨rfl, HB.out⟩

end Go.Proofs.Ytclnepijbnhdfaa
