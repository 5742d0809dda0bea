/-
  in and sameRuns of the reference: a column among runs, two lists of numbers compared.
-/
import Derived.Test.YtclnepijbnhdfaaRadd
import Derived.Test.YtclnepijbnhdfaaSame
namespace Go.Proofs.Ytclnepijbnhdfaa
open Go.RowKit

set_option maxRecDepth 100000 in
set_option maxHeartbeats 4000000 in
theorem in_any {w : World} {v : Value} {rs : Runs} (h : Is w v (flat2 rs)) (x : Int) (hl : rs.length ≤ 400000) :
    Calls Try.prog 69 #[v, .int .i64 x] w fun e w' => e = .returned (.bool (inR rs x)) ∧ Below w.heap.size w w' := by
  obtain ⟨A, c, rfl, hc, hm, hcell⟩ := h
  simp only [maxLen] at hm
  have HC := Lib.hid hcell
  obtain ⟨len, hn⟩ : ∃ len, (flat2 rs).length = len := ⟨_, rfl⟩
  have hn2 := flat2_len rs
  rw [hn] at hc hn2 ⊢
  obtain ⟨n, hnn⟩ : ∃ n, rs.length = n := ⟨_, rfl⟩
  have HNN := Lib.hid hnn
  have HLEN := Lib.hid hn
  rw [hnn] at hn2 hl
  have hlen : len ≤ 800000 := by omega
  have HN2 := Lib.hid hn2
  obtain ⟨res, hres⟩ : ∃ res, inR rs x = res := ⟨_, rfl⟩
  have HRES := Lib.hid hres
  rw [hres]
  clear hcell hn hn2 hl hnn hres
  go_enter Try.func69, Try.ntmps69
  go_wp2_with fail
  go_loopw [5] (fun k wr => ∃ (j i : Nat), i ≤ len ∧ k = .int .i64 (i : Int) ∧ Hid (i = 2 * j ∧ Below w.heap.size w wr ∧ inR (rs.drop j) x = res)) (fun k _ => len - (intOf k).toNat)
  case atStart => exact ⟨0, 0, by omega, rfl, rfl, Below.refl _ _, HRES.out⟩
  case round =>
    obtain ⟨j, i, hj, rfl, hrel⟩ := hrel
    have HB := Lib.hid hrel.out.2.1
    by_cases hlt : i < len
    · have hjn : j < n := by have := hrel.out.1; have := HN2.out; omega
      have hi1 : i + 1 < len := by have := hrel.out.1; have := HN2.out; omega
      obtain ⟨p, hp⟩ : ∃ p, rs[j]? = some p := ⟨_, List.getElem?_eq_getElem (by rw [HNN.out]; exact hjn)⟩
      obtain ⟨b, off, rfl, hb, hcs⟩ := HC.out (by rw [HLEN.out]; omega)
      have hf := flat2_at hp
      rw [← hrel.out.1] at hf
      have t0 := (HB.out.cell (p := ⟨b, off + i, none⟩) hb).trans (hcs i p.1 hf.1)
      have t1 := (HB.out.cell (p := ⟨b, off + (i + 1), none⟩) hb).trans (hcs (i + 1) p.2 hf.2)
      have HD := drop_at hp
      have HR := hrel.out.2.2
      rw [HD, inR_cons] at HR
      have HJ := Lib.hid hrel.out.1
      have q0 : (i : Int) < len := by omega
      have q1 : (0 : Int) ≤ i := by omega
      have q2 : (i : Int) + 1 < len := by omega
      clear hf hp hcs hrel HD
      obtain ⟨pa, pb⟩ := p
      simp only at t0 t1 HR
      have HRR := Lib.hid HR
      clear HR
      by_cases h1 : pa ≤ x
      · by_cases h2 : x < pb
        · have e : res = true := by rw [← HRR.out]; simp [h1, h2]
          subst e
          go_wp2_with fail
          go_ret
          exact ⟨rfl, HB.out⟩
        · have h3 : pb ≤ x := by omega
          have HE := Lib.hid (show inR (rs.drop (j + 1)) x = res by rw [← HRR.out]; simp [h2])
          clear HRR
          go_wp2_with fail
          go_roundw
          case rel => exact ⟨j + 1, i + 2, by omega, by go_num, Lib.hid ⟨by have := HJ.out; omega, HB.out, HE.out⟩⟩
          case measure => simp [intOf]; omega
      · have h3 : x < pa := by omega
        have HE := Lib.hid (show inR (rs.drop (j + 1)) x = res by rw [← HRR.out]; simp [h1])
        clear HRR
        go_wp2_with fail
        go_roundw
        case rel => exact ⟨j + 1, i + 2, by omega, by go_num, Lib.hid ⟨by have := HJ.out; omega, HB.out, HE.out⟩⟩
        case measure => simp [intOf]; omega
    · have q0 : (len : Int) ≤ (i : Int) := by omega
      have HE := hrel.out.2.2
      rw [List.drop_eq_nil_of_le (by rw [HNN.out]; have := hrel.out.1; have := HN2.out; omega)] at HE
      have e : res = false := by rw [← HE]; rfl
      clear HE hrel
      subst e
      go_wp2_with fail
      go_ret
      exact ⟨rfl, HB.out⟩

theorem drop_ne {l m : List Int} {j : Nat} {x y : Int} (hx : l[j]? = some x) (hy : m[j]? = some y) (h : x ≠ y) : l ≠ m := fun e => by
  rw [e, hy] at hx
  exact h (Option.some.inj hx).symm

set_option maxRecDepth 100000 in
set_option maxHeartbeats 4000000 in
theorem sameRuns_any {w : World} {v u : Value} {l m : List Int} (h : Is w v l) (hu : Is w u m) (hl : l.length ≤ 4000000 ∧ m.length ≤ 4000000) :
    Calls Try.prog 54 #[v, u] w fun e w' => e = .returned (.bool (decide (l = m))) ∧ Below w.heap.size w w' := by
  obtain ⟨A, c, rfl, hc, hm, hcell⟩ := h
  obtain ⟨A', c', rfl, hc', hm', hcell'⟩ := hu
  simp only [maxLen] at hm hm'
  by_cases he : l.length = m.length
  · have HC := Lib.hid hcell
    have HC' := Lib.hid hcell'
    obtain ⟨len, hn⟩ : ∃ len, l.length = len := ⟨_, rfl⟩
    rw [← he, hn] at hc' hl
    rw [← he, hn]
    rw [hn] at hc
    have HN := Lib.hid hn
    have HN' := Lib.hid (he.symm.trans hn)
    obtain ⟨hl, _⟩ := hl
    obtain ⟨res, hres⟩ : ∃ res, decide (l = m) = res := ⟨_, rfl⟩
    have HRES := Lib.hid hres
    rw [hres]
    clear hcell hcell' hn he hres
    go_enter Try.func54, Try.ntmps54
    go_wp2_with fail
    go_loopw [5] (fun k wr => ∃ (j : Nat), j ≤ len ∧ k = .int .i64 (j : Int) ∧ Hid (Below w.heap.size w wr ∧ l.take j = m.take j)) (fun k _ => len - (intOf k).toNat)
    case atStart => exact ⟨0, by omega, rfl, Below.refl _ _, by simp⟩
    case round =>
      obtain ⟨j, hj, rfl, hrel⟩ := hrel
      have HB := Lib.hid hrel.out.1
      by_cases hlt : j < len
      · obtain ⟨x, hx⟩ : ∃ x, l[j]? = some x := ⟨_, List.getElem?_eq_getElem (by rw [HN.out]; exact hlt)⟩
        obtain ⟨y, hy⟩ : ∃ y, m[j]? = some y := ⟨_, List.getElem?_eq_getElem (by rw [HN'.out]; exact hlt)⟩
        obtain ⟨b, off, rfl, hb, hcs⟩ := HC.out (by rw [HN.out]; omega)
        obtain ⟨b', off', rfl, hb', hcs'⟩ := HC'.out (by rw [HN'.out]; omega)
        have t0 := (HB.out.cell (p := ⟨b, off + j, none⟩) hb).trans (hcs j x hx)
        have t1 := (HB.out.cell (p := ⟨b', off' + j, none⟩) hb').trans (hcs' j y hy)
        have q0 : (j : Int) < len := by omega
        have q1 : (0 : Int) ≤ j := by omega
        have HX := Lib.hid hx
        have HY := Lib.hid hy
        clear hx hy hcs hcs'
        by_cases h1 : x = y
        · subst h1
          go_wp2_with fail
          go_quiet (fail)
          go_wp2_with fail
          go_roundw
          case rel => exact ⟨j + 1, by omega, by go_num, Lib.hid ⟨below_draws HB.out _, by rw [List.take_add_one, List.take_add_one, hrel.out.2, HX.out, HY.out]⟩⟩
          case measure => simp [intOf]; omega
        · have HNE := Lib.hid (drop_ne HX.out HY.out h1)
          have e : res = false := by rw [← HRES.out]; exact decide_eq_false HNE.out
          subst e
          go_wp2_with fail
          go_quiet (fail)
          go_wp2_with fail
          go_ret
          exact ⟨rfl, below_draws HB.out _⟩
      · have q0 : (len : Int) ≤ (j : Int) := by omega
        have HE := hrel.out.2
        rw [List.take_of_length_le (by rw [HN.out]; omega), List.take_of_length_le (by rw [HN'.out]; omega)] at HE
        have e : res = true := by rw [← HRES.out]; exact decide_eq_true HE
        clear HE hrel
        subst e
        go_wp2_with fail
        go_ret
        exact ⟨rfl, HB.out⟩
  · have e : decide (l = m) = false := decide_eq_false (fun e => he (by rw [e]))
    rw [e]
    obtain ⟨n1, h1⟩ : ∃ n, l.length = n := ⟨_, rfl⟩
    obtain ⟨n2, h2⟩ : ∃ n, m.length = n := ⟨_, rfl⟩
    rw [h1] at hc hl he ⊢
    rw [h2] at hc' hl he ⊢
    have q : ¬ (n1 : Int) = n2 := by omega
    clear h1 h2 hcell hcell' he e
    go_enter Try.func54, Try.ntmps54
    go_wp2_with fail
    go_ret
    exact ⟨rfl, Below.refl _ _⟩

end Go.Proofs.Ytclnepijbnhdfaa
