/-
  remove of the set.
-/
import Derived.Test.YtnefcmikeeadhaaDoorAdd
namespace Go.Proofs.YtnefcmikeeadhaaDoor
open Go.RowKit

/-- while remove goes: the levels below i are without the number, and no other number begins as it does -/
structure Rems (w : World) (base k : Nat) (S : Nat → Prop) (n i : Nat) (V : Nat → Value) (L : Nat → List Nat) (wr : World) : Prop where
  set : SetP wr base k V L
  turn : STurn base k w wr
  new : ∀ j, j < 6 → j < i → Lev (fun m => S m ∧ m ≠ n) j (L j)
  old : ∀ j, j < 6 → i ≤ j → Lev S j (L j)
  few : ∀ j, j < 6 → (L j).length ≤ 2000

def clr (x b : Nat) : Nat := x &&& (18446744073709551615 - 2 ^ b)

theorem Rems.word {w wr : World} {base k n i m : Nat} {S : Nat → Prop} {V : Nat → Value} {L : Nat → List Nat} (A : Rems w base k S n i V L wr) (hi : i < 6) (hS : S n) (hm : n / 64 ^ i = m) (hno : ∀ q, S q → q ≠ n → q / 64 ^ i ≠ m) {g nn cap : Nat} (hv : V i = .slice (some ⟨g, 0, none⟩) nn cap)
    {x : Nat} (hx : (L i)[m / 64]? = some x) : Rems w base k S n (i + 1) V (upd L i ((L i).set (m / 64) (clr x (m % 64)))) (wr.setCell ⟨g, m / 64, none⟩ (.int .u64 ((clr x (m % 64) : Nat) : Int))) ∧
      (clr x (m % 64) = 0 ↔ ¬ ∃ q, (S q ∧ q ≠ n) ∧ q / 64 ^ (i + 1) = m / 64) := by
  obtain ⟨h1, h2⟩ := A.set.word hi hv (m / 64) (clr x (m % 64))
  have hl := (List.getElem?_eq_some_iff.1 hx).1
  have hLv := (A.old i hi (Nat.le_refl _)).rem hS hm hno
  have he : clr x (m % 64) = ((L i)[m / 64]?.getD 0) &&& (18446744073709551615 - 2 ^ (m % 64)) := by rw [hx]; rfl
  rw [← he] at hLv
  refine ⟨⟨h1, A.turn.trans h2, fun j hj hlt => ?_, fun j hj hle => ?_, fun j hj => ?_⟩, ?_⟩
  · by_cases e : j = i
    · subst e
      rw [upd_at]
      exact hLv
    · rw [upd_other _ _ e]
      exact A.new j hj (by omega)
  · rw [upd_other _ _ (by omega)]
    exact A.old j hj (by omega)
  · by_cases e : j = i
    · subst e
      rw [upd_at, List.length_set]
      exact A.few j hj
    · rw [upd_other _ _ e]
      exact A.few j hj
  · have := lev_word hLv (m / 64)
    rw [getD_set hl, if_pos rfl] at this
    exact this

theorem Rems.stop {w wr : World} {base k n i m : Nat} {S : Nat → Prop} {V : Nat → Value} {L : Nat → List Nat} (A : Rems w base k S n (i + 1) V L wr) (hm : n / 64 ^ i = m) (he : ∃ q, (S q ∧ q ≠ n) ∧ q / 64 ^ (i + 1) = m / 64) :
    Levs (fun m => S m ∧ m ≠ n) L := by
  obtain ⟨q, ⟨h1, h2⟩, h3⟩ := he
  rw [← hm, ← div_next] at h3
  refine ⟨fun j hj => ?_, A.few⟩
  by_cases e : j < i + 1
  · exact A.new j hj e
  · exact (A.old j hj (by omega)).above h1 h2 h3 (by omega)

theorem clr_word (x b : Nat) (hx : x < 18446744073709551616) (hb : b < 64) : bits .andNot .u64 (x : Int) (IntKind.u64.wrap (2 ^ b)) = ((clr x b : Nat) : Int) := by
  have h2 : 2 ^ b < 2 ^ 64 := Nat.pow_lt_pow_right (by decide) hb
  have e : IntKind.u64.wrap (2 ^ b) = ((2 ^ b : Nat) : Int) := by
    rw [IntKind.wrap_u64]
    have h3 : ((2 : Int) ^ b) = ((2 ^ b : Nat) : Int) := by rw [Int.natCast_pow]; rfl
    rw [h3]
    generalize (2 : Nat) ^ b = P at *
    omega
  rw [e, u64_andNot_nat x _ hx (by omega)]
  rfl

theorem index_six (V : Nat → Value) (i : Nat) (hi : i < 6) (W : World) : (Instr.index 51 (.agg #[V 0, V 1, V 2, V 3, V 4, V 5]) (.int .i64 (i : Int))).run Tryd.prog W = .ok (V i) W := by
  have h : i = 0 ∨ i = 1 ∨ i = 2 ∨ i = 3 ∨ i = 4 ∨ i = 5 := by omega
  rcases h with rfl | rfl | rfl | rfl | rfl | rfl
  all_goals
    simp [Instr.index, go_sem]

set_option maxRecDepth 100000 in
set_option maxHeartbeats 4000000 in
theorem rem_any {w : World} {base k : Nat} {V : Nat → Value} {L : Nat → List Nat} {S : Nat → Prop} {n : Nat} (h : SetP w base k V L) (hL : Levs S L) (hS : S n) (hn : n < 128000) :
    Calls Tryd.prog 36 #[.pointer (some ⟨k, 5, none⟩), .int .u32 (n : Int)] w fun e w' => (∃ v, e = .returned v) ∧ ∃ L', SetP w' base k V L' ∧ Levs (fun m => S m ∧ m ≠ n) L' ∧ STurn base k w w' := by
  have c0 := h.cell 0 (by omega)
  have c1 := h.cell 1 (by omega)
  have c2 := h.cell 2 (by omega)
  have c3 := h.cell 3 (by omega)
  have c4 := h.cell 4 (by omega)
  have c5 := h.cell 5 (by omega)
  simp only [Nat.reduceAdd] at c0 c1 c2 c3 c4 c5
  have A0 : Rems w base k S n 0 V L w := ⟨h, STurn.refl _ _ _, fun j _ hj => by omega, fun j hj _ => hL.1 j hj, hL.2⟩
  replace A0 := Lib.hid A0
  clear h hL
  go_enter Tryd.func36, Tryd.ntmps36
  go_wp2_with fail
  clear c0 c1 c2 c3 c4 c5
  go_loopw [1, 12] (fun s1 s12 wr => ∃ (i m : Nat) (L : Nat → List Nat), i ≤ 6 ∧ s12 = .int .i64 (i : Int) ∧ s1 = .int .u32 (m : Int) ∧ Hid (n / 64 ^ i = m) ∧ m < 128000 ∧ Hid (Rems w base k S n i V L wr) ∧ Hid (∀ q, S q → q ≠ n → q / 64 ^ i ≠ m)) (fun _ s12 _ => leftN 6 s12)
  case atStart => exact ⟨0, n, L, by omega, rfl, rfl, Lib.hid (by simp), hn, A0, Lib.hid (fun q _ h => by simpa using h)⟩
  case round =>
    obtain ⟨i, m, L, hi, rfl, rfl, hm, hm1, A, hno⟩ := hrel
    by_cases hlt : i < 6
    · have q0 : (0 : Int) ≤ i := by omega
      have q1 : (i : Int) < 6 := by omega
      have hth := (A.out.old i hlt (Nat.le_refl _)).there hS
      rw [hm.out] at hth
      obtain ⟨g, cp, hv, hc1, hc2, hgb, hgt, gf, gc⟩ := (A.out.set.row i hlt).lies (by omega)
      have hl0 := A.out.few i hlt
      have ei := index_six V i hlt
      rw [hv] at ei
      obtain ⟨x, hx⟩ : ∃ x, (L i)[m / 64]? = some x := ⟨_, List.getElem?_eq_getElem hth⟩
      have g0 := gc _ _ hx
      have hx1 : x < 18446744073709551616 := by
        have := (A.out.old i hlt (Nat.le_refl _)).small (m / 64)
        rw [hx] at this
        exact this
      have ew := clr_word x (m % 64) hx1 (by omega)
      obtain ⟨Z, hz⟩ := A.out.word hlt hS hm.out hno.out hv hx
      generalize clr x (m % 64) = y at *
      have hm2 : Hid (n / 64 ^ (i + 1) = m / 64) := Lib.hid (by rw [div_next, hm.out])
      obtain ⟨kl, hkl⟩ : ∃ kl, (L i).length = kl := ⟨_, rfl⟩
      rw [hkl] at ei hth hc1 hl0
      replace Z := Lib.hid Z
      replace hz := Lib.hid hz
      simp only [maxLen] at hc2
      clear gc hx hv A hno hkl
      by_cases hy : y = 0
      · have y0 : (y : Int) = 0 := by omega
        have hno2 : Hid (∀ q, S q → q ≠ n → q / 64 ^ (i + 1) ≠ m / 64) := Lib.hid (fun q h1 h2 h3 => hz.out.1 hy ⟨q, ⟨h1, h2⟩, h3⟩)
        clear hz hy
        go_wp2_with fail
        go_roundw
        case rel => exact ⟨i + 1, m / 64, _, by omega, by go_num, by go_num, hm2, by omega, (by have := Z.out; rw [y0] at this; exact Lib.hid this), hno2⟩
        case measure =>
          unfold leftN
          simp [intOf]
          omega
      · have y0 : ¬ (y : Int) = 0 := by omega
        have hex := Lib.hid (Classical.not_not.1 (fun h => hy (hz.out.2 h)))
        clear hz hy
        go_wp2_with fail
        refine bodyPost_ret (results_none rfl _ _ _) rfl ?_
        exact ⟨⟨_, rfl⟩, _, Z.out.set, Z.out.stop hm.out hex.out, Z.out.turn⟩
    · obtain rfl : i = 6 := by omega
      go_wp2_with fail
      go_end0
      exact ⟨⟨_, rfl⟩, L, A.out.set, ⟨fun j hj => A.out.new j hj hj, A.out.few⟩, A.out.turn⟩

end Go.Proofs.YtnefcmikeeadhaaDoor
