/-
  The table of remainders: what 'remainders' hands back, and the numbers that the walks of CRC-32 meet.
-/
import Derived.Test.YtllmdgbokmldnaaOwn
import Derived.Test.YtllmdgbokmldnaaCrc
import Derived.Deep.WholeRow
import Derived.Laws.BitsAllLaws
namespace Go.Proofs.Ytllmdgbokmldnaa
open Go.RowKit Mem Crc

theorem info43 : (Try.prog.info? 43).map (fun i => (i.zero, i.size)) = some (some (.agg (Array.replicate 256 (.int .u32 0))), 256) := by kernel_rfl

/-- the polynomial, behind a name -/
structure Poly (p : Nat) : Prop where
  eq : p = 3988292384
  lo : 2 ^ 31 ≤ p
  hi : p < 2 ^ 32

theorem poly : ∃ p, Poly p := ⟨3988292384, rfl, by decide, by decide⟩

theorem u32_pow : (2 : Nat) ^ 32 = 4294967296 := by decide

/-- the step as the program writes it: with a product -/
theorem step_mul {p : Nat} (hp : Poly p) (c : Nat) (hc : c < 4294967296) :
    bits .xor .u32 ((c : Int) / 2) (3988292384 * bits .and .u32 (c : Int) 1 % 4294967296) = ((stp p c : Nat) : Int) := by
  have h1 : bits .and .u32 (c : Int) 1 = ((c % 2 : Nat) : Int) := by
    have := u32_and_nat c 1 hc (by decide)
    rw [Nat.and_one_is_mod] at this
    exact this
  rw [h1]
  have h2 : (3988292384 * ((c % 2 : Nat) : Int) % 4294967296) = (((if c % 2 = 1 then p else 0) : Nat) : Int) := by
    rcases (by omega : c % 2 = 0 ∨ c % 2 = 1) with h | h
    · rw [h, if_neg (by decide)]; rfl
    · rw [h, if_pos rfl, hp.eq]; rfl
  rw [h2]
  have h3 : ((c : Int) / 2) = ((c / 2 : Nat) : Int) := rfl
  have hlt := hp.hi
  rw [u32_pow] at hlt
  rw [h3, u32_xor_nat _ _ (by omega) (by split <;> omega)]
  unfold stp
  split
  · rfl
  · rw [Nat.xor_zero]

theorem stps8_lt {p : Nat} (hp : Poly p) (n c : Nat) (hc : c < 4294967296) : stps p n c < 4294967296 := by
  have := stps_lt p 32 hp.hi n c (by rw [u32_pow]; exact hc)
  rwa [u32_pow] at this

theorem stp1_lt {p : Nat} (hp : Poly p) (c : Nat) (hc : c < 4294967296) : stp p c < 4294967296 := stps8_lt hp 1 c hc

/-- the table with its first i cells filled -/
def tabN (p i : Nat) : Array Value := Array.ofFn fun j : Fin 256 => if j.val < i then .int .u32 ((stps p 8 j.val : Nat) : Int) else .int .u32 0

theorem tabN_size (p i : Nat) : (tabN p i).size = 256 := by unfold tabN; rw [Array.size_ofFn]

theorem tabN_at (p i j : Nat) (hj : j < 256) : (tabN p i)[j]? = some (if j < i then .int .u32 ((stps p 8 j : Nat) : Int) else .int .u32 0) := by
  rw [Array.getElem?_eq_getElem (by rw [tabN_size]; exact hj)]
  simp only [tabN, Array.getElem_ofFn]

theorem tabN_zero (p : Nat) : tabN p 0 = Array.replicate 256 (.int .u32 0) := by
  apply Array.ext
  · rw [tabN_size, Array.size_replicate]
  · intro j h1 h2
    simp only [tabN, Array.getElem_ofFn, Array.getElem_replicate, Nat.not_lt_zero, if_false]

theorem tabN_step (p i : Nat) (hi : i < 256) : (tabN p i).setIfInBounds i (.int .u32 ((stps p 8 i : Nat) : Int)) = tabN p (i + 1) := by
  apply Array.ext_getElem?
  intro j
  rw [Array.getElem?_setIfInBounds, tabN_size]
  by_cases hj : j < 256
  · rw [tabN_at p i j hj, tabN_at p (i + 1) j hj]
    by_cases hji : i = j
    · subst hji
      rw [if_pos rfl, if_pos hi, if_pos (Nat.lt_succ_self i)]
    · rw [if_neg hji]
      by_cases hlt : j < i
      · rw [if_pos hlt, if_pos (by omega)]
      · rw [if_neg hlt, if_neg (by omega)]
  · rw [if_neg (by omega), Array.getElem?_eq_none (by rw [tabN_size]; omega), Array.getElem?_eq_none (by rw [tabN_size]; omega)]

theorem tabN_one (p i : Nat) : (tabN p i).all (·.oneCell') = true := by
  have h : ∀ v ∈ tabN p i, v.oneCell' = true := by
    intro v hv
    obtain ⟨j, hj, rfl⟩ := Array.getElem_of_mem hv
    have h := tabN_at p i j (by rw [tabN_size] at hj; exact hj)
    rw [Array.getElem?_eq_getElem hj] at h
    rw [Option.some.inj h]
    generalize stps p 8 j = z
    split <;> rfl
  exact Array.all_eq_true_iff_forall_mem.2 h

/-- the two new blocks of 'remainders' -/
structure Tab (w wx : World) (p i : Nat) : Prop where
  low : wx.heap[w.heap.size]? = some (.cells (tabN p 0) 43 (0, 0))
  high : wx.heap[w.heap.size + 1]? = some (.cells (tabN p i) 43 (0, 0))
  below : Below w.heap.size w wx

theorem Tab.cell {w wx : World} {p i : Nat} (h : Tab w wx p i) (hi : i < 256) : wx.cell? ⟨w.heap.size + 1, i, none⟩ = some (.int .u32 0) ∧ wx.frozen? ⟨w.heap.size + 1, i, none⟩ = false := by
  refine ⟨?_, frozen_of_row _ _ _ _ _ h.high⟩
  rw [cell_of_row _ _ _ _ _ _ h.high, tabN_at p i i hi, if_neg (Nat.lt_irrefl i)]

theorem Tab.step {w wx : World} {p i : Nat} (h : Tab w wx p i) (hi : i < 256) {c : Nat} (hc : c = stps p 8 i) : Tab w (wx.setCell ⟨w.heap.size + 1, i, none⟩ (.int .u32 (c : Int))) p (i + 1) := by
  subst hc
  refine ⟨?_, ?_, h.below.setCell (by simp) _⟩
  · rw [heap_setCell_other _ _ _ _ (by simp)]
    exact h.low
  · rw [heap_setCell_same _ _ _ _ _ _ h.high, tabN_step p i hi]

theorem Tab.start (w : World) (p : Nat) (Z : Array Value) (hZ : Array.replicate 256 (Value.int .u32 0) = Z) : Tab w ((w.alloc (.cells Z 43)).alloc (.cells Z 43)) p 0 := by
  rw [← hZ, ← tabN_zero p]
  exact ⟨heap_alloc2_old w _ _, heap_alloc2_new w _ _, ((Below.refl _ _).alloc (Nat.le_refl _) _).alloc (by simp) _⟩

/-- what a call of 'remainders' leaves -/
def Hands (w : World) (p : Nat) (e : Ending) (w' : World) : Prop := e = .returned (.agg (tabN p 256)) ∧ Below w.heap.size w w'

set_option maxRecDepth 100000 in
set_option maxHeartbeats 2000000 in
theorem rem_any {p : Nat} (hp : Poly p) (w : World) : Calls Try.prog 29 #[] w (Hands w p) := by
  obtain ⟨z43, i43⟩ := zero_of_info info43
  have T0 := Lib.hid (Tab.start w p)
  generalize hZ : Array.replicate 256 (Value.int IntKind.u32 0) = Z at *
  have HT0 := Lib.hid (T0.out Z rfl)
  have HI43 := Lib.hid i43
  clear hZ T0 i43
  go_enter Try.func29, Try.ntmps29
  go_wp2_with fail
  go_loopw [4] (fun s4 wx => ∃ i : Nat, i ≤ 256 ∧ s4 = .int .i64 i ∧ Hid (Tab w wx p i)) (fun s4 _ => 256 - (intOf s4).toNat)
  case atStart => exact ⟨0, by omega, rfl, HT0.out⟩
  case round =>
    obtain ⟨i, hi, rfl, htab⟩ := hrel
    by_cases hlt : i < 256
    · obtain ⟨hc1, hc2⟩ := htab.out.cell hlt
      have HS := Lib.hid (fun c hc => htab.out.step hlt (c := c) hc)
      clear htab
      go_wp2_with fail
      go_loop [3, 9] (fun s3 s9 => ∃ k c : Nat, k ≤ 8 ∧ c < 4294967296 ∧ s9 = .int .i64 k ∧ s3 = .int .u32 c ∧ Hid (c = stps p k i)) (fun _ s9 => 8 - (intOf s9).toNat)
      case atStart => exact ⟨0, i, by omega, by omega, rfl, rfl, rfl⟩
      case round =>
        obtain ⟨k, c, hk, hc, rfl, rfl, hcc⟩ := hrel
        by_cases hlk : k < 8
        · have hs := step_mul hp c hc
          have hn : stp p c = stps p (k + 1) i := by rw [stps_last, ← hcc.out]
          have hl := stp1_lt hp c hc
          have HN := Lib.hid hn
          generalize stp p c = d at *
          clear hn hcc
          go_wp2_with fail
          go_round
          case rel => exact ⟨k + 1, d, by omega, hl, by go_num, rfl, HN.out⟩
          case measure => simp [intOf]; omega
        · obtain rfl : k = 8 := by omega
          have HST := Lib.hid (HS.out c hcc.out)
          clear hcc HS
          go_wp2_with fail
          go_roundw
          case rel => exact ⟨i + 1, by omega, by go_num, HST.out⟩
          case measure => simp [intOf]; omega
    · obtain rfl : i = 256 := by omega
      obtain ⟨hlow, hhigh, hb⟩ := htab.out
      have HLOW := Lib.hid hlow
      have HHIGH := Lib.hid hhigh
      have HB := Lib.hid hb
      have hs0 := Lib.hid (tabN_size p 0)
      have hs1 := Lib.hid (tabN_size p 256)
      have ho := Lib.hid (tabN_one p 256)
      have HR : Hid (Hands w p (.returned (.agg (tabN p 256))) (wr.setRow w.heap.size (tabN p 256))) :=
        ⟨rfl, hb.trans ⟨rfl, rfl, rfl, by simp, fun k hk => by simp only [World.setRow, Array.getElem?_modify]; rw [if_neg (by omega)]⟩⟩
      clear htab hlow hhigh hb
      generalize tabN p 256 = T at *
      generalize tabN p 0 = Z0 at *
      go_wp2_with (first
        | (refine wpList_load_row rfl 43 (.tmp 1) rfl (w.heap.size + 1) rfl 43 T (0, 0) _ HHIGH.out Try.underlying43 rfl (by rw [hs1.out]; exact HI43.out) ?_)
        | (refine wpList_store_row rfl 43 (.tmp 0) (.tmp 22) rfl w.heap.size T rfl rfl 43 Z0 HLOW.out (by rw [hs1.out]; exact HI43.out) (by rw [hs0.out, hs1.out]) ho.out ?_)
        | fail)
      exact bodyPost_ret (v := .agg T) (results_cell_row rfl _ _ w.heap.size 43 T (0, 0) _ rfl (setRow_heap wr w.heap.size Z0 T 43 (0, 0) HLOW.out) Try.underlying43 rfl (by rw [hs1.out]; exact HI43.out)) rfl HR.out

end Go.Proofs.Ytllmdgbokmldnaa
