/-
  The law's own helper 'same': whether two slices hold the same bytes.
-/
import Derived.Test.YtllmdgbokmldnaaRows
import Derived.Test.YtllmdgbokmldnaaMem
import Derived.WalkSpells
import Derived.BigQuiet
import Derived.Deep.QuietTactic
namespace Go.Proofs.Ytllmdgbokmldnaa
open Go.RowKit Mem

/-- what a call that only draws and returns b leaves -/
def Tells (w : World) (b : Bool) (e : Ending) (w' : World) : Prop := e = .returned (.bool b) ∧ ∃ q, w' = w.drewN q

theorem tells_of {w : World} {b b' : Bool} (q : Nat) (h : b = b') : Tells w b (.returned (.bool b')) (w.drewN q) := ⟨by rw [h], q, rfl⟩

theorem tells_of2 {w : World} {b b' : Bool} (q n : Nat) (h : b = b') : Tells w b (.returned (.bool b')) ((w.drewN q).drewN n) := ⟨by rw [h], q + n, World.drewN_drewN w q n⟩

def SameTo (xs ys : List UInt8) (k : Nat) : Prop := ∀ j, j < k → xs.getD j 0 = ys.getD j 0

theorem same_all {xs ys : List UInt8} (hl : xs.length = ys.length) (h : SameTo xs ys xs.length) : xs = ys := by
  apply List.ext_getElem hl
  intro i h1 h2
  have := h i h1
  rw [List.getD, List.getD, List.getElem?_eq_getElem h1, List.getElem?_eq_getElem h2] at this
  exact this

set_option maxHeartbeats 400000 in
theorem same_any {w : World} {v1 v2 : Value} {xs ys : List UInt8} (h1 : Sees w v1 xs) (h2 : Sees w v2 ys) :
    Calls Try.prog 24 #[v1, v2] w (Tells w (decide (xs = ys))) := by
  obtain ⟨A, c, rfl, hc, hm⟩ := h1.shape
  obtain ⟨A', c', rfl, hc', hm'⟩ := h2.shape
  have k1 : c ≤ 9223372036854775807 := by simpa [maxLen] using hm
  have k2 : c' ≤ 9223372036854775807 := by simpa [maxLen] using hm'
  by_cases hl : xs.length = ys.length
  · rcases h1.ways with ⟨_, _, hv, rfl, _⟩ | ⟨b, off, n, _, hv, hn, hpos, _, _, hb, hcell⟩
    · have hys : ys = [] := List.eq_nil_of_length_eq_zero (by simpa using hl.symm)
      subst hys
      clear hl hv h1 h2
      go_enter Try.func24, Try.ntmps24
      go_wp2_with fail
      refine wp_loop_rounds 1 ?_
      rw [rounds_succ]
      go_wp2_with fail
      go_ret
      exact tells_of 0 (by simp)
    · injection hv with e1 e2 e3
      subst e1 e2 e3
      rcases h2.ways with ⟨_, _, hv, rfl, _⟩ | ⟨b', off', n', _, hv', hn', hpos', _, _, hb', hcell'⟩
      · exact absurd hpos (by simp only [List.length_nil] at hl; omega)
      · injection hv' with e1 e2 e3
        subst e1 e2 e3
        have hd : decide (xs = ys) = true ↔ xs = ys := decide_eq_true_iff
        have HD := Lib.hid hd
        generalize hr : decide (xs = ys) = r at HD ⊢
        rw [← hl] at hc' hcell' ⊢
        have HL := Lib.hid hl
        have HC := Lib.hid hcell
        have HC' := Lib.hid hcell'
        clear hl hd hn hn' hpos' h1 h2 hcell hcell' hr
        generalize hlen : xs.length = n at hc hc' hpos HC HC' ⊢
        have HLEN := Lib.hid hlen
        clear hlen
        go_enter Try.func24, Try.ntmps24
        go_wp2_with fail
        go_loopw [5] (fun i wr => ∃ k q : Nat, k ≤ n ∧ i = .int .i64 k ∧ wr = w.drewN q ∧ Hid (SameTo xs ys k)) (fun i _ => n - (intOf i).toNat)
        case atStart => exact ⟨0, 0, Nat.zero_le _, rfl, rfl, fun j hj => by omega⟩
        case round =>
          obtain ⟨k, q, hk, rfl, rfl, hz⟩ := hrel
          by_cases hlt : k < n
          · have c1 := HC.out k hlt
            have c2 := HC'.out k hlt
            unfold byte at c1 c2
            by_cases he : xs.getD k 0 = ys.getD k 0
            · rw [he] at c1
              have HE := Lib.hid he
              clear he
              generalize (ys.getD k 0).toNat = y at *
              go_wp2_with fail
              go_quiet (fail)
              go_wp2_with fail
              go_roundw
              case rel => exact ⟨k + 1, _, by omega, by go_num, rfl, fun j hj => by
                by_cases h : j = k
                · subst h; exact HE.out
                · exact hz.out j (by omega)⟩
              case measure => simp [intOf]; omega
            · have hne : (((xs.getD k 0).toNat : Int) == ((ys.getD k 0).toNat : Int)) = false := by
                rw [beq_eq_false_iff_ne]
                intro h
                exact he (UInt8.toNat_inj.1 (by omega))
              have hne2 : (((xs.getD k 0).toNat : Int) != ((ys.getD k 0).toNat : Int)) = true := by rw [bne, hne]; rfl
              have HE := Lib.hid he
              clear he
              generalize (ys.getD k 0).toNat = y at *
              generalize (xs.getD k 0).toNat = x at *
              go_wp2_with fail
              go_quiet (fail)
              go_wp2_with fail
              go_ret
              refine tells_of2 _ _ ?_
              cases r with
              | false => rfl
              | true => exact absurd (by rw [HD.out.1 rfl]) HE.out
          · go_wp2_with fail
            go_ret
            refine tells_of _ ?_
            have hkn : k = n := by omega
            exact HD.out.2 (same_all HL.out (by rw [HLEN.out, ← hkn]; exact hz.out))
  · have hd : decide (xs = ys) = false := by
      rw [decide_eq_false_iff_not]
      intro e
      exact hl (by rw [e])
    rw [hd]
    have hne : ((xs.length : Int) == (ys.length : Int)) = false := by
      rw [beq_eq_false_iff_ne]; omega
    have hne2 : ((xs.length : Int) != (ys.length : Int)) = true := by rw [bne, hne]; rfl
    clear hd h1 h2 hl
    generalize xs.length = n at *
    generalize ys.length = n' at *
    go_enter Try.func24, Try.ntmps24
    go_wp2_with fail
    go_ret
    exact tells_of 0 rfl

end Go.Proofs.Ytllmdgbokmldnaa
