/-
  Verify of the program.
-/
import Derived.Test.YtllmdgbokmldnaaApp
namespace Go.Proofs.Ytllmdgbokmldnaa
open Go.RowKit Mem

/-- whether the bytes end with their checksum -/
def okSum (p : Nat) (bs : List UInt8) : Bool := decide (withSum p (bs.take (bs.length - 4)) = bs)

/-- the bytes and the error of Verify -/
def verB (p : Nat) (bs : List UInt8) : List UInt8 := if bs.length < 4 then [] else if okSum p bs = true then bs.take (bs.length - 4) else []
def verE (p : Nat) (bs : List UInt8) : Int := if bs.length < 4 then 4 else if okSum p bs = true then 0 else 19

/-- what a call of Verify leaves -/
def VerP (w : World) (p : Nat) (bs : List UInt8) (e : Ending) (w' : World) : Prop :=
  ∃ v, e = .returned (.tuple #[v, .int .i64 (verE p bs)]) ∧ Owns w' w.heap.size v (verB p bs) ∧ Below w.heap.size w w'

theorem owns_nil (w : World) (base : Nat) : Owns w base (.slice none 0 0) [] := ⟨rfl, .inl ⟨rfl, rfl⟩⟩

theorem ver_short {w w' : World} {p : Nat} {bs : List UInt8} (h : bs.length < 4) (hb : Below w.heap.size w w') : VerP w p bs (.returned (.tuple #[.slice none 0 0, .int .i64 4])) w' := by
  refine ⟨.slice none 0 0, ?_, ?_, hb⟩
  · unfold verE; rw [if_pos h]
  · unfold verB; rw [if_pos h]; exact owns_nil _ _

theorem ver_bad {w w' : World} {p : Nat} {bs : List UInt8} (h : ¬ bs.length < 4) (hk : okSum p bs = false) (hb : Below w.heap.size w w') : VerP w p bs (.returned (.tuple #[.slice none 0 0, .int .i64 19])) w' := by
  refine ⟨.slice none 0 0, ?_, ?_, hb⟩
  · unfold verE; rw [if_neg h, hk]; rfl
  · unfold verB; rw [if_neg h, hk]; exact owns_nil _ _

theorem ver_good {w w' : World} {p : Nat} {bs : List UInt8} {v : Value} (h : ¬ bs.length < 4) (hk : okSum p bs = true) (ho : Owns w' w.heap.size v (bs.take (bs.length - 4))) (hb : Below w.heap.size w w') : VerP w p bs (.returned (.tuple #[v, .int .i64 0])) w' := by
  refine ⟨v, ?_, ?_, hb⟩
  · unfold verE; rw [if_neg h, if_pos hk]
  · unfold verB; rw [if_neg h, if_pos hk]; exact ho

set_option maxHeartbeats 2000000 in
theorem verify_any {p : Nat} (hp : Poly p) {w : World} {A : Option Addr} {n c : Nat} {bs : List UInt8} (hs : Sees w (.slice A n c) bs) (hb : n ≤ 1000000) :
    Calls Try.prog 26 #[.slice A n c] w (VerP w p bs) := by
  have hnl : n = bs.length ∧ n ≤ c ∧ c ≤ 9223372036854775807 := by
    obtain ⟨_, _, hv, h1, h2⟩ := hs.shape
    injection hv with _ e2 e3
    simp only [maxLen] at h2
    omega
  obtain ⟨hnl, hnc, hcm⟩ := hnl
  have HS := Lib.hid hs
  have HL := Lib.hid hnl
  by_cases h4 : n < 4
  · have HSH := Lib.hid (ver_short (w := w) (w' := w) (p := p) (bs := bs) (by omega) (Below.refl _ _))
    clear hs hnl
    go_enter Try.func26, Try.ntmps26
    go_wp2_with fail
    go_ret2
    exact HSH.out
  · obtain ⟨m, rfl⟩ : ∃ m, n = m + 4 := ⟨n - 4, by omega⟩
    have HA := Lib.hid (append_any hp (hs.take (k := m) (by omega)) (by omega))
    have hg : ∀ W, _ := fun W => slice_h hs m (by omega) (by omega) W
    have hm4 : bs.length - 4 = m := by omega
    have HLEN : Hid ((withSum p (bs.take m)).length = m + 4) := by
      show _ = _
      rw [withSum_length, List.length_take]
      omega
    have HOK : Hid (decide (withSum p (bs.take m) = bs) = okSum p bs) := by
      show _ = _
      unfold okSum
      rw [hm4]
    have HTK : Hid ((withSum p (bs.take m)).take m = bs.take (bs.length - 4)) := by
      show _ = _
      unfold withSum
      rw [List.take_append_of_le_length (by rw [List.length_take]; omega), List.take_of_length_le (by rw [List.length_take]; omega), hm4]
    have HB4 : Hid (¬ bs.length < 4) := by rw [← hnl]; exact h4
    clear hs hnl hm4 h4
    generalize withSum p (bs.take m) = f at *
    go_enter Try.func26, Try.ntmps26
    go_wp2_with fail
    refine HA.out.mono ?_
    rintro e w1 ⟨v1, rfl, ho1, hb1⟩
    obtain ⟨A1, c1, rfl, hk1, hk2⟩ := ho1.sees.shape
    have HE := Lib.hid (equal_any ho1.sees (HS.out.below hb1))
    have hg1 : ∀ W, _ := fun W => slice_h ho1.sees m (by rw [HLEN.out]; omega) (by rw [HLEN.out] at hk1; omega) W
    have HTO : Hid (Owns w1 w.heap.size (.slice A1 m c1) (bs.take (bs.length - 4))) := by rw [← HTK.out]; exact ho1.take (by rw [HLEN.out]; omega)
    rw [HOK.out] at HE
    rw [HLEN.out] at HE hg1 ⊢
    simp only [maxLen] at hk2
    clear ho1 hk1
    cases hok : okSum p bs with
    | false =>
      rw [hok] at HE
      have HR := Lib.hid (ver_bad HB4.out hok hb1)
      clear hok
      go_wp2_with fail
      refine HE.out.mono ?_
      rintro e w2 ⟨rfl, rfl⟩
      go_wp2_with fail
      go_ret2
      exact HR.out
    | true =>
      rw [hok] at HE
      have HR := Lib.hid (ver_good HB4.out hok HTO.out hb1)
      clear hok
      go_wp2_with fail
      refine HE.out.mono ?_
      rintro e w2 ⟨rfl, rfl⟩
      go_wp2_with fail
      go_ret2
      exact HR.out

end Go.Proofs.Ytllmdgbokmldnaa
