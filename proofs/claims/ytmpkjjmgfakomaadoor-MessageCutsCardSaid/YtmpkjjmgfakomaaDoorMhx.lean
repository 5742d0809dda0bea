/-
  The reference's hex.
-/
import Derived.Test.YtmpkjjmgfakomaaDoorMeq
import Derived.Test.YtmpkjjmgfakomaaDoorMtx
import Derived.BigQuiet
namespace Go.Proofs.YtmpkjjmgfakomaaDoor
open Go.RowKit Mem Wire

theorem ext_hex : ∀ d, d < 16 → (ByteArray.mk #[48, 49, 50, 51, 52, 53, 54, 55, 56, 57, 97, 98, 99, 100, 101, 102]).extract d (d + 1) = ⟨#[hexD d]⟩ := by decide +kernel
theorem app_mk (l m : List UInt8) : (⟨l.toArray⟩ : ByteArray) ++ ⟨m.toArray⟩ = ⟨(l ++ m).toArray⟩ := by
  rw [show (⟨(l ++ m).toArray⟩ : ByteArray) = ⟨l.toArray ++ m.toArray⟩ by simp]
  first | rfl | (apply ByteArray.ext; simp)

set_option maxRecDepth 100000 in
set_option maxHeartbeats 4000000 in
theorem hex_any (x : UInt8) (w : World) : Calls Tryd.prog 84 #[byte x] w fun e w' => e = .returned (.string ⟨(hexB x).toArray⟩) ∧ ∃ q, w' = w.drewN q := by
  unfold byte
  obtain ⟨c, hc⟩ : ∃ c, x.toNat = c := ⟨_, rfl⟩
  have hl : c < 256 := by rw [← hc]; exact x.toNat_lt
  rw [hc]
  obtain ⟨d, hd⟩ : ∃ d, c / 16 = d := ⟨_, rfl⟩
  obtain ⟨m, hm⟩ : ∃ d, c % 16 = d := ⟨_, rfl⟩
  have hd2 : (c : Int) / 16 = (d : Int) := by omega
  have hm2 : (c : Int) % 16 = (m : Int) := by omega
  have ld : d < 16 := by omega
  have lm : m < 16 := by omega
  go_enter Tryd.func84, Tryd.ntmps84
  go_wp2_with fail
  go_quiet (fail)
  go_wp2_with fail
  go_ret
  refine ⟨?_, nq, rfl⟩
  unfold hexB
  rw [hc, hd, hm, ext_hex d ld, ext_hex m lm]
  exact congrArg (fun s => Ending.returned (.string s)) (app_mk [hexD d] [hexD m])

end Go.Proofs.YtmpkjjmgfakomaaDoor
