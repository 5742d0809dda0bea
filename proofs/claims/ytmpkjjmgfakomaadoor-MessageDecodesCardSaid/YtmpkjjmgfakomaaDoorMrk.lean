/-
  The reference's Decode, all cases joined.
-/
import Derived.Test.YtmpkjjmgfakomaaDoorMrg
namespace Go.Proofs.YtmpkjjmgfakomaaDoor
open Go.RowKit Mem Wire

set_option maxRecDepth 100000 in
theorem decode_any {w : World} {A : Option Addr} {n c : Nat} {bs : List UInt8} (hB : Sees w (.slice A n c) bs) (sg : ByteArray) (hz : sg.size ≤ 1000) (hl : n ≤ 1000000) (ob : Nat) (oc : Int) :
    Calls Tryd.prog 15 #[.string sg, .agg #[.int .u32 (ob : Int), .int .i64 oc, .slice A n c]] w (GivesM (decT (sigK sg) ob oc bs) w) := by
  obtain ⟨_, _, hv, _, _⟩ := hB.shape
  simp only [Value.slice.injEq] at hv
  obtain ⟨-, hlen, -⟩ := hv
  unfold sigK
  by_cases hs : sigT sg = true
  · rw [if_pos hs]
    unfold decT
    dsimp only
    by_cases h0 : oc < 0
    · rw [if_pos (.inl h0)]
      exact dec_low sg hs h0 ob
    · by_cases h1 : 65535 < oc
      · rw [if_pos (.inr h1)]
        exact dec_high sg hs h1 ob
      · rw [if_neg (by omega), ← hlen]
        by_cases hn : 4088 < n
        · rw [if_pos hn]
          exact dec_long sg hs h0 h1 hn hl ob
        · rw [if_neg hn]
          exact dec_go hB sg hs ob h0 h1 hn hz
  · rw [if_neg hs]
    unfold decT
    exact dec_nosig sg (by simpa using hs) oc ob

end Go.Proofs.YtmpkjjmgfakomaaDoor
