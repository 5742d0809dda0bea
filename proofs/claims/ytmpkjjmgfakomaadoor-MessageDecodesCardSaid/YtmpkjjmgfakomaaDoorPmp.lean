/-
  Package message: put.
-/
import Derived.Test.YtmpkjjmgfakomaaDoorMrd
import Derived.Test.YtmpkjjmgfakomaaDoorWpz
namespace Go.Proofs.YtmpkjjmgfakomaaDoor
open Go.RowKit Mem Wire

set_option maxRecDepth 100000 in
set_option maxHeartbeats 1000000 in
theorem p_put_any {w : World} {A : Option Addr} {n c : Nat} {bs : List UInt8} (hs : Sees w (.slice A n c) bs) (hb : bs.length ≤ 500000) (a : AgV) (ha : AgOk w a) (h1 : a.1.ss.size ≤ 2000) (h2 : a.1.bb.length ≤ 2000) :
    Calls Tryd.prog 21 #[.slice A n c, agVal a] w (Puts w (bs ++ encG a.1)) := by
  have hab := ha.1
  have hnl : n = bs.length := by
    obtain ⟨_, _, hv, _⟩ := hs.shape
    injection hv
  obtain ⟨A2, c2, hv, hc, hm⟩ := ha.shape
  obtain ⟨⟨kd, nn, ss, bb⟩, v⟩ := a
  dsimp only at hv hc hm h1 h2 hab ⊢
  subst hv
  have HB := Lib.hid ((Below.refl w.heap.size w).alloc (Nat.le_refl _) (.cells #[.int .i64 kd, .int .i64 nn, .string ss, .slice A2 bb.length c2] 43))
  have C1 := Lib.hid (int_put (wrap32 nn) (hs.below HB.out) (by omega))
  have C2 := Lib.hid (string_put ss (hs.below HB.out) (by omega) (by omega))
  have C3 := Lib.hid (array_put (hs.below HB.out) (hab.below HB.out) (by omega) (by omega))
  have C4 := Lib.hid (uint_put (nn % 4294967296).toNat (by omega) (hs.below HB.out) (by omega))
  have hw : (((nn % 4294967296).toNat : Nat) : Int) = nn % 4294967296 := by omega
  rw [wrap32_low] at C1
  rw [hw] at C4
  unfold agVal encG
  dsimp only
  simp only [maxLen] at hm
  clear ha hab hs hnl
  obtain ⟨bl, hbl⟩ : ∃ bl, bb.length = bl := ⟨_, rfl⟩
  rw [hbl] at hc HB C1 C2 C3 C4 ⊢
  clear hbl hw
  by_cases k1 : kd = 1
  · subst k1
    clear C2 C3 C4
    rw [if_neg (by omega), if_neg (by omega)]
    go_enter Tryd.func21, Tryd.ntmps21
    go_wp2_with fail
    refine C1.out.mono ?_
    rintro e w1 hp
    obtain ⟨v, rfl, ho, hb1⟩ := hp.after HB.out
    go_wp2_with fail
    go_ret
    exact ⟨v, rfl, ho, hb1⟩
  by_cases k3 : kd = 3
  · subst k3
    clear C2 C3 C4
    rw [if_neg (by omega), if_neg (by omega)]
    go_enter Tryd.func21, Tryd.ntmps21
    go_wp2_with fail
    refine C1.out.mono ?_
    rintro e w1 hp
    obtain ⟨v, rfl, ho, hb1⟩ := hp.after HB.out
    go_wp2_with fail
    go_ret
    exact ⟨v, rfl, ho, hb1⟩
  by_cases k4 : kd = 4
  · subst k4
    clear C1 C3 C4
    rw [if_pos rfl]
    go_enter Tryd.func21, Tryd.ntmps21
    go_wp2_with fail
    refine C2.out.mono ?_
    rintro e w1 hp
    obtain ⟨v, rfl, ho, hb1⟩ := hp.after HB.out
    go_wp2_with fail
    go_ret
    exact ⟨v, rfl, ho, hb1⟩
  rw [if_neg k4]
  by_cases k7 : kd = 7
  · subst k7
    clear C1 C2 C4
    rw [if_pos rfl]
    go_enter Tryd.func21, Tryd.ntmps21
    go_wp2_with fail
    refine C3.out.mono ?_
    rintro e w1 hp
    obtain ⟨v, rfl, ho, hb1⟩ := hp.after HB.out
    go_wp2_with fail
    go_ret
    exact ⟨v, rfl, ho, hb1⟩
  rw [if_neg k7]
  clear C1 C2 C3
  go_enter Tryd.func21, Tryd.ntmps21
  go_wp2_with fail
  refine C4.out.mono ?_
  rintro e w1 hp
  obtain ⟨v, rfl, ho, hb1⟩ := hp.after HB.out
  go_wp2_with fail
  go_ret
  exact ⟨v, rfl, ho, hb1⟩

end Go.Proofs.YtmpkjjmgfakomaaDoor
