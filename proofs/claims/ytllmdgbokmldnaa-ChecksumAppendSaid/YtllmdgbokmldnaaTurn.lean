/-
  A byte of a row of one's own, turned.
-/
import Derived.Test.YtllmdgbokmldnaaOpen
namespace Go.Proofs.Ytllmdgbokmldnaa
open Go.RowKit Mem

theorem block_free {w : World} {g : Nat} {cs : Array Value} {t : TypeId} (h : w.heap[g]? = some (.cells cs t (0, 0))) (i : Nat) : w.frozen? ⟨g, i, none⟩ = false := by
  simp [World.frozen?, h]
theorem block_set {w : World} {g : Nat} {cs : Array Value} {t : TypeId} (h : w.heap[g]? = some (.cells cs t (0, 0))) (i : Nat) (u : Value) :
    (w.setCell ⟨g, i, none⟩ u).heap[g]? = some (.cells (cs.setIfInBounds i u) t (0, 0)) := by
  simp [World.setCell, Array.getElem?_modify, h]

/-- how a row of one's own lies, where it is not empty -/
theorem Owns.lies {w : World} {lo : Nat} {v : Value} {bs : List UInt8} (h : Owns w lo v bs) (h0 : 0 < bs.length) : ∃ g cap, v = .slice (some ⟨g, 0, none⟩) bs.length cap ∧ bs.length ≤ cap ∧ cap ≤ maxLen ∧ lo ≤ g ∧
    (∀ k, w.frozen? ⟨g, k, none⟩ = false) ∧ ∀ k, k < bs.length → w.cell? ⟨g, k, none⟩ = some (.int .u8 ((bs.getD k 0).toNat : Int)) := by
  have hsee := h.sees
  obtain ⟨_, h2⟩ := h
  rcases h2 with ⟨_, h3⟩ | ⟨g, cap, cur, rfl, hb, hh, hn, hm, hc, ht⟩
  · omega
  · refine ⟨g, cap, rfl, hn, hm, hb, block_free hh, fun k hk => ?_⟩
    obtain ⟨_, _, hv, _, _, h5⟩ := hsee
    injection hv with e1 e2 e3
    subst e1 e3
    obtain ⟨b, off, e4, _, hcell⟩ := h5 h0
    injection e4 with e4
    injection e4 with e5 e6
    subst e5 e6
    have := hcell k hk
    rw [Nat.zero_add] at this
    exact this

theorem Owns.setB {w : World} {lo g n cap : Nat} {bs : List UInt8} (h : Owns w lo (.slice (some ⟨g, 0, none⟩) n cap) bs) (k : Nat) (y : UInt8) : Owns (w.setCell ⟨g, k, none⟩ (byte y)) lo (.slice (some ⟨g, 0, none⟩) n cap) (bs.set k y) := by
  obtain ⟨_, h2⟩ := h
  refine ⟨by simp, ?_⟩
  rcases h2 with ⟨h3, _⟩ | ⟨g', cap', cur, hv, hb, hh, hn, hm, hc, ht⟩
  · injection h3 with e; cases e
  · injection hv with e1 e2 e3
    injection e1 with e1
    injection e1 with e1
    subst e1 e3
    rw [List.length_set]
    refine .inr ⟨g, cap, cur.setIfInBounds k (byte y), by rw [e2], hb, block_set hh k _, hn, hm, by simpa using hc, ?_⟩
    rw [Array.toList_setIfInBounds, List.take_set, ht, ← List.map_set]

/-- the exclusive or of two bytes, as the walks meet it -/
theorem xor_byte (x v : Nat) (hx : x < 256) (hv : v < 256) : bits .xor .u8 (x : Int) (v : Int) = (((UInt8.ofNat (x ^^^ v)).toNat : Nat) : Int) := by
  rw [u8_xor_nat x v hx hv]
  have h := Nat.xor_lt_two_pow (x := x) (y := v) (n := 8) hx hv
  rw [UInt8.toNat_ofNat', Nat.mod_eq_of_lt h]

end Go.Proofs.Ytllmdgbokmldnaa
