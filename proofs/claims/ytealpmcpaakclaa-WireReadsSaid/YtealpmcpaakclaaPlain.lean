/-
  Plain laws of the encoding: what was written is read back. No world, no program.
-/
import Derived.Test.YtealpmcpaakclaaItems
import Derived.Test.YtealpmcpaakclaaRitem
namespace Go.Proofs.Ytealpmcpaakclaa
open Go.RowKit Mem Wire

theorem at4_enc (n : Nat) (hn : n < 4294967296) (r : List UInt8) : at4 (enc4 n ++ r) = n := by
  show num4 (UInt8.ofNat n).toNat (UInt8.ofNat (n / 256)).toNat (UInt8.ofNat (n / 65536)).toNat (UInt8.ofNat (n / 16777216)).toNat = n
  simp only [UInt8.toNat_ofNat', num4]
  omega

theorem num_enc (n : Nat) (hn : n < 4294967296) (r : List UInt8) : numS (enc4 n ++ r, 0) = ((r, 0), n) := by
  unfold numS
  rw [if_neg (by simp [enc4])]
  exact Prod.ext rfl (at4_enc n hn r)

theorem up_pad (n : Nat) : up n = n + pad n := by unfold up pad; omega

theorem count_lim (b r : List UInt8) (hb : b.length < 4294967296) (most : Int) (h : max most 0 < (b.length : Int)) : countS (encA b ++ r, 0) most = (([], 5), []) := by
  have e : encA b ++ r = enc4 b.length ++ (b ++ List.replicate (pad b.length) 0 ++ r) := by simp [encA, List.append_assoc]
  unfold countS
  rw [e, num_enc _ hb]
  dsimp only
  have e2 : limS (b ++ List.replicate (pad b.length) 0 ++ r, 0) b.length most = ([], 5) := by
    rw [limS, if_pos h]; rfl
  rw [e2, cutS, if_pos (by have := up_ge b.length; simp only [List.length_nil]; omega)]
  rfl

theorem count_enc (b r : List UInt8) (hb : b.length < 4294967296) (most : Int) (h : (b.length : Int) ≤ max most 0) : countS (encA b ++ r, 0) most = ((r, 0), b) := by
  have e : encA b ++ r = enc4 b.length ++ (b ++ List.replicate (pad b.length) 0 ++ r) := by simp [encA, List.append_assoc]
  unfold countS
  rw [e, num_enc _ hb]
  dsimp only
  have hup := up_pad b.length
  have hl : (b ++ List.replicate (pad b.length) (0 : UInt8)).length = up b.length := by simp [hup]
  have e2 : limS (b ++ List.replicate (pad b.length) 0 ++ r, 0) b.length most = (b ++ List.replicate (pad b.length) 0 ++ r, 0) := by
    rw [limS, if_neg (by omega)]
  have ht : (b ++ List.replicate (pad b.length) (0 : UInt8) ++ r).take (up b.length) = b ++ List.replicate (pad b.length) 0 := by
    rw [← hl]; exact List.take_left
  have hd : (b ++ List.replicate (pad b.length) (0 : UInt8) ++ r).drop (up b.length) = r := by
    rw [← hl]; exact List.drop_left
  rw [e2, cutS]
  dsimp only
  rw [if_neg (by rw [List.length_append, hl]; omega), ht, hd, List.drop_left, if_pos (by rw [hup]; congr 1; omega), List.append_assoc, List.take_left]

theorem str_enc (b r : List UInt8) (hb : b.length < 4294967296) (most : Int) (h : (b.length : Int) ≤ max most 0) (hz : (0 : UInt8) ∉ b) : strS (encA b ++ r, 0) most = ((r, 0), b) := by
  rw [strS, count_enc b r hb most h, if_neg hz]

theorem str_lim (b r : List UInt8) (hb : b.length < 4294967296) (most : Int) (h : max most 0 < (b.length : Int)) : strS (encA b ++ r, 0) most = (([], 5), []) := by
  rw [strS, count_lim b r hb most h, if_neg (by simp)]

/-- an item that can be read back is read back -/
theorem read_enc (t : It) (r : List UInt8) (hn : t.n < 4294967296) (hb : t.b.length < 4294967296) (hr : t.readable = true) (most : Int) (h : (t.b.length : Int) ≤ max most 0) :
    readS (t.enc ++ r, 0) t.k most = ((r, 0), if t.k = 0 ∨ t.k = 1 then (t.n, []) else (0, t.b)) := by
  unfold readS It.enc
  by_cases h0 : t.k = 0 ∨ t.k = 1
  · rw [if_pos h0, if_pos h0, if_pos h0, num_enc _ hn]
  · rw [if_neg h0, if_neg h0, if_neg h0]
    by_cases h2 : t.k = 2
    · have hz : (0 : UInt8) ∉ t.b := by simpa [It.readable, h2] using hr
      rw [if_pos h2, str_enc _ _ hb most h hz]
    · rw [if_neg h2, count_enc _ _ hb most h]

theorem read_lim (t : It) (r : List UInt8) (hb : t.b.length < 4294967296) (h0 : ¬(t.k = 0 ∨ t.k = 1)) (most : Int) (h : max most 0 < (t.b.length : Int)) :
    readS (t.enc ++ r, 0) t.k most = (([], 5), 0, []) := by
  unfold readS It.enc
  rw [if_neg h0, if_neg h0]
  by_cases h2 : t.k = 2
  · rw [if_pos h2, str_lim _ _ hb most h]
  · rw [if_neg h2, count_lim _ _ hb most h]

end Go.Proofs.Ytealpmcpaakclaa
