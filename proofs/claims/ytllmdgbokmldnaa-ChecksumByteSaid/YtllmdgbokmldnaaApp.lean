/-
  Append and Verify of the program.
-/
import Derived.Test.YtllmdgbokmldnaaNew
import Derived.Test.YtllmdgbokmldnaaText
namespace Go.Proofs.Ytllmdgbokmldnaa
open Go.RowKit Mem

/-- a checksum as four bytes -/
def le4 (n : Nat) : List UInt8 := [UInt8.ofNat n, UInt8.ofNat (n / 256), UInt8.ofNat (n / 65536), UInt8.ofNat (n / 16777216)]

theorem le4_length (n : Nat) : (le4 n).length = 4 := rfl

theorem le4_cells (n : Nat) : (#[.int .u8 ((n : Int) % 256), .int .u8 ((n : Int) / 256 % 256), .int .u8 ((n : Int) / 65536 % 256), .int .u8 ((n : Int) / 16777216 % 256)] : Array Value) = ((le4 n).map byte).toArray := by
  simp only [le4, byte, List.map_cons, List.map_nil, UInt8.toNat_ofNat']
  rfl

/-- the bytes with their checksum -/
def withSum (p : Nat) (bs : List UInt8) : List UInt8 := bs ++ le4 (crcu p 0 bs)

theorem withSum_length (p : Nat) (bs : List UInt8) : (withSum p bs).length = bs.length + 4 := by
  unfold withSum
  rw [List.length_append, le4_length]

set_option maxHeartbeats 2000000 in
theorem append_any {p : Nat} (hp : Poly p) {w : World} {A : Option Addr} {n c : Nat} {bs : List UInt8} (hs : Sees w (.slice A n c) bs) (hb : n ≤ 1000000) :
    Calls Try.prog 25 #[.slice A n c] w (Puts w (withSum p bs)) := by
  have HCRC := Lib.hid (crc_any hp hs)
  have hcl := crcu_lt hp 0 bs (by decide)
  have HS := Lib.hid hs
  have hnl : n = bs.length := by
    obtain ⟨_, _, hv, _⟩ := hs.shape
    injection hv
  have HL := Lib.hid hnl
  obtain ⟨i, hi, hz, hsz, hby⟩ := info_parts byte_info
  unfold withSum
  generalize crcu p 0 bs = s at *
  have HC := Lib.hid (le4_cells s)
  have HLL := Lib.hid (le4_length s)
  clear hs hnl
  go_enter Try.func25, Try.ntmps25
  go_wp2_with fail
  refine HCRC.out.mono ?_
  rintro e w1 ⟨rfl, hb1⟩
  have HS1 := Lib.hid (HS.out.below hb1)
  go_wp2_with (first
    | (at_make; refine wpList_make_own _ rfl _ _ 23 rfl w1.heap.size 5 i (.int .u8 0) 1 Try.underlying23 hi hz hsz .i64 .i64 _ (n + 4) rfl rfl (by omega) (by rw [hby]; omega) (by unfold maxLen; omega) (Nat.le_refl _) ?_; intro w2 hown2 hg2; have hb2 : Below w1.heap.size w1 w2 := (Below.refl _ _).grown hg2 (Nat.le_refl _) (fun k hk => by cases hk))
    | (at_builtin; refine wpList_app rfl (.tmp 10) (.tmp 11) rfl rfl (base := w1.heap.size) (xs := []) hown2 rfl (HS1.out.below hb2) (by have := HL.out; simp only [List.length_nil]; omega) hb2.size ?_; intro v3 w3 hown3 hg3 _; rw [List.nil_append] at hown3; have hb3 : Below w1.heap.size w1 w3 := hb2.grown hg3 hb2.size (fun k hk => by have e : some w1.heap.size = some k := hk; injection e with e; omega); have HO3 := Lib.hid hown3; clear hown3 hg3)
    | (at_builtin; refine wpList_app rfl (.tmp 13) (.tmp 25) rfl (v := v3) rfl (HO3.out.alloc _) rfl (sees_new w3 _ (le4 s) 4 rfl (by rw [← HC.out]; simp; omega) (by simp [maxLen])) (by have := HL.out; have := HLL.out; omega) (by have := hb3.size; simp; omega) ?_; intro v4 w4 hown4 hg4 _)
    | fail)
  go_ret
  have hz : w.heap.size ≤ w1.heap.size := hb1.size
  refine ⟨v4, rfl, hown4.mono hz, hb1.trans ((((hb3.alloc hb3.size _).grown hg4 (by have := hb3.size; simp; omega) (fun k hk => (HO3.out.block k hk).1))).mono hz)⟩

end Go.Proofs.Ytllmdgbokmldnaa
