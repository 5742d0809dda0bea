/-
  PutString of package wire: a text turned into bytes, then written as an array.
-/
import Derived.Test.YtealpmcpaakclaaNew
import Derived.Lib.ConvBytes
namespace Go.Proofs.Ytealpmcpaakclaa
open Go.RowKit Mem Wire

theorem bytesWorld_below (w : World) (e : TypeId) (s : ByteArray) : Below w.heap.size w (Lib.bytesWorld w e s) :=
  ⟨rfl, rfl, rfl, by rw [Lib.bytesWorld_size]; omega, fun k hk => Lib.bytesWorld_at_old w e s k hk⟩

theorem sees_text (w : World) (s : ByteArray) (hs : s.size ≤ maxLen) : Sees (Lib.bytesWorld w 5 s) (.slice (some ⟨w.heap.size, 0, none⟩) s.size (grownCap w s.size 0 5)) s.data.toList := by
  refine ⟨_, _, by rw [Array.length_toList]; rfl, by rw [Array.length_toList]; exact grownCap_ge _ _ _ _, grownCap_le_maxLen _ _ _ _ hs, fun _ => ⟨w.heap.size, 0, rfl, by rw [Lib.bytesWorld_size]; omega, fun j hj => ?_⟩⟩
  rw [Nat.zero_add, Lib.bytesWorld_cell w 5 s j (by simpa using hj)]
  rfl

theorem string_put {w : World} {A : Option Addr} {n c : Nat} {bs : List UInt8} (s : ByteArray) (hs : Sees w (.slice A n c) bs) (hb : n ≤ 1000000) (hm : s.size ≤ 1000000) :
    Calls Try.prog 35 #[.slice A n c, .string s] w (Puts w (bs ++ encA s.data.toList)) := by
  have hcv : ∀ w : World, (convert 9 22 (.string s)).run Try.prog w = .ok (.slice (some ⟨w.heap.size, 0, none⟩) s.size (grownCap w s.size 0 5)) (Lib.bytesWorld w 5 s) := fun w => Lib.run_convert_string_bytes w 9 22 5 s Try.underlying9 Try.underlying22 Try.underlying5
  have hbw := bytesWorld_below w 5 s
  have HA := Lib.hid (array_put (hs.below hbw) (sees_text w s (by simp only [maxLen]; omega)) hb hm)
  clear hs
  go_enter Try.func35, Try.ntmps35
  go_wp2_with fail
  refine HA.out.mono ?_
  rintro e w1 ⟨v1, rfl, h1, h2⟩
  go_wp2_with fail
  go_ret
  exact ⟨v1, rfl, h1.mono hbw.size, hbw.trans (h2.mono hbw.size)⟩

end Go.Proofs.Ytealpmcpaakclaa
