/-
  The law IfaceOpcode.
-/
import Derived.Test.YtjefalkcolmjcaaDoorTbl
namespace Go.Proofs.YtjefalkcolmjcaaDoor
open Go.RowKit

set_option maxHeartbeats 2000000 in
theorem opcode_walk (n o : ByteArray) {w : World} (T : Tab w) : Calls Tryd.prog 6 #[.string n, .string o] w (Says true w) := by
  have C := fun W => Lib.hid (p_opcode_any n o W)
  have D := fun W => Lib.hid (opcode_any n o W)
  have R := fun k W (T : Tab W) => Lib.hid (p_request_any T n k 100)
  have E := fun W (T : Tab W) => Lib.hid (exam_any T)
  obtain ⟨p, hp⟩ : ∃ p, opcF (reqT n) o 0 = p := ⟨_, rfl⟩
  rw [hp] at C D
  have HP := Lib.hid hp
  clear hp
  obtain ⟨r, s⟩ := p
  have e1 : (s == s) = true := by simp
  go_enter Tryd.func6, Tryd.ntmps6
  go_wp2_with fail
  refine (C _).out.mono ?_
  rintro e w1 ⟨rfl, hb⟩
  have J := Lib.hid ((Held.nil w).step hb)
  clear C hb
  go_wp2_with fail
  refine (D _).out.mono ?_
  rintro e w2 ⟨rfl, hb⟩
  replace J := Lib.hid (J.out.step hb)
  clear D hb
  cases s with
  | false =>
    clear R HP
    go_wp2_with fail
    refine (E _ (by first | exact T | exact T.below J.out.below | exact T.below J.out | exact T.below J0.out | exact T.below J1.out | exact T.below J2.out | exact T.below J4.out | exact T.below J6.out | exact T.below J7.out | exact T.below HB.out)).out.mono ?_
    rintro e w3 ⟨rfl, hb⟩
    replace J := Lib.hid (J.out.step hb)
    clear E hb
    go_wp2_with fail
    go_ret
    exact ⟨rfl, J.out.below⟩
  | true =>
    obtain ⟨sg, sn, h⟩ := opc_pick HP.out
    have R1 := fun W T => R r W T
    rw [h] at R1
    have e0 : (o.toList == o.toList) = true := by simp
    clear R HP h
    go_wp2_with fail
    refine (R1 _ (by first | exact T | exact T.below J.out.below | exact T.below J.out | exact T.below J0.out | exact T.below J1.out | exact T.below J2.out | exact T.below J4.out | exact T.below J6.out | exact T.below J7.out | exact T.below HB.out)).out.mono ?_
    rintro e w3 ⟨rfl, hb⟩
    replace J := Lib.hid ((J.out.step hb).alloc [.string o, .string sg, .int .i64 sn] 28)
    obtain ⟨y0, y1, y2, -, -⟩ := (J.out).tri (l1 := [])
    clear R1 hb
    go_wp2_with fail
    refine (E _ (by first | exact T | exact T.below J.out.below | exact T.below J.out | exact T.below J0.out | exact T.below J1.out | exact T.below J2.out | exact T.below J4.out | exact T.below J6.out | exact T.below J7.out | exact T.below HB.out)).out.mono ?_
    rintro e w4 ⟨rfl, hb⟩
    have HB := Lib.hid (J.out.step hb).below
    clear E J hb
    go_wp2_with fail
    go_ret
    exact ⟨rfl, HB.out⟩

end Go.Proofs.YtjefalkcolmjcaaDoor
