/-
  frame.Put, and the reference's Put.
-/
import Derived.Test.YtfmknjfhalkfhaaHead
import Derived.Deep.RegionHeld3
namespace Go.Proofs.Ytfmknjfhalkfhaa
open Go.RowKit Mem Wire

/-- what Put leaves -/
def PutP (w : World) (f : Fr) (e : Ending) (w' : World) : Prop :=
  ∃ v, e = .returned (.tuple #[v, .int .i64 f.err]) ∧ Owns w' w.heap.size v (if f.err = 0 then f.enc else []) ∧ Below w.heap.size w w'

theorem own_nil (w : World) (base : Nat) : Owns w base (.slice none 0 0) [] := World.ownsRow_nil w base 5 1

theorem putP_err {w : World} {f : Fr} {x : Int} {o : Obj} (h : f.err = x) (h0 : x ≠ 0) : PutP w f (.returned (.tuple #[.slice none 0 0, .int .i64 x])) (w.alloc o) := by
  refine ⟨_, by rw [h], ?_, (Below.refl _ _).alloc (Nat.le_refl _) o⟩
  rw [if_neg (by rw [h]; exact h0)]
  exact own_nil _ _

/-- the cells of a box that holds a frame -/
theorem box_cells {w w1 : World} {x y z : Value} {t : TypeId} (h : w1 = w.alloc (.cells #[x, y, z] t)) : w1.cell? ⟨w.heap.size, 0, none⟩ = some x ∧ w1.cell? ⟨w.heap.size, 1, none⟩ = some y ∧ w1.cell? ⟨w.heap.size, 2, none⟩ = some z := by
  subst h
  refine ⟨?_, ?_, ?_⟩ <;> (rw [World.cell?_alloc_at _ _ _ _ rfl]; rfl)

/-- three cells of a block that is there stay as they are -/
theorem keep3 {W W' : World} {h : Nat} {x y z : Value} (hh : h < W.heap.size) (hb : Below W.heap.size W W')
    (hc : W.cell? ⟨h, 0, none⟩ = some x ∧ W.cell? ⟨h, 1, none⟩ = some y ∧ W.cell? ⟨h, 2, none⟩ = some z) :
    W'.cell? ⟨h, 0, none⟩ = some x ∧ W'.cell? ⟨h, 1, none⟩ = some y ∧ W'.cell? ⟨h, 2, none⟩ = some z :=
  ⟨(hb.cell (p := ⟨h, 0, none⟩) hh).trans hc.1, (hb.cell (p := ⟨h, 1, none⟩) hh).trans hc.2.1, (hb.cell (p := ⟨h, 2, none⟩) hh).trans hc.2.2⟩

theorem err6a {f : Fr} (h : f.c < 0) : f.err = 6 := by unfold Fr.err; rw [if_pos (.inl h)]
theorem err6b {f : Fr} (h : 65536 ≤ f.c) : f.err = 6 := by unfold Fr.err; rw [if_pos (.inr h)]
theorem err2 {f : Fr} (h : ¬ f.c < 0) (h' : ¬ 65536 ≤ f.c) (h4 : ¬ f.b.length % 4 = 0) : f.err = 2 := by unfold Fr.err; rw [if_neg (by omega), if_pos h4]
theorem err5 {f : Fr} (h : ¬ f.c < 0) (h' : ¬ 65536 ≤ f.c) (h4 : f.b.length % 4 = 0) (h5 : 4096 < 8 + f.b.length) : f.err = 5 := by unfold Fr.err; rw [if_neg (by omega), if_neg (by omega), if_pos h5]
theorem err0 {f : Fr} (h : ¬ f.c < 0) (h' : ¬ 65536 ≤ f.c) (h4 : f.b.length % 4 = 0) (h5 : ¬ 4096 < 8 + f.b.length) : f.err = 0 := by unfold Fr.err; rw [if_neg (by omega), if_neg (by omega), if_neg h5]

set_option maxHeartbeats 400000 in
theorem put_any {w : World} {f : Fr} {sv : Value} (hs : Sees w sv f.b) (ho : f.o < 4294967296) (hlen : f.b.length ≤ 1000000) : Calls Try.prog 11 #[.agg #[.int .u32 (f.o : Int), .int .i64 f.c, sv]] w (PutP w f) := by
  obtain ⟨A, cap, rfl, hcap, hmx⟩ := hs.shape
  simp only [maxLen] at hmx
  obtain ⟨w1, hw1⟩ : ∃ w1, w1 = w.alloc (.cells #[.int .u32 (f.o : Int), .int .i64 f.c, .slice A f.b.length cap] 25) := ⟨_, rfl⟩
  have hb1 : Below w.heap.size w w1 := by rw [hw1]; exact (Below.refl _ _).alloc (Nat.le_refl _) _
  have hlt : w.heap.size < w1.heap.size := by rw [hw1]; simp
  have k := box_cells hw1
  obtain ⟨k0, k1, k2⟩ := k
  have hs1 := Lib.hid (hs.below hb1)
  have HW := Lib.hid hw1
  clear hs hw1
  by_cases hc0 : f.c < 0
  · have he := Lib.hid (err6a hc0)
    obtain ⟨o, c, b⟩ := f
    dsimp only at *
    generalize b.length = m at *
    go_enter Try.func11, Try.ntmps11
    go_wp2_with fail
    go_ret2
    exact putP_err he.out (by decide)
  · by_cases hc1 : 65536 ≤ f.c
    · have he := Lib.hid (err6b hc1)
      obtain ⟨o, c, b⟩ := f
      dsimp only at *
      generalize b.length = m at *
      go_enter Try.func11, Try.ntmps11
      go_wp2_with fail
      go_ret2
      exact putP_err he.out (by decide)
    · by_cases h4 : f.b.length % 4 = 0
      · by_cases h5 : 4096 < 8 + f.b.length
        · have he := Lib.hid (err5 hc0 hc1 h4 h5)
          obtain ⟨o, c, b⟩ := f
          dsimp only at *
          generalize b.length = m at *
          have hi4 : (m : Int) % 4 = 0 := by omega
          clear h4
          go_enter Try.func11, Try.ntmps11
          go_wp2_with fail
          go_ret2
          exact putP_err he.out (by decide)
        · have he := Lib.hid (err0 hc0 hc1 h4 h5)
          have HE := Lib.hid (show f.enc = enc4 f.o ++ enc4 f.second ++ f.b from rfl)
          have HF : ((f.second : Nat) : Int) = (8 + (f.b.length : Int)) * 65536 + f.c := by unfold Fr.second; omega
          have hsl : f.second < 4294967296 := by unfold Fr.second; omega
          obtain ⟨o, c, b⟩ := f
          dsimp only at *
          generalize Fr.second ⟨o, c, b⟩ = sec at *
          have P1 : Hid (Calls Try.prog 23 #[.slice none 0 0, .int .u32 (o : Int)] w1 (Puts w1 (enc4 o))) := uint_put (w := w1) o ho (sees_nil _) (by omega)
          generalize hm : b.length = m at *
          have HM := Lib.hid hm
          have hi4 : (m : Int) % 4 = 0 := by omega
          clear h4 hm
          go_enter Try.func11, Try.ntmps11
          go_wp2_with fail
          rw [← HW.out]
          refine P1.out.mono ?_
          rintro e w2 ⟨v2, rfl, ho2, hb2⟩
          obtain ⟨l0, l1, l2⟩ := keep3 hlt hb2 ⟨k0, k1, k2⟩
          have hlt2 := Nat.lt_of_lt_of_le hlt hb2.size
          obtain ⟨A2, c2, rfl, _, _⟩ := ho2.sees.shape
          have P2 := Lib.hid (uint_put sec hsl ho2.sees (by simp [enc4]))
          rw [HF] at P2
          clear HF
          have e4 : (enc4 o).length = 4 := rfl
          rw [e4] at P2
          rw [e4]
          clear e4 ho2
          go_wp2_with fail
          refine P2.out.mono ?_
          rintro e w3 ⟨v3, rfl, ho3, hb3⟩
          obtain ⟨j0, j1, j2⟩ := keep3 hlt2 hb3 ⟨l0, l1, l2⟩
          have hs3 := Lib.hid ((hs1.out.below hb2).below hb3)
          have H3 := Lib.hid ho3
          have hz3 : w2.heap.size ≤ w3.heap.size := hb3.size
          have hz2 : w1.heap.size ≤ w2.heap.size := hb2.size
          have hb13 := hb2.trans (hb3.mono hb2.size)
          clear ho3 hs1 hb3 hb2
          go_wp2_with (at_builtin; refine wpList_app rfl (.tmp 39) (.tmp 41) rfl rfl H3.out rfl hs3.out (by simp [enc4, HM.out]; omega) hz3 ?_; intro v4 w4 ho4 hg4 _; have hb4 := hb13.grown hg4 hb13.size (fun k hk => by have := (H3.out.block k hk).1; omega))
          go_ret2
          refine ⟨v4, by rw [he.out]; rfl, ?_, hb1.trans (hb4.mono hb1.size)⟩
          rw [if_pos he.out, HE.out]
          exact ho4.mono (Nat.le_of_lt hlt2)
      · have he := Lib.hid (err2 hc0 hc1 h4)
        obtain ⟨o, c, b⟩ := f
        dsimp only at *
        generalize b.length = m at *
        have hi4 : ((m : Int) % 4 == 0) = false := by rw [beq_eq_false_iff_ne]; omega
        have hi5 : ((m : Int) % 4 != 0) = true := by rw [bne, hi4]; rfl
        clear h4
        go_enter Try.func11, Try.ntmps11
        go_wp2_with fail
        go_ret2
        exact putP_err he.out (by decide)

end Go.Proofs.Ytfmknjfhalkfhaa
