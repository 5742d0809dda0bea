/-
  The reference's put and Put.
-/
import Derived.Test.YtfmknjfhalkfhaaPut
namespace Go.Proofs.Ytfmknjfhalkfhaa
open Go.RowKit Mem Wire

/-- one append of one byte -/
theorem sees_one (w : World) (z : Int) (x : UInt8) (h : z = (x.toNat : Int)) : Sees (w.alloc (.cells #[.int .u8 z] 5)) (.slice (some ⟨w.heap.size, 0, none⟩) 1 1) [x] :=
  sees_new w _ [x] 1 rfl (by subst h; rfl) (by simp [maxLen])

/-- three cells of a block below B stay as they are -/
theorem keepB {B : Nat} {W W' : World} {h : Nat} {x y z : Value} (hh : h < B) (hb : Below B W W')
    (hc : W.cell? ⟨h, 0, none⟩ = some x ∧ W.cell? ⟨h, 1, none⟩ = some y ∧ W.cell? ⟨h, 2, none⟩ = some z) :
    W'.cell? ⟨h, 0, none⟩ = some x ∧ W'.cell? ⟨h, 1, none⟩ = some y ∧ W'.cell? ⟨h, 2, none⟩ = some z :=
  ⟨(hb.cell (p := ⟨h, 0, none⟩) hh).trans hc.1, (hb.cell (p := ⟨h, 1, none⟩) hh).trans hc.2.1, (hb.cell (p := ⟨h, 2, none⟩) hh).trans hc.2.2⟩

/-- what a call leaves that hands on bytes of the caller's own -/
def More (w : World) (base : Nat) (bs : List UInt8) (e : Ending) (w' : World) : Prop :=
  ∃ v, e = .returned v ∧ Owns w' base v bs ∧ Below base w w' ∧ w.heap.size ≤ w'.heap.size

set_option maxHeartbeats 400000 in
theorem ref_put {w : World} {base : Nat} {v : Value} {bs : List UInt8} (x : Nat) (hx : x < 4294967296) (hown : Owns w base v bs) (hb : bs.length ≤ 1000000) (hW : base ≤ w.heap.size) :
    Calls Try.prog 24 #[v, .int .i64 x] w (More w base (bs ++ enc4 x)) := by
  have H0 := Lib.hid hown
  have hb0 : Below base w w := Below.refl _ _
  clear hown
  go_enter Try.func24, Try.ntmps24
  go_wp2_with fail
  refine wp_loop_rounds 5 ?_
  rw [rounds_succ]
  go_wp2_with (at_builtin; refine wpList_app rfl (.tmp 10) (.tmp 14) rfl rfl (base := base) (H0.out.alloc _) rfl (sees_one w _ (UInt8.ofNat x) (by rw [UInt8.toNat_ofNat']; omega)) (by first | omega | (simp; done) | (simp; omega)) (by first | omega | (simp; done) | (simp; omega)) ?_; intro v1 w1 ho1 hg1 _; have hb1 : Below base w w1 := (hb0.alloc hW _).grown hg1 (by first | omega | (simp; done) | (simp; omega)) (fun k hk => (H0.out.block k hk).1); have hz1 : w.heap.size ≤ w1.heap.size := (by have := hg1.size; simp at this; omega); have H1 := Lib.hid ho1; clear ho1 hg1)
  rw [rounds_succ]
  go_wp2_with (at_builtin; refine wpList_app rfl (.tmp 10) (.tmp 14) rfl rfl (base := base) (H1.out.alloc _) rfl (sees_one w1 _ (UInt8.ofNat (x / 256)) (by rw [UInt8.toNat_ofNat']; omega)) (by first | omega | (simp; done) | (simp; omega)) (by first | omega | (simp; done) | (simp; omega)) ?_; intro v2 w2 ho2 hg2 _; have hb2 : Below base w w2 := (hb1.alloc (by omega) _).grown hg2 (by first | omega | (simp; done) | (simp; omega)) (fun k hk => (H1.out.block k hk).1); have hz2 : w.heap.size ≤ w2.heap.size := (by have := hg2.size; simp at this; omega); have H2 := Lib.hid ho2; clear ho2 hg2)
  rw [rounds_succ]
  go_wp2_with (at_builtin; refine wpList_app rfl (.tmp 10) (.tmp 14) rfl rfl (base := base) (H2.out.alloc _) rfl (sees_one w2 _ (UInt8.ofNat (x / 65536)) (by rw [UInt8.toNat_ofNat']; omega)) (by first | omega | (simp; done) | (simp; omega)) (by first | omega | (simp; done) | (simp; omega)) ?_; intro v3 w3 ho3 hg3 _; have hb3 : Below base w w3 := (hb2.alloc (by omega) _).grown hg3 (by first | omega | (simp; done) | (simp; omega)) (fun k hk => (H2.out.block k hk).1); have hz3 : w.heap.size ≤ w3.heap.size := (by have := hg3.size; simp at this; omega); have H3 := Lib.hid ho3; clear ho3 hg3)
  rw [rounds_succ]
  go_wp2_with (at_builtin; refine wpList_app rfl (.tmp 10) (.tmp 14) rfl rfl (base := base) (H3.out.alloc _) rfl (sees_one w3 _ (UInt8.ofNat (x / 16777216)) (by rw [UInt8.toNat_ofNat']; omega)) (by first | omega | (simp; done) | (simp; omega)) (by first | omega | (simp; done) | (simp; omega)) ?_; intro v4 w4 ho4 hg4 _; have hb4 : Below base w w4 := (hb3.alloc (by omega) _).grown hg4 (by first | omega | (simp; done) | (simp; omega)) (fun k hk => (H3.out.block k hk).1); have hz4 : w.heap.size ≤ w4.heap.size := (by have := hg4.size; simp at this; omega); have H4 := Lib.hid ho4; clear ho4 hg4)
  rw [rounds_succ]
  go_wp2_with fail
  go_ret
  refine ⟨v4, rfl, ?_, hb4, hz4⟩
  have h := H4.out
  simpa [enc4, List.append_assoc] using h

set_option maxHeartbeats 4000000 in
theorem rput_any {w : World} {f : Fr} {sv : Value} (hs : Sees w sv f.b) (ho : f.o < 4294967296) (hlen : f.b.length ≤ 1000000) : Calls Try.prog 12 #[.agg #[.int .u32 (f.o : Int), .int .i64 f.c, sv]] w (PutP w f) := by
  obtain ⟨A, cap, rfl, hcap, hmx⟩ := hs.shape
  simp only [maxLen] at hmx
  obtain ⟨w1, hw1⟩ : ∃ w1, w1 = w.alloc (.cells #[.int .u32 (f.o : Int), .int .i64 f.c, .slice A f.b.length cap] 25) := ⟨_, rfl⟩
  have hb1 : Below w.heap.size w w1 := by rw [hw1]; exact (Below.refl _ _).alloc (Nat.le_refl _) _
  have hlt : w.heap.size < w1.heap.size := by rw [hw1]; simp
  have k := box_cells hw1
  obtain ⟨k0, k1, k2⟩ := k
  have hs1 := Lib.hid (hs.below hb1)
  have HW := Lib.hid hw1
  clear hs hw1
  by_cases hc0 : f.c < 0
  · have he := Lib.hid (err6a hc0)
    obtain ⟨o, c, b⟩ := f
    dsimp only at *
    generalize b.length = m at *
    go_enter Try.func12, Try.ntmps12
    go_wp2_with fail
    go_ret2
    exact putP_err he.out (by decide)
  · by_cases hc1 : 65536 ≤ f.c
    · have he := Lib.hid (err6b hc1)
      obtain ⟨o, c, b⟩ := f
      dsimp only at *
      generalize b.length = m at *
      go_enter Try.func12, Try.ntmps12
      go_wp2_with fail
      go_ret2
      exact putP_err he.out (by decide)
    · by_cases h4 : f.b.length % 4 = 0
      · by_cases h5 : 4096 < 8 + f.b.length
        · have he := Lib.hid (err5 hc0 hc1 h4 h5)
          obtain ⟨o, c, b⟩ := f
          dsimp only at *
          generalize b.length = m at *
          have hi4 : (m : Int) % 4 = 0 := by omega
          clear h4
          go_enter Try.func12, Try.ntmps12
          go_wp2_with fail
          go_ret2
          exact putP_err he.out (by decide)
        · have he := Lib.hid (err0 hc0 hc1 h4 h5)
          have HE := Lib.hid (show f.enc = enc4 f.o ++ enc4 f.second ++ f.b from rfl)
          have HF : ((f.second : Nat) : Int) = (8 + (f.b.length : Int)) * 65536 + f.c := by unfold Fr.second; omega
          have hsl : f.second < 4294967296 := by unfold Fr.second; omega
          obtain ⟨o, c, b⟩ := f
          dsimp only at *
          generalize Fr.second ⟨o, c, b⟩ = sec at *
          have P1 : Hid (Calls Try.prog 24 #[.slice none 0 0, .int .i64 (o : Int)] w1.drew (More w1.drew w1.heap.size (enc4 o))) := ref_put (w := w1.drew) o ho (own_nil _ _) (by simp) (Nat.le_refl _)
          generalize hm : b.length = m at *
          have HM := Lib.hid hm
          have hi4 : (m : Int) % 4 = 0 := by omega
          clear h4 hm
          go_enter Try.func12, Try.ntmps12
          go_wp2_with fail
          rw [← HW.out]
          have hx1 : IntKind.i64.wrap ((8 + (m : Int)) * 65536) = (8 + (m : Int)) * 65536 := by rw [IntKind.wrap_i64]; omega
          have hx2 : IntKind.i64.wrap ((8 + (m : Int)) * 65536 + c) = (8 + (m : Int)) * 65536 + c := by rw [IntKind.wrap_i64]; omega
          have hx3 : IntKind.i64.wrap (o : Int) = o := by rw [IntKind.wrap_i64]; omega
          go_region_held3 (fun W => W.cell? ⟨w.heap.size, 0, none⟩ = some (.int .u32 (o : Int)) ∧ W.cell? ⟨w.heap.size, 1, none⟩ = some (.int .i64 c) ∧ W.cell? ⟨w.heap.size, 2, none⟩ = some (.slice A m cap))
            (first
              | go_keep
              | exact s2
              | exact s3)
            (first
              | (go_at_call_of 24 (Value.slice none 0 0); refine P1.out.mono ?_; rintro e w2 ⟨v2, rfl, ho2, hb2, hz2⟩; have s2 := keepB (W := w1.drew) hlt hb2 ⟨k0, k1, k2⟩; have B2 : Below w1.heap.size w1 w2 := (Below.refl _ _).drew.trans hb2; have P2 := Lib.hid (ref_put sec hsl ho2 (by simp [enc4]) hz2); rw [HF] at P2; clear ho2 hb2)
              | (go_at_call 24; refine P2.out.mono ?_; rintro e w3 ⟨v3, rfl, ho3, hb3, hz3⟩; have s3 := keepB (W := w2) hlt hb3 s2; have H3 := Lib.hid ho3; have S3 := Lib.hid (hs1.out.below (B2.trans hb3)); have B3 := Lib.hid (B2.trans hb3); clear ho3 hb3))
          all_goals
            have hz1 := B3.out.size
            clear hx1 hx2 hx3
            go_wp2_with (at_builtin; refine wpList_app rfl (.tmp 35) (.tmp 37) rfl rfl H3.out rfl S3.out (by simp [enc4, HM.out]; omega) hz1 ?_; intro v4 w4 ho4 hg4 _; have hb4 := B3.out.grown hg4 hz1 (fun k hk => (H3.out.block k hk).1))
            go_ret2
            refine ⟨v4, by rw [he.out]; rfl, ?_, hb1.trans (hb4.mono hb1.size)⟩
            rw [if_pos he.out, HE.out]
            exact ho4.mono hb1.size
      · have he := Lib.hid (err2 hc0 hc1 h4)
        obtain ⟨o, c, b⟩ := f
        dsimp only at *
        generalize b.length = m at *
        have hi4 : ((m : Int) % 4 == 0) = false := by rw [beq_eq_false_iff_ne]; omega
        have hi5 : ((m : Int) % 4 != 0) = true := by rw [bne, hi4]; rfl
        clear h4
        go_enter Try.func12, Try.ntmps12
        go_wp2_with fail
        go_ret2
        exact putP_err he.out (by decide)

end Go.Proofs.Ytfmknjfhalkfhaa
