/-
  Append and Verify of the reference.
-/
import Derived.Test.YtllmdgbokmldnaaVer
import Derived.Test.YtllmdgbokmldnaaSame
import Derived.Deep.RegionHeld3
namespace Go.Proofs.Ytllmdgbokmldnaa
open Go.RowKit Mem

/-- what a call that hands new memory with the bytes bs on leaves -/
def Fresh (w : World) (bs : List UInt8) (e : Ending) (w' : World) : Prop :=
  ∃ g, e = .returned (.slice (some ⟨g, 0, none⟩) 4 4) ∧ Sees w' (.slice (some ⟨g, 0, none⟩) 4 4) bs ∧ Below w.heap.size w w'

theorem bytes_any (s : Nat) (hs : s < 4294967296) (w : World) : Calls Try.prog 32 #[.int .u32 (s : Int)] w (Fresh w (le4 s)) := by
  have HC : Hid (#[.int .u8 ((s : Int) % 256), .int .u8 ((s : Int) / 256 % 256), .int .u8 ((s : Int) / 65536 % 256), .int .u8 ((s : Int) / 16777216)] = ((le4 s).map byte).toArray) := by
    have e : (s : Int) / 16777216 % 256 = (s : Int) / 16777216 := by omega
    have h := le4_cells s
    rw [e] at h
    exact h
  go_enter Try.func32, Try.ntmps32
  go_wp2_with fail
  go_ret
  exact ⟨w.heap.size, rfl, sees_new w _ (le4 s) 4 rfl (by rw [← HC.out]) (by simp [maxLen]), (Below.refl _ _).alloc (Nat.le_refl _) _⟩

set_option maxHeartbeats 1000000 in
theorem rappend_any {p : Nat} (hp : Poly p) {w : World} {A : Option Addr} {n c : Nat} {bs : List UInt8} (hs : Sees w (.slice A n c) bs) (hb : n ≤ 1000000) :
    Calls Try.prog 27 #[.slice A n c] w (Puts w (withSum p bs)) := by
  have HCRC : Hid (∀ W, Below w.heap.size w W → Calls Try.prog 16 #[.slice A n c] W (Only W (crcu p 0 bs))) := fun W hW => rcrc_any hp (hs.below hW)
  have hcl := crcu_lt hp 0 bs (by decide)
  have HS := Lib.hid hs
  have hnl : n = bs.length := by
    obtain ⟨_, _, hv, _⟩ := hs.shape
    injection hv
  have HL := Lib.hid hnl
  unfold withSum
  generalize crcu p 0 bs = s at *
  have HLL := Lib.hid (le4_length s)
  have HBY := Lib.hid (bytes_any s hcl)
  clear hs hnl
  go_enter Try.func27, Try.ntmps27
  go_wp2_with (first
    | (at_builtin; refine wpList_app rfl (.tmp 4) (.tmp 5) rfl rfl (own_empty w) rfl (HS.out.alloc _) (by have := HL.out; simp only [List.length_nil]; omega) (by simp) ?_; intro v1 w1 ho1 hg1 _; rw [List.nil_append] at ho1; have hb1 : Below w.heap.size w w1 := ((Below.refl _ _).alloc (Nat.le_refl _) _).grown hg1 (by simp) (fun j hj => by have e : some w.heap.size = some j := hj; injection e with e; omega); have HO1 := Lib.hid ho1; clear ho1 hg1)
    | fail)
  refine (HCRC.out w1 hb1).mono ?_
  rintro e w2 ⟨rfl, rfl⟩
  go_wp2_with fail
  refine (HBY.out w1).mono ?_
  rintro e w3 ⟨g3, rfl, hs3, hb3⟩
  have HS3 := Lib.hid hs3
  have HO3 := Lib.hid (HO1.out.below hb3)
  have hbw : Below w.heap.size w w3 := hb1.trans (hb3.mono hb1.size)
  clear hs3
  go_wp2_with (first
    | (at_builtin; refine wpList_app rfl (.tmp 7) (.tmp 10) rfl (v := v1) rfl HO3.out rfl HS3.out (by have := HL.out; have := HLL.out; omega) hbw.size ?_; intro v4 w4 ho4 hg4 _)
    | fail)
  go_ret
  exact ⟨v4, rfl, ho4, hbw.grown hg4 hbw.size (fun k hk => (HO3.out.block k hk).1)⟩

theorem below_draws {B : Nat} {a w : World} (h : Below B a w) (n : Nat) : Below B a (w.drewN n) := ⟨h.os, h.tape, h.output, h.size, h.block⟩

theorem okSum_split (p : Nat) (bs : List UInt8) (m : Nat) (h : bs.length = m + 4) : okSum p bs = decide (bs.drop m = le4 (crcu p 0 (bs.take m))) := by
  unfold okSum withSum
  rw [show bs.length - 4 = m by omega]
  have e : (bs.take m ++ le4 (crcu p 0 (bs.take m)) = bs) ↔ (bs.drop m = le4 (crcu p 0 (bs.take m))) := by
    generalize le4 (crcu p 0 (bs.take m)) = q
    constructor
    · intro h1
      have h2 : (bs.take m ++ q).drop m = bs.drop m := by rw [h1]
      rw [List.drop_append_of_le_length (by rw [List.length_take]; omega), List.drop_of_length_le (by rw [List.length_take]; omega), List.nil_append] at h2
      exact h2.symm
    · intro h1
      rw [← h1, List.take_append_drop]
  exact decide_eq_decide.2 e

set_option maxHeartbeats 2000000 in
theorem rverify_any {p : Nat} (hp : Poly p) {w : World} {A : Option Addr} {n c : Nat} {bs : List UInt8} (hs : Sees w (.slice A n c) bs) (hb : n ≤ 1000000) :
    Calls Try.prog 28 #[.slice A n c] w (VerP w p bs) := by
  have hnl : n = bs.length ∧ n ≤ c ∧ c ≤ 9223372036854775807 := by
    obtain ⟨_, _, hv, h1, h2⟩ := hs.shape
    injection hv with _ e2 e3
    simp only [maxLen] at h2
    omega
  obtain ⟨hnl, hnc, hcm⟩ := hnl
  have HS := Lib.hid hs
  have HL := Lib.hid hnl
  by_cases h4 : n < 4
  · have HSH := Lib.hid (ver_short (w := w) (w' := w) (p := p) (bs := bs) (by omega) (Below.refl _ _))
    clear hs hnl
    go_enter Try.func28, Try.ntmps28
    go_wp2_with fail
    go_ret2
    exact HSH.out
  · obtain ⟨m, rfl⟩ : ∃ m, n = m + 4 := ⟨n - 4, by omega⟩
    have hst := hs.take (k := m) (by omega)
    have hsd := hs.drop (k := m) (by omega)
    have hgh : ∀ W, _ := fun W => slice_h hs m (by omega) (by omega) W
    have hgl : ∀ W, _ := fun W => slice_l (A := A) (n := m + 4) (c := c) m (by omega) W
    rw [show m + 4 - m = 4 by omega] at hsd hgl
    generalize (if c = m then A else A.map (·.add m)) = B at *
    have hm4 : bs.length - 4 = m := by omega
    have hok := okSum_split p bs m hnl.symm
    have HCRC : Hid (∀ W, Below w.heap.size w W → Calls Try.prog 16 #[.slice A m c] W (Only W (crcu p 0 (bs.take m)))) := fun W hW => rcrc_any hp (hst.below hW)
    have hcl := crcu_lt hp 0 (bs.take m) (by decide)
    generalize crcu p 0 (bs.take m) = s at *
    have HBY := Lib.hid (bytes_any s hcl)
    have HSAME : Hid (∀ W g, Below w.heap.size w W → Sees W (.slice (some ⟨g, 0, none⟩) 4 4) (le4 s) → Calls Try.prog 24 #[.slice B 4 (c - m), .slice (some ⟨g, 0, none⟩) 4 4] W (Tells W (okSum p bs))) := fun W g hW hg => by
      rw [hok]
      exact same_any (hsd.below hW) hg
    have HTK : Hid (bs.take m = bs.take (bs.length - 4)) := by
      show _ = _
      rw [hm4]
    have HST := Lib.hid hst
    have HB4 : Hid (¬ bs.length < 4) := by rw [← hnl]; exact h4
    have hcm2 : c - m ≤ 9223372036854775807 := by omega
    clear hs hnl hm4 h4 hok hsd hst
    generalize c - m = cm at *
    go_enter Try.func28, Try.ntmps28
    go_wp2_with fail
    have hdr : Below w.heap.size w w.drew := (Below.refl _ _).drew
    cases hok : okSum p bs with
    | false =>
      rw [hok] at HSAME
      have HR : Hid (∀ w', Below w.heap.size w w' → VerP w p bs (.returned (.tuple #[.slice none 0 0, .int .i64 19])) w') := fun w' h => ver_bad HB4.out hok h
      clear hok
      go_region_held3 (fun _ => True) (trivial)
        (first
          | (go_at_call 16; refine (HCRC.out _ hdr).mono ?_; rintro e w2 ⟨rfl, rfl⟩)
          | (go_at_call 32; refine (HBY.out _).mono ?_; rintro e w3 ⟨g3, rfl, hs3, hb3⟩; have HS3 := Lib.hid hs3; have hb03 : Below w.heap.size w w3 := hdr.trans hb3; clear hs3 hb3)
          | (go_at_call 24; refine (HSAME.out _ _ hb03 HS3.out).mono ?_; rintro e w4 ⟨rfl, q, rfl⟩))
      have hb4 : Below w.heap.size w (w3.drewN q) := below_draws hb03 q
      have hbz := hb4.size
      generalize w3.drewN q = w4 at *
      clear HSAME HCRC HBY HS3 hb03
      go_wp2_with fail
      go_ret2
      exact HR.out _ hb4
    | true =>
      rw [hok] at HSAME
      have HR : Hid (∀ v w', Owns w' w.heap.size v (bs.take m) → Below w.heap.size w w' → VerP w p bs (.returned (.tuple #[v, .int .i64 0])) w') := fun v w' ho h => ver_good HB4.out hok (by rw [← HTK.out]; exact ho) h
      clear hok
      go_region_held3 (fun _ => True) (trivial)
        (first
          | (go_at_call 16; refine (HCRC.out _ hdr).mono ?_; rintro e w2 ⟨rfl, rfl⟩)
          | (go_at_call 32; refine (HBY.out _).mono ?_; rintro e w3 ⟨g3, rfl, hs3, hb3⟩; have HS3 := Lib.hid hs3; have hb03 : Below w.heap.size w w3 := hdr.trans hb3; clear hs3 hb3)
          | (go_at_call 24; refine (HSAME.out _ _ hb03 HS3.out).mono ?_; rintro e w4 ⟨rfl, q, rfl⟩))
      have hb4 : Below w.heap.size w (w3.drewN q) := below_draws hb03 q
      have hbz := hb4.size
      generalize w3.drewN q = w4 at *
      clear HSAME HCRC HBY HS3 hb03
      have HST4 := Lib.hid (HST.out.below hb4)
      have htl : (bs.take m).length ≤ 999996 := by rw [List.length_take]; omega
      have HTL := Lib.hid htl
      clear htl
      go_wp2_with (first
        | (at_builtin; refine wpList_app rfl (.tmp 21) (.tmp 24) rfl rfl (own_empty w4) rfl (HST4.out.alloc _) (by have := HTL.out; simp only [List.length_nil]; omega) (by simp) ?_; intro v5 w5 ho5 hg5 _; rw [List.nil_append] at ho5; have hb5 : Below w4.heap.size w4 w5 := ((Below.refl _ _).alloc (Nat.le_refl _) _).grown hg5 (by simp) (fun j hj => by have e : some w4.heap.size = some j := hj; injection e with e; omega); have HO5 := Lib.hid ho5; clear ho5 hg5)
        | fail)
      go_ret2
      exact HR.out _ _ (HO5.out.mono hbz) (hb4.trans (hb5.mono hbz))

end Go.Proofs.Ytllmdgbokmldnaa
