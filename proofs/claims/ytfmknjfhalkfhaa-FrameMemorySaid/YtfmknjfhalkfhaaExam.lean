/-
  The law file's 'exampleHolds'.
-/
import Derived.Test.YtfmknjfhalkfhaaSame
namespace Go.Proofs.Ytfmknjfhalkfhaa
open Go.RowKit Mem Wire

def Says (b : Bool) (w : World) (e : Ending) (w' : World) : Prop := e = .returned (.bool b) ∧ Below w.heap.size w w'

theorem ex_fits : (⟨3, 1, []⟩ : Fr).fits := ⟨by decide, by decide, by decide, rfl, by simp⟩
theorem ex_err : (⟨3, 1, []⟩ : Fr).err = 0 := by decide
theorem ex_enc : (⟨3, 1, []⟩ : Fr).enc = [3, 0, 0, 0, 1, 0, 8, 0] := by decide
theorem ex_split : splitS [3, 0, 0, 0, 1, 0, 8, 0, 5] = ([⟨3, 1, []⟩], [5], 0) := by
  have h := split_enc ex_fits [5]
  rw [split_short (bs := [5]) (by decide), ex_enc] at h
  exact h
theorem ex_bad3 : splitS [1, 0, 0, 0, 0, 0, 10, 0] = ([], [1, 0, 0, 0, 0, 0, 10, 0], 3) := by
  have e : sizeErr (sizeAt [1, 0, 0, 0, 0, 0, 10, 0]) = 3 := by decide
  have h := split_bad (bs := [1, 0, 0, 0, 0, 0, 10, 0]) (by decide) (by rw [e]; decide)
  rw [e] at h
  exact h
theorem ex_bad5 : splitS [1, 0, 0, 0, 0, 0, 4, 16] = ([], [1, 0, 0, 0, 0, 0, 4, 16], 5) := by
  have e : sizeErr (sizeAt [1, 0, 0, 0, 0, 0, 4, 16]) = 5 := by decide
  have h := split_bad (bs := [1, 0, 0, 0, 0, 0, 4, 16]) (by decide) (by rw [e]; decide)
  rw [e] at h
  exact h

theorem fst_one {l : List (Fr × Value)} {f : Fr} (h : fst l = [f]) : ∃ v, l = [(f, v)] := by
  match l, h with
  | [p], h =>
    simp only [fst, List.map_cons, List.map_nil, List.cons.injEq, and_true] at h
    exact ⟨p.2, by rw [← h]⟩

theorem fst_none {l : List (Fr × Value)} (h : fst l = []) : l = [] := List.map_eq_nil_iff.1 h

theorem split_of {w : World} {A : Option Addr} {n c : Nat} {p : List UInt8} {l : List Fr} {r : List UInt8} {x : Int} (hp : Sees w (.slice A n c) p) (hlen : p.length ≤ 1000000) (h : splitS p = (l, r, x)) :
    Calls Try.prog 13 #[.slice A n c] w fun e w' => ∃ fv m, e = .returned (.tuple #[fv, .int .i64 (taken l : Int), .int .i64 x]) ∧ OwnF w' w.heap.size fv m ∧ fst m = l ∧ Below w.heap.size w w' := by
  refine (split_any hp hlen).mono ?_
  rintro e w' ⟨fv, m, he, ho, hf, hb⟩
  rw [h] at he hf
  exact ⟨fv, m, he, ho, hf, hb⟩

set_option maxHeartbeats 1000000 in
theorem example_any (w : World) : Calls Try.prog 10 #[] w (Says true w) := by
  have P1 := Lib.hid (put_any (w := w) (f := ⟨3, 1, []⟩) (sees_nil w) (by decide) (by decide))
  unfold PutP at P1
  rw [ex_err, if_pos rfl, ex_enc] at P1
  dsimp only at P1
  go_enter Try.func10, Try.ntmps10
  go_wp2_with fail
  refine P1.out.mono ?_
  rintro e w1 ⟨v1, rfl, ho1, hb1⟩
  have H1 := Lib.hid ho1
  have B1 := Lib.hid hb1
  obtain ⟨A1, c1, rfl, _, _⟩ := ho1.sees.shape
  clear ho1 hb1
  dsimp only [List.length_cons, List.length_nil] at *
  go_wp2_with (first
    | (at_builtin; refine wpList_app rfl (.tmp 18) (.tmp 19) rfl rfl (own_empty w1) rfl (H1.out.sees.alloc _) (by decide) (by simp) ?_; intro v2 w2 ho2 hg2 _; have hb2 : Below w1.heap.size w1 w2 := ((Below.refl _ _).alloc (Nat.le_refl _) _).grown hg2 (by simp) (fun k hk => by have e : some w1.heap.size = some k := hk; injection e with e; omega); have H2 := Lib.hid ho2; clear ho2 hg2)
    | (at_builtin; refine wpList_app rfl (.tmp 20) (.tmp 21) rfl rfl (H2.out.alloc _) rfl (sees_one w2 _ 5 rfl) (by decide) (by have := hb2.size; simp; omega) ?_; intro v3 w3 ho3 hg3 _; have hb3 : Below w1.heap.size w1 w3 := (hb2.alloc hb2.size _).grown hg3 (by have := hb2.size; simp; omega) (fun k hk => (H2.out.block k hk).1); have H3 := Lib.hid ho3; obtain ⟨A3, c3, rfl, _, _⟩ := ho3.sees.shape; clear ho3 hg3)
    | fail)
  refine (split_of (p := [3, 0, 0, 0, 1, 0, 8, 0, 5]) H3.out.sees (by decide) ex_split).mono ?_
  rintro e w4 ⟨fv, m, rfl, hown4, hf4, hb4⟩
  obtain ⟨sv, rfl⟩ := fst_one hf4
  have h4 := hown4.frs
  have HO4 := Lib.hid hown4
  obtain ⟨A4, c4, rfl, hl4, hm4, _, hcell⟩ := h4
  obtain ⟨b, off, rfl, hb, hcl⟩ := hcell (by simp)
  obtain ⟨d0, d1, _⟩ := hcl 0 _ rfl
  clear hf4 hcell hcl hown4
  simp only [maxLen, List.length_singleton] at hl4 hm4
  have et : taken [(⟨3, 1, []⟩ : Fr)] = 8 := rfl
  rw [et]
  dsimp only at d0 d1
  rw [Nat.zero_mul, Nat.add_zero] at d0 d1
  have S14 := Lib.hid (H1.out.sees.below ((hb3.mono (Nat.le_refl _)).trans (hb4.mono hb3.size)))
  have B4 := Lib.hid (B1.out.trans ((hb3.trans (hb4.mono hb3.size)).mono B1.out.size))
  clear et hb3 hb4 hb2
  go_wp2_with fail
  have q5 : Sees (w4.alloc (.cells #[.int .u8 1, .int .u8 0, .int .u8 0, .int .u8 0, .int .u8 0, .int .u8 0, .int .u8 10, .int .u8 0] 5)) (.slice (some ⟨w4.heap.size, 0, none⟩) 8 8) [1, 0, 0, 0, 0, 0, 10, 0] := sees_new w4 _ _ 8 rfl rfl (by simp [maxLen])
  refine (split_of q5 (by decide) ex_bad3).mono ?_
  rintro e w5 ⟨fv5, m5, rfl, hown5, hf5, hb5⟩
  have et : taken ([] : List Fr) = 0 := rfl
  rw [et]
  have hb45 : Below w4.heap.size w4 w5 := ((Below.refl _ _).alloc (Nat.le_refl _) _).trans (hb5.mono (by simp))
  clear et q5 hown5 hf5 hb5
  go_wp2_with fail
  have q6 : Sees (w5.alloc (.cells #[.int .u8 1, .int .u8 0, .int .u8 0, .int .u8 0, .int .u8 0, .int .u8 0, .int .u8 4, .int .u8 16] 5)) (.slice (some ⟨w5.heap.size, 0, none⟩) 8 8) [1, 0, 0, 0, 0, 0, 4, 16] := sees_new w5 _ _ 8 rfl rfl (by simp [maxLen])
  refine (split_of q6 (by decide) ex_bad5).mono ?_
  rintro e w6 ⟨fv6, m6, rfl, hown6, hf6, hb6⟩
  have et : taken ([] : List Fr) = 0 := rfl
  rw [et]
  have hb46 : Below w4.heap.size w4 w6 := hb45.trans (((Below.refl _ _).alloc (Nat.le_refl _) _).trans (hb6.mono (by simp)) |>.mono hb45.size)
  have g0 := (hb46.cell (p := ⟨b, off, none⟩) hb).trans d0
  have g1 := (hb46.cell (p := ⟨b, off + 1, none⟩) hb).trans d1
  have ht := run_text (P := Try.prog) Try.underlying23 Try.underlying5 Try.underlying9 (S14.out.below hb46)
  have hfin := Lib.hid (B4.out.trans (hb46.mono B4.out.size))
  clear et q6 hown6 hf6 hb6 hb45 hb46 d0 d1 S14 B4 HO4
  have hstr : (⟨[3, 0, 0, 0, 1, 0, 8, 0].toArray⟩ : ByteArray) = ⟨#[3, 0, 0, 0, 1, 0, 8, 0]⟩ := rfl
  rw [hstr] at ht
  go_wp2_with fail
  go_ret
  exact ⟨rfl, hfin.out⟩

end Go.Proofs.Ytfmknjfhalkfhaa
