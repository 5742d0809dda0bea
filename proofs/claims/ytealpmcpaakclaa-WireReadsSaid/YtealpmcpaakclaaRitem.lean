/-
  The law file's 'read' and 'equal'.
-/
import Derived.Test.YtealpmcpaakclaaItem
namespace Go.Proofs.Ytealpmcpaakclaa
open Go.RowKit Mem Wire

/-- what reading a value of a kind comes to -/
def readS (s : St) (kind most : Int) : St × Nat × List UInt8 :=
  if kind = 0 ∨ kind = 1 then ((numS s).1, (numS s).2, []) else if kind = 2 then ((strS s most).1, 0, (strS s most).2) else ((countS s most).1, 0, (countS s most).2)

theorem drop_le (s : St) (x : Int) (h : Fine s) : (failS s x).1.length ≤ s.1.length := by
  rw [fail_fst x h]; simp

theorem num_le (s : St) (h : Fine s) : (numS s).1.1.length ≤ s.1.length := by
  unfold numS
  split
  · exact drop_le s 4 h
  · simp

theorem cut_le (s : St) (n : Nat) : (cutS s n).2.length ≤ s.1.length := by
  unfold cutS
  split
  · simp
  · split
    · simp; omega
    · simp

theorem count_le (s : St) (most : Int) (h : Fine s) : (countS s most).2.length ≤ s.1.length := by
  have h1 := num_le s h
  have h2 := cut_le (limS (numS s).1 (numS s).2 most) (numS s).2
  have h3 : (limS (numS s).1 (numS s).2 most).1.length ≤ (numS s).1.1.length := by
    unfold limS; split
    · exact drop_le _ 5 (fine_num h)
    · exact Nat.le_refl _
  unfold countS
  omega

theorem str_le (s : St) (most : Int) (h : Fine s) : (strS s most).2.length ≤ s.1.length := by
  unfold strS
  split
  · simp
  · exact count_le s most h

/-- what 'read' leaves -/
def Reads (w : World) (g : Nat) (kind : Int) (r : St × Nat × List UInt8) (e : Ending) (w' : World) : Prop :=
  ∃ v, e = .returned (.agg #[.int .i64 kind, .int .u32 (r.2.1 : Int), v]) ∧ Sees w' v r.2.2 ∧ Rdr w' g r.1 ∧ w.grownBy w' (some g)

/-- the variable of the result, as it is made -/
def Slot (w : World) (h : Nat) : Prop := w.heap[h]? = some (.cells #[.int .i64 0, .int .u32 0, .slice none 0 0] 25 (0, 0))

theorem Slot.keep {w w' : World} {h g : Nat} (hs : Slot w h) (hg : w.grownBy w' (some g)) (hne : h ≠ g) : Slot w' h :=
  (hg.block h (block_lt hs) (fun e => hne (by injection e))).trans hs

theorem Slot.below {w w' : World} {h : Nat} (hs : Slot w h) (hb : Below w.heap.size w w') : Slot w' h := (hb.block h (block_lt hs)).trans hs

theorem Slot.noByte {w : World} {h : Nat} (hs : Slot w h) : ∀ o x, w.cell? ⟨h, o, none⟩ ≠ some (byte x) := by
  intro o x
  rw [block_cell hs]
  match o with
  | 0 => simp [byte]
  | 1 => simp [byte]
  | 2 => simp [byte]
  | o + 3 => simp

/-- the world with the variable set -/
def set3 (w : World) (h : Nat) (x y z : Value) : World := ((w.setCell ⟨h, 0, none⟩ x).setCell ⟨h, 1, none⟩ y).setCell ⟨h, 2, none⟩ z

theorem set3_heap {w : World} {h : Nat} (hs : Slot w h) (x y z : Value) : (set3 w h x y z).heap[h]? = some (.cells #[x, y, z] 25 (0, 0)) := by
  unfold set3
  rw [block_set (block_set (block_set hs 0 x) 1 y) 2 z]
  rfl

theorem set3_grown (w : World) (h : Nat) (x y z : Value) : w.grownBy (set3 w h x y z) (some h) :=
  ((grown_set w h 0 x).trans (grown_set _ h 1 y)).trans (grown_set _ h 2 z)

theorem set3_done {w w2 : World} {h g : Nat} {s : St} {x y z : Value} {bs : List UInt8} (hs : Slot w2 h) (hg : w.grownBy w2 (some g)) (hh : w.heap.size ≤ h) (hne : h ≠ g) (hr : Rdr w2 g s) (hz : Sees w2 z bs) :
    Sees (set3 w2 h x y z) z bs ∧ Rdr (set3 w2 h x y z) g s ∧ w.grownBy (set3 w2 h x y z) (some g) := by
  have h3 := set3_grown w2 h x y z
  refine ⟨hz.grown h3 hs.noByte, ?_, ?_⟩
  · have hl := hr.lt
    obtain ⟨v, hv, hse, hf⟩ := hr
    exact ⟨v, (h3.block g hl (fun e => hne (by injection e with e; exact e.symm))).trans hv, hse.grown h3 hs.noByte, hf⟩
  · exact ⟨h3.os.trans hg.os, h3.tape.trans hg.tape, h3.output.trans hg.output, Nat.le_trans hg.size h3.size, fun k hk hkg =>
      (h3.block k (Nat.lt_of_lt_of_le hk hg.size) (fun e => by injection e with e; omega)).trans (hg.block k hk hkg)⟩

theorem read_end {w w2 : World} {g : Nat} {kind : Int} {r : St × Nat × List UInt8} {z : Value} (hs : Slot w2 w.heap.size) (hg : w.grownBy w2 (some g)) (hne : w.heap.size ≠ g) (hr : Rdr w2 g r.1) (hz : Sees w2 z r.2.2) :
    Reads w g kind r (.returned (.agg #[.int .i64 kind, .int .u32 (r.2.1 : Int), z])) (set3 w2 w.heap.size (.int .i64 kind) (.int .u32 (r.2.1 : Int)) z) := by
  obtain ⟨h1, h2, h3⟩ := set3_done (x := .int .i64 kind) (y := .int .u32 (r.2.1 : Int)) hs hg (Nat.le_refl _) hne hr hz
  exact ⟨z, rfl, h1, h2, h3⟩

set_option maxHeartbeats 400000 in
theorem read_any {g : Nat} {s : St} {w : World} (kind most : Int) (hr : Rdr w g s) (hM : most ≤ 9223372036854775807) (hlen : s.1.length ≤ 1000000) :
    Calls Try.prog 34 #[.pointer (some ⟨g, 0, none⟩), .int .i64 kind, .int .i64 most] w (Reads w g kind (readS s kind most)) := by
  obtain ⟨w1, hw1⟩ : ∃ w1, w1 = w.alloc (.cells #[.int .i64 0, .int .u32 0, .slice none 0 0] 25) := ⟨_, rfl⟩
  have hb : Below w.heap.size w w1 := by rw [hw1]; exact (Below.refl _ _).alloc (Nat.le_refl _) _
  have hr1 : Rdr w1 g s := hr.below hb
  have hsl : Slot w1 w.heap.size := by rw [hw1]; exact heap_alloc_new w _
  have hne : w.heap.size ≠ g := by have := hr.lt; omega
  have hg1 : w.grownBy w1 (some g) := ⟨hb.os, hb.tape, hb.output, hb.size, fun k hk _ => hb.block k hk⟩
  have HW := Lib.hid hw1
  have HS := Lib.hid hsl
  have HR := Lib.hid hr1
  have hsz := str_le s most hr.fine
  have hcz := count_le s most hr.fine
  clear hw1 hr hsl hr1
  unfold readS
  by_cases k0 : kind = 0
  · subst k0
    rw [if_pos (.inl rfl)]
    go_enter Try.func34, Try.ntmps34
    go_wp2_with fail
    rw [← HW.out]
    refine (uint_any HR.out).mono ?_
    rintro e w2 ⟨rfl, h1, h2⟩
    have HS2 := Lib.hid (HS.out.keep h2 hne)
    have HE := Lib.hid (read_end (kind := 0) (r := ((numS s).1, (numS s).2, [])) (z := .slice none 0 0) HS2.out (hg1.trans h2) hne h1 (sees_nil _))
    have a0 := block_cell HS2.out 0
    have a1 := block_cell HS2.out 1
    have a2 := block_cell HS2.out 2
    have f0 := block_free HS2.out 0
    have f1 := block_free HS2.out 1
    have f2 := block_free HS2.out 2
    simp only [List.getElem?_toArray, List.getElem?_cons_zero, List.getElem?_cons_succ] at a0 a1 a2
    clear h1
    go_wp2_with fail
    have hcell := set3_heap HS2.out (.int .i64 0) (.int .u32 ((numS s).2 : Int)) (.slice none 0 0)
    have b0 := block_cell hcell 0
    have b1 := block_cell hcell 1
    have b2 := block_cell hcell 2
    simp only [List.getElem?_toArray, List.getElem?_cons_zero, List.getElem?_cons_succ] at b0 b1 b2
    unfold set3 at b0 b1 b2
    exact bodyPost_ret (v := .agg #[.int .i64 0, .int .u32 ((numS s).2 : Int), .slice none 0 0]) (by simp [results, Try.results34, go_sem, b0, b1, b2]) rfl HE.out
  · have g0 : (kind == 0) = false := by simpa using k0
    by_cases k1 : kind = 1
    · subst k1
      rw [if_pos (.inr rfl)]
      have hN := numS_lt s
      have hback : wrap32 ((numS s).2 : Int) % 4294967296 = ((numS s).2 : Int) := by unfold wrap32; omega
      go_enter Try.func34, Try.ntmps34
      go_wp2_with fail
      rw [← HW.out]
      refine (int_any HR.out).mono ?_
      rintro e w2 ⟨rfl, h1, h2⟩
      have HS2 := Lib.hid (HS.out.keep h2 hne)
      have HE := Lib.hid (read_end (kind := 1) (r := ((numS s).1, (numS s).2, [])) (z := .slice none 0 0) HS2.out (hg1.trans h2) hne h1 (sees_nil _))
      have a0 := block_cell HS2.out 0
      have a1 := block_cell HS2.out 1
      have a2 := block_cell HS2.out 2
      have f0 := block_free HS2.out 0
      have f1 := block_free HS2.out 1
      have f2 := block_free HS2.out 2
      simp only [List.getElem?_toArray, List.getElem?_cons_zero, List.getElem?_cons_succ] at a0 a1 a2
      clear h1
      go_wp2_with fail
      have hcell := set3_heap HS2.out (.int .i64 1) (.int .u32 ((numS s).2 : Int)) (.slice none 0 0)
      have b0 := block_cell hcell 0
      have b1 := block_cell hcell 1
      have b2 := block_cell hcell 2
      simp only [List.getElem?_toArray, List.getElem?_cons_zero, List.getElem?_cons_succ] at b0 b1 b2
      unfold set3 at b0 b1 b2
      exact bodyPost_ret (v := .agg #[.int .i64 1, .int .u32 ((numS s).2 : Int), .slice none 0 0]) (by simp [results, Try.results34, go_sem, b0, b1, b2]) rfl HE.out
    · have g1 : (kind == 1) = false := by simpa using k1
      rw [if_neg (by omega)]
      by_cases k2 : kind = 2
      · subst k2
        rw [if_pos rfl]
        go_enter Try.func34, Try.ntmps34
        go_wp2_with fail
        rw [← HW.out]
        refine (string_any most HR.out hM).mono ?_
        rintro e w2 ⟨rfl, h1, h2⟩
        have hsb : (⟨(strS s most).2.toArray⟩ : ByteArray).size ≤ maxLen := by show (strS s most).2.toArray.size ≤ _; simp [maxLen]; omega
        have hcv : (convert 9 22 (.string ⟨(strS s most).2.toArray⟩)).run Try.prog w2 = .ok (.slice (some ⟨w2.heap.size, 0, none⟩) (⟨(strS s most).2.toArray⟩ : ByteArray).size (grownCap w2 (⟨(strS s most).2.toArray⟩ : ByteArray).size 0 5)) (Lib.bytesWorld w2 5 ⟨(strS s most).2.toArray⟩) := Lib.run_convert_string_bytes w2 9 22 5 _ Try.underlying9 Try.underlying22 Try.underlying5
        have hbw := bytesWorld_below w2 5 ⟨(strS s most).2.toArray⟩
        have hgb : w2.grownBy (Lib.bytesWorld w2 5 ⟨(strS s most).2.toArray⟩) (some g) := ⟨hbw.os, hbw.tape, hbw.output, hbw.size, fun k hk _ => hbw.block k hk⟩
        have hse := sees_text w2 ⟨(strS s most).2.toArray⟩ hsb
        have HS2 := Lib.hid ((HS.out.keep h2 hne).below hbw)
        have HE := Lib.hid (read_end (kind := 2) (r := ((strS s most).1, 0, (strS s most).2)) HS2.out ((hg1.trans h2).trans hgb) hne (h1.below hbw) hse)
        generalize (⟨(strS s most).2.toArray⟩ : ByteArray).size = m at *
        generalize grownCap w2 m 0 5 = cc at *
        generalize Lib.bytesWorld w2 5 ⟨(strS s most).2.toArray⟩ = w3 at *
        have a0 := block_cell HS2.out 0
        have a1 := block_cell HS2.out 1
        have a2 := block_cell HS2.out 2
        have f0 := block_free HS2.out 0
        have f1 := block_free HS2.out 1
        have f2 := block_free HS2.out 2
        simp only [List.getElem?_toArray, List.getElem?_cons_zero, List.getElem?_cons_succ] at a0 a1 a2
        clear h1 hse hbw hgb
        go_wp2_with fail
        have hcell := set3_heap HS2.out (.int .i64 2) (.int .u32 0) (.slice (some ⟨w2.heap.size, 0, none⟩) m cc)
        have b0 := block_cell hcell 0
        have b1 := block_cell hcell 1
        have b2 := block_cell hcell 2
        simp only [List.getElem?_toArray, List.getElem?_cons_zero, List.getElem?_cons_succ] at b0 b1 b2
        unfold set3 at b0 b1 b2
        exact bodyPost_ret (v := .agg #[.int .i64 2, .int .u32 0, .slice (some ⟨w2.heap.size, 0, none⟩) m cc]) (by simp [results, Try.results34, go_sem, b0, b1, b2]) rfl HE.out
      · have g2 : (kind == 2) = false := by simpa using k2
        rw [if_neg k2]
        go_enter Try.func34, Try.ntmps34
        go_wp2_with fail
        rw [← HW.out]
        refine (array_any most HR.out hM (by omega)).mono ?_
        rintro e w2 ⟨v, rfl, h0, h1, h2⟩
        obtain ⟨A, c, rfl, _, _⟩ := h0.shape
        have HS2 := Lib.hid (HS.out.keep h2 hne)
        have HE := Lib.hid (read_end (kind := kind) (r := ((countS s most).1, 0, (countS s most).2)) HS2.out (hg1.trans h2) hne h1 h0)
        generalize (countS s most).2.length = m at *
        have a0 := block_cell HS2.out 0
        have a1 := block_cell HS2.out 1
        have a2 := block_cell HS2.out 2
        have f0 := block_free HS2.out 0
        have f1 := block_free HS2.out 1
        have f2 := block_free HS2.out 2
        simp only [List.getElem?_toArray, List.getElem?_cons_zero, List.getElem?_cons_succ] at a0 a1 a2
        clear h1 h0
        go_wp2_with fail
        have hcell := set3_heap HS2.out (.int .i64 kind) (.int .u32 0) (.slice A m c)
        have b0 := block_cell hcell 0
        have b1 := block_cell hcell 1
        have b2 := block_cell hcell 2
        simp only [List.getElem?_toArray, List.getElem?_cons_zero, List.getElem?_cons_succ] at b0 b1 b2
        unfold set3 at b0 b1 b2
        exact bodyPost_ret (v := .agg #[.int .i64 kind, .int .u32 0, .slice A m c]) (by simp [results, Try.results34, go_sem, b0, b1, b2]) rfl HE.out

end Go.Proofs.Ytealpmcpaakclaa
