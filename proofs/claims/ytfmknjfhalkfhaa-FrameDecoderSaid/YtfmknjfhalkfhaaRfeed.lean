/-
  The reference's decoder, a struct by value: New, Feed, Buffered.
-/
import Derived.Test.YtfmknjfhalkfhaaRsplit
import Derived.Test.YtfmknjfhalkfhaaStream
namespace Go.Proofs.Ytfmknjfhalkfhaa
open Go.RowKit Mem Wire

theorem splitG_drop {sz : List UInt8 → Nat} {er : Nat → Int} {fr : List UInt8 → Fr} (h8 : ∀ n, er n = 0 → 8 ≤ n) (hfr : ∀ bs, er (sz bs) = 0 → ¬ bs.length < sz bs → 8 + (fr bs).b.length = sz bs) (bs : List UInt8) :
    (splitG sz er fr bs.length bs).2.1 = bs.drop (taken (splitG sz er fr bs.length bs).1) := by
  refine splitG_ind (er := er) (sz := sz) h8 (P := fun bs => (splitG sz er fr bs.length bs).2.1 = bs.drop (taken (splitG sz er fr bs.length bs).1)) ?_ ?_ ?_ ?_ bs
  · intro bs h; rw [splitG_short h]; simp [taken]
  · intro bs h he; rw [splitG_bad h he]; simp [taken]
  · intro bs h he hl; rw [splitG_cut h he hl]; simp [taken]
  · intro bs h he hl ih
    have := hfr bs he hl
    rw [splitG_more h8 h he hl]
    simp only [taken]
    rw [this, ih, List.drop_drop]

theorem split_drop (bs : List UInt8) : (splitS bs).2.1 = bs.drop (taken (splitS bs).1) := splitG_drop err8 (fun _ => frameAt_body) bs

/-- the value of a reference's decoder -/
def rdv (v : Value) (closed : Bool) : Value := .agg #[v, .bool closed]

theorem heap_alloc_at (w : World) (o : Obj) (H : Nat) (hH : w.heap.size = H) : (w.alloc o).heap[H]? = some o := by subst hH; exact heap_alloc_new w o

/-- the variable of a decoder's value, as it is made -/
def Slot2 (w : World) (h : Nat) : Prop := w.heap[h]? = some (.cells #[.slice none 0 0, .bool false] 41 (0, 0))
theorem Slot2.below {w w' : World} {h : Nat} (hs : Slot2 w h) (hb : Below w.heap.size w w') : Slot2 w' h := (hb.block h (block_lt hs)).trans hs
def set2 (w : World) (h : Nat) (x y : Value) : World := (w.setCell ⟨h, 0, none⟩ x).setCell ⟨h, 1, none⟩ y
theorem set2_heap {w : World} {h : Nat} {a b : Value} (hs : w.heap[h]? = some (.cells #[a, b] 41 (0, 0))) (x y : Value) : (set2 w h x y).heap[h]? = some (.cells #[x, y] 41 (0, 0)) := by
  unfold set2
  rw [block_set (block_set hs 0 x) 1 y]
  rfl
theorem set2_grown (w : World) (h : Nat) (x y : Value) : w.grownBy (set2 w h x y) (some h) := (grown_set w h 0 x).trans (grown_set _ h 1 y)

theorem rnew_any (w : World) : Calls Try.prog 18 #[] w fun e w' => e = .returned (rdv (.slice none 0 0) false) ∧ Below w.heap.size w w' := by
  unfold rdv
  go_enter Try.func18, Try.ntmps18
  go_wp2_with fail
  refine bodyPost_ret (v := .agg #[.slice none 0 0, .bool false]) (by simp [results, Try.results18, go_sem]) rfl ⟨rfl, ?_⟩
  exact (Below.refl _ _).alloc (Nat.le_refl _) _

theorem rbuffered_any {w : World} {A : Option Addr} {n c : Nat} {closed : Bool} : Calls Try.prog 22 #[rdv (.slice A n c) closed] w fun e w' => e = .returned (.int .i64 n) ∧ Below w.heap.size w w' := by
  unfold rdv
  go_enter Try.func22, Try.ntmps22
  go_wp2_with fail
  go_ret
  exact ⟨rfl, (Below.refl _ _).alloc (Nat.le_refl _) _⟩

/-- what the reference's Feed leaves -/
def RFeedP (w : World) (r : List Fr × Int × List UInt8 × Bool) (e : Ending) (w' : World) : Prop :=
  ∃ v fv m, e = .returned (.tuple #[rdv v r.2.2.2, fv, .int .i64 r.2.1]) ∧ Sees w' v r.2.2.1 ∧ (r.2.2.1 ≠ [] → ∀ k, v.ownBlock = some k → w.heap.size ≤ k ∨ r.2.2.2 = true) ∧ Frs w' fv m ∧ fst m = r.1 ∧ Below w.heap.size w w'

theorem rfeed_closed {w : World} {A : Option Addr} {n c : Nat} {v : Value} {buf p : List UInt8} (hs : Sees w (.slice A n c) buf) : Calls Try.prog 20 #[rdv (.slice A n c) true, v] w (RFeedP w (feedS buf true p)) := by
  have HS := Lib.hid hs
  clear hs
  unfold rdv
  go_enter Try.func20, Try.ntmps20
  go_wp2_with fail
  refine bodyPost_ret (v := .tuple #[.agg #[.slice A n c, .bool true], .slice none 0 0, .int .i64 20]) (by simp [results, Try.results20, go_sem]) rfl ⟨.slice A n c, .slice none 0 0, [], rfl, ?_, fun _ _ _ => .inr rfl, frs_nil _, rfl, ?_⟩
  · exact HS.out.below (((Below.refl _ _).alloc (Nat.le_refl _) _).alloc (by simp) _)
  · exact ((Below.refl _ _).alloc (Nat.le_refl _) _).alloc (by simp) _

/-- the decoder's value x, closed y stored in the result's variable -/
theorem set2_done {w W : World} {h : Nat} {x : Value} {y : Bool} {bs : List UInt8} {fv : Value} {m : List (Fr × Value)} {lo : Nat} (hs : Slot2 W h) (hb : Below w.heap.size w W) (hh : w.heap.size ≤ h) (hx : Sees W x bs)
    (hf : OwnF W lo fv m) (hq : ∀ p ∈ m, Owns W lo p.2 p.1.b) (hlo : h < lo) :
    (set2 W h x (.bool y)).cell? ⟨h, 0, none⟩ = some x ∧ (set2 W h x (.bool y)).cell? ⟨h, 1, none⟩ = some (.bool y) ∧ Sees (set2 W h x (.bool y)) x bs ∧ Frs (set2 W h x (.bool y)) fv m ∧ Below w.heap.size w (set2 W h x (.bool y)) := by
  have hc := set2_heap hs x (.bool y)
  have hg := set2_grown W h x (.bool y)
  have hno : ∀ o z, W.cell? ⟨h, o, none⟩ ≠ some (byte z) := by
    intro o z
    rw [block_cell hs]
    match o with
    | 0 => simp [byte]
    | 1 => simp [byte]
    | o + 2 => simp
  have hel : Else W (some h) := fun k hk => by
    injection hk with hk
    subst hk
    exact ⟨_, 41, hs, by decide⟩
  refine ⟨by rw [block_cell hc]; rfl, by rw [block_cell hc]; rfl, hx.grown hg hno, ?_, hb.grown hg hb.size (fun k hk => by injection hk with hk; omega)⟩
  have hr : (set2 W h x (.bool y)).ownsRow lo 25 3 fv m.length (flat m) := ownsRow_at hf.1 fun k hk => hg.block k (World.ownsRow.lt hf.1 k hk).2 (fun e => by
    injection e with e
    have := (World.ownsRow.lt hf.1 k hk).1
    omega)
  exact OwnF.frs (base := lo) ⟨hr, fun p hp => .inl ((hq p hp).grownElse hg hel)⟩

set_option maxHeartbeats 1000000 in
theorem rfeed_open {w : World} {A A' : Option Addr} {n c n' c' : Nat} {buf p : List UInt8} (hs : Sees w (.slice A n c) buf) (hp : Sees w (.slice A' n' c') p) (hlen : buf.length + p.length ≤ 1000000) :
    Calls Try.prog 20 #[rdv (.slice A n c) false, .slice A' n' c'] w (RFeedP w (feedS buf false p)) := by
  obtain ⟨w2, hw2⟩ : ∃ w2, w2 = (w.alloc (.cells #[.slice A n c, .bool false] 41)).alloc (.cells #[.slice none 0 0, .bool false] 41) := ⟨_, rfl⟩
  have hb2 : Below w.heap.size w w2 := by rw [hw2]; exact ((Below.refl _ _).alloc (Nat.le_refl _) _).alloc (by simp) _
  have hsl : Slot2 w2 (w.heap.size + 1) := by rw [hw2]; exact heap_alloc_at (w.alloc (.cells #[.slice A n c, .bool false] 41)) _ _ (by simp)
  have hbox : w2.heap[w.heap.size]? = some (.cells #[.slice A n c, .bool false] 41 (0, 0)) := by rw [hw2, Below.heap_alloc _ _ _ (by simp)]; exact heap_alloc_new w _
  have c0 := block_cell hbox 0
  have c1 := block_cell hbox 1
  simp only [List.getElem?_toArray, List.getElem?_cons_zero, List.getElem?_cons_succ] at c0 c1
  have hs2 := Lib.hid (hs.below hb2)
  have hp2 := Lib.hid (hp.below hb2)
  have HW := Lib.hid hw2
  obtain ⟨tot, htot⟩ : ∃ tot, tot = buf ++ p := ⟨_, rfl⟩
  have htl : tot.length ≤ 1000000 := by rw [htot, List.length_append]; exact hlen
  have HT := Lib.hid htot
  have hfs : Hid (feedS buf false p = ((splitS tot).1, (splitS tot).2.2, if (splitS tot).2.2 = 0 then (splitS tot).2.1 else [], decide ((splitS tot).2.2 ≠ 0))) := by
    show _ = _
    rw [htot]
    unfold feedS
    rw [if_neg (by decide)]
    by_cases he : (splitS (buf ++ p)).2.2 = 0
    · rw [if_pos he, if_pos he, he]; rfl
    · rw [if_neg he, if_neg he, decide_eq_true he]
  clear hw2 hs hp hbox htot
  unfold rdv
  go_enter Try.func20, Try.ntmps20
  go_wp2_with (first
    | (at_builtin; rw [← HW.out]; refine wpList_app rfl (.tmp 14) (.tmp 16) rfl rfl (base := w2.heap.size) (xs := []) (own_nil _ _) rfl hs2.out (by simp only [List.length_nil]; omega) (Nat.le_refl _) ?_; intro v3 w3 ho3 hg3 _; rw [List.nil_append] at ho3; have hb3 : Below w2.heap.size w2 w3 := (Below.refl _ _).grown hg3 (Nat.le_refl _) (fun k hk => by cases hk); have HO3 := Lib.hid ho3; clear ho3 hg3)
    | (at_builtin; refine wpList_app rfl (.tmp 18) (.tmp 19) rfl (v := v3) rfl HO3.out rfl (hp2.out.below hb3) (by omega) hb3.size ?_; intro v4 w4 ho4 hg4 _; rw [← HT.out] at ho4; have hb4 : Below w2.heap.size w2 w4 := hb3.grown hg4 hb3.size (fun k hk => (HO3.out.block k hk).1); have HO4 := Lib.hid ho4; obtain ⟨A4, c4, rfl, hk4, _⟩ := ho4.sees.shape; clear ho4 hg4)
    | fail)
  have hle4 : tot.length ≤ c4 := hk4
  refine (rsplit_own HO4.out.sees htl).mono ?_
  rintro e w5 ⟨fv, m, rfl, hof, hbd, hfm, hb5⟩
  have hsl4 := hsl.below hb4
  have hsl5 := hsl4.below hb5
  have a0 := block_cell hsl5 0
  have a1 := block_cell hsl5 1
  have f0 := block_free hsl5 0
  have f1 := block_free hsl5 1
  simp only [List.getElem?_toArray, List.getElem?_cons_zero, List.getElem?_cons_succ] at a0 a1
  have hb45 : Below w.heap.size w w5 := hb2.trans ((hb4.trans (hb5.mono hb4.size)).mono hb2.size)
  have hlt : w.heap.size + 1 < w4.heap.size := block_lt hsl4
  have HSL := Lib.hid hsl5
  have HB := Lib.hid hb45
  have HOF := Lib.hid hof
  have HBD := Lib.hid hbd
  have HFM := Lib.hid hfm
  have HSE := Lib.hid (HO4.out.sees.below hb5)
  have hdrop := split_drop tot
  have hlen2 := split_length tot
  have HDR := Lib.hid hdrop
  clear hsl hsl4 hsl5 hb45 hof hbd hfm hb5 hb4 hb3 hs2 hp2 hdrop c0 c1 hk4
  by_cases he : (splitS tot).2.2 = 0
  · have htk : taken (splitS tot).1 ≤ tot.length := by omega
    have S1 := fun W => slice_l (A := A4) (n := tot.length) (c := c4) (taken (splitS tot).1) htk W
    have HRS := Lib.hid (HSE.out.drop htk)
    rw [← HDR.out] at HRS
    have hfs2 := hfs.out
    rw [if_pos he, he] at hfs2
    have HFS := Lib.hid hfs2
    rw [he]
    clear hfs hfs2 hlen2 HDR he HSE
    generalize taken (splitS tot).1 = tk at *
    have HBLK : Hid (∀ k, (Value.slice (if c4 = tk then A4 else A4.map (·.add tk)) (tot.length - tk) (c4 - tk)).ownBlock = some k → w.heap.size ≤ k) := fun k hk => by
      have h4 : ∀ a, A4 = some a → w.heap.size ≤ a.block := fun a ha => by
        have h5 := (HO4.out.block a.block (by rw [ha]; rfl)).1
        have h6 := hb2.size
        omega
      split at hk
      · cases A4 with
        | none => cases hk
        | some a =>
          have e : some a.block = some k := hk
          injection e with e
          rw [← e]
          exact h4 a rfl
      · cases A4 with
        | none => cases hk
        | some a =>
          have e : some (a.add tk).block = some k := hk
          have e2 : (a.add tk).block = a.block := by unfold Addr.add; split <;> rfl
          injection e with e
          rw [← e, e2]
          exact h4 a rfl
    generalize (if c4 = tk then A4 else A4.map (·.add tk)) = A6 at *
    generalize tot.length - tk = n6 at *
    generalize c4 - tk = c6 at *
    obtain ⟨e0, e1, hs6, hf6, hb6⟩ := set2_done (w := w) (y := false) HSL.out HB.out (Nat.le_succ _) HRS.out HOF.out HBD.out hlt
    have HS6 := Lib.hid hs6
    have HF6 := Lib.hid hf6
    have HB6 := Lib.hid hb6
    clear hs6 hf6 hb6
    go_wp2_with fail
    refine bodyPost_ret (v := .tuple #[.agg #[.slice A6 n6 c6, .bool false], fv, .int .i64 0]) (by simp [results, Try.results20, go_sem, a0, a1]) rfl ?_
    rw [HFS.out]
    exact ⟨.slice A6 n6 c6, fv, m, rfl, HS6.out, fun _ k hk => .inl (HBLK.out k hk), HF6.out, HFM.out, HB6.out⟩
  · obtain ⟨e0, e1, hs6, hf6, hb6⟩ := set2_done (w := w) (y := true) HSL.out HB.out (Nat.le_succ _) (sees_nil w5) HOF.out HBD.out hlt
    have HS6 := Lib.hid hs6
    have HF6 := Lib.hid hf6
    have HB6 := Lib.hid hb6
    have hfs2 := hfs.out
    rw [if_neg he, decide_eq_true he] at hfs2
    have HFS := Lib.hid hfs2
    clear hs6 hf6 hb6 hfs hfs2 HDR HSE hlen2
    generalize taken (splitS tot).1 = tk at *
    generalize (splitS tot).2.2 = x at *
    have hxb : (x == 0) = false := by rw [beq_eq_false_iff_ne]; exact he
    have hxb2 : (x != 0) = true := by rw [bne, hxb]; rfl
    go_wp2_with fail
    refine bodyPost_ret (v := .tuple #[.agg #[.slice none 0 0, .bool true], fv, .int .i64 x]) (by simp [results, Try.results20, go_sem, a0, a1]) rfl ?_
    rw [HFS.out]
    exact ⟨.slice none 0 0, fv, m, rfl, HS6.out, fun h => absurd rfl h, HF6.out, HFM.out, HB6.out⟩

theorem rfeed_any {w : World} {A A' : Option Addr} {n c n' c' : Nat} {closed : Bool} {buf p : List UInt8} (hs : Sees w (.slice A n c) buf) (hp : Sees w (.slice A' n' c') p) (hlen : buf.length + p.length ≤ 1000000) :
    Calls Try.prog 20 #[rdv (.slice A n c) closed, .slice A' n' c'] w (RFeedP w (feedS buf closed p)) := by
  cases closed with
  | false => exact rfeed_open hs hp hlen
  | true => exact rfeed_closed hs

/-- slices of bytes and of frames, where a decoder's variable is set -/
theorem cells41 {W : World} {h : Nat} {A : Option Addr} {n c : Nat} {y : Bool} (hh : W.heap[h]? = some (.cells #[.slice A n c, .bool y] 41 (0, 0))) : ∀ o k x, W.cell? ⟨h, o, none⟩ ≠ some (.int k x) := by
  intro o k x
  rw [block_cell hh]
  match o with
  | 0 => simp
  | 1 => simp
  | o + 2 => simp

theorem frs_set2 {W W' : World} {h : Nat} {A : Option Addr} {n c : Nat} {y : Bool} {v : Value} {l : List (Fr × Value)} (hf : Frs W v l) (hh : W.heap[h]? = some (.cells #[.slice A n c, .bool y] 41 (0, 0))) (hg : W.grownBy W' (some h)) : Frs W' v l := by
  have hno := cells41 hh
  obtain ⟨A3, cap, hv, h1, h2, h3, h4⟩ := hf
  refine ⟨A3, cap, hv, h1, h2, fun p hp => (h3 p hp).grown hg (fun o x => hno o _ _), fun hn => ?_⟩
  obtain ⟨b, off, hA, hlt, hc⟩ := h4 hn
  have hbh : some b ≠ some h := fun e => by
    injection e with e
    subst e
    obtain ⟨c0, _, _⟩ := hc 0 _ (List.getElem?_eq_getElem hn)
    exact hno _ _ _ c0
  refine ⟨b, off, hA, Nat.lt_of_lt_of_le hlt hg.size, fun j p hj => ?_⟩
  obtain ⟨c0, c1, c2⟩ := hc j p hj
  exact ⟨hg.cell c0 hbh, hg.cell c1 hbh, hg.cell c2 hbh⟩

end Go.Proofs.Ytfmknjfhalkfhaa
