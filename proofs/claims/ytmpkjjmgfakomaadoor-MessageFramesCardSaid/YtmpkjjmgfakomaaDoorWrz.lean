/-
  The reference of package wire.
-/
import Derived.Test.YtmpkjjmgfakomaaDoorWpz
import Derived.Lib.ConvBytes
import Derived.Deep.RegionHeld3
import Derived.Test.YtmpkjjmgfakomaaDoorBase
import Derived.BigQuiet
import Derived.StillTailTactics
namespace Go.Proofs.YtmpkjjmgfakomaaDoor
open Go.RowKit Mem Wire

theorem own_nil (w : World) (base : Nat) : Owns w base (.slice none 0 0) [] := World.ownsRow_nil w base 5 1

/-- one append of one byte -/
theorem sees_one (w : World) (z : Int) (x : UInt8) (h : z = (x.toNat : Int)) : Sees (w.alloc (.cells #[.int .u8 z] 5)) (.slice (some ⟨w.heap.size, 0, none⟩) 1 1) [x] :=
  sees_new w _ [x] 1 rfl (by subst h; rfl) (by simp [maxLen])

set_option maxRecDepth 100000 in
set_option maxHeartbeats 400000 in
theorem ref_uint {w : World} {A : Option Addr} {n c : Nat} {bs : List UInt8} (x : Nat) (hx : x < 4294967296) (hs : Sees w (.slice A n c) bs) (hb : bs.length ≤ 1000000) :
    Calls Tryd.prog 25 #[.slice A n c, .int .u32 x] w (Puts w (bs ++ enc4 x)) := by
  have HS := Lib.hid hs
  clear hs
  go_enter Tryd.func25, Tryd.ntmps25
  go_wp2_with (at_builtin; refine wpList_app rfl (.tmp 7) (.tmp 8) rfl rfl (base := w.heap.size) (xs := []) (own_nil _ _) rfl HS.out (by simp only [List.length_nil]; omega) (Nat.le_refl _) ?_; intro v0 w0 ho0 hg0 _; have hb0 : Below w.heap.size w w0 := (Below.refl _ _).grown hg0 (Nat.le_refl _) (fun k hk => by cases hk); rw [List.nil_append] at ho0; have H0 := Lib.hid ho0; clear ho0 hg0)
  refine wp_loop_rounds 5 ?_
  rw [rounds_succ]
  go_wp2_with (at_builtin; refine wpList_app rfl (.tmp 14) (.tmp 21) rfl rfl (base := w.heap.size) (H0.out.alloc _) rfl (sees_one w0 _ (UInt8.ofNat x) (by rw [UInt8.toNat_ofNat']; omega)) (by simp; omega) (by have := hb0.size; simp; omega) ?_; intro v1 w1 ho1 hg1 _; have hb1 : Below w.heap.size w w1 := (hb0.alloc hb0.size _).grown hg1 (by have := hb0.size; simp; omega) (fun k hk => (H0.out.block k hk).1); have H1 := Lib.hid ho1; clear ho1 hg1)
  rw [rounds_succ]
  go_wp2_with (at_builtin; refine wpList_app rfl (.tmp 14) (.tmp 21) rfl rfl (base := w.heap.size) (H1.out.alloc _) rfl (sees_one w1 _ (UInt8.ofNat (x / 256)) (by rw [UInt8.toNat_ofNat']; omega)) (by simp; omega) (by have := hb1.size; simp; omega) ?_; intro v2 w2 ho2 hg2 _; have hb2 : Below w.heap.size w w2 := (hb1.alloc hb1.size _).grown hg2 (by have := hb1.size; simp; omega) (fun k hk => (H1.out.block k hk).1); have H2 := Lib.hid ho2; clear ho2 hg2)
  rw [rounds_succ]
  go_wp2_with (at_builtin; refine wpList_app rfl (.tmp 14) (.tmp 21) rfl rfl (base := w.heap.size) (H2.out.alloc _) rfl (sees_one w2 _ (UInt8.ofNat (x / 65536)) (by rw [UInt8.toNat_ofNat']; omega)) (by simp; omega) (by have := hb2.size; simp; omega) ?_; intro v3 w3 ho3 hg3 _; have hb3 : Below w.heap.size w w3 := (hb2.alloc hb2.size _).grown hg3 (by have := hb2.size; simp; omega) (fun k hk => (H2.out.block k hk).1); have H3 := Lib.hid ho3; clear ho3 hg3)
  rw [rounds_succ]
  go_wp2_with (at_builtin; refine wpList_app rfl (.tmp 14) (.tmp 21) rfl rfl (base := w.heap.size) (H3.out.alloc _) rfl (sees_one w3 _ (UInt8.ofNat (x / 16777216)) (by rw [UInt8.toNat_ofNat']; omega)) (by simp; omega) (by have := hb3.size; simp; omega) ?_; intro v4 w4 ho4 hg4 _; have hb4 : Below w.heap.size w w4 := (hb3.alloc hb3.size _).grown hg4 (by have := hb3.size; simp; omega) (fun k hk => (H3.out.block k hk).1); have H4 := Lib.hid ho4; clear ho4 hg4)
  rw [rounds_succ]
  go_wp2_with fail
  go_ret
  refine ⟨v4, rfl, ?_, hb4⟩
  have h := H4.out
  simpa [enc4, List.append_assoc] using h

theorem ret_num {k : IntKind} {a b : Int} (h : a = b) : Ending.returned (.int k a) = .returned (.int k b) := by rw [h]

set_option maxRecDepth 100000 in
theorem ref_int {w : World} {A : Option Addr} {n c : Nat} {bs : List UInt8} (x : Int) (hs : Sees w (.slice A n c) bs) (hb : bs.length ≤ 1000000) :
    Calls Tryd.prog 59 #[.slice A n c, .int .i32 x] w (Puts w (bs ++ enc4 (x % 4294967296).toNat)) := by
  have HR := Lib.hid (ref_uint (x % 4294967296).toNat (by omega) hs hb)
  have hxx : (((x % 4294967296).toNat : Nat) : Int) = x % 4294967296 := by omega
  rw [hxx] at HR
  clear hs hxx
  go_enter Tryd.func59, Tryd.ntmps59
  go_wp2_with fail
  refine HR.out.mono ?_
  rintro e w1 ⟨v1, rfl, h1, h2⟩
  go_wp2_with fail
  go_ret
  exact ⟨v1, rfl, h1, h2⟩

set_option maxRecDepth 100000 in
theorem padding_any (n : Nat) (hn : n ≤ 1000000) (w : World) : Calls Tryd.prog 90 #[.int .i64 n] w fun e w' => e = .returned (.int .i64 ((pad n : Nat) : Int)) ∧ w = w' := by
  go_enter Tryd.func90, Tryd.ntmps90
  go_wp2_with fail
  go_ret
  exact ⟨ret_num (by unfold pad; omega), rfl⟩

/-- the bytes so far, in the loop that writes the padding -/
def Padded (w : World) (bs : List UInt8) (j : Nat) (v : Value) (wr : World) : Prop := Owns wr w.heap.size v (bs ++ List.replicate j 0) ∧ Below w.heap.size w wr

set_option maxRecDepth 100000 in
set_option maxHeartbeats 400000 in
theorem ref_array {w : World} {A A' : Option Addr} {n c m c' : Nat} {bs xs : List UInt8} (hs : Sees w (.slice A n c) bs) (hx : Sees w (.slice A' m c') xs) (hb : bs.length ≤ 500000) (hm : m ≤ 100000) :
    Calls Tryd.prog 61 #[.slice A n c, .slice A' m c'] w (Puts w (bs ++ encA xs)) := by
  have hml : m = xs.length := by
    obtain ⟨_, _, hv, _⟩ := hx.shape
    injection hv
  have hshape : m ≤ c' ∧ c' ≤ maxLen := by
    obtain ⟨_, _, hv, h1, h2⟩ := hx.shape
    injection hv with _ e1 e2
    omega
  obtain ⟨hcm, _⟩ := hshape
  have HM := Lib.hid hml
  have HX := Lib.hid hx
  have HU := Lib.hid (ref_uint m (by omega) hs (by omega))
  have hp4 : pad m ≤ 3 := by unfold pad; omega
  have HP := Lib.hid (padding_any m (by omega))
  have HPE : Hid (bs ++ encA xs = bs ++ enc4 m ++ xs ++ List.replicate (pad m) 0) := by
    show _ = _
    rw [hml, encA]; simp [List.append_assoc]
  clear hs hx hml
  generalize pad m = p at *
  go_enter Tryd.func61, Tryd.ntmps61
  go_wp2_with fail
  refine HU.out.mono ?_
  rintro e w1 ⟨v1, rfl, ho1, hb1⟩
  have H1 := Lib.hid ho1
  clear ho1
  go_wp2_with (at_builtin; refine wpList_app rfl (.tmp 12) (.tmp 13) rfl rfl H1.out rfl (HX.out.below hb1) (by have := HM.out; simp [enc4]; omega) hb1.size ?_; intro v2 w2 ho2 hg2 _; have hb2 : Below w.heap.size w w2 := hb1.grown hg2 hb1.size (fun k hk => (H1.out.block k hk).1); have H2 := Lib.hid ho2; clear ho2 hg2)
  have hl2 : (bs ++ enc4 m ++ xs).length ≤ 700000 := by have := HM.out; simp [enc4]; omega
  generalize bs ++ enc4 m ++ xs = L at *
  go_loopw [5, 6] (fun v i wr => ∃ j : Nat, j ≤ p ∧ i = .int .i64 j ∧ Padded w L j v wr) (fun _ i _ => p - (intOf i).toNat)
  case atStart => exact ⟨0, Nat.zero_le _, rfl, by simpa using H2.out, hb2⟩
  case round =>
    obtain ⟨j, hj, rfl, ho, hbr⟩ := hrel
    have HO := Lib.hid ho
    clear ho
    by_cases hlt : j < p
    · go_wp2_with fail
      refine (HP.out _).mono ?_
      rintro e w3 ⟨rfl, rfl⟩
      go_wp2_with (at_builtin; refine wpList_app rfl (.tmp 22) (.tmp 23) rfl rfl (HO.out.alloc _) rfl (sees_one wr _ 0 rfl) (by simp; omega) (by have := hbr.size; simp; omega) ?_; intro v4 w4 ho4 hg4 _; have hb4 : Below w.heap.size w w4 := (hbr.alloc hbr.size _).grown hg4 (by have := hbr.size; simp; omega) (fun k hk => (HO.out.block k hk).1); have H4 := Lib.hid ho4; clear ho4 hg4)
      go_roundw
      case rel => exact ⟨j + 1, by omega, by go_num, by have h := H4.out; rw [List.append_assoc, ← List.replicate_succ'] at h; exact h, hb4⟩
      case measure => simp [intOf]; omega
    · go_wp2_with fail
      refine (HP.out _).mono ?_
      rintro e w3 ⟨rfl, rfl⟩
      go_wp2_with fail
      go_ret
      have hjp : j = p := by omega
      exact ⟨_, rfl, by have h := HO.out; rw [hjp] at h; rw [HPE.out]; exact h, hbr⟩

set_option maxRecDepth 100000 in
theorem ref_string {w : World} {A : Option Addr} {n c : Nat} {bs : List UInt8} (s : ByteArray) (hs : Sees w (.slice A n c) bs) (hb : bs.length ≤ 500000) (hm : s.size ≤ 100000) :
    Calls Tryd.prog 60 #[.slice A n c, .string s] w (Puts w (bs ++ encA s.data.toList)) := by
  have hcv : ∀ w : World, (convert 9 28 (.string s)).run Tryd.prog w = .ok (.slice (some ⟨w.heap.size, 0, none⟩) s.size (grownCap w s.size 0 5)) (Lib.bytesWorld w 5 s) := fun w => Lib.run_convert_string_bytes w 9 28 5 s Tryd.underlying9 Tryd.underlying28 Tryd.underlying5
  have hbw := bytesWorld_below w 5 s
  have HA := Lib.hid (ref_array (hs.below hbw) (sees_text w s (by simp only [maxLen]; omega)) hb hm)
  clear hs
  go_enter Tryd.func60, Tryd.ntmps60
  go_wp2_with fail
  refine HA.out.mono ?_
  rintro e w1 ⟨v1, rfl, h1, h2⟩
  go_wp2_with fail
  go_ret
  exact ⟨v1, rfl, h1.mono hbw.size, hbw.trans (h2.mono hbw.size)⟩

end Go.Proofs.YtmpkjjmgfakomaaDoor

namespace Go.Proofs.YtmpkjjmgfakomaaDoor
open Go.RowKit Mem Wire

/-- the value of a reference's reader -/
def rv (v : Value) (e : Int) : Value := .agg #[v, .int .i64 e]

/-- a new reader value in the state s comes back -/
def Back1 (w : World) (s : St) (e : Ending) (w' : World) : Prop := ∃ v, e = .returned (rv v s.2) ∧ Sees w' v s.1 ∧ Below w.heap.size w w'
/-- a new reader value and a plain value come back -/
def Back2 (w : World) (s : St) (r : Value) (e : Ending) (w' : World) : Prop := ∃ v, e = .returned (.tuple #[rv v s.2, r]) ∧ Sees w' v s.1 ∧ Below w.heap.size w w'
/-- the value leads to no block older than n -/
def NewB (n : Nat) (v : Value) : Prop := ∀ k, v.ownBlock = some k → n ≤ k
theorem newB_nil (n l c : Nat) : NewB n (.slice none l c) := fun k h => by cases h

/-- a new reader value and a new slice of bytes come back -/
def Back3 (w : World) (s : St) (bs : List UInt8) (e : Ending) (w' : World) : Prop := ∃ v r, e = .returned (.tuple #[rv v s.2, r]) ∧ Sees w' v s.1 ∧ Sees w' r bs ∧ NewB w.heap.size r ∧ Below w.heap.size w w'

/-- a block of two cells -/
theorem two_cells {w : World} {x y : Value} : (w.alloc (.cells #[x, y] 58)).heap[w.heap.size]? = some (.cells #[x, y] 58 (0, 0)) := heap_alloc_new w _

theorem own_at (w : World) (H : Nat) (hH : w.heap.size = H) : Owns (w.alloc (.cells #[] 5)) H (.slice (some ⟨H, 0, none⟩) 0 0) [] := by subst hH; exact own_empty w

set_option maxRecDepth 100000 in
theorem ref_fail {w : World} {A : Option Addr} {n c : Nat} (e x : Int) : Calls Tryd.prog 95 #[rv (.slice A n c) e, .int .i64 x] w (Back1 w ([], x)) := by
  unfold rv
  go_enter Tryd.func95, Tryd.ntmps95
  go_wp2_with fail
  refine bodyPost_ret (v := .agg #[.slice none 0 0, .int .i64 x]) (by simp [results, Tryd.results95, go_sem]) rfl ⟨_, rfl, sees_nil _, ?_⟩
  exact ((Below.refl _ _).alloc (Nat.le_refl _) _).alloc (by simp) _

theorem heap_alloc_at (w : World) (o : Obj) (H : Nat) (hH : w.heap.size = H) : (w.alloc o).heap[H]? = some o := by subst hH; exact heap_alloc_new w o

/-- the variable of a reader's value, as it is made -/
def Slot2 (w : World) (h : Nat) : Prop := w.heap[h]? = some (.cells #[.slice none 0 0, .int .i64 0] 58 (0, 0))
theorem Slot2.below {w w' : World} {h : Nat} (hs : Slot2 w h) (hb : Below w.heap.size w w') : Slot2 w' h := (hb.block h (block_lt hs)).trans hs
theorem Slot2.noByte {w : World} {h : Nat} (hs : Slot2 w h) : ∀ o x, w.cell? ⟨h, o, none⟩ ≠ some (byte x) := by
  intro o x
  rw [block_cell hs]
  match o with
  | 0 => simp [byte]
  | 1 => simp [byte]
  | o + 2 => simp
def set2 (w : World) (h : Nat) (x y : Value) : World := (w.setCell ⟨h, 0, none⟩ x).setCell ⟨h, 1, none⟩ y
theorem set2_heap {w : World} {h : Nat} (hs : Slot2 w h) (x y : Value) : (set2 w h x y).heap[h]? = some (.cells #[x, y] 58 (0, 0)) := by
  unfold set2
  rw [block_set (block_set hs 0 x) 1 y]
  rfl
theorem set2_grown (w : World) (h : Nat) (x y : Value) : w.grownBy (set2 w h x y) (some h) := (grown_set w h 0 x).trans (grown_set _ h 1 y)

/-- the reader's value x, e stored in the result's variable -/
theorem set2_done {w W : World} {h : Nat} {x : Value} {e : Int} {bs : List UInt8} (hs : Slot2 W h) (hb : Below w.heap.size w W) (hh : w.heap.size ≤ h) (hz : Sees W x bs) :
    (set2 W h x (.int .i64 e)).cell? ⟨h, 0, none⟩ = some x ∧ (set2 W h x (.int .i64 e)).cell? ⟨h, 1, none⟩ = some (.int .i64 e) ∧ Sees (set2 W h x (.int .i64 e)) x bs ∧ Below w.heap.size w (set2 W h x (.int .i64 e)) := by
  have hc := set2_heap hs x (.int .i64 e)
  have hg := set2_grown W h x (.int .i64 e)
  exact ⟨by rw [block_cell hc]; rfl, by rw [block_cell hc]; rfl, hz.grown hg hs.noByte, hb.grown hg hb.size (fun k hk => by injection hk with hk; omega)⟩

theorem slot2_kept {w w2 : World} {o : Obj} {x y : Value} {n c : Nat} (hg : ((w.alloc (.cells #[x, y] 58)).alloc o).grownBy w2 (Value.slice (some ⟨w.heap.size + 1, 0, none⟩) n c).ownBlock) : w2.heap[w.heap.size]? = some (.cells #[x, y] 58 (0, 0)) := by
  rw [hg.block w.heap.size (by simp; omega) (by simp [Value.ownBlock])]
  rw [Below.heap_alloc _ _ _ (by simp)]
  exact heap_alloc_new w _

set_option maxRecDepth 100000 in
theorem ref_from {w : World} {A : Option Addr} {n c : Nat} {bs : List UInt8} (hs : Sees w (.slice A n c) bs) (hb : bs.length ≤ 1000000) : Calls Tryd.prog 35 #[.slice A n c] w (Back1 w (bs, 0)) := by
  have HS := Lib.hid hs
  clear hs
  go_enter Tryd.func35, Tryd.ntmps35
  go_wp2_with (at_builtin; refine wpList_app rfl (.tmp 3) (.tmp 4) rfl (v := .slice (some ⟨w.heap.size + 1, 0, none⟩) 0 0) rfl (base := w.heap.size + 1) (own_at (w.alloc (.cells #[.slice none 0 0, .int .i64 0] 58)) _ (by simp)) rfl ((HS.out.alloc _).alloc _) (by simp; omega) (by simp) ?_; intro v2 w2 ho2 hg2 _; have hse := Lib.hid ho2.sees; obtain ⟨A2, c2, rfl, _, _⟩ := hse.out.shape; have hh := slot2_kept hg2; have a0 := block_cell hh 0; have a1 := block_cell hh 1; have f0 := block_free hh 0; have f1 := block_free hh 1; simp only [List.getElem?_toArray, List.getElem?_cons_zero, List.getElem?_cons_succ] at a0 a1; have HH := Lib.hid hh; have HG := Lib.hid hg2; clear hh hg2 ho2)
  have hb2 : Below w.heap.size w w2 := (((Below.refl _ _).alloc (Nat.le_refl _) _).alloc (by simp) _).grown HG.out (by simp; omega) (fun k hk => by
    have e : some (w.heap.size + 1) = some k := hk
    injection e with e
    omega)
  obtain ⟨_, _, h3, h4⟩ := set2_done (e := 0) HH.out hb2 (Nat.le_refl _) hse.out
  rw [List.nil_append] at h3 h4
  refine bodyPost_ret (v := .agg #[.slice A2 bs.length c2, .int .i64 0]) (by simp [results, Tryd.results35, go_sem, a0, a1]) rfl ⟨_, rfl, h3, h4⟩

/-- a reader's value in a box -/
theorem box_cells {w : World} {x : Value} {e : Int} : (w.alloc (.cells #[x, .int .i64 e] 58)).cell? ⟨w.heap.size, 0, none⟩ = some x ∧ (w.alloc (.cells #[x, .int .i64 e] 58)).cell? ⟨w.heap.size, 1, none⟩ = some (.int .i64 e) := by
  constructor <;> (rw [World.cell?_alloc_at _ _ _ _ rfl]; rfl)

set_option maxRecDepth 100000 in
theorem ruint_err {w : World} {A : Option Addr} {n c : Nat} {bs : List UInt8} {e : Int} (hs : Sees w (.slice A n c) bs) (he : e ≠ 0) : Calls Tryd.prog 77 #[rv (.slice A n c) e] w (Back2 w (bs, e) (.int .u32 0)) := by
  have hb : (e == 0) = false := by simpa using he
  have hb2 : (e != 0) = true := by rw [bne, hb]; rfl
  unfold rv
  go_enter Tryd.func77, Tryd.ntmps77
  go_wp2_with fail
  refine bodyPost_ret (v := .tuple #[.agg #[.slice A n c, .int .i64 e], .int .u32 0]) (by simp [results, Tryd.results77, go_sem]) rfl ⟨_, rfl, ?_, ?_⟩
  · exact (hs.alloc _).alloc _
  · exact ((Below.refl _ _).alloc (Nat.le_refl _) _).alloc (by simp) _

set_option maxRecDepth 100000 in
theorem ruint_short {w : World} {A : Option Addr} {n c : Nat} (hn : n < 4) : Calls Tryd.prog 77 #[rv (.slice A n c) 0] w (Back2 w ([], 4) (.int .u32 0)) := by
  obtain ⟨w2, hw2⟩ : ∃ w2, w2 = (w.alloc (.cells #[.slice A n c, .int .i64 0] 58)).alloc (.cells #[.slice none 0 0, .int .i64 0] 58) := ⟨_, rfl⟩
  have hb2 : Below w.heap.size w w2 := by rw [hw2]; exact ((Below.refl _ _).alloc (Nat.le_refl _) _).alloc (by simp) _
  have hsl : Slot2 w2 (w.heap.size + 1) := by rw [hw2]; exact heap_alloc_at (w.alloc (.cells #[.slice A n c, .int .i64 0] 58)) _ _ (by simp)
  have HW := Lib.hid hw2
  have HF := Lib.hid (ref_fail (w := w2) (A := A) (n := n) (c := c) 0 4)
  unfold rv at HF ⊢
  clear hw2
  go_enter Tryd.func77, Tryd.ntmps77
  go_wp2_with fail
  rw [← HW.out]
  refine HF.out.mono ?_
  rintro e w3 ⟨v3, rfl, hs3, h3⟩
  obtain ⟨A3, c3, rfl, _, _⟩ := hs3.shape
  have hsl3 := hsl.below h3
  have a0 := block_cell hsl3 0
  have a1 := block_cell hsl3 1
  have f0 := block_free hsl3 0
  have f1 := block_free hsl3 1
  simp only [List.getElem?_toArray, List.getElem?_cons_zero, List.getElem?_cons_succ] at a0 a1
  have HS3 := Lib.hid hs3
  have HSL := Lib.hid hsl3
  unfold rv
  clear hs3 hsl3
  go_wp2_with fail
  obtain ⟨_, _, h4, h5⟩ := set2_done (e := 4) HSL.out (hb2.trans (h3.mono hb2.size)) (by omega) HS3.out
  exact bodyPost_ret (v := .tuple #[.agg #[.slice A3 0 c3, .int .i64 4], .int .u32 0]) (by simp [results, Tryd.results77, go_sem, a0, a1]) rfl ⟨_, rfl, h4, h5⟩

set_option maxRecDepth 100000 in
set_option maxHeartbeats 400000 in
theorem ruint_good {w : World} {A : Option Addr} {n c : Nat} {bs : List UInt8} (hs : Sees w (.slice A n c) bs) (hn : 4 ≤ n) : Calls Tryd.prog 77 #[rv (.slice A n c) 0] w (Back2 w (bs.drop 4, 0) (.int .u32 (at4 bs : Int))) := by
  have hbyte : ∀ x : UInt8, x.toNat < 256 := fun x => x.toNat_lt
  have hdrop := hs.drop (k := 4) hn
  have hcap : n ≤ c ∧ c ≤ 9223372036854775807 := by
    obtain ⟨_, _, hv0, h1, h2⟩ := hs.shape
    injection hv0 with _ e2 e3
    simp only [maxLen] at h2
    omega
  obtain ⟨hcc, hcm2⟩ := hcap
  rcases hs.ways with ⟨_, _, hv, _⟩ | ⟨b, off, n', c', hv, _, _, _, _, hb, hcell⟩
  · injection hv with _ e2; omega
  · injection hv with e1 e2 e3
    subst e1 e2 e3
    have c0 := hcell 0 (by omega)
    have c1 := hcell 1 (by omega)
    have c2 := hcell 2 (by omega)
    have c3 := hcell 3 (by omega)
    unfold byte at c0 c1 c2 c3
    rw [Nat.add_zero] at c0
    have b0 := hbyte (bs.getD 0 0)
    have b1 := hbyte (bs.getD 1 0)
    have b2 := hbyte (bs.getD 2 0)
    have b3 := hbyte (bs.getD 3 0)
    have HV : Hid (at4 bs = num4 (bs.getD 0 0).toNat (bs.getD 1 0).toNat (bs.getD 2 0).toNat (bs.getD 3 0).toNat) := rfl
    have HD := Lib.hid hdrop
    clear hcell hbyte hdrop hs
    generalize (bs.getD 0 0).toNat = x0 at *
    generalize (bs.getD 1 0).toNat = x1 at *
    generalize (bs.getD 2 0).toNat = x2 at *
    generalize (bs.getD 3 0).toNat = x3 at *
    unfold rv
    go_enter Tryd.func77, Tryd.ntmps77
    go_wp2_with fail
    refine wp_loop_rounds 5 ?_
    rw [rounds_succ]
    go_wp2_with fail
    rw [rounds_succ]
    go_wp2_with fail
    rw [rounds_succ]
    go_wp2_with fail
    rw [rounds_succ]
    go_wp2_with fail
    rw [rounds_succ]
    go_wp2_with fail
    case inl =>
      have HC1 : c = 4 := h
      subst HC1
      have HE := HD.out
      rw [if_pos rfl] at HE
      refine bodyPost_ret (v := .tuple #[.agg #[.slice (some ⟨b, off, none⟩) (n - 4) 0, .int .i64 0], .int .u32 ((x0 : Int) + x1 * 256 + x2 * 65536 + x3 * 16777216)]) (by simp [results, Tryd.results77, go_sem]) rfl ⟨_, ?_, (HE.alloc _).alloc _, ((Below.refl _ _).alloc (Nat.le_refl _) _).alloc (by simp) _⟩
      rw [HV.out]
      simp [rv, num4]
    case inr =>
      have HE := HD.out
      rw [if_neg h] at HE
      refine bodyPost_ret (v := .tuple #[.agg #[.slice (some ⟨b, off + 4, none⟩) (n - 4) (c - 4), .int .i64 0], .int .u32 ((x0 : Int) + x1 * 256 + x2 * 65536 + x3 * 16777216)]) (by simp [results, Tryd.results77, go_sem]) rfl ⟨_, ?_, (HE.alloc _).alloc _, ((Below.refl _ _).alloc (Nat.le_refl _) _).alloc (by simp) _⟩
      rw [HV.out]
      simp [rv, num4]
      rfl

end Go.Proofs.YtmpkjjmgfakomaaDoor

namespace Go.Proofs.YtmpkjjmgfakomaaDoor
open Go.RowKit Mem Wire

theorem rlen {w : World} {A : Option Addr} {n c : Nat} {bs : List UInt8} (hs : Sees w (.slice A n c) bs) : n = bs.length ∧ n ≤ c ∧ c ≤ 9223372036854775807 := by
  obtain ⟨_, _, hv, h1, h2⟩ := hs.shape
  injection hv with _ e1 e2
  simp only [maxLen] at h2
  omega

set_option maxRecDepth 100000 in
theorem ruint_any {w : World} {A : Option Addr} {n c : Nat} {s : St} (hs : Sees w (.slice A n c) s.1) (hf : Fine s) :
    Calls Tryd.prog 77 #[rv (.slice A n c) s.2] w (Back2 w (numS s).1 (.int .u32 ((numS s).2 : Int))) := by
  obtain ⟨bs, e⟩ := s
  dsimp only at hs ⊢
  obtain ⟨hn, _, _⟩ := rlen hs
  by_cases he : e = 0
  · subst he
    by_cases h4 : bs.length < 4
    · have hN : numS (bs, 0) = (([], 4), 0) := by unfold numS failS; simp [h4]
      rw [hN]
      exact ruint_short (by omega)
    · have hN : numS (bs, 0) = ((bs.drop 4, 0), at4 bs) := by unfold numS; simp only []; rw [if_neg h4]
      rw [hN]
      exact ruint_good hs (by omega)
  · have h0 : bs = [] := hf he
    subst h0
    have hN : numS ([], e) = (([], e), 0) := by unfold numS failS; simp [he]
    rw [hN]
    exact ruint_err hs he

/-- the reader's value stored in the result's variable, behind a box that was made before -/
theorem set2_out {w W : World} {h : Nat} {x : Value} {e : Int} {bs : List UInt8} (hs : Slot2 W h) (hb : Below w.heap.size w W) (hh : w.heap.size ≤ h) (hz : Sees W x bs) (o : Obj) :
    (((W.setCell ⟨h, 0, none⟩ x).setCell ⟨h, 1, none⟩ (.int .i64 e)).alloc o).cell? ⟨h, 0, none⟩ = some x ∧ (((W.setCell ⟨h, 0, none⟩ x).setCell ⟨h, 1, none⟩ (.int .i64 e)).alloc o).cell? ⟨h, 1, none⟩ = some (.int .i64 e) ∧
    Sees (((W.setCell ⟨h, 0, none⟩ x).setCell ⟨h, 1, none⟩ (.int .i64 e)).alloc o) x bs ∧ Below w.heap.size w (((W.setCell ⟨h, 0, none⟩ x).setCell ⟨h, 1, none⟩ (.int .i64 e)).alloc o) := by
  obtain ⟨h0, h1, h2, h3⟩ := set2_done (e := e) hs hb hh hz
  have hc := set2_heap hs x (.int .i64 e)
  have hl : h < (set2 W h x (.int .i64 e)).heap.size := block_lt hc
  have hb2 : Below (set2 W h x (.int .i64 e)).heap.size (set2 W h x (.int .i64 e)) ((set2 W h x (.int .i64 e)).alloc o) := (Below.refl _ _).alloc (Nat.le_refl _) _
  refine ⟨?_, ?_, h2.alloc o, h3.alloc h3.size o⟩
  · exact (hb2.cell (p := ⟨h, 0, none⟩) hl).trans h0
  · exact (hb2.cell (p := ⟨h, 1, none⟩) hl).trans h1

set_option maxRecDepth 100000 in
theorem rint_any {w : World} {A : Option Addr} {n c : Nat} {s : St} (hs : Sees w (.slice A n c) s.1) (hf : Fine s) :
    Calls Tryd.prog 74 #[rv (.slice A n c) s.2] w (Back2 w (numS s).1 (.int .i32 (wrap32 ((numS s).2 : Int)))) := by
  obtain ⟨w2, hw2⟩ : ∃ w2, w2 = (w.alloc (.cells #[.slice A n c, .int .i64 s.2] 58)).alloc (.cells #[.slice none 0 0, .int .i64 0] 58) := ⟨_, rfl⟩
  have hb2 : Below w.heap.size w w2 := by rw [hw2]; exact ((Below.refl _ _).alloc (Nat.le_refl _) _).alloc (by simp) _
  have hsl : Slot2 w2 (w.heap.size + 1) := by rw [hw2]; exact heap_alloc_at (w.alloc (.cells #[.slice A n c, .int .i64 s.2] 58)) _ _ (by simp)
  have hs2 : Sees w2 (.slice A n c) s.1 := by rw [hw2]; exact (hs.alloc _).alloc _
  have HU := Lib.hid (ruint_any hs2 hf)
  have HW := Lib.hid hw2
  have HN := numS_lt s
  unfold rv at HU ⊢
  clear hw2 hs hs2
  generalize (numS s).2 = N at *
  generalize (numS s).1 = s1 at *
  obtain ⟨bs1, e1⟩ := s1
  go_enter Tryd.func74, Tryd.ntmps74
  go_wp2_with fail
  rw [← HW.out]
  refine HU.out.mono ?_
  rintro e w3 ⟨v3, rfl, hs3, h3⟩
  obtain ⟨A3, c3, rfl, _, _⟩ := hs3.shape
  have hb3 := hb2.trans (h3.mono hb2.size)
  have hsl3 := hsl.below h3
  have hlt : w.heap.size + 1 < w3.heap.size := block_lt hsl3
  have a0 := block_cell hsl3 0
  have a1 := block_cell hsl3 1
  have f0 := block_free hsl3 0
  have f1 := block_free hsl3 1
  simp only [List.getElem?_toArray, List.getElem?_cons_zero, List.getElem?_cons_succ] at a0 a1
  have HS3 := Lib.hid hs3
  have HSL := Lib.hid hsl3
  unfold rv
  clear hs3 hsl3 h3
  dsimp only
  go_wp2_with fail
  obtain ⟨b0, b1, h4, h5⟩ := set2_out (e := e1) HSL.out hb3 (by omega) HS3.out (.cells #[.slice A3 bs1.length c3, .int .i64 e1] 58)
  refine bodyPost_ret (v := .tuple #[.agg #[.slice A3 bs1.length c3, .int .i64 e1], .int .i32 (wrap32 N)]) (by simp [results, Tryd.results74, go_sem, b0, b1, wrap32]) rfl ⟨_, rfl, h4, h5⟩

set_option maxRecDepth 100000 in
theorem rerr_any {w : World} {A : Option Addr} {n c : Nat} {e : Int} : Calls Tryd.prog 38 #[rv (.slice A n c) e] w fun x w' => x = .returned (.int .i64 e) ∧ Below w.heap.size w w' := by
  unfold rv
  go_enter Tryd.func38, Tryd.ntmps38
  go_wp2_with fail
  go_ret
  exact ⟨rfl, (Below.refl _ _).alloc (Nat.le_refl _) _⟩

set_option maxRecDepth 100000 in
theorem rend_any {w : World} {A : Option Addr} {n c : Nat} {s : St} (hs : Sees w (.slice A n c) s.1) : Calls Tryd.prog 40 #[rv (.slice A n c) s.2] w fun x w' => x = .returned (.int .i64 (endS s)) ∧ Below w.heap.size w w' := by
  obtain ⟨hn, _, _⟩ := rlen hs
  obtain ⟨bs, e⟩ := s
  dsimp only at hn ⊢
  unfold rv
  clear hs
  by_cases he : e = 0
  · subst he
    by_cases hz : 0 < n
    · have hE : endS (bs, 0) = 3 := if_pos ⟨rfl, by show 0 < bs.length; omega⟩
      rw [hE]
      clear hn
      go_enter Tryd.func40, Tryd.ntmps40
      go_wp2_with fail
      go_ret
      exact ⟨rfl, (Below.refl _ _).alloc (Nat.le_refl _) _⟩
    · have hE : endS (bs, 0) = 0 := if_neg (fun h => by have h2 : 0 < bs.length := h.2; omega)
      rw [hE]
      have hn0 : n = 0 := by omega
      subst hn0
      clear hn hz
      go_enter Tryd.func40, Tryd.ntmps40
      go_wp2_with fail
      go_ret
      exact ⟨rfl, (Below.refl _ _).alloc (Nat.le_refl _) _⟩
  · have hE : endS (bs, e) = e := by unfold endS; simp [he]
    rw [hE]
    have hb : (e == 0) = false := by simpa using he
    clear hn
    go_enter Tryd.func40, Tryd.ntmps40
    go_wp2_with fail
    go_ret
    exact ⟨rfl, (Below.refl _ _).alloc (Nat.le_refl _) _⟩

set_option maxRecDepth 100000 in
theorem zeros_any {w : World} {A : Option Addr} {n c : Nat} {bs : List UInt8} (hs : Sees w (.slice A n c) bs) (u : Nat) (hu : bs.length = u) :
    Calls Tryd.prog 96 #[.slice A n c] w fun x w' => x = .returned (.bool (decide (bs = List.replicate u 0))) ∧ w = w' := by
  obtain ⟨hn, hcc, hcm⟩ := rlen hs
  have HB := Lib.hid hu
  have HC : Hid (0 < n → ∃ b off, A = some ⟨b, off, none⟩ ∧ ∀ j, j < n → w.cell? ⟨b, off + j, none⟩ = some (byte (bs.getD j 0))) := by
    intro h0
    rcases hs.ways with ⟨_, _, hv, _⟩ | ⟨b, off, n', c', hv, _, _, _, _, hb, hcell⟩
    · injection hv with _ e2; omega
    · injection hv with e1 e2 e3
      subst e1 e2 e3
      exact ⟨b, off, rfl, hcell⟩
  rw [hu] at hn
  subst hn
  clear hs hu
  go_enter Tryd.func96, Tryd.ntmps96
  go_wp2_with fail
  go_loopw [3] (fun i wr => ∃ j : Nat, j ≤ n ∧ i = .int .i64 j ∧ w = wr ∧ Hid (∀ k, k < j → bs.getD k 0 = 0)) (fun i _ => n - (intOf i).toNat)
  case atStart => exact ⟨0, Nat.zero_le _, rfl, rfl, fun k hk => by omega⟩
  case round =>
    obtain ⟨j, hj, rfl, rfl, hz⟩ := hrel
    by_cases hlt : j < n
    · obtain ⟨b, off, rfl, hcell⟩ := HC.out (by omega)
      have cj := hcell j hlt
      unfold byte at cj
      clear hcell
      have hx : (bs.getD j 0).toNat < 256 := (bs.getD j 0).toNat_lt
      by_cases hx0 : bs.getD j 0 = 0
      · have HX := Lib.hid hx0
        rw [hx0] at cj
        clear hx hx0
        have cj' : w.cell? ⟨b, off + j, none⟩ = some (.int .u8 0) := cj
        clear cj
        go_wp2_with fail
        go_roundw
        case rel => exact ⟨j + 1, by omega, by go_num, trivial, fun k hk => by
          by_cases h : k = j
          · subst h; exact HX.out
          · exact hz.out k (by omega)⟩
        case measure => simp [intOf]; omega
      · have hne : (bs.getD j 0).toNat ≠ 0 := fun h => hx0 (UInt8.toNat_inj.mp h)
        have hF : decide (bs = List.replicate n 0) = false := by
          rw [decide_eq_false_iff_not]
          intro h
          apply hx0
          rw [h, List.getD_eq_getElem?_getD, List.getElem?_replicate, if_pos hlt]
          rfl
        have HF := Lib.hid hF
        clear hF hx0
        generalize (bs.getD j 0).toNat = x at *
        have hne2 : ((x : Int) != 0) = true := by rw [bne_iff_ne]; omega
        go_wp2_with fail
        go_ret
        exact ⟨by rw [HF.out]; rfl, rfl⟩
    · have hjn : j = n := by omega
      subst hjn
      have hT : decide (bs = List.replicate j 0) = true := by
        rw [decide_eq_true_iff]
        apply List.ext_getElem (by rw [HB.out, List.length_replicate])
        intro i h1 h2
        have := hz.out i (by rw [← HB.out]; exact h1)
        rw [List.getD_eq_getElem?_getD, List.getElem?_eq_getElem h1] at this
        rw [List.getElem_replicate]
        exact this
      have HT := Lib.hid hT
      clear hT
      go_wp2_with fail
      go_ret
      exact ⟨by rw [HT.out]; rfl, rfl⟩

end Go.Proofs.YtmpkjjmgfakomaaDoor

namespace Go.Proofs.YtmpkjjmgfakomaaDoor
open Go.RowKit Mem Wire

theorem num_err {s : St} (hf : Fine s) (he : (numS s).1.2 ≠ 0) : (numS s).2 = 0 := by
  unfold numS at he ⊢
  split
  · rfl
  · rename_i h4
    rw [if_neg h4] at he
    have := hf he
    rw [this] at h4
    exact absurd (by simp) h4
theorem ct_err {s : St} (hf : Fine s) (most : Int) (he : (numS s).1.2 ≠ 0) : countS s most = ((numS s).1, []) := by
  have h0 := num_err hf he
  have h1 : (numS s).1.1 = [] := fine_num hf he
  unfold countS
  rw [h0]
  have hl : limS (numS s).1 0 most = (numS s).1 := if_neg (by omega)
  rw [hl]
  unfold cutS
  have hu : up 0 = 0 := rfl
  rw [hu, h1]
  simp only [List.length_nil, Nat.lt_irrefl, if_false, List.take_nil, List.drop_nil, Nat.sub_self, List.replicate_zero, if_true]
  rw [← h1]
theorem ct_lim {s : St} (most : Int) (he : (numS s).1.2 = 0) (hl : max most 0 < ((numS s).2 : Int)) : countS s most = (([], 5), []) := by
  unfold countS
  have h1 : limS (numS s).1 (numS s).2 most = ([], 5) := by unfold limS failS; rw [if_pos hl, if_pos he]
  rw [h1]
  have hp : 0 < (numS s).2 := by omega
  unfold cutS
  rw [if_pos (by simp only [List.length_nil]; unfold up; omega)]
  rfl
theorem ct_in {s : St} (most : Int) (hl : ((numS s).2 : Int) ≤ max most 0) : countS s most = cutS (numS s).1 (numS s).2 := by
  unfold countS limS
  rw [if_neg (by omega)]
theorem ct_short {s : St} (most : Int) (he : (numS s).1.2 = 0) (hl : ((numS s).2 : Int) ≤ max most 0) (hs : (numS s).1.1.length < up (numS s).2) : countS s most = (([], 4), []) := by
  rw [ct_in most hl]
  unfold cutS failS
  rw [if_pos hs, if_pos he]
theorem ct_bad {s : St} (most : Int) (he : (numS s).1.2 = 0) (hl : ((numS s).2 : Int) ≤ max most 0) (hs : up (numS s).2 ≤ (numS s).1.1.length) (hz : ((numS s).1.1.take (up (numS s).2)).drop (numS s).2 ≠ List.replicate (up (numS s).2 - (numS s).2) 0) : countS s most = (([], 3), []) := by
  rw [ct_in most hl]
  unfold cutS failS
  rw [if_neg (by omega), if_neg hz, if_pos he]
theorem ct_good {s : St} (most : Int) (he : (numS s).1.2 = 0) (hl : ((numS s).2 : Int) ≤ max most 0) (hs : up (numS s).2 ≤ (numS s).1.1.length) (hz : ((numS s).1.1.take (up (numS s).2)).drop (numS s).2 = List.replicate (up (numS s).2 - (numS s).2) 0) : countS s most = (((numS s).1.1.drop (up (numS s).2), 0), (numS s).1.1.take (numS s).2) := by
  rw [ct_in most hl]
  unfold cutS
  rw [if_neg (by omega), if_pos hz, he]

set_option maxRecDepth 100000 in
theorem padding_big (n : Nat) (hn : n < 4294967296) (w : World) : Calls Tryd.prog 90 #[.int .i64 n] w fun e w' => e = .returned (.int .i64 ((pad n : Nat) : Int)) ∧ w' = w := by
  go_enter Tryd.func90, Tryd.ntmps90
  go_wp2_with fail
  go_ret
  exact ⟨ret_num (by unfold pad; omega), rfl⟩

theorem box_noByte {w : World} {h : Nat} {A : Option Addr} {n c : Nat} {e : Int} (hs : w.heap[h]? = some (.cells #[.slice A n c, .int .i64 e] 58 (0, 0))) : ∀ o x, w.cell? ⟨h, o, none⟩ ≠ some (byte x) := by
  intro o x
  rw [block_cell hs]
  match o with
  | 0 => simp [byte]
  | 1 => simp [byte]
  | o + 2 => simp

/-- the new unread bytes are stored in the reader's own variable, and that variable in the result's -/
theorem good_done {w W : World} {h g : Nat} {A : Option Addr} {n c : Nat} {x v : Value} {bs out : List UInt8} (row : W.heap[g]? = some (.cells #[.slice A n c, .int .i64 0] 58 (0, 0))) (hsl : Slot2 W h) (hb : Below w.heap.size w W)
    (hh : w.heap.size ≤ h) (hg : w.heap.size ≤ g) (hne : h ≠ g) (hx : Sees W x bs) (hv : Sees W v out) :
    (set2 (W.setCell ⟨g, 0, none⟩ x) h x (.int .i64 0)).cell? ⟨h, 0, none⟩ = some x ∧ (set2 (W.setCell ⟨g, 0, none⟩ x) h x (.int .i64 0)).cell? ⟨h, 1, none⟩ = some (.int .i64 0) ∧
    Sees (set2 (W.setCell ⟨g, 0, none⟩ x) h x (.int .i64 0)) x bs ∧ Sees (set2 (W.setCell ⟨g, 0, none⟩ x) h x (.int .i64 0)) v out ∧ Below w.heap.size w (set2 (W.setCell ⟨g, 0, none⟩ x) h x (.int .i64 0)) := by
  have hgr := grown_set W g 0 x
  have hsl2 : Slot2 (W.setCell ⟨g, 0, none⟩ x) h := (hgr.block h (block_lt hsl) (fun e => by injection e with e; omega)).trans hsl
  have hb2 : Below w.heap.size w (W.setCell ⟨g, 0, none⟩ x) := hb.grown hgr hb.size (fun k hk => by injection hk with hk; omega)
  obtain ⟨h0, h1, h2, h3⟩ := set2_done (e := 0) hsl2 hb2 hh (hx.grown hgr (box_noByte row))
  exact ⟨h0, h1, h2, (hv.grown hgr (box_noByte row)).grown (set2_grown _ h _ _) hsl2.noByte, h3⟩

set_option maxRecDepth 100000 in
set_option maxHeartbeats 1000000 in
theorem rarray_cut {w : World} {A : Option Addr} {n c : Nat} {s : St} (most : Int) (hs : Sees w (.slice A n c) s.1) (hf : Fine s) (hlen : s.1.length ≤ 1000000) (he : (numS s).1.2 = 0) (hin : ((numS s).2 : Int) ≤ max most 0) (hsh : up (numS s).2 ≤ (numS s).1.1.length) :
    Calls Tryd.prog 76 #[rv (.slice A n c) s.2, .int .i64 most] w (Back3 w (countS s most).1 (countS s most).2) := by
  obtain ⟨w2, hw2⟩ : ∃ w2, w2 = (w.alloc (.cells #[.slice A n c, .int .i64 s.2] 58)).alloc (.cells #[.slice none 0 0, .int .i64 0] 58) := ⟨_, rfl⟩
  have hb2 : Below w.heap.size w w2 := by rw [hw2]; exact ((Below.refl _ _).alloc (Nat.le_refl _) _).alloc (by simp) _
  have hsl : Slot2 w2 (w.heap.size + 1) := by rw [hw2]; exact heap_alloc_at (w.alloc (.cells #[.slice A n c, .int .i64 s.2] 58)) _ _ (by simp)
  have hs2 : Sees w2 (.slice A n c) s.1 := by rw [hw2]; exact (hs.alloc _).alloc _
  have HU := Lib.hid (ruint_any hs2 hf)
  have HW := Lib.hid hw2
  have hN := numS_lt s
  have hle := num_le s hf
  have HF := Lib.hid hf
  unfold rv at HU ⊢
  clear hw2 hs hs2
  obtain ⟨bs1, h1⟩ : ∃ b, (numS s).1 = (b, 0) := ⟨(numS s).1.1, Prod.ext rfl he⟩
  have hup := up_pad (numS s).2
  have hp3 : pad (numS s).2 ≤ 3 := by unfold pad; omega
  have HP := Lib.hid (padding_big (numS s).2 hN)
  rw [h1] at HU hsh
  dsimp only at hsh
  have hct : countS s most = if (bs1.take (up (numS s).2)).drop (numS s).2 = List.replicate (pad (numS s).2) 0 then ((bs1.drop (up (numS s).2), 0), bs1.take (numS s).2) else (([], 3), []) := by
    have hpu : up (numS s).2 - (numS s).2 = pad (numS s).2 := by omega
    split
    · rename_i hz
      have h2 := ct_good most he hin (by rw [h1]; dsimp only; omega) (by rw [h1, hpu]; exact hz)
      rw [h1] at h2
      exact h2
    · rename_i hz
      exact ct_bad most he hin (by rw [h1]; dsimp only; omega) (by rw [h1, hpu]; exact hz)
  rw [hup] at hsh hct
  have HCT := Lib.hid hct
  have hl1 : bs1.length ≤ 1000000 := by rw [h1] at hle; exact Nat.le_trans hle hlen
  clear HF hf hle he h1 hup hct
  generalize countS s most = r at *
  generalize pad (numS s).2 = p at *
  generalize (numS s).2 = N at *
  go_enter Tryd.func76, Tryd.ntmps76
  go_wp2_with fail
  rw [← HW.out]
  refine HU.out.mono ?_
  rintro e w3 ⟨v3, rfl, hs3, h3⟩
  obtain ⟨A3, c3, rfl, hc3, hm3⟩ := hs3.shape
  obtain ⟨w4, hw4⟩ : ∃ w4, w4 = w3.alloc (.cells #[.slice A3 bs1.length c3, .int .i64 0] 58) := ⟨_, rfl⟩
  have hsl4 := hsl.below h3
  have hb4 := hb2.trans (h3.mono hb2.size)
  have hlt : w.heap.size + 1 < w3.heap.size := block_lt hsl4
  have hlt4 : w3.heap.size < w4.heap.size := by rw [hw4]; simp
  replace hb4 : Below w.heap.size w w4 := by rw [hw4]; exact hb4.alloc hb4.size _
  replace hsl4 : Slot2 w4 (w.heap.size + 1) := by rw [hw4]; exact hsl4.below ((Below.refl _ _).alloc (Nat.le_refl _) _)
  have d0 : w4.cell? ⟨w3.heap.size, 0, none⟩ = some (.slice A3 bs1.length c3) := by rw [hw4, World.cell?_alloc_at _ _ _ _ rfl]; rfl
  have hrow4 : w4.heap[w3.heap.size]? = some (.cells #[.slice A3 bs1.length c3, .int .i64 0] 58 (0, 0)) := by rw [hw4]; exact heap_alloc_new w3 _
  have HROW4 := Lib.hid hrow4
  clear hrow4
  have hs4 : Sees w4 (.slice A3 bs1.length c3) bs1 := by rw [hw4]; exact hs3.alloc _
  have hcm3 : c3 ≤ 9223372036854775807 := by simpa [maxLen] using hm3
  have HS4 := Lib.hid hs4
  have HW4 := Lib.hid hw4
  dsimp only at hc3
  have q2 : ¬ (bs1.length : Int) < (N : Int) + (p : Int) := by omega
  have q3 : (N : Int) ≤ (c3 : Int) := by omega
  have HT := Lib.hid (hs4.take (k := N) (by omega))
  have HL := Lib.hid hl1
  clear hl1
  have q1 : IntKind.i64.wrap ((N : Int) + (p : Int)) = (N : Int) + (p : Int) := by rw [IntKind.wrap_i64]; omega
  generalize bs1.length = m at *
  clear hs3 h3 hw4 hs4 hm3
  unfold rv
  dsimp only
  go_wp2_with fail
  all_goals
    rw [← HW4.out]
    go_quiet ((go_at_call 90; exact Calls.quiet_of_same (HP.out _)))
    clear q2
    generalize hwk : w4.drewN _ = wk
    have hbk : Below w.heap.size w wk := by rw [← hwk]; exact below_draws hb4 _
    have hslk : Slot2 wk (w.heap.size + 1) := by rw [← hwk]; exact hsl4
    have d0k : wk.cell? ⟨w3.heap.size, 0, none⟩ = some (.slice A3 m c3) := by rw [← hwk]; exact d0
    have HROWK : Hid (wk.heap[w3.heap.size]? = some (.cells #[.slice A3 m c3, .int .i64 0] 58 (0, 0))) := by rw [← hwk]; exact HROW4.out
    have hltk : w3.heap.size < wk.heap.size := by rw [← hwk]; exact hlt4
    have HTK : Hid (Sees wk (.slice A3 N c3) (bs1.take N)) := by rw [← hwk]; exact HT.out
    have HSK : Hid (Sees wk (.slice A3 m c3) bs1) := by rw [← hwk]; exact HS4.out
    clear hwk hb4 hsl4 d0 HROW4 hlt4 HT HS4 HW4
    go_wp2_with (at_builtin; refine wpList_app rfl (.tmp 37) (.tmp 41) rfl (v := .slice (some ⟨wk.heap.size, 0, none⟩) 0 0) rfl (base := wk.heap.size) (own_at wk _ rfl) rfl (HTK.out.alloc _) (by have := HL.out; rw [List.length_take, List.length_nil]; omega) (by simp) ?_; intro v6 w6 ho6 hg6 _; rw [List.nil_append] at ho6; have hb6 : Below wk.heap.size wk w6 := ((Below.refl _ _).alloc (Nat.le_refl _) _).grown hg6 (by simp) (fun k hk => by have e : some wk.heap.size = some k := hk; injection e with e; omega); have HO6 := Lib.hid ho6.sees; have HNEW := Lib.hid (show NewB w.heap.size v6 from fun k hk => Nat.le_trans hbk.size (ho6.block k hk).1); have row6 := (hb6.block w3.heap.size hltk).trans HROWK.out; have HROW6 := Lib.hid row6; have hsl6 := hslk.below hb6; have hlt6 := Nat.lt_of_lt_of_le hltk hb6.size; have hbw6 := hbk.trans (hb6.mono hbk.size); have HS6 := Lib.hid (HSK.out.below hb6); clear hg6 ho6 hb6 hbk hslk d0k HROWK hltk HTK HSK)
    have d06 := block_cell row6 0
    have d16 := block_cell row6 1
    have f06 := block_free row6 0
    simp only [List.getElem?_toArray, List.getElem?_cons_zero, List.getElem?_cons_succ] at d06 d16
    clear row6
    have q2 : ¬ (m : Int) < (N : Int) + (p : Int) := by omega
    have q4 : (N : Int) + (p : Int) ≤ (c3 : Int) := by omega
    have q5 : ((N : Int) + (p : Int)).toNat = N + p := by omega
    have z0 : (0 : Int) ≤ (N : Int) := by omega
    have z1 : (N : Int) ≤ (N : Int) + (p : Int) := by omega
    have z2 : (0 : Int) ≤ (N : Int) + (p : Int) := by omega
    have z3 : N + p - N = p := by omega
    obtain ⟨hmb, _, _⟩ := rlen HS6.out
    have hz0 := (HS6.out.take (k := N + p) (by omega)).drop (k := N) (by omega)
    rw [z3] at hz0
    have hzl : ((bs1.take (N + p)).drop N).length = p := by rw [List.length_drop, List.length_take]; omega
    have HZ := Lib.hid (fun k => (zeros_any (w := w6.drewN k) (show Sees (w6.drewN k) _ _ from hz0) p hzl).mono (fun _ _ h => (⟨h.1, h.2.symm⟩ : _ ∧ _)))
    have HMB := Lib.hid hmb
    clear hz0 hzl hmb z3
    by_cases hz : (bs1.take (N + p)).drop N = List.replicate p 0
    · rw [decide_eq_true hz] at HZ
      have hr := HCT.out
      rw [if_pos hz] at hr
      subst hr
      clear HCT hz
      by_cases hcN : c3 = N
      all_goals
        first
          | rw [if_pos hcN, show c3 - N = 0 by omega] at HZ
          | rw [if_neg hcN] at HZ
        go_quiet ((first | (go_at_call 90; exact Calls.quiet_of_same (HP.out _)) | (go_at_call 96; exact Calls.quiet_of_same (HZ.out _))))
        clear q2 q4 z1 HZ
        go_wp2_with fail
        clear hcN
        generalize hwq : w6.drewN _ = wq
        have hbq : Below w.heap.size w wq.drew := by rw [← hwq]; exact (below_draws hbw6 _).drew
        have hslq : Slot2 wq.drew (w.heap.size + 1) := by rw [← hwq]; exact hsl6
        have rowq : wq.drew.heap[w3.heap.size]? = some (.cells #[.slice A3 m c3, .int .i64 0] 58 (0, 0)) := by rw [← hwq]; exact HROW6.out
        have HOQ : Hid (Sees wq.drew v6 (bs1.take N)) := by rw [← hwq]; exact HO6.out
        have HSQ : Hid (Sees wq.drew (.slice A3 m c3) bs1) := by rw [← hwq]; exact HS6.out
        have HSLQ := Lib.hid hslq
        have HBQ := Lib.hid hbq
        have HROWQ := Lib.hid rowq
        have s0 := block_cell hslq 0
        have s1 := block_cell hslq 1
        have e0 := block_free hslq 0
        have e1 := block_free hslq 1
        have g0 := block_cell rowq 0
        have g1 := block_cell rowq 1
        have i0 := block_free rowq 0
        simp only [List.getElem?_toArray, List.getElem?_cons_zero, List.getElem?_cons_succ] at s0 s1 g0 g1
        clear hwq hbq hslq rowq hsl6 d06 d16 f06 HROW6 HO6 HS6 hbw6
        have y0 : (N : Int) + (p : Int) ≤ (m : Int) := by omega
        have y1 : (m : Int) ≤ (c3 : Int) := by omega
        have hd := HSQ.out.drop (k := N + p) (by omega)
        by_cases hcu : c3 = N + p
        all_goals
          first
            | rw [if_pos hcu, show c3 - (N + p) = 0 by omega] at hd
            | rw [if_neg hcu] at hd
          have HD := Lib.hid hd
          clear hd
          refine wp_region_still_tail 7 (by kernel_rfl) (by kernel_rfl) ?_
          simp only [List.take_succ_cons, List.take_zero, List.drop_succ_cons, List.drop_zero]
          change wpStill _ _ wq.drew (fun a' => wpList _ _ _ _ a' wq.drew) _ _
          generalize wq.drew = wd at *
          repeat still_step
          still_call (HP.out _)
          repeat still_step
          refine wpStill_nil ?_
          clear y0 y1 q1 q5 z0 z2
          go_wp2_with fail
          obtain ⟨b0, b1, h8, h9, h10⟩ := good_done HROWQ.out HSLQ.out HBQ.out (by omega) (by omega) (by omega) HD.out HOQ.out
          unfold set2 at b0 b1
          exact bodyPost_ret (v := .tuple #[.agg #[_, .int .i64 0], v6]) (by simp [results, Tryd.results76, go_sem, b0, b1]) rfl ⟨_, _, rfl, h8, h9, HNEW.out, h10⟩
    · rw [decide_eq_false hz] at HZ
      have hr := HCT.out
      rw [if_neg hz] at hr
      subst hr
      clear HCT hz
      by_cases hcN : c3 = N
      all_goals
        first
          | rw [if_pos hcN, show c3 - N = 0 by omega] at HZ
          | rw [if_neg hcN] at HZ
        go_quiet ((first | (go_at_call 90; exact Calls.quiet_of_same (HP.out _)) | (go_at_call 96; exact Calls.quiet_of_same (HZ.out _))))
        clear q1 q2 q4 q5 z0 z1 z2 HZ
        have HE := Lib.hid (fun k c => ref_fail (w := w6.drewN k) (A := A3) (n := m) (c := c) 0 3)
        unfold rv at HE
        go_wp2_with fail
        refine (HE.out _ _).mono ?_
        rintro e w7 ⟨v7, rfl, hs7, h7⟩
        obtain ⟨A7, c7, rfl, _, _⟩ := hs7.shape
        have hsl7 := Slot2.below (w := w6.drewN _) hsl6 h7
        have a0 := block_cell hsl7 0
        have a1 := block_cell hsl7 1
        have f0 := block_free hsl7 0
        have f1 := block_free hsl7 1
        simp only [List.getElem?_toArray, List.getElem?_cons_zero, List.getElem?_cons_succ] at a0 a1
        have HS7 := Lib.hid hs7
        have HSL := Lib.hid hsl7
        unfold rv
        clear hs7 hsl7
        go_wp2_with fail
        obtain ⟨_, _, h8, h9⟩ := set2_done (e := 3) HSL.out ((below_draws hbw6 _).trans (h7.mono hbw6.size)) (by omega) HS7.out
        exact bodyPost_ret (v := .tuple #[.agg #[.slice A7 0 c7, .int .i64 3], .slice none 0 0]) (by simp [results, Tryd.results76, go_sem, a0, a1]) rfl ⟨_, _, rfl, h8, sees_nil _, newB_nil _ _ _, h9⟩

set_option maxRecDepth 100000 in
set_option maxHeartbeats 1000000 in
theorem rarray_any {w : World} {A : Option Addr} {n c : Nat} {s : St} (most : Int) (hs : Sees w (.slice A n c) s.1) (hf : Fine s) (hlen : s.1.length ≤ 1000000) :
    Calls Tryd.prog 76 #[rv (.slice A n c) s.2, .int .i64 most] w (Back3 w (countS s most).1 (countS s most).2) := by
  obtain ⟨w2, hw2⟩ : ∃ w2, w2 = (w.alloc (.cells #[.slice A n c, .int .i64 s.2] 58)).alloc (.cells #[.slice none 0 0, .int .i64 0] 58) := ⟨_, rfl⟩
  have hb2 : Below w.heap.size w w2 := by rw [hw2]; exact ((Below.refl _ _).alloc (Nat.le_refl _) _).alloc (by simp) _
  have hsl : Slot2 w2 (w.heap.size + 1) := by rw [hw2]; exact heap_alloc_at (w.alloc (.cells #[.slice A n c, .int .i64 s.2] 58)) _ _ (by simp)
  have hs2 : Sees w2 (.slice A n c) s.1 := by rw [hw2]; exact (hs.alloc _).alloc _
  have HU := Lib.hid (ruint_any hs2 hf)
  have HW := Lib.hid hw2
  have hN := numS_lt s
  have hle := num_le s hf
  have HF := Lib.hid hf
  unfold rv at HU ⊢
  have hs0 := hs
  clear hw2 hs hs2
  by_cases he : (numS s).1.2 = 0
  · have HP := Lib.hid (padding_big (numS s).2 hN)
    by_cases hlim : max most 0 < ((numS s).2 : Int)
    · rw [ct_lim most he hlim]
      obtain ⟨bs1, h1⟩ : ∃ b, (numS s).1 = (b, 0) := ⟨(numS s).1.1, Prod.ext rfl he⟩
      rw [h1] at HU
      clear HF hf hle he h1
      generalize (numS s).2 = N at *
      go_enter Tryd.func76, Tryd.ntmps76
      go_wp2_with fail
      rw [← HW.out]
      refine HU.out.mono ?_
      rintro e w3 ⟨v3, rfl, hs3, h3⟩
      obtain ⟨A3, c3, rfl, _, _⟩ := hs3.shape
      obtain ⟨w4, hw4⟩ : ∃ w4, w4 = w3.alloc (.cells #[.slice A3 bs1.length c3, .int .i64 0] 58) := ⟨_, rfl⟩
      have hsl4 := hsl.below h3
      have hb4 := hb2.trans (h3.mono hb2.size)
      have hlt : w.heap.size + 1 < w3.heap.size := block_lt hsl4
      replace hb4 : Below w.heap.size w w4 := by rw [hw4]; exact hb4.alloc hb4.size _
      replace hsl4 : Slot2 w4 (w.heap.size + 1) := by rw [hw4]; exact hsl4.below ((Below.refl _ _).alloc (Nat.le_refl _) _)
      have HE := Lib.hid (ref_fail (w := w4) (A := A3) (n := bs1.length) (c := c3) 0 5)
      have HS3 := Lib.hid hs3
      have HW4 := Lib.hid hw4
      unfold rv at HE ⊢
      clear hs3 h3 hw4
      dsimp only
      go_wp2_with fail
      all_goals
        rw [← HW4.out]
        refine HE.out.mono ?_
        rintro e w5 ⟨v5, rfl, hs5, h5⟩
        obtain ⟨A5, c5, rfl, _, _⟩ := hs5.shape
        have hsl5 := hsl4.below h5
        have a0 := block_cell hsl5 0
        have a1 := block_cell hsl5 1
        have f0 := block_free hsl5 0
        have f1 := block_free hsl5 1
        simp only [List.getElem?_toArray, List.getElem?_cons_zero, List.getElem?_cons_succ] at a0 a1
        have HS5 := Lib.hid hs5
        have HSL := Lib.hid hsl5
        unfold rv
        clear hs5 hsl5
        go_wp2_with fail
        obtain ⟨_, _, h6, h7⟩ := set2_done (e := 5) HSL.out (hb4.trans (h5.mono hb4.size)) (by omega) HS5.out
        exact bodyPost_ret (v := .tuple #[.agg #[.slice A5 0 c5, .int .i64 5], .slice none 0 0]) (by simp [results, Tryd.results76, go_sem, a0, a1]) rfl ⟨_, _, rfl, h6, sees_nil _, newB_nil _ _ _, h7⟩
    · have hin : ((numS s).2 : Int) ≤ max most 0 := by omega
      obtain ⟨bs1, h1⟩ : ∃ b, (numS s).1 = (b, 0) := ⟨(numS s).1.1, Prod.ext rfl he⟩
      have hup := up_pad (numS s).2
      have hp3 : pad (numS s).2 ≤ 3 := by unfold pad; omega
      by_cases hsh : (numS s).1.1.length < up (numS s).2
      · rw [ct_short most he hin hsh]
        rw [h1] at HU hsh
        dsimp only at hsh
        rw [hup] at hsh
        clear HF hf hle he h1 hup
        generalize pad (numS s).2 = p at *
        generalize (numS s).2 = N at *
        go_enter Tryd.func76, Tryd.ntmps76
        go_wp2_with fail
        rw [← HW.out]
        refine HU.out.mono ?_
        rintro e w3 ⟨v3, rfl, hs3, h3⟩
        obtain ⟨A3, c3, rfl, _, _⟩ := hs3.shape
        obtain ⟨w4, hw4⟩ : ∃ w4, w4 = w3.alloc (.cells #[.slice A3 bs1.length c3, .int .i64 0] 58) := ⟨_, rfl⟩
        have hsl4 := hsl.below h3
        have hb4 := hb2.trans (h3.mono hb2.size)
        have hlt : w.heap.size + 1 < w3.heap.size := block_lt hsl4
        replace hb4 : Below w.heap.size w w4 := by rw [hw4]; exact hb4.alloc hb4.size _
        replace hsl4 : Slot2 w4 (w.heap.size + 1) := by rw [hw4]; exact hsl4.below ((Below.refl _ _).alloc (Nat.le_refl _) _)
        have d0 : w4.cell? ⟨w3.heap.size, 0, none⟩ = some (.slice A3 bs1.length c3) := by rw [hw4, World.cell?_alloc_at _ _ _ _ rfl]; rfl
        have d1 : w4.cell? ⟨w3.heap.size, 1, none⟩ = some (.int .i64 0) := by rw [hw4, World.cell?_alloc_at _ _ _ _ rfl]; rfl
        have HE := Lib.hid (fun k => ref_fail (w := w4.drewN k) (A := A3) (n := bs1.length) (c := c3) 0 4)
        have HS3 := Lib.hid hs3
        have HW4 := Lib.hid hw4
        have q1 : IntKind.i64.wrap ((N : Int) + (p : Int)) = (N : Int) + (p : Int) := by rw [IntKind.wrap_i64]; omega
        have q2 : (bs1.length : Int) < (N : Int) + (p : Int) := by omega
        generalize bs1.length = m at *
        unfold rv at HE ⊢
        clear hs3 h3 hw4
        dsimp only
        go_wp2_with fail
        all_goals
          rw [← HW4.out]
          go_quiet ((go_at_call 90; exact Calls.quiet_of_same (HP.out _)))
          clear q1 q2
          go_wp2_with fail
          refine (HE.out _).mono ?_
          rintro e w5 ⟨v5, rfl, hs5, h5⟩
          obtain ⟨A5, c5, rfl, _, _⟩ := hs5.shape
          have hsl5 := Slot2.below (w := w4.drewN _) hsl4 h5
          have a0 := block_cell hsl5 0
          have a1 := block_cell hsl5 1
          have f0 := block_free hsl5 0
          have f1 := block_free hsl5 1
          simp only [List.getElem?_toArray, List.getElem?_cons_zero, List.getElem?_cons_succ] at a0 a1
          have HS5 := Lib.hid hs5
          have HSL := Lib.hid hsl5
          unfold rv
          clear hs5 hsl5
          go_wp2_with fail
          obtain ⟨_, _, h6, h7⟩ := set2_done (e := 4) HSL.out ((below_draws hb4 _).trans (h5.mono hb4.size)) (by omega) HS5.out
          exact bodyPost_ret (v := .tuple #[.agg #[.slice A5 0 c5, .int .i64 4], .slice none 0 0]) (by simp [results, Tryd.results76, go_sem, a0, a1]) rfl ⟨_, _, rfl, h6, sees_nil _, newB_nil _ _ _, h7⟩
      · exact rarray_cut most hs0 hf hlen he hin (by omega)
  · rw [ct_err hf most he]
    have hne : ((numS s).1.2 != 0) = true := by rw [bne_iff_ne]; exact he
    clear HF hf hle
    generalize (numS s).2 = N at *
    generalize (numS s).1 = s1 at *
    obtain ⟨bs1, e1⟩ := s1
    dsimp only at HU hne he ⊢
    clear he
    go_enter Tryd.func76, Tryd.ntmps76
    go_wp2_with fail
    rw [← HW.out]
    refine HU.out.mono ?_
    rintro e w3 ⟨v3, rfl, hs3, h3⟩
    obtain ⟨A3, c3, rfl, _, _⟩ := hs3.shape
    have hb3 := hb2.trans (h3.mono hb2.size)
    have hsl3 := hsl.below h3
    have hlt : w.heap.size + 1 < w3.heap.size := block_lt hsl3
    have a0 := block_cell hsl3 0
    have a1 := block_cell hsl3 1
    have f0 := block_free hsl3 0
    have f1 := block_free hsl3 1
    simp only [List.getElem?_toArray, List.getElem?_cons_zero, List.getElem?_cons_succ] at a0 a1
    have HS3 := Lib.hid hs3
    have HSL := Lib.hid hsl3
    unfold rv
    clear hs3 hsl3 h3
    dsimp only
    go_wp2_with fail
    obtain ⟨b0, b1, h4, h5⟩ := set2_out (e := e1) HSL.out hb3 (by omega) HS3.out (.cells #[.slice A3 bs1.length c3, .int .i64 e1] 58)
    exact bodyPost_ret (v := .tuple #[.agg #[.slice A3 bs1.length c3, .int .i64 e1], .slice none 0 0]) (by simp [results, Tryd.results76, go_sem, b0, b1]) rfl ⟨_, _, rfl, h4, sees_nil _, newB_nil _ _ _, h5⟩

end Go.Proofs.YtmpkjjmgfakomaaDoor

namespace Go.Proofs.YtmpkjjmgfakomaaDoor
open Go.RowKit Mem Wire

theorem mem_zero {bs : List UInt8} {j : Nat} (hj : j < bs.length) (h : bs.getD j 0 = 0) : (0 : UInt8) ∈ bs := by
  rw [List.getD_eq_getElem?_getD, List.getElem?_eq_getElem hj] at h
  have := List.getElem_mem hj
  rw [show bs[j] = 0 from h] at this
  exact this
theorem not_zero {bs : List UInt8} {n : Nat} (hn : bs.length = n) (h : ∀ k, k < n → bs.getD k 0 ≠ 0) : (0 : UInt8) ∉ bs := by
  intro hm
  obtain ⟨k, hk, e⟩ := List.getElem_of_mem hm
  apply h k (by omega)
  rw [List.getD_eq_getElem?_getD, List.getElem?_eq_getElem hk]
  exact e

/-- what the count gives when a byte of it is zero: no error yet -/
theorem ct_fine {s : St} (hf : Fine s) (most : Int) (hz : (0 : UInt8) ∈ (countS s most).2) : (countS s most).1.2 = 0 := by
  by_cases he : (numS s).1.2 = 0
  · by_cases hl : max most 0 < ((numS s).2 : Int)
    · rw [ct_lim most he hl] at hz; exact absurd hz (by simp)
    · have hin : ((numS s).2 : Int) ≤ max most 0 := by omega
      by_cases hs : (numS s).1.1.length < up (numS s).2
      · rw [ct_short most he hin hs] at hz; exact absurd hz (by simp)
      · by_cases hp : ((numS s).1.1.take (up (numS s).2)).drop (numS s).2 = List.replicate (up (numS s).2 - (numS s).2) 0
        · rw [ct_good most he hin (by omega) hp]
        · rw [ct_bad most he hin (by omega) hp] at hz; exact absurd hz (by simp)
  · rw [ct_err hf most he] at hz; exact absurd hz (by simp)

theorem str_zero {s : St} (hf : Fine s) (most : Int) (hz : (0 : UInt8) ∈ (countS s most).2) : strS s most = (([], 3), []) := by
  unfold strS failS
  rw [if_pos hz, if_pos (ct_fine hf most hz)]
theorem str_same {s : St} (most : Int) (hz : (0 : UInt8) ∉ (countS s most).2) : strS s most = countS s most := if_neg hz

set_option maxRecDepth 100000 in
set_option maxHeartbeats 1000000 in
theorem rstring_any {w : World} {A : Option Addr} {n c : Nat} {s : St} (most : Int) (hs : Sees w (.slice A n c) s.1) (hf : Fine s) (hlen : s.1.length ≤ 1000000) :
    Calls Tryd.prog 75 #[rv (.slice A n c) s.2, .int .i64 most] w (Back2 w (strS s most).1 (.string ⟨(strS s most).2.toArray⟩)) := by
  obtain ⟨w2, hw2⟩ : ∃ w2, w2 = (w.alloc (.cells #[.slice A n c, .int .i64 s.2] 58)).alloc (.cells #[.slice none 0 0, .int .i64 0] 58) := ⟨_, rfl⟩
  have hb2 : Below w.heap.size w w2 := by rw [hw2]; exact ((Below.refl _ _).alloc (Nat.le_refl _) _).alloc (by simp) _
  have hsl : Slot2 w2 (w.heap.size + 1) := by rw [hw2]; exact heap_alloc_at (w.alloc (.cells #[.slice A n c, .int .i64 s.2] 58)) _ _ (by simp)
  have hs2 : Sees w2 (.slice A n c) s.1 := by rw [hw2]; exact (hs.alloc _).alloc _
  have HA := Lib.hid (rarray_any most hs2 hf hlen)
  have HW := Lib.hid hw2
  have HZ := Lib.hid (fun hz => str_zero (s := s) hf most hz)
  have HS := Lib.hid (fun hz => str_same (s := s) most hz)
  clear hw2 hs hs2 hf
  unfold rv at HA ⊢
  generalize strS s most = r at *
  generalize countS s most = cs at *
  obtain ⟨⟨bs1, e1⟩, bs⟩ := cs
  dsimp only at HA HZ HS
  go_enter Tryd.func75, Tryd.ntmps75
  go_wp2_with fail
  rw [← HW.out]
  refine HA.out.mono ?_
  rintro e w3 ⟨v3, u3, rfl, hs3, hu3, -, h3⟩
  obtain ⟨A3, c3, rfl, _, _⟩ := hs3.shape
  obtain ⟨A4, c4, rfl, _, _⟩ := hu3.shape
  obtain ⟨w4, hw4⟩ : ∃ w4, w4 = w3.alloc (.cells #[.slice A3 bs1.length c3, .int .i64 e1] 58) := ⟨_, rfl⟩
  have hsl4 := hsl.below h3
  have hb4 := hb2.trans (h3.mono hb2.size)
  have hlt : w.heap.size + 1 < w3.heap.size := block_lt hsl4
  replace hb4 : Below w.heap.size w w4 := by rw [hw4]; exact hb4.alloc hb4.size _
  replace hsl4 : Slot2 w4 (w.heap.size + 1) := by rw [hw4]; exact hsl4.below ((Below.refl _ _).alloc (Nat.le_refl _) _)
  have row4 : w4.heap[w3.heap.size]? = some (.cells #[.slice A3 bs1.length c3, .int .i64 e1] 58 (0, 0)) := by rw [hw4]; exact heap_alloc_new w3 _
  have hs4 : Sees w4 (.slice A3 bs1.length c3) bs1 := by rw [hw4]; exact hs3.alloc _
  have hu4 : Sees w4 (.slice A4 bs.length c4) bs := by rw [hw4]; exact hu3.alloc _
  obtain ⟨_, hcc4, hcm4⟩ := rlen hu4
  have HC : Hid (0 < bs.length → ∃ b off, A4 = some ⟨b, off, none⟩ ∧ ∀ j, j < bs.length → w4.cell? ⟨b, off + j, none⟩ = some (byte (bs.getD j 0))) := by
    intro h0
    rcases hu4.ways with ⟨_, _, hv, _⟩ | ⟨b, off, n', c', hv, _, _, _, _, hb, hcell⟩
    · injection hv with _ e2; omega
    · injection hv with e1 e2 e3
      subst e1 e2 e3
      exact ⟨b, off, rfl, hcell⟩
  have d0 := block_cell row4 0
  have d1 := block_cell row4 1
  have s0 := block_cell hsl4 0
  have s1 := block_cell hsl4 1
  have i0 := block_free hsl4 0
  have i1 := block_free hsl4 1
  simp only [List.getElem?_toArray, List.getElem?_cons_zero, List.getElem?_cons_succ] at d0 d1 s0 s1
  have HW4 := Lib.hid hw4
  have HS4 := Lib.hid hs4
  have HU4 := Lib.hid hu4
  have HSL := Lib.hid hsl4
  have HROW := Lib.hid row4
  have HE := Lib.hid (ref_fail (w := w4) (A := A3) (n := bs1.length) (c := c3) e1 3)
  unfold rv at HE
  clear hs3 hu3 h3 hw4 hs4 hu4 row4
  obtain ⟨m, hm⟩ : ∃ m, bs.length = m := ⟨_, rfl⟩
  have HM := Lib.hid hm
  rw [hm] at HC HU4 hcc4 ⊢
  clear hm
  unfold rv
  dsimp only
  go_wp2_with fail
  rw [← HW4.out]
  go_loopw [8] (fun i wr => ∃ j : Nat, j ≤ m ∧ i = .int .i64 j ∧ w4 = wr ∧ Hid (∀ k, k < j → bs.getD k 0 ≠ 0)) (fun i _ => m - (intOf i).toNat)
  case atStart => exact ⟨0, Nat.zero_le _, rfl, rfl, fun k hk => by omega⟩
  case round =>
    obtain ⟨j, hj, rfl, rfl, hz⟩ := hrel
    by_cases hlt : j < m
    · obtain ⟨b, off, rfl, hcell⟩ := HC.out (by omega)
      have cj := hcell j hlt
      unfold byte at cj
      clear hcell
      have hx : (bs.getD j 0).toNat < 256 := (bs.getD j 0).toNat_lt
      by_cases hx0 : bs.getD j 0 = 0
      · have hmz := mem_zero (by rw [HM.out]; exact hlt) hx0
        have hr := HZ.out hmz
        subst hr
        rw [hx0] at cj
        have cj' : w4.cell? ⟨b, off + j, none⟩ = some (.int .u8 0) := cj
        clear cj hx hx0 hmz
        go_wp2_with fail
        refine HE.out.mono ?_
        rintro e w5 ⟨v5, rfl, hs5, h5⟩
        obtain ⟨A5, c5, rfl, _, _⟩ := hs5.shape
        have hsl5 := HSL.out.below h5
        have a0 := block_cell hsl5 0
        have a1 := block_cell hsl5 1
        have f0 := block_free hsl5 0
        have f1 := block_free hsl5 1
        simp only [List.getElem?_toArray, List.getElem?_cons_zero, List.getElem?_cons_succ] at a0 a1
        have HS5 := Lib.hid hs5
        have HSL5 := Lib.hid hsl5
        unfold rv
        clear hs5 hsl5
        go_wp2_with fail
        obtain ⟨_, _, h6, h7⟩ := set2_done (e := 3) HSL5.out (hb4.trans (h5.mono hb4.size)) (by omega) HS5.out
        exact bodyPost_ret (v := .tuple #[.agg #[.slice A5 0 c5, .int .i64 3], .string ⟨#[]⟩]) (by simp [results, Tryd.results75, go_sem, a0, a1]) rfl ⟨_, rfl, h6, h7⟩
      · have HX := Lib.hid hx0
        have hne : (bs.getD j 0).toNat ≠ 0 := fun h => hx0 (UInt8.toNat_inj.mp h)
        clear hx0
        generalize (bs.getD j 0).toNat = x at *
        have hne2 : ((x : Int) == 0) = false := by rw [beq_eq_false_iff_ne]; omega
        go_wp2_with fail
        go_roundw
        case rel => exact ⟨j + 1, by omega, by go_num, trivial, fun k hk => by
          by_cases h : k = j
          · subst h; exact HX.out
          · exact hz.out k (by omega)⟩
        case measure => simp [intOf]; omega
    · have hjm : j = m := by omega
      subst hjm
      have hr := HS.out (not_zero HM.out hz.out)
      subst hr
      dsimp only
      obtain ⟨b0, b1, h8, h9⟩ := set2_done (w := w) (W := w4.drew) (e := e1) HSL.out hb4.drew (by omega) HS4.out
      have hsl5 := HSL.out
      have hu5 : Sees (set2 w4.drew (w.heap.size + 1) (.slice A3 bs1.length c3) (.int .i64 e1)) (.slice A4 j c4) bs := Sees.grown (w := w4.drew) HU4.out (set2_grown _ _ _ _) hsl5.noByte
      have ht := run_text (P := Tryd.prog) Tryd.underlying28 Tryd.underlying5 Tryd.underlying9 (show Sees w4.drew (.slice A4 j c4) bs from HU4.out)
      have ht5 := run_text (P := Tryd.prog) Tryd.underlying28 Tryd.underlying5 Tryd.underlying9 hu5
      have g0 : (set2 w4.drew (w.heap.size + 1) (.slice A3 bs1.length c3) (.int .i64 e1)).cell? ⟨w3.heap.size, 0, none⟩ = some (.slice A3 bs1.length c3) := by
        have h := ((set2_grown w4.drew (w.heap.size + 1) (.slice A3 bs1.length c3) (.int .i64 e1)).block w3.heap.size (block_lt HROW.out) (fun e => by injection e with e; omega)).trans HROW.out
        exact block_cell h 0
      have g1 : (set2 w4.drew (w.heap.size + 1) (.slice A3 bs1.length c3) (.int .i64 e1)).cell? ⟨w3.heap.size, 1, none⟩ = some (.int .i64 e1) := by
        have h := ((set2_grown w4.drew (w.heap.size + 1) (.slice A3 bs1.length c3) (.int .i64 e1)).block w3.heap.size (block_lt HROW.out) (fun e => by injection e with e; omega)).trans HROW.out
        exact block_cell h 1
      unfold set2 at ht5 g0 g1
      have d0' : w4.drew.cell? ⟨w3.heap.size, 0, none⟩ = some (.slice A3 bs1.length c3) := d0
      have d1' : w4.drew.cell? ⟨w3.heap.size, 1, none⟩ = some (.int .i64 e1) := d1
      have c0 : (w4.setCell ⟨w.heap.size + 1, 0, none⟩ (.slice A3 bs1.length c3)).cell? ⟨w.heap.size + 1, 0, none⟩ = some (.slice A3 bs1.length c3) := by rw [block_cell (block_set HSL.out 0 _)]; rfl
      have c1 : ((w4.setCell ⟨w.heap.size + 1, 0, none⟩ (.slice A3 bs1.length c3)).setCell ⟨w.heap.size + 1, 1, none⟩ (.int .i64 e1)).cell? ⟨w.heap.size + 1, 1, none⟩ = some (.int .i64 e1) := by rw [block_cell (block_set (block_set HSL.out 0 _) 1 _)]; rfl
      have HC0 := Lib.hid c0
      have HC1 := Lib.hid c1
      clear c0 c1 b0 b1
      have H8 := Lib.hid h8
      have H9 := Lib.hid h9
      clear hu5 h8 h9 hsl5 hb4
      go_wp2_with fail
      go_region_held3 (fun W => W.cell? ⟨w3.heap.size, 0, none⟩ = some (.slice A3 bs1.length c3) ∧ W.cell? ⟨w3.heap.size, 1, none⟩ = some (.int .i64 e1) ∧ (convert 28 9 (.slice A4 j c4)).run Tryd.prog W = .ok (.string ⟨bs.toArray⟩) W)
        (first
          | exact ⟨d0', d1', ht⟩
          | exact ⟨g0, g1, ht5⟩
          | go_keep)
        (fail)
      all_goals
        go_wp2_with fail
        exact bodyPost_ret (v := .tuple #[.agg #[.slice A3 bs1.length c3, .int .i64 e1], .string ⟨bs.toArray⟩]) (by simp [results, Tryd.results75, go_sem, HC0.out, HC1.out]) rfl ⟨_, rfl, H8.out, H9.out⟩

end Go.Proofs.YtmpkjjmgfakomaaDoor
