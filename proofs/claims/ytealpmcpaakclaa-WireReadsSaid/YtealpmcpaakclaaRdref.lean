/-
  The reference's reader: a struct by value; its functions compute what the plain functions of Wire say.
-/
import Derived.Test.YtealpmcpaakclaaRef
import Derived.Test.YtealpmcpaakclaaPlain
import Derived.Deep.RegionHeld3
namespace Go.Proofs.Ytealpmcpaakclaa
open Go.RowKit Mem Wire

/-- the value of a reference's reader -/
def rv (v : Value) (e : Int) : Value := .agg #[v, .int .i64 e]

/-- a new reader value in the state s comes back -/
def Back1 (w : World) (s : St) (e : Ending) (w' : World) : Prop := ∃ v, e = .returned (rv v s.2) ∧ Sees w' v s.1 ∧ Below w.heap.size w w'
/-- a new reader value and a plain value come back -/
def Back2 (w : World) (s : St) (r : Value) (e : Ending) (w' : World) : Prop := ∃ v, e = .returned (.tuple #[rv v s.2, r]) ∧ Sees w' v s.1 ∧ Below w.heap.size w w'
/-- a new reader value and a slice of bytes come back -/
def Back3 (w : World) (s : St) (bs : List UInt8) (e : Ending) (w' : World) : Prop := ∃ v r, e = .returned (.tuple #[rv v s.2, r]) ∧ Sees w' v s.1 ∧ Sees w' r bs ∧ Below w.heap.size w w'

/-- a block of two cells -/
theorem two_cells {w : World} {x y : Value} : (w.alloc (.cells #[x, y] 37)).heap[w.heap.size]? = some (.cells #[x, y] 37 (0, 0)) := heap_alloc_new w _

theorem own_at (w : World) (H : Nat) (hH : w.heap.size = H) : Owns (w.alloc (.cells #[] 5)) H (.slice (some ⟨H, 0, none⟩) 0 0) [] := by subst hH; exact own_empty w

theorem ref_fail {w : World} {A : Option Addr} {n c : Nat} (e x : Int) : Calls Try.prog 44 #[rv (.slice A n c) e, .int .i64 x] w (Back1 w ([], x)) := by
  unfold rv
  go_enter Try.func44, Try.ntmps44
  go_wp2_with fail
  refine bodyPost_ret (v := .agg #[.slice none 0 0, .int .i64 x]) (by simp [results, Try.results44, go_sem]) rfl ⟨_, rfl, sees_nil _, ?_⟩
  exact ((Below.refl _ _).alloc (Nat.le_refl _) _).alloc (by simp) _

theorem heap_alloc_at (w : World) (o : Obj) (H : Nat) (hH : w.heap.size = H) : (w.alloc o).heap[H]? = some o := by subst hH; exact heap_alloc_new w o

/-- the variable of a reader's value, as it is made -/
def Slot2 (w : World) (h : Nat) : Prop := w.heap[h]? = some (.cells #[.slice none 0 0, .int .i64 0] 37 (0, 0))
theorem Slot2.below {w w' : World} {h : Nat} (hs : Slot2 w h) (hb : Below w.heap.size w w') : Slot2 w' h := (hb.block h (block_lt hs)).trans hs
theorem Slot2.noByte {w : World} {h : Nat} (hs : Slot2 w h) : ∀ o x, w.cell? ⟨h, o, none⟩ ≠ some (byte x) := by
  intro o x
  rw [block_cell hs]
  match o with
  | 0 => simp [byte]
  | 1 => simp [byte]
  | o + 2 => simp
def set2 (w : World) (h : Nat) (x y : Value) : World := (w.setCell ⟨h, 0, none⟩ x).setCell ⟨h, 1, none⟩ y
theorem set2_heap {w : World} {h : Nat} (hs : Slot2 w h) (x y : Value) : (set2 w h x y).heap[h]? = some (.cells #[x, y] 37 (0, 0)) := by
  unfold set2
  rw [block_set (block_set hs 0 x) 1 y]
  rfl
theorem set2_grown (w : World) (h : Nat) (x y : Value) : w.grownBy (set2 w h x y) (some h) := (grown_set w h 0 x).trans (grown_set _ h 1 y)

/-- the reader's value x, e stored in the result's variable -/
theorem set2_done {w W : World} {h : Nat} {x : Value} {e : Int} {bs : List UInt8} (hs : Slot2 W h) (hb : Below w.heap.size w W) (hh : w.heap.size ≤ h) (hz : Sees W x bs) :
    (set2 W h x (.int .i64 e)).cell? ⟨h, 0, none⟩ = some x ∧ (set2 W h x (.int .i64 e)).cell? ⟨h, 1, none⟩ = some (.int .i64 e) ∧ Sees (set2 W h x (.int .i64 e)) x bs ∧ Below w.heap.size w (set2 W h x (.int .i64 e)) := by
  have hc := set2_heap hs x (.int .i64 e)
  have hg := set2_grown W h x (.int .i64 e)
  exact ⟨by rw [block_cell hc]; rfl, by rw [block_cell hc]; rfl, hz.grown hg hs.noByte, hb.grown hg hb.size (fun k hk => by injection hk with hk; omega)⟩

theorem slot2_kept {w w2 : World} {o : Obj} {x y : Value} {n c : Nat} (hg : ((w.alloc (.cells #[x, y] 37)).alloc o).grownBy w2 (Value.slice (some ⟨w.heap.size + 1, 0, none⟩) n c).ownBlock) : w2.heap[w.heap.size]? = some (.cells #[x, y] 37 (0, 0)) := by
  rw [hg.block w.heap.size (by simp; omega) (by simp [Value.ownBlock])]
  rw [Below.heap_alloc _ _ _ (by simp)]
  exact heap_alloc_new w _

theorem ref_from {w : World} {A : Option Addr} {n c : Nat} {bs : List UInt8} (hs : Sees w (.slice A n c) bs) (hb : bs.length ≤ 1000000) : Calls Try.prog 16 #[.slice A n c] w (Back1 w (bs, 0)) := by
  have HS := Lib.hid hs
  clear hs
  go_enter Try.func16, Try.ntmps16
  go_wp2_with (at_builtin; refine wpList_app rfl (.tmp 3) (.tmp 4) rfl (v := .slice (some ⟨w.heap.size + 1, 0, none⟩) 0 0) rfl (base := w.heap.size + 1) (own_at (w.alloc (.cells #[.slice none 0 0, .int .i64 0] 37)) _ (by simp)) rfl ((HS.out.alloc _).alloc _) (by simp; omega) (by simp) ?_; intro v2 w2 ho2 hg2 _; have hse := Lib.hid ho2.sees; obtain ⟨A2, c2, rfl, _, _⟩ := hse.out.shape; have hh := slot2_kept hg2; have a0 := block_cell hh 0; have a1 := block_cell hh 1; have f0 := block_free hh 0; have f1 := block_free hh 1; simp only [List.getElem?_toArray, List.getElem?_cons_zero, List.getElem?_cons_succ] at a0 a1; have HH := Lib.hid hh; have HG := Lib.hid hg2; clear hh hg2 ho2)
  have hb2 : Below w.heap.size w w2 := (((Below.refl _ _).alloc (Nat.le_refl _) _).alloc (by simp) _).grown HG.out (by simp; omega) (fun k hk => by
    have e : some (w.heap.size + 1) = some k := hk
    injection e with e
    omega)
  obtain ⟨_, _, h3, h4⟩ := set2_done (e := 0) HH.out hb2 (Nat.le_refl _) hse.out
  rw [List.nil_append] at h3 h4
  refine bodyPost_ret (v := .agg #[.slice A2 bs.length c2, .int .i64 0]) (by simp [results, Try.results16, go_sem, a0, a1]) rfl ⟨_, rfl, h3, h4⟩

/-- a reader's value in a box -/
theorem box_cells {w : World} {x : Value} {e : Int} : (w.alloc (.cells #[x, .int .i64 e] 37)).cell? ⟨w.heap.size, 0, none⟩ = some x ∧ (w.alloc (.cells #[x, .int .i64 e] 37)).cell? ⟨w.heap.size, 1, none⟩ = some (.int .i64 e) := by
  constructor <;> (rw [World.cell?_alloc_at _ _ _ _ rfl]; rfl)

theorem ruint_err {w : World} {A : Option Addr} {n c : Nat} {bs : List UInt8} {e : Int} (hs : Sees w (.slice A n c) bs) (he : e ≠ 0) : Calls Try.prog 17 #[rv (.slice A n c) e] w (Back2 w (bs, e) (.int .u32 0)) := by
  have hb : (e == 0) = false := by simpa using he
  have hb2 : (e != 0) = true := by rw [bne, hb]; rfl
  unfold rv
  go_enter Try.func17, Try.ntmps17
  go_wp2_with fail
  refine bodyPost_ret (v := .tuple #[.agg #[.slice A n c, .int .i64 e], .int .u32 0]) (by simp [results, Try.results17, go_sem]) rfl ⟨_, rfl, ?_, ?_⟩
  · exact (hs.alloc _).alloc _
  · exact ((Below.refl _ _).alloc (Nat.le_refl _) _).alloc (by simp) _

theorem ruint_short {w : World} {A : Option Addr} {n c : Nat} (hn : n < 4) : Calls Try.prog 17 #[rv (.slice A n c) 0] w (Back2 w ([], 4) (.int .u32 0)) := by
  obtain ⟨w2, hw2⟩ : ∃ w2, w2 = (w.alloc (.cells #[.slice A n c, .int .i64 0] 37)).alloc (.cells #[.slice none 0 0, .int .i64 0] 37) := ⟨_, rfl⟩
  have hb2 : Below w.heap.size w w2 := by rw [hw2]; exact ((Below.refl _ _).alloc (Nat.le_refl _) _).alloc (by simp) _
  have hsl : Slot2 w2 (w.heap.size + 1) := by rw [hw2]; exact heap_alloc_at (w.alloc (.cells #[.slice A n c, .int .i64 0] 37)) _ _ (by simp)
  have HW := Lib.hid hw2
  have HF := Lib.hid (ref_fail (w := w2) (A := A) (n := n) (c := c) 0 4)
  unfold rv at HF ⊢
  clear hw2
  go_enter Try.func17, Try.ntmps17
  go_wp2_with fail
  rw [← HW.out]
  refine HF.out.mono ?_
  rintro e w3 ⟨v3, rfl, hs3, h3⟩
  obtain ⟨A3, c3, rfl, _, _⟩ := hs3.shape
  have hsl3 := hsl.below h3
  have a0 := block_cell hsl3 0
  have a1 := block_cell hsl3 1
  have f0 := block_free hsl3 0
  have f1 := block_free hsl3 1
  simp only [List.getElem?_toArray, List.getElem?_cons_zero, List.getElem?_cons_succ] at a0 a1
  have HS3 := Lib.hid hs3
  have HSL := Lib.hid hsl3
  unfold rv
  clear hs3 hsl3
  go_wp2_with fail
  obtain ⟨_, _, h4, h5⟩ := set2_done (e := 4) HSL.out (hb2.trans (h3.mono hb2.size)) (by omega) HS3.out
  exact bodyPost_ret (v := .tuple #[.agg #[.slice A3 0 c3, .int .i64 4], .int .u32 0]) (by simp [results, Try.results17, go_sem, a0, a1]) rfl ⟨_, rfl, h4, h5⟩

set_option maxHeartbeats 400000 in
theorem ruint_good {w : World} {A : Option Addr} {n c : Nat} {bs : List UInt8} (hs : Sees w (.slice A n c) bs) (hn : 4 ≤ n) : Calls Try.prog 17 #[rv (.slice A n c) 0] w (Back2 w (bs.drop 4, 0) (.int .u32 (at4 bs : Int))) := by
  have hbyte : ∀ x : UInt8, x.toNat < 256 := fun x => x.toNat_lt
  have hdrop := hs.drop (k := 4) hn
  have hcap : n ≤ c ∧ c ≤ 9223372036854775807 := by
    obtain ⟨_, _, hv0, h1, h2⟩ := hs.shape
    injection hv0 with _ e2 e3
    simp only [maxLen] at h2
    omega
  obtain ⟨hcc, hcm2⟩ := hcap
  rcases hs.ways with ⟨_, _, hv, _⟩ | ⟨b, off, n', c', hv, _, _, _, _, hb, hcell⟩
  · injection hv with _ e2; omega
  · injection hv with e1 e2 e3
    subst e1 e2 e3
    have c0 := hcell 0 (by omega)
    have c1 := hcell 1 (by omega)
    have c2 := hcell 2 (by omega)
    have c3 := hcell 3 (by omega)
    unfold byte at c0 c1 c2 c3
    rw [Nat.add_zero] at c0
    have b0 := hbyte (bs.getD 0 0)
    have b1 := hbyte (bs.getD 1 0)
    have b2 := hbyte (bs.getD 2 0)
    have b3 := hbyte (bs.getD 3 0)
    have HV : Hid (at4 bs = num4 (bs.getD 0 0).toNat (bs.getD 1 0).toNat (bs.getD 2 0).toNat (bs.getD 3 0).toNat) := rfl
    have HD := Lib.hid hdrop
    clear hcell hbyte hdrop hs
    generalize (bs.getD 0 0).toNat = x0 at *
    generalize (bs.getD 1 0).toNat = x1 at *
    generalize (bs.getD 2 0).toNat = x2 at *
    generalize (bs.getD 3 0).toNat = x3 at *
    unfold rv
    go_enter Try.func17, Try.ntmps17
    go_wp2_with fail
    refine wp_loop_rounds 5 ?_
    rw [rounds_succ]
    go_wp2_with fail
    rw [rounds_succ]
    go_wp2_with fail
    rw [rounds_succ]
    go_wp2_with fail
    rw [rounds_succ]
    go_wp2_with fail
    rw [rounds_succ]
    go_wp2_with fail
    case inl =>
      have HC1 : c = 4 := h
      subst HC1
      have HE := HD.out
      rw [if_pos rfl] at HE
      refine bodyPost_ret (v := .tuple #[.agg #[.slice (some ⟨b, off, none⟩) (n - 4) 0, .int .i64 0], .int .u32 ((x0 : Int) + x1 * 256 + x2 * 65536 + x3 * 16777216)]) (by simp [results, Try.results17, go_sem]) rfl ⟨_, ?_, (HE.alloc _).alloc _, ((Below.refl _ _).alloc (Nat.le_refl _) _).alloc (by simp) _⟩
      rw [HV.out]
      simp [rv, num4]
    case inr =>
      have HE := HD.out
      rw [if_neg h] at HE
      refine bodyPost_ret (v := .tuple #[.agg #[.slice (some ⟨b, off + 4, none⟩) (n - 4) (c - 4), .int .i64 0], .int .u32 ((x0 : Int) + x1 * 256 + x2 * 65536 + x3 * 16777216)]) (by simp [results, Try.results17, go_sem]) rfl ⟨_, ?_, (HE.alloc _).alloc _, ((Below.refl _ _).alloc (Nat.le_refl _) _).alloc (by simp) _⟩
      rw [HV.out]
      simp [rv, num4]
      rfl

end Go.Proofs.Ytealpmcpaakclaa
