/-
  New memory with known bytes, parts of slices, and the helper 'joined'.
-/
import Derived.Test.YtllmdgbokmldnaaRupd
namespace Go.Proofs.Ytllmdgbokmldnaa
open Go.RowKit Mem

theorem own_empty (w : World) : Owns (w.alloc (.cells #[] 5)) w.heap.size (.slice (some ⟨w.heap.size, 0, none⟩) 0 0) [] :=
  World.ownsRow_made w #[] 0 (Nat.le_refl _) (by simp [maxLen]) rfl

/-- what a call that hands bytes of its own on leaves -/
def Puts (w : World) (bs : List UInt8) (e : Ending) (w' : World) : Prop :=
  ∃ v, e = .returned v ∧ Owns w' w.heap.size v bs ∧ Below w.heap.size w w'

/-- a literal row of bytes, just made -/
theorem sees_new (w : World) (cs : Array Value) {t : TypeId} (bs : List UInt8) (n : Nat) (hn : n = bs.length) (h : cs = (bs.map byte).toArray) (hm : n ≤ maxLen) : Sees (w.alloc (.cells cs t)) (.slice (some ⟨w.heap.size, 0, none⟩) n n) bs := by
  subst h hn
  refine ⟨_, _, rfl, Nat.le_refl _, hm, fun _ => ⟨w.heap.size, 0, rfl, by simp, fun j hj => ?_⟩⟩
  rw [Nat.zero_add, World.cell?_alloc_at _ _ _ _ rfl]
  simp [List.getD, List.getElem?_eq_getElem hj]

theorem grown_alloc (w : World) (o : Obj) (row : Option Nat) : w.grownBy (w.alloc o) row := World.grownBy_alloc w o row

theorem Owns.mono {w : World} {base base' : Nat} {v : Value} {bs : List UInt8} (h : Owns w base v bs) (hb : base' ≤ base) : Owns w base' v bs := by
  refine ⟨h.1, ?_⟩
  rcases h.2 with h2 | ⟨g, cap, cur, hv, hg, r⟩
  · exact .inl h2
  · exact .inr ⟨g, cap, cur, hv, Nat.le_trans hb hg, r⟩

/-- a front part of a row of one's own -/
theorem Owns.take {w : World} {base : Nat} {A : Option Addr} {n c k : Nat} {bs : List UInt8} (h : Owns w base (.slice A n c) bs) (hk : k ≤ n) : Owns w base (.slice A k c) (bs.take k) := by
  obtain ⟨_, h2⟩ := h
  have hl : ((bs.take k).map byte).length = (bs.take k).length * 1 := by rw [List.length_map, Nat.mul_one]
  refine ⟨hl, ?_⟩
  rcases h2 with ⟨hv, h0⟩ | ⟨g, cap, cur, hv, hg, hh, hn, hm, hs, ht⟩
  · injection hv with e1 e2 e3
    subst e1 e2 e3
    exact .inl ⟨by rw [show k = 0 by omega], by rw [List.length_take]; omega⟩
  · injection hv with e1 e2 e3
    subst e1 e2 e3
    have hkl : (bs.take k).length = k := by rw [List.length_take]; omega
    refine .inr ⟨g, c, cur, by rw [hkl], hg, hh, by omega, hm, hs, ?_⟩
    rw [hkl, Nat.mul_one, List.map_take, ← ht, Nat.mul_one, List.take_take, Nat.min_eq_left hk]

theorem add_at (b off j : Nat) : (⟨b, off, none⟩ : Addr).add j = ⟨b, off + j, none⟩ := by unfold Addr.add; split <;> simp_all
theorem addr_add_zero (b off : Nat) : (⟨b, off, none⟩ : Addr).add 0 = ⟨b, off, none⟩ := by rw [add_at, Nat.add_zero]

/-- the front of a slice of bytes -/
theorem slice_h {w : World} {A : Option Addr} {n c : Nat} {bs : List UInt8} (hs : Sees w (.slice A n c) bs) (hi : Nat) (h0 : 0 < n) (h2 : hi ≤ c) (W : World) :
    (Instr.sliceAt 23 (.slice A n c) none (some (.int .i64 hi)) none).run Try.prog W = .ok (.slice A hi c) W := by
  obtain ⟨i, hi', _, hsz, _⟩ := info_parts byte_info
  have he : Try.prog.elem 23 = 5 := by kernel_rfl
  have hu : Try.prog.underlying 23 = some (.slice (Try.prog.elem 23)) := by rw [he]; exact Try.underlying23
  rcases hs.ways with ⟨_, _, hv, _⟩ | ⟨b, off, n', c', hv, _⟩
  · injection hv with _ e2; omega
  · injection hv with e1 e2 e3
    subst e1 e2 e3
    rw [run_sliceAt_slice _ _ _ _ _ _ hu, run_slice_h W 23 _ n c hu .i64 hi (by omega) (by omega), he]
    simp [sizeOf, typeInfo, hi', hsz, sliced, Result.andThen, addr_add_zero]

/-- the rest of a slice of bytes -/
theorem slice_l {A : Option Addr} {n c : Nat} (lo : Nat) (h1 : lo ≤ n) (W : World) :
    (Instr.sliceAt 23 (.slice A n c) (some (.int .i64 lo)) none none).run Try.prog W = .ok (.slice (if c = lo then A else A.map (·.add lo)) (n - lo) (c - lo)) W := by
  obtain ⟨i, hi', _, hsz, _⟩ := info_parts byte_info
  have he : Try.prog.elem 23 = 5 := by kernel_rfl
  have hu : Try.prog.underlying 23 = some (.slice (Try.prog.elem 23)) := by rw [he]; exact Try.underlying23
  rw [run_sliceAt_slice _ _ _ _ _ _ hu, run_slice_l W 23 A n c hu .i64 lo (by omega) (by omega), he]
  simp [sizeOf, typeInfo, hi', hsz, sliced, Result.andThen]

set_option maxHeartbeats 1000000 in
theorem joined_any {w : World} {A A' : Option Addr} {n c n' c' : Nat} {xs ys : List UInt8} (h1 : Sees w (.slice A n c) xs) (h2 : Sees w (.slice A' n' c') ys) (hb : xs.length + ys.length ≤ 140737488355328) :
    Calls Try.prog 23 #[.slice A n c, .slice A' n' c'] w (Puts w (xs ++ ys)) := by
  have H1 := Lib.hid h1
  have H2 := Lib.hid h2
  clear h1 h2
  go_enter Try.func23, Try.ntmps23
  go_wp2_with (first
    | (at_builtin; refine wpList_app rfl (.tmp 5) (.tmp 6) rfl rfl (own_empty w) rfl (H1.out.alloc _) (by simp only [List.length_nil]; omega) (by simp) ?_; intro v1 w1 ho1 hg1 _; have hb1 : Below w.heap.size w w1 := ((Below.refl _ _).alloc (Nat.le_refl _) _).grown hg1 (by simp) (fun j hj => by have e : some w.heap.size = some j := hj; injection e with e; omega); have HO1 := Lib.hid ho1; clear ho1 hg1)
    | (at_builtin; refine wpList_app rfl (.tmp 7) (.tmp 8) rfl (v := v1) rfl HO1.out rfl (H2.out.below hb1) (by simp only [List.nil_append]; omega) hb1.size ?_; intro v2 w2 ho2 hg2 _; have hb2 : Below w.heap.size w w2 := hb1.grown hg2 hb1.size (fun j hj => (HO1.out.block j hj).1); have HO2 := Lib.hid ho2; clear ho2 hg2)
    | fail)
  go_ret
  exact ⟨v2, rfl, HO2.out, hb2⟩

end Go.Proofs.Ytllmdgbokmldnaa
