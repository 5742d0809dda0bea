/-
  The decoder: what its block holds ('Dec'); created, New, Buffered; bytes.Clone as bytes of the call's own; slices of bytes.
-/
import Derived.Test.YtfmknjfhalkfhaaRput
import Derived.LaidEqlPtr
import Derived.WalkMore
namespace Go.Proofs.Ytfmknjfhalkfhaa
open Go.RowKit Mem Wire

theorem block_cell {w : World} {g : Nat} {cs : Array Value} {t : TypeId} (h : w.heap[g]? = some (.cells cs t (0, 0))) (i : Nat) : w.cell? ⟨g, i, none⟩ = cs[i]? := cell_of_row w g i cs t (0, 0) h
theorem block_free {w : World} {g : Nat} {cs : Array Value} {t : TypeId} (h : w.heap[g]? = some (.cells cs t (0, 0))) (i : Nat) : w.frozen? ⟨g, i, none⟩ = false := by
  simp [World.frozen?, h]
theorem block_set {w : World} {g : Nat} {cs : Array Value} {t : TypeId} (h : w.heap[g]? = some (.cells cs t (0, 0))) (i : Nat) (u : Value) :
    (w.setCell ⟨g, i, none⟩ u).heap[g]? = some (.cells (cs.setIfInBounds i u) t (0, 0)) := by
  simp [World.setCell, Array.getElem?_modify, h]
theorem block_lt {w : World} {g : Nat} {o : Obj} (h : w.heap[g]? = some o) : g < w.heap.size := by
  rcases Nat.lt_or_ge g w.heap.size with hl | hl
  · exact hl
  · rw [Array.getElem?_eq_none hl] at h; cases h
theorem grown_set (w : World) (g i : Nat) (u : Value) : w.grownBy (w.setCell ⟨g, i, none⟩ u) (some g) :=
  ⟨rfl, rfl, rfl, by simp [World.setCell], fun k _ hne => Below.heap_setCell w ⟨g, i, none⟩ u k (fun e => hne (by rw [e]))⟩

/-- the decoder at block g holds the bytes buf in the slice bv -/
def Dec (w : World) (base g : Nat) (bv : Value) (buf : List UInt8) (closed : Bool) : Prop :=
  w.heap[g]? = some (.cells #[bv, .bool closed, .pointer (some ⟨g, 0, none⟩)] 54 (0, 0)) ∧ base ≤ g ∧ Owns w base bv buf

section
variable {w w' : World} {base g : Nat} {bv : Value} {buf : List UInt8} {closed : Bool}
theorem Dec.lt (h : Dec w base g bv buf closed) : g < w.heap.size := block_lt h.1
theorem Dec.ne (h : Dec w base g bv buf closed) : bv.ownBlock ≠ some g := fun e => by
  obtain ⟨_, cur, hh⟩ := h.2.2.elem g e
  rw [h.1] at hh
  injection hh with e1
  injection e1 with _ e2
  exact absurd e2 (by decide)
theorem Dec.below (h : Dec w base g bv buf closed) (hb : Below w.heap.size w w') : Dec w' base g bv buf closed :=
  ⟨(hb.block g h.lt).trans h.1, h.2.1, h.2.2.below hb⟩
end

theorem created_nil (w : World) : Calls Try.prog 26 #[.pointer none] w fun e w' => e = .returned (.bool false) ∧ w = w' := by
  go_enter Try.func26, Try.ntmps26
  go_wp2
  go_ret
  exact ⟨rfl, rfl⟩

theorem info54 : (Try.prog.info? 54).isSome = true := by kernel_rfl

theorem created_yes {g : Nat} {w : World} (h : w.cell? ⟨g, 2, none⟩ = some (.pointer (some ⟨g, 0, none⟩))) :
    Calls Try.prog 26 #[.pointer (some ⟨g, 0, none⟩)] w fun e w' => e = .returned (.bool true) ∧ w = w' := by
  obtain ⟨j, hj⟩ := Option.isSome_iff_exists.1 info54
  have hp : ∀ w : World, (binOp .eql 38 (.pointer (some ⟨g, 0, none⟩)) (.pointer (some ⟨g, 0, none⟩))).run Try.prog w = .ok (.bool true) w := fun w => run_eql_ptr_same w _ Try.underlying38 hj
  go_enter Try.func26, Try.ntmps26
  go_wp2
  go_ret
  exact ⟨rfl, rfl⟩

theorem run_eql_none_some {P : Program} {tp te : TypeId} (a : Addr) (hp : P.underlying tp = some (.pointer te)) (w : World) :
    (binOp .eql tp (.pointer none) (.pointer (some a))).run P w = .ok (.bool false) w := by
  have h : ∀ d : Nat, (Op.equalIn (d + 1) tp (.pointer none) (.pointer (some a))).run P w = .ok false w := fun d => by
    simp [Op.equalIn, run_underlying hp]
  simp only [binOp]
  simp [Op.equal, Op.maxDepth, h 9999]

theorem created_no (g : Nat) (w : World) (h : w.cell? ⟨g, 2, none⟩ = some (.pointer none)) :
    Calls Try.prog 26 #[.pointer (some ⟨g, 0, none⟩)] w fun e w' => e = .returned (.bool false) ∧ w = w' := by
  have hp : ∀ w : World, (binOp .eql 38 (.pointer none) (.pointer (some ⟨g, 0, none⟩))).run Try.prog w = .ok (.bool false) w := fun w => run_eql_none_some _ Try.underlying38 w
  go_enter Try.func26, Try.ntmps26
  go_wp2
  go_ret
  exact ⟨rfl, rfl⟩

/-- a decoder that New did not return -/
theorem feed_none {p : Option Addr} {w : World} (v : Value) (h : Calls Try.prog 26 #[.pointer p] w fun e w' => e = .returned (.bool false) ∧ w = w') :
    Calls Try.prog 19 #[.pointer p, v] w fun e w' => e = .returned (.tuple #[.slice none 0 0, .int .i64 1]) ∧ w = w' := by
  have H := Lib.hid h
  clear h
  go_enter Try.func19, Try.ntmps19
  go_wp2_with fail
  go_step3
  go_wp2_with fail
  refine H.out.mono ?_
  rintro e w1 ⟨rfl, rfl⟩
  go_wp2_with fail
  rw [Exit.noGoto_ret]
  go_ret2
  exact ⟨rfl, rfl⟩

theorem buffered_none {p : Option Addr} {w : World} (h : Calls Try.prog 26 #[.pointer p] w fun e w' => e = .returned (.bool false) ∧ w = w') :
    Calls Try.prog 21 #[.pointer p] w fun e w' => e = .returned (.int .i64 0) ∧ w = w' := by
  have H := Lib.hid h
  clear h
  go_enter Try.func21, Try.ntmps21
  go_wp2_with fail
  refine H.out.mono ?_
  rintro e w1 ⟨rfl, rfl⟩
  go_wp2_with fail
  go_ret
  exact ⟨rfl, rfl⟩

theorem buffered_any {w : World} {base g : Nat} {bv : Value} {buf : List UInt8} {closed : Bool} (h : Dec w base g bv buf closed) :
    Calls Try.prog 21 #[.pointer (some ⟨g, 0, none⟩)] w fun e w' => e = .returned (.int .i64 (buf.length : Int)) ∧ w = w' := by
  have c0 := block_cell h.1 0
  have c2 := block_cell h.1 2
  simp only [List.getElem?_toArray, List.getElem?_cons_zero, List.getElem?_cons_succ] at c0 c2
  have H := Lib.hid (created_yes c2)
  obtain ⟨A, c, rfl, _, _⟩ := h.2.2.sees.shape
  clear h c2
  generalize buf.length = n at *
  go_enter Try.func21, Try.ntmps21
  go_wp2_with fail
  refine H.out.mono ?_
  rintro e w1 ⟨rfl, rfl⟩
  go_wp2_with fail
  go_ret
  exact ⟨rfl, rfl⟩

/-- what New leaves -/
def NewP (w : World) (e : Ending) (w' : World) : Prop :=
  ∃ g, e = .returned (.pointer (some ⟨g, 0, none⟩)) ∧ Dec w' w.heap.size g (.slice none 0 0) [] false ∧ Below w.heap.size w w'

theorem new_any (w : World) : Calls Try.prog 17 #[] w (NewP w) := by
  go_enter Try.func17, Try.ntmps17
  go_wp2
  go_ret
  exact ⟨w.heap.size, rfl, ⟨heap_alloc_new w _, Nat.le_refl _, own_nil _ _⟩, (Below.refl _ _).alloc (Nat.le_refl _) _⟩

theorem clone_own {w : World} {A : Option Addr} {n c : Nat} {bs : List UInt8} (hs : Sees w (.slice A n c) bs) (hb : bs.length ≤ 140737488355328) :
    Calls Try.prog 29 #[.slice A n c] w (Puts w bs) := by
  have q22 : ∀ (w : World) (a : Option Addr) (n c n' c' : Nat), (binOp .eql 23 (.slice a n c) (.slice none n' c')).run Try.prog w = .ok (.bool a.isNone) w := fun w a n c n' c' => Lib.run_eql_slice_nil w _ _ a n c n' c' Try.underlying23
  have HS := Lib.hid hs
  cases A with
  | none =>
    have h0 : bs = [] := by
      rcases hs.ways with ⟨_, _, _, h, _⟩ | ⟨b, off, n, c', hv, _⟩
      · exact h
      · injection hv with e; cases e
    subst h0
    clear hs
    go_enter Try.func29, Try.ntmps29
    go_wp2_with fail
    go_ret
    exact ⟨_, rfl, own_nil _ _, Below.refl _ _⟩
  | some ad =>
    clear hs
    go_enter Try.func29, Try.ntmps29
    go_wp2_with (at_builtin; refine wpList_app rfl (.tmp 5) (.tmp 6) rfl rfl (own_empty w) rfl (HS.out.alloc _) (by simpa using hb) (by simp) ?_; intro v1 w1 hown1 hg1 _)
    go_ret
    exact ⟨v1, rfl, by simpa using hown1, ((Below.refl _ _).alloc (Nat.le_refl _) _).grown hg1 (by simp) (fun k hk => by have e : some w.heap.size = some k := hk; injection e with e; omega)⟩

/-- a piece of a slice of bytes -/
theorem slice_lh {A : Option Addr} {n c : Nat} (lo hi : Nat) (h1 : lo ≤ hi) (h2 : hi ≤ c) (W : World) :
    (Instr.sliceAt 23 (.slice A n c) (some (.int .i64 lo)) (some (.int .i64 hi)) none).run Try.prog W = .ok (.slice (if c = lo then A else A.map (·.add lo)) (hi - lo) (c - lo)) W := by
  obtain ⟨i, hi', _, hsz, _⟩ := info_parts byte_info
  have he : Try.prog.elem 23 = 5 := by kernel_rfl
  have hu : Try.prog.underlying 23 = some (.slice (Try.prog.elem 23)) := by rw [he]; exact Try.underlying23
  rw [run_sliceAt_slice _ _ _ _ _ _ hu, run_slice_lh W 23 A n c hu .i64 .i64 lo hi (by omega) (by omega) (by omega), he]
  simp [sizeOf, typeInfo, hi', hsz, sliced, Result.andThen]

theorem slice_l {A : Option Addr} {n c : Nat} (lo : Nat) (h1 : lo ≤ n) (W : World) :
    (Instr.sliceAt 23 (.slice A n c) (some (.int .i64 lo)) none none).run Try.prog W = .ok (.slice (if c = lo then A else A.map (·.add lo)) (n - lo) (c - lo)) W := by
  obtain ⟨i, hi', _, hsz, _⟩ := info_parts byte_info
  have he : Try.prog.elem 23 = 5 := by kernel_rfl
  have hu : Try.prog.underlying 23 = some (.slice (Try.prog.elem 23)) := by rw [he]; exact Try.underlying23
  rw [run_sliceAt_slice _ _ _ _ _ _ hu, run_slice_l W 23 A n c hu .i64 lo (by omega) (by omega), he]
  simp [sizeOf, typeInfo, hi', hsz, sliced, Result.andThen]

/-- the piece from lo to hi -/
theorem Sees.piece {w : World} {A : Option Addr} {n cap : Nat} {bs : List UInt8} (h : Sees w (.slice A n cap) bs) (lo hi : Nat) (h1 : lo ≤ hi) (h2 : hi ≤ n) :
    Sees w (.slice (if cap = lo then A else A.map (·.add lo)) (hi - lo) (cap - lo)) ((bs.take hi).drop lo) := (h.take h2).drop h1

end Go.Proofs.Ytfmknjfhalkfhaa
