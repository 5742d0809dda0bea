/-
  FrameRoundTrip: plain lemmas, and what the loop over the frames keeps in memory.
-/
import Derived.Test.YtfmknjfhalkfhaaStream
namespace Go.Proofs.Ytfmknjfhalkfhaa
open Go.RowKit Mem Wire

theorem encs_append (l m : List Fr) : encs (l ++ m) = encs l ++ encs m := List.flatMap_append
theorem encs_one (f : Fr) : encs [f] = f.enc := by simp [encs]

theorem encs_length : ∀ (l : List Fr), (encs l).length = taken l
  | [] => rfl
  | f :: l => by
    have ih := encs_length l
    have e : encs (f :: l) = f.enc ++ encs l := rfl
    rw [e, List.length_append, f.enc_length, ih]
    rfl

/-- without the last byte -/
theorem split_without (l : List Fr) (f : Fr) (hl : ∀ g ∈ l, g.fits) (hf : f.fits) : ∃ r, splitS ((encs (l ++ [f])).take ((encs (l ++ [f])).length - 1)) = (l, r, 0) := by
  have e1 : encs (l ++ [f]) = encs l ++ f.enc := by rw [encs_append, encs_one]
  have hfl := f.enc_length
  have e2 : (encs (l ++ [f])).take ((encs (l ++ [f])).length - 1) = encs l ++ f.enc.take (f.enc.length - 1) := by
    rw [e1, List.length_append, List.take_append, List.take_of_length_le (by omega)]
    congr 2
    omega
  rw [e2, split_encs l hl, split_early hf (by omega)]
  exact ⟨_, by rw [List.append_nil]⟩

theorem taken_most : ∀ (l : List Fr), l.length ≤ taken l
  | [] => Nat.le_refl _
  | f :: l => by have := taken_most l; simp only [List.length_cons, taken]; omega

theorem addr_add_zero (b off : Nat) : (⟨b, off, none⟩ : Addr).add 0 = ⟨b, off, none⟩ := by rw [add_at, Nat.add_zero]

/-- the front of a slice of bytes -/
theorem slice_h {w : World} {A : Option Addr} {n c : Nat} {bs : List UInt8} (hs : Sees w (.slice A n c) bs) (hi : Nat) (h0 : 0 < n) (h2 : hi ≤ c) (W : World) :
    (Instr.sliceAt 23 (.slice A n c) none (some (.int .i64 hi)) none).run Try.prog W = .ok (.slice A hi c) W := by
  obtain ⟨i, hi', _, hsz, _⟩ := info_parts byte_info
  have he : Try.prog.elem 23 = 5 := by kernel_rfl
  have hu : Try.prog.underlying 23 = some (.slice (Try.prog.elem 23)) := by rw [he]; exact Try.underlying23
  rcases hs.ways with ⟨_, _, hv, _⟩ | ⟨b, off, n', c', hv, _⟩
  · injection hv with _ e2; omega
  · injection hv with e1 e2 e3
    subst e1 e2 e3
    rw [run_sliceAt_slice _ _ _ _ _ _ hu, run_slice_h W 23 _ n c hu .i64 hi (by omega) (by omega), he]
    simp [sizeOf, typeInfo, hi', hsz, sliced, Result.andThen, addr_add_zero]

theorem slice_hF {w : World} {A : Option Addr} {n c : Nat} {l : List (Fr × Value)} (hs : Frs w (.slice A n c) l) (hi : Nat) (h0 : 0 < n) (h2 : hi ≤ c) (W : World) :
    (Instr.sliceAt 31 (.slice A n c) none (some (.int .i64 hi)) none).run Try.prog W = .ok (.slice A hi c) W := by
  obtain ⟨i, hi', _, hsz, _⟩ := info_parts frame_info
  have he : Try.prog.elem 31 = 25 := by kernel_rfl
  have hu : Try.prog.underlying 31 = some (.slice (Try.prog.elem 31)) := by rw [he]; exact Try.underlying31
  obtain ⟨A', cap, hv, _, _, _, h4⟩ := hs
  injection hv with e1 e2 e3
  subst e1 e2 e3
  obtain ⟨b, off, rfl, _⟩ := h4 h0
  rw [run_sliceAt_slice _ _ _ _ _ _ hu, run_slice_h W 31 _ _ c hu .i64 hi (by omega) (by omega), he]
  simp [sizeOf, typeInfo, hi', hsz, sliced, Result.andThen, addr_add_zero]

theorem frs_take {w : World} {A : Option Addr} {n c : Nat} {l : List (Fr × Value)} (h : Frs w (.slice A n c) l) {k : Nat} (hk : k ≤ n) : Frs w (.slice A k c) (l.take k) := by
  obtain ⟨A', cap, hv, h1, h2, h3, h4⟩ := h
  injection hv with e1 e2 e3
  subst e1 e2 e3
  have hl : (l.take k).length = k := by rw [List.length_take]; omega
  refine ⟨A, c, by rw [hl], by omega, h2, fun p hp => h3 p (List.mem_of_mem_take hp), fun hn => ?_⟩
  obtain ⟨b, off, hA, hb, hc⟩ := h4 (by omega)
  refine ⟨b, off, hA, hb, fun j p hj => hc j p ?_⟩
  rw [List.getElem?_take] at hj
  split at hj
  · exact hj
  · cases hj

/-- all: the encodings so far; right: the frames that fit -/
structure TM (w wr : World) (s3 s4 : Value) (right : List (Fr × Value)) : Prop where
  all : Owns wr w.heap.size s3 (encs (fst right))
  row : wr.ownsRow w.heap.size 25 3 s4 right.length (flat right)
  bod : ∀ p ∈ right, (p.1.b ≠ [] → ∀ k, p.2.ownBlock = some k → k < w.heap.size) ∧ Sees wr p.2 p.1.b
  fits : ∀ p ∈ right, p.1.fits
  below : Below w.heap.size w wr

section
variable {w wr w' : World} {s3 s4 : Value} {right : List (Fr × Value)}

theorem TM.ownF (h : TM w wr s3 s4 right) : OwnF wr w.heap.size s4 right := ⟨h.row, fun p hp => .inr (h.bod p hp)⟩

theorem TM.later (h : TM w wr s3 s4 right) (hb : Below wr.heap.size wr w') : TM w w' s3 s4 right :=
  ⟨h.all.below hb, (h.ownF.below hb).1, fun p hp => ⟨(h.bod p hp).1, (h.bod p hp).2.below hb⟩, h.fits, h.below.trans (hb.mono h.below.size)⟩

/-- the frames, behind the append onto the encodings -/
theorem TM.ownF2 (h : TM w wr s3 s4 right) {w2 : World} (hg3 : wr.grownBy w2 s3.ownBlock) : OwnF w2 w.heap.size s4 right := by
  refine ⟨ownsRow_at h.row fun k hk => hg3.block k (World.ownsRow.lt h.row k hk).2 fun e => ?_, fun p hp => .inr ⟨(h.bod p hp).1, sees_other (h.bod p hp).2 hg3.size fun hn k hk hv => hg3.block k hk fun e => ?_⟩⟩
  · obtain ⟨_, cur, hh⟩ := row_elem h.all k e.symm
    obtain ⟨_, cur', hh'⟩ := row_elem h.row k hk
    exact absurd (elem_ne hh hh') (by decide)
  · have a := (h.bod p hp).1 hn k hv
    have b := (h.all.block k e.symm).1
    omega

/-- both appends of a round -/
theorem TM.add (h : TM w wr s3 s4 right) {w2 w3 : World} {v3 v4 : Value} {f : Fr} {sv : Value} {o : Obj} (hf : f.fits) (hsv : Sees w sv f.b) (ho3 : Owns w2 w.heap.size v3 (encs (fst right) ++ f.enc)) (hg3 : wr.grownBy w2 s3.ownBlock)
    (ho4 : OwnF w3 w.heap.size v4 (right ++ [(f, sv)])) (hg4 : (w2.alloc o).grownBy w3 s4.ownBlock) : TM w w3 v3 v4 (right ++ [(f, sv)]) := by
  have hb2 : Below w.heap.size w w2 := h.below.grown hg3 h.below.size (fun k hk => (h.all.block k hk).1)
  have hba : Below w2.heap.size w2 (w2.alloc o) := (Below.refl _ _).alloc (Nat.le_refl _) o
  have hrow2 : w2.ownsRow w.heap.size 25 3 s4 right.length (flat right) := ownsRow_at h.row fun k hk => hg3.block k (World.ownsRow.lt h.row k hk).2 fun e => by
    obtain ⟨_, cur, hh⟩ := row_elem h.all k e.symm
    obtain ⟨_, cur', hh'⟩ := row_elem h.row k hk
    exact absurd (elem_ne hh hh') (by decide)
  have hel : Else (w2.alloc o) s4.ownBlock := fun k hk => by
    obtain ⟨_, cur, hh⟩ := row_elem hrow2 k hk
    have hlt := (World.ownsRow.lt hrow2 k hk).2
    exact ⟨cur, 25, (hba.block k hlt).trans hh, by decide⟩
  have hb3 : Below w.heap.size w w3 := (hb2.trans (hba.mono hb2.size)).grown hg4 (Nat.le_trans hb2.size hba.size) (fun k hk => (World.ownsRow.lt h.row k hk).1)
  refine ⟨?_, ho4.1, fun p hp => ?_, fun p hp => ?_, hb3⟩
  · rw [fst_append, encs_append]
    have e : encs (fst [(f, sv)]) = f.enc := encs_one f
    rw [e]
    exact (ho3.below hba).grownElse hg4 hel
  · rcases List.mem_append.1 hp with hp | hp
    · obtain ⟨h1, h2⟩ := h.bod p hp
      refine ⟨h1, ?_⟩
      have h3 : Sees w2 p.2 p.1.b := sees_other h2 hg3.size fun hn k hk hv => hg3.block k hk fun e => by
        have a := h1 hn k hv
        have b := (h.all.block k e.symm).1
        omega
      exact sees_other (h3.below hba) hg4.size fun hn k hk hv => hg4.block k hk fun e => by
        have a := h1 hn k hv
        have b := (World.ownsRow.lt h.row k e.symm).1
        omega
    · rw [List.mem_singleton.1 hp]
      exact ⟨sees_old hsv, hsv.below hb3⟩
  · rcases List.mem_append.1 hp with hp | hp
    · exact h.fits p hp
    · rw [List.mem_singleton.1 hp]; exact hf
end

theorem fits_all {right : List (Fr × Value)} (h : ∀ p ∈ right, p.1.fits) : ∀ f ∈ fst right, f.fits := by
  intro f hf
  obtain ⟨p, hp, rfl⟩ := List.mem_map.1 hf
  exact h p hp

theorem encs_le {right : List (Fr × Value)} (h : ∀ p ∈ right, p.1.fits) : (encs (fst right)).length ≤ right.length * 4096 := by
  rw [encs_length]
  induction right with
  | nil => simp [fst, taken]
  | cons p l ih =>
    have h1 := ih (fun q hq => h q (List.mem_cons_of_mem _ hq))
    obtain ⟨_, _, _, _, h5⟩ := h p (List.mem_cons_self ..)
    simp only [fst, List.map_cons, taken, List.length_cons] at h1 ⊢
    omega

end Go.Proofs.Ytfmknjfhalkfhaa
