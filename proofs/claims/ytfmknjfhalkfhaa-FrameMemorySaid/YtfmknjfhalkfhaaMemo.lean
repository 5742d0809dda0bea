/-
  FrameMemory: bytes that are overwritten, and what stays; plain lemmas.
-/
import Derived.Test.YtfmknjfhalkfhaaTrip
import Derived.Test.YtfmknjfhalkfhaaWStream
namespace Go.Proofs.Ytfmknjfhalkfhaa
open Go.RowKit Mem Wire

theorem xor_byte (a b : Int) : ∃ y : UInt8, Value.int .u8 (bits .xor .u8 a b) = byte y := by
  have h : ∃ z : Int, bits .xor .u8 a b = IntKind.u8.wrap z := ⟨_, rfl⟩
  obtain ⟨z, hz⟩ := h
  rw [hz, IntKind.wrap_u8]
  refine ⟨UInt8.ofNat (z % 256).toNat, ?_⟩
  unfold byte
  rw [UInt8.toNat_ofNat', Nat.mod_eq_of_lt (by omega), Int.toNat_of_nonneg (by omega)]

theorem Owns.setB {w : World} {lo g n cap : Nat} {bs : List UInt8} (h : Owns w lo (.slice (some ⟨g, 0, none⟩) n cap) bs) (k : Nat) (y : UInt8) : Owns (w.setCell ⟨g, k, none⟩ (byte y)) lo (.slice (some ⟨g, 0, none⟩) n cap) (bs.set k y) := by
  obtain ⟨_, h2⟩ := h
  refine ⟨by simp, ?_⟩
  rcases h2 with ⟨h3, _⟩ | ⟨g', cap', cur, hv, hb, hh, hn, hm, hc, ht⟩
  · injection h3 with e; cases e
  · injection hv with e1 e2 e3
    injection e1 with e1
    injection e1 with e1
    subst e1 e3
    rw [List.length_set]
    refine .inr ⟨g, cap, cur.setIfInBounds k (byte y), by rw [e2], hb, block_set hh k _, hn, hm, by simpa using hc, ?_⟩
    rw [Array.toList_setIfInBounds, List.take_set, ht, ← List.map_set]

/-- the row of v is overwritten by other bytes, nothing else turns -/
def Flipped (w : World) (lo : Nat) (v : Value) (n : Nat) (wr : World) : Prop := ∃ bs : List UInt8, bs.length = n ∧ Owns wr lo v bs ∧ w.grownBy wr v.ownBlock

theorem flipped_start {w : World} {lo : Nat} {v : Value} {bs : List UInt8} (h : Owns w lo v bs) : Flipped w lo v bs.length w := ⟨bs, rfl, h, World.grownBy.refl _ _⟩

theorem Flipped.cell {w wr : World} {lo g n cap k : Nat} (h : Flipped w lo (.slice (some ⟨g, 0, none⟩) n cap) n wr) (hk : k < n) : ∃ x : UInt8, wr.cell? ⟨g, k, none⟩ = some (.int .u8 (x.toNat : Int)) ∧ wr.frozen? ⟨g, k, none⟩ = false := by
  obtain ⟨bs, hl, ho, _⟩ := h
  obtain ⟨_, cur, hh⟩ := row_elem ho g rfl
  rcases ho.sees.ways with ⟨_, _, hv, _⟩ | ⟨b, off, n', c', hv, _, _, _, _, _, hc⟩
  · injection hv with _ e2; omega
  · injection hv with e1 e2 e3
    injection e1 with e1
    injection e1 with e1 e4
    subst e1 e4 e2
    have := hc k hk
    rw [Nat.zero_add] at this
    exact ⟨_, this, block_free hh k⟩

theorem Flipped.step {w wr : World} {lo g n cap : Nat} (h : Flipped w lo (.slice (some ⟨g, 0, none⟩) n cap) n wr) (k : Nat) (a b : Int) : Flipped w lo (.slice (some ⟨g, 0, none⟩) n cap) n (wr.setCell ⟨g, k, none⟩ (.int .u8 (bits .xor .u8 a b))) := by
  obtain ⟨bs, hl, ho, hg⟩ := h
  obtain ⟨y, hy⟩ := xor_byte a b
  rw [hy]
  exact ⟨bs.set k y, by simpa using hl, ho.setB k y, hg.trans (grown_set wr g k _)⟩

/-- what both Feeds of the law return -/
theorem two_split {f : Fr} (hf : f.fits) (k : Nat) : ∃ g1 buf g2, splitS ((f.enc ++ f.enc).take k) = (g1, buf, 0) ∧ splitS (buf ++ (f.enc ++ f.enc).drop k) = (g2, [], 0) ∧ g1.length + g2.length = 2 ∧ (∀ x ∈ g1, x = f) ∧ (∀ x ∈ g2, x = f) := by
  have hall : splitS (f.enc ++ f.enc) = ([f, f], [], 0) := by
    have h := split_encs_all [f, f] (by simp [hf])
    have e : encs [f, f] = f.enc ++ f.enc := by simp [encs]
    rw [e] at h
    exact h
  have h0 : (splitS ((f.enc ++ f.enc).take k)).2.2 = 0 := by
    by_cases h : (splitS ((f.enc ++ f.enc).take k)).2.2 = 0
    · exact h
    · have h2 := (split_app_err _ ((f.enc ++ f.enc).drop k) h).2
      rw [List.take_append_drop, hall] at h2
      exact h2.symm
  have h1 := split_app_ok _ ((f.enc ++ f.enc).drop k) h0
  rw [List.take_append_drop, hall] at h1
  obtain ⟨e1, e2⟩ := Prod.mk.inj h1
  refine ⟨(splitS ((f.enc ++ f.enc).take k)).1, (splitS ((f.enc ++ f.enc).take k)).2.1, (splitS ((splitS ((f.enc ++ f.enc).take k)).2.1 ++ (f.enc ++ f.enc).drop k)).1, Prod.ext rfl (Prod.ext rfl h0), Prod.ext rfl e2.symm, ?_, fun x hx => ?_, fun x hx => ?_⟩
  · have := congrArg List.length e1
    simpa using this.symm
  · have : x ∈ [f, f] := by rw [e1]; exact List.mem_append_left _ hx
    simpa using this
  · have : x ∈ [f, f] := by rw [e1]; exact List.mem_append_right _ hx
    simpa using this

theorem feed_ok {buf p b2 : List UInt8} {g : List Fr} (h : splitS (buf ++ p) = (g, b2, 0)) : feedS buf false p = (g, 0, b2, false) := by
  unfold feedS
  rw [if_neg (by decide), if_pos (by rw [h]), h]

/-- one frame of a slice of frames -/
theorem slice_one {A : Option Addr} {n c i : Nat} (hi : i < n) (hc : n ≤ c) (W : World) :
    (Instr.sliceAt 31 (.slice A n c) (some (.int .i64 i)) (some (.int .i64 ((i : Int) + 1))) none).run Try.prog W = .ok (.slice (if c = i then A else A.map (·.add (i * 3))) 1 (c - i)) W := by
  obtain ⟨j, hj, _, hsz, _⟩ := info_parts frame_info
  have he : Try.prog.elem 31 = 25 := by kernel_rfl
  have hu : Try.prog.underlying 31 = some (.slice (Try.prog.elem 31)) := by rw [he]; exact Try.underlying31
  rw [run_sliceAt_slice _ _ _ _ _ _ hu, run_slice_lh W 31 A n c hu .i64 .i64 i (i + 1) (by omega) (by omega) (by omega), he]
  simp [sizeOf, typeInfo, hj, hsz, sliced, Result.andThen]

theorem frs_single {w : World} {b off c : Nat} {p : Fr × Value} (hs : Sees w p.2 p.1.b) (hb : b < w.heap.size) (h1 : 1 ≤ c) (h2 : c ≤ maxLen)
    (c0 : w.cell? ⟨b, off, none⟩ = some (.int .u32 (p.1.o : Int))) (c1 : w.cell? ⟨b, off + 1, none⟩ = some (.int .i64 p.1.c)) (c2 : w.cell? ⟨b, off + 2, none⟩ = some p.2) : Frs w (.slice (some ⟨b, off, none⟩) 1 c) [p] := by
  refine ⟨_, c, rfl, h1, h2, fun q hq => by rw [List.mem_singleton.1 hq]; exact hs, fun _ => ⟨b, off, rfl, hb, fun j q hj => ?_⟩⟩
  match j, hj with
  | 0, hj =>
    simp only [List.getElem?_cons_zero, Option.some.injEq] at hj
    subst hj
    rw [Nat.zero_mul, Nat.add_zero]
    exact ⟨c0, c1, c2⟩

/-- in the loop over the frames got: the bodies from place i on are as they were -/
structure GL (w7 : World) (base lo g : Nat) (gv bv : Value) (buf : List UInt8) (got : List (Fr × Value)) (i : Nat) (wr : World) : Prop where
  row : wr.ownsRow lo 25 3 gv got.length (flat got)
  bod : ∀ j p, got[j]? = some p → i ≤ j → Owns wr lo p.2 p.1.b
  sep : got.Pairwise (fun p q => p.2.ownBlock = none ∨ p.2.ownBlock ≠ q.2.ownBlock)
  nb : ∀ p ∈ got, p.2.ownBlock = none ∨ p.2.ownBlock ≠ bv.ownBlock
  dec : Dec wr base g bv buf false
  below : Below lo w7 wr
  size : w7.heap.size ≤ wr.heap.size

theorem GL.later {w7 wr wh : World} {base lo g i : Nat} {gv bv : Value} {buf : List UInt8} {got : List (Fr × Value)} (h : GL w7 base lo g gv bv buf got i wr) (hlo : lo ≤ wr.heap.size) (hb : Below wr.heap.size wr wh) : GL w7 base lo g gv bv buf got i wh :=
  ⟨ownsRow_at h.row fun k hk => hb.block k (World.ownsRow.lt h.row k hk).2, fun j p hp hi => (h.bod j p hp hi).below hb, h.sep, h.nb, h.dec.below hb, h.below.trans (hb.mono hlo), Nat.le_trans h.size hb.size⟩

theorem GL.flip {w7 wr wh : World} {base lo g i n : Nat} {gv bv : Value} {buf : List UInt8} {got : List (Fr × Value)} {p : Fr × Value} (h : GL w7 base lo g gv bv buf got i wr) (hlo : lo ≤ wr.heap.size) (hg : g < lo) (hp : got[i]? = some p) (hf : Flipped wr lo p.2 n wh) :
    GL w7 base lo g gv bv buf got (i + 1) wh := by
  obtain ⟨bs, _, ho, hgr⟩ := hf
  have hpo := h.bod i p hp (Nat.le_refl _)
  have hil := (List.getElem?_eq_some_iff.1 hp).1
  have hie : got[i] = p := (List.getElem?_eq_some_iff.1 hp).2
  refine ⟨ownsRow_at h.row fun k hk => hgr.block k (World.ownsRow.lt h.row k hk).2 fun e => ?_, fun j q hq hj => ?_, h.sep, h.nb, ⟨?_, h.dec.2.1, ?_⟩, h.below.grown hgr hlo (fun k hk => (hpo.block k hk).1), Nat.le_trans h.size hgr.size⟩
  · obtain ⟨_, cur, hh⟩ := row_elem h.row k hk
    obtain ⟨_, cur', hh'⟩ := row_elem hpo k e.symm
    exact absurd (elem_ne hh hh') (by decide)
  · have hjl := (List.getElem?_eq_some_iff.1 hq).1
    have hje : got[j] = q := (List.getElem?_eq_some_iff.1 hq).2
    have hsp := (List.pairwise_iff_getElem.1 h.sep) i j hil hjl (by omega)
    rw [hie, hje] at hsp
    refine (h.bod j q hq (by omega)).atB fun k hk => hgr.block k ((h.bod j q hq (by omega)).block k hk).2 fun e => ?_
    rcases hsp with hsp | hsp
    · rw [hsp] at e; cases e
    · exact hsp (by rw [← e, hk])
  · refine (hgr.block g h.dec.lt fun e => ?_).trans h.dec.1
    have := (hpo.block g e.symm).1
    omega
  · refine h.dec.2.2.atB fun k hk => hgr.block k (h.dec.2.2.block k hk).2 fun e => ?_
    rcases h.nb p (List.mem_of_getElem? hp) with hn | hn
    · rw [hn] at e; cases e
    · exact hn (by rw [← e, hk])

/-- at the first frame: the piece was overwritten, the row of v6 in a block below lo -/
theorem gl_start {w6 w7 w8 : World} {base g k lo6 : Nat} {gv bv v6 : Value} {buf P : List UInt8} {got : List (Fr × Value)} (hof : OwnF w7 w6.heap.size gv got) (hsep : Sep w7 w6.heap.size got) (hdec : Dec w7 base g bv buf false)
    (hne : ∀ p ∈ got, p.2.ownBlock = none ∨ p.2.ownBlock ≠ bv.ownBlock) (hor : bv.ownBlock = none ∨ ∃ j, bv.ownBlock = some j ∧ w6.heap.size ≤ j) (ho6 : Owns w6 lo6 v6 P) (hg : g < lo6) (hf : Flipped w7 lo6 v6 k w8) :
    GL w8 base w6.heap.size g gv bv buf got 0 w8 := by
  obtain ⟨bs, _, _, hgr⟩ := hf
  have hlt : ∀ j, v6.ownBlock = some j → lo6 ≤ j ∧ j < w6.heap.size := fun j hj => ho6.block j hj
  refine ⟨ownsRow_at hof.1 fun j hj => hgr.block j (World.ownsRow.lt hof.1 j hj).2 fun e => ?_, fun j p hp _ => (hsep.1 p (List.mem_of_getElem? hp)).atB fun i hi => hgr.block i ((hsep.1 p (List.mem_of_getElem? hp)).block i hi).2 fun e => ?_, hsep.2, hne, ⟨?_, hdec.2.1, ?_⟩, Below.refl _ _, Nat.le_refl _⟩
  · have h1 := (hlt j e.symm).2
    have h2 := (World.ownsRow.lt hof.1 j hj).1
    omega
  · have h1 := (hlt i e.symm).2
    have h2 := ((hsep.1 p (List.mem_of_getElem? hp)).block i hi).1
    omega
  · refine (hgr.block g hdec.lt fun e => ?_).trans hdec.1
    have h1 := (hlt g e.symm).1
    omega
  · refine hdec.2.2.atB fun j hj => hgr.block j (hdec.2.2.block j hj).2 fun e => ?_
    have h1 := (hlt j e.symm).2
    rcases hor with h | ⟨i, h, hi⟩
    · rw [h] at hj; cases hj
    · rw [h] at hj
      injection hj with hj
      omega

theorem GL.cells {w7 wr : World} {base lo g gb n c i : Nat} {bv : Value} {buf : List UInt8} {got : List (Fr × Value)} {p : Fr × Value} {j : Nat} (h : GL w7 base lo g (.slice (some ⟨gb, 0, none⟩) n c) bv buf got i wr) (hp : got[j]? = some p) :
    wr.cell? ⟨gb, j * 3, none⟩ = some (.int .u32 (p.1.o : Int)) ∧ wr.cell? ⟨gb, j * 3 + 1, none⟩ = some (.int .i64 p.1.c) ∧ wr.cell? ⟨gb, j * 3 + 2, none⟩ = some p.2 ∧ gb < wr.heap.size := by
  have hjl := (List.getElem?_eq_some_iff.1 hp).1
  obtain ⟨e0, e1, e2⟩ := flat_at got j p hp
  have hn : n = got.length := by
    rcases h.row.2 with ⟨hv, _⟩ | ⟨_, _, _, hv, _⟩
    · injection hv with e; cases e
    · injection hv
  subst hn
  have hall := h.row
  refine ⟨?_, ?_, ?_, (World.ownsRow.lt h.row gb rfl).2⟩
  · rw [hall.cellAt (j * 3) (by omega)]; exact e0
  · rw [hall.cellAt (j * 3 + 1) (by omega)]; exact e1
  · rw [hall.cellAt (j * 3 + 2) (by omega)]; exact e2

end Go.Proofs.Ytfmknjfhalkfhaa
