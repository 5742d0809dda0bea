/-
  Package wire: its reader and its Put functions.
-/
import Derived.Test.YtmpkjjmgfakomaaDoorRows
import Derived.Test.YtmpkjjmgfakomaaDoorMem
import Derived.Test.YtmpkjjmgfakomaaDoorWth
import Derived.LaidEqlPtr
import Derived.WalkSpells
import Derived.BigQuiet
import Derived.Deep.QuietTactic
import Derived.Lib.BytesEntry
import Derived.Laws.BytesArg
import Derived.Laws.Externs
import Derived.Lib.IndexLaws
import Derived.Lib.ConvBytes
namespace Go.Proofs.YtmpkjjmgfakomaaDoor
open Go.RowKit Mem Wire

/-- the reader at block g holds the state s -/
def Rdr (w : World) (g : Nat) (s : St) : Prop :=
  ∃ v, w.heap[g]? = some (.cells #[v, .int .i64 s.2, .pointer (some ⟨g, 0, none⟩)] 83 (0, 0)) ∧ Sees w v s.1 ∧ Fine s

theorem block_cell {w : World} {g : Nat} {cs : Array Value} {t : TypeId} (h : w.heap[g]? = some (.cells cs t (0, 0))) (i : Nat) : w.cell? ⟨g, i, none⟩ = cs[i]? := cell_of_row w g i cs t (0, 0) h
theorem block_free {w : World} {g : Nat} {cs : Array Value} {t : TypeId} (h : w.heap[g]? = some (.cells cs t (0, 0))) (i : Nat) : w.frozen? ⟨g, i, none⟩ = false := by
  simp [World.frozen?, h]
theorem block_set {w : World} {g : Nat} {cs : Array Value} {t : TypeId} (h : w.heap[g]? = some (.cells cs t (0, 0))) (i : Nat) (u : Value) :
    (w.setCell ⟨g, i, none⟩ u).heap[g]? = some (.cells (cs.setIfInBounds i u) t (0, 0)) := by
  simp [World.setCell, Array.getElem?_modify, h]
theorem block_lt {w : World} {g : Nat} {o : Obj} (h : w.heap[g]? = some o) : g < w.heap.size := by
  rcases Nat.lt_or_ge g w.heap.size with hl | hl
  · exact hl
  · rw [Array.getElem?_eq_none hl] at h; cases h
theorem grown_set (w : World) (g i : Nat) (u : Value) : w.grownBy (w.setCell ⟨g, i, none⟩ u) (some g) :=
  ⟨rfl, rfl, rfl, by simp [World.setCell], fun k _ hne => Below.heap_setCell w ⟨g, i, none⟩ u k (fun e => hne (by rw [e]))⟩
theorem grown_draws {w w' : World} {row : Option Nat} (h : w.grownBy w' row) (n : Nat) : w.grownBy (w'.drewN n) row := ⟨h.os, h.tape, h.output, h.size, h.block⟩

section
variable {w w' : World} {g : Nat} {s : St}

theorem noByte {v : Value} {A : Option Addr} {n c : Nat} {e : Int} {p : Value} (hv : v = .slice A n c) (hp : ∀ x : UInt8, p ≠ byte x) (h : w.heap[g]? = some (.cells #[v, .int .i64 e, p] 83 (0, 0))) :
    ∀ o x, w.cell? ⟨g, o, none⟩ ≠ some (byte x) := by
  intro o x
  rw [block_cell h]
  match o with
  | 0 => simp [hv, byte]
  | 1 => simp [byte]
  | 2 => simpa using hp x
  | o + 3 => simp

theorem Rdr.noByte (h : Rdr w g s) : ∀ o x, w.cell? ⟨g, o, none⟩ ≠ some (byte x) := by
  obtain ⟨v, hb, hs, _⟩ := h
  obtain ⟨A, c, hv, _⟩ := hs.shape
  exact YtmpkjjmgfakomaaDoor.noByte hv (by simp [byte]) hb

theorem Rdr.lt (h : Rdr w g s) : g < w.heap.size := by
  obtain ⟨v, hb, _⟩ := h
  exact block_lt hb

theorem Rdr.self (h : Rdr w g s) : w.cell? ⟨g, 2, none⟩ = some (.pointer (some ⟨g, 0, none⟩)) := by
  obtain ⟨v, hb, _⟩ := h
  rw [block_cell hb]; rfl

theorem Rdr.err (h : Rdr w g s) : w.cell? ⟨g, 1, none⟩ = some (.int .i64 s.2) := by
  obtain ⟨v, hb, _⟩ := h
  rw [block_cell hb]; rfl

theorem Rdr.free (h : Rdr w g s) (i : Nat) : w.frozen? ⟨g, i, none⟩ = false := by
  obtain ⟨v, hb, _⟩ := h
  exact block_free hb i

theorem Rdr.unread (h : Rdr w g s) : ∃ A c, w.cell? ⟨g, 0, none⟩ = some (.slice A s.1.length c) ∧ s.1.length ≤ c ∧ c ≤ maxLen ∧ Sees w (.slice A s.1.length c) s.1 := by
  obtain ⟨v, hb, hs, _⟩ := h
  obtain ⟨A, c, rfl, h1, h2⟩ := hs.shape
  exact ⟨A, c, by rw [block_cell hb]; rfl, h1, h2, hs⟩

theorem Rdr.fine (h : Rdr w g s) : Fine s := h.choose_spec.2.2

/-- kept over what turns other blocks alone -/
theorem Rdr.below (h : Rdr w g s) (hb : Below w.heap.size w w') : Rdr w' g s := by
  have hl := h.lt
  obtain ⟨v, hh, hs, hg⟩ := h
  exact ⟨v, (hb.block g hl).trans hh, hs.below hb, hg⟩
theorem Rdr.draws (h : Rdr w g s) (n : Nat) : Rdr (w.drewN n) g s := h
theorem Rdr.grown {g' : Nat} {s' : St} (h : Rdr w g s) (h' : Rdr w g' s') (hne : g ≠ g') (hg : w.grownBy w' (some g')) : Rdr w' g s := by
  have hl := h.lt
  have hn := h'.noByte
  obtain ⟨v, hh, hs, hgd⟩ := h
  exact ⟨v, (hg.block g hl (fun e => hne (by injection e))).trans hh, hs.grown hg hn, hgd⟩

/-- the unread bytes set anew -/
theorem Rdr.set0 (h : Rdr w g s) {v' : Value} {bs : List UInt8} (hs : Sees w v' bs) (hg : Fine (bs, s.2)) : Rdr (w.setCell ⟨g, 0, none⟩ v') g (bs, s.2) := by
  have hn := h.noByte
  obtain ⟨v, hh, _, _⟩ := h
  exact ⟨v', by rw [block_set hh]; rfl, hs.grown (grown_set w g 0 v') hn, hg⟩

/-- the error set, no bytes left -/
theorem Rdr.set1 (h : Rdr w g s) (x : Int) : Rdr ((w.setCell ⟨g, 1, none⟩ (.int .i64 x)).setCell ⟨g, 0, none⟩ (.slice none 0 0)) g ([], x) := by
  obtain ⟨v, hh, _, _⟩ := h
  exact ⟨.slice none 0 0, by rw [block_set (block_set hh 1 _)]; rfl, sees_nil _, fun _ => rfl⟩
end

set_option maxRecDepth 100000 in
theorem created_nil (w : World) : Calls Tryd.prog 72 #[.pointer none] w fun e w' => e = .returned (.bool false) ∧ w = w' := by
  go_enter Tryd.func72, Tryd.ntmps72
  go_wp2
  go_ret
  exact ⟨rfl, rfl⟩

set_option maxRecDepth 100000 in
theorem info68 : (Tryd.prog.info? 83).isSome = true := by kernel_rfl

set_option maxRecDepth 100000 in
theorem created_yes {g : Nat} {s : St} {w : World} (hr : Rdr w g s) :
    Calls Tryd.prog 72 #[.pointer (some ⟨g, 0, none⟩)] w fun e w' => e = .returned (.bool true) ∧ w = w' := by
  have h := hr.self
  clear hr
  obtain ⟨j, hj⟩ := Option.isSome_iff_exists.1 info68
  have hp : ∀ w : World, (binOp .eql 50 (.pointer (some ⟨g, 0, none⟩)) (.pointer (some ⟨g, 0, none⟩))).run Tryd.prog w = .ok (.bool true) w := fun w => run_eql_ptr_same w _ Tryd.underlying50 hj
  go_enter Tryd.func72, Tryd.ntmps72
  go_wp2
  go_ret
  exact ⟨rfl, rfl⟩

theorem run_eql_none_some {P : Program} {tp te : TypeId} (a : Addr) (hp : P.underlying tp = some (.pointer te)) (w : World) :
    (binOp .eql tp (.pointer none) (.pointer (some a))).run P w = .ok (.bool false) w := by
  have h : ∀ d : Nat, (Op.equalIn (d + 1) tp (.pointer none) (.pointer (some a))).run P w = .ok false w := fun d => by
    simp [Op.equalIn, run_underlying hp]
  simp only [binOp]
  simp [Op.equal, Op.maxDepth, h 9999]

set_option maxRecDepth 100000 in
theorem created_no (g : Nat) (w : World) (h : w.cell? ⟨g, 2, none⟩ = some (.pointer none)) :
    Calls Tryd.prog 72 #[.pointer (some ⟨g, 0, none⟩)] w fun e w' => e = .returned (.bool false) ∧ w = w' := by
  have hp : ∀ w : World, (binOp .eql 50 (.pointer none) (.pointer (some ⟨g, 0, none⟩))).run Tryd.prog w = .ok (.bool false) w := fun w => run_eql_none_some _ Tryd.underlying50 w
  go_enter Tryd.func72, Tryd.ntmps72
  go_wp2
  go_ret
  exact ⟨rfl, rfl⟩

set_option maxRecDepth 100000 in
theorem fail_any {g : Nat} {s : St} {w : World} (x : Int) (hr : Rdr w g s) :
    Calls Tryd.prog 93 #[.pointer (some ⟨g, 0, none⟩), .int .i64 x] w fun e w' => e = .returned (.tuple #[]) ∧ Rdr w' g (failS s x) ∧ w.grownBy w' (some g) := by
  obtain ⟨A, c, h0, _, _, _⟩ := hr.unread
  have f0 := hr.free 0
  have f1 := hr.free 1
  have h1 := hr.err
  by_cases he : s.2 = 0
  · have hk : Rdr ((w.setCell ⟨g, 1, none⟩ (.int .i64 x)).setCell ⟨g, 0, none⟩ (.slice none 0 0)) g (failS s x) := by
      rw [failS, if_pos he]; exact hr.set1 x
    rw [he] at h1
    have HK := Lib.hid hk
    have HE := Lib.hid he
    clear hk he hr
    go_enter Tryd.func93, Tryd.ntmps93
    go_wp2
    go_end0
    exact ⟨rfl, HK.out, (grown_set w g 1 _).trans (grown_set _ g 0 _)⟩
  · have hk : Rdr w g (failS s x) := by rw [failS, if_neg he]; exact hr
    have HK := Lib.hid hk
    have hb : (s.2 == 0) = false := by simpa using he
    clear hk hr
    generalize s.2 = y at h1 hb he
    go_enter Tryd.func93, Tryd.ntmps93
    go_wp2
    go_end0
    exact ⟨rfl, HK.out, World.grownBy.refl _ _⟩

set_option maxRecDepth 100000 in
theorem take_walk (g n len cap : Nat) (A : Option Addr) (w : World) (hn : n ≤ len) (hl : len ≤ cap) (hm : cap ≤ 9223372036854775807)
    (h0 : w.cell? ⟨g, 0, none⟩ = some (.slice A len cap)) (f0 : w.frozen? ⟨g, 0, none⟩ = false) :
    Calls Tryd.prog 107 #[.pointer (some ⟨g, 0, none⟩), .int .u64 n] w fun e w' => e = .returned (.tuple #[.slice A n cap, .bool true]) ∧ w' = w.setCell ⟨g, 0, none⟩ (.slice (if cap = n then A else A.map (·.add n)) (len - n) (cap - n)) := by
  go_enter Tryd.func107, Tryd.ntmps107
  go_wp2
  all_goals (go_ret2; exact ⟨rfl, rfl⟩)

set_option maxRecDepth 100000 in
theorem take_yes {g n : Nat} {s : St} {w : World} (hr : Rdr w g s) (hn : n ≤ s.1.length) :
    Calls Tryd.prog 107 #[.pointer (some ⟨g, 0, none⟩), .int .u64 n] w fun e w' => ∃ A c, e = .returned (.tuple #[.slice A n c, .bool true]) ∧ n ≤ c ∧ c ≤ maxLen ∧
      Sees w' (.slice A n c) (s.1.take n) ∧ Rdr w' g (s.1.drop n, s.2) ∧ w.grownBy w' (some g) := by
  obtain ⟨A, c, h0, hl, hm, hs⟩ := hr.unread
  refine (take_walk g n _ c A w hn hl (by simpa [maxLen] using hm) h0 (hr.free 0)).mono ?_
  rintro e w' ⟨rfl, rfl⟩
  refine ⟨A, c, rfl, by omega, hm, (hs.take hn).grown (grown_set w g 0 _) hr.noByte, hr.set0 (hs.drop hn) (fun h => ?_), grown_set w g 0 _⟩
  have := hr.fine h
  simp [this]

set_option maxRecDepth 100000 in
theorem take_no {g n : Nat} {s : St} {w : World} (hr : Rdr w g s) (hn : s.1.length < n) (hm' : n ≤ 9223372036854775807) :
    Calls Tryd.prog 107 #[.pointer (some ⟨g, 0, none⟩), .int .u64 n] w fun e w' => e = .returned (.tuple #[.slice none 0 0, .bool false]) ∧ Rdr w' g (failS s 4) ∧ w.grownBy w' (some g) := by
  obtain ⟨A, c, h0, hl, hm, _⟩ := hr.unread
  have hm2 : c ≤ 9223372036854775807 := by simpa [maxLen] using hm
  have HR := Lib.hid hr
  clear hr
  generalize hlen : s.1.length = len at h0 hl hn
  clear hlen
  go_enter Tryd.func107, Tryd.ntmps107
  go_wp2_with fail
  refine (fail_any 4 HR.out).mono ?_
  rintro e w' ⟨rfl, h1, h2⟩
  go_wp2
  go_ret2
  exact ⟨rfl, h1, h2⟩

set_option maxRecDepth 100000 in
set_option maxHeartbeats 400000 in
theorem number_any {g : Nat} {s : St} {w : World} (hr : Rdr w g s) :
    Calls Tryd.prog 94 #[.pointer (some ⟨g, 0, none⟩)] w fun e w' => e = .returned (.int .u32 ((numS s).2 : Int)) ∧ Rdr w' g (numS s).1 ∧ w.grownBy w' (some g) := by
  by_cases hl : s.1.length < 4
  · have he : numS s = (failS s 4, 0) := by rw [numS, if_pos hl]
    rw [he]
    clear he
    go_enter Tryd.func94, Tryd.ntmps94
    go_wp2_with fail
    refine (take_no (n := 4) hr hl (by omega)).mono ?_
    rintro e w1 ⟨rfl, h1, h2⟩
    go_wp2_with fail
    go_ret
    exact ⟨rfl, h1, h2⟩
  · have he : numS s = ((s.1.drop 4, s.2), at4 s.1) := by rw [numS, if_neg hl]
    rw [he]
    clear he
    go_enter Tryd.func94, Tryd.ntmps94
    go_wp2_with fail
    refine (take_yes (n := 4) hr (by omega)).mono ?_
    rintro e w1 ⟨A, c, rfl, hc, hm, hs, h1, h2⟩
    rcases hs.ways with ⟨A', c', hv, _⟩ | ⟨b, off, n, c', hv, hbl, _, _, _, _, hcell⟩
    · injection hv with _ e2; omega
    · injection hv with e1 e2 e3
      subst e1 e2 e3
      have hg4 : ∀ j, j < 4 → (s.1.take 4).getD j 0 = s.1.getD j 0 := fun j hj => by simp only [List.getD, List.getElem?_take, if_pos hj]
      have hbyte : ∀ x : UInt8, x.toNat < 256 := fun x => x.toNat_lt
      have c0 := hcell 0 (by omega)
      have c1 := hcell 1 (by omega)
      have c2 := hcell 2 (by omega)
      have c3 := hcell 3 (by omega)
      rw [hg4 _ (by omega)] at c0 c1 c2 c3
      unfold byte at c0 c1 c2 c3
      rw [Nat.add_zero] at c0
      have b0 := hbyte (s.1.getD 0 0)
      have b1 := hbyte (s.1.getD 1 0)
      have b2 := hbyte (s.1.getD 2 0)
      have b3 := hbyte (s.1.getD 3 0)
      have HV := Lib.hid (num4_or _ _ _ _ b0 b1 b2 b3)
      have H1 := Lib.hid h1
      clear hcell hg4 hbyte hs hbl h1 hr
      change Hid (_ = ((at4 s.1 : Nat) : Int)) at HV
      generalize (s.1.getD 0 0).toNat = x0 at *
      generalize (s.1.getD 1 0).toNat = x1 at *
      generalize (s.1.getD 2 0).toNat = x2 at *
      generalize (s.1.getD 3 0).toNat = x3 at *
      go_wp2_with fail
      go_quiet (fail)
      go_wp2_with fail
      go_ret
      exact ⟨congrArg (fun x => Ending.returned (.int .u32 x)) HV.out, H1.out, grown_draws h2 _⟩

end Go.Proofs.YtmpkjjmgfakomaaDoor

namespace Go.Proofs.YtmpkjjmgfakomaaDoor
open Go.RowKit Mem Wire

set_option maxRecDepth 100000 in
set_option maxHeartbeats 400000 in
theorem counted_lim {g : Nat} {s : St} {w : World} (most : Int) (hr : Rdr w g s) (hM : most ≤ 9223372036854775807) (hlim : most < ((numS s).2 : Int)) (hpos : 0 < (numS s).2) :
    Calls Tryd.prog 91 #[.pointer (some ⟨g, 0, none⟩), .int .i64 most] w fun e w' => e = .returned (.slice none 0 0) ∧ Rdr w' g (failS (failS (numS s).1 5) 4) ∧ w.grownBy w' (some g) := by
  have hN := numS_lt s
  have HC := Lib.hid (number_any hr)
  generalize (numS s).2 = N at *
  generalize (numS s).1 = s1 at *
  obtain ⟨U, hU⟩ : ∃ U, up N = U := ⟨_, rfl⟩
  have hUN := up_ge N
  rw [hU] at hUN
  have HU : Hid (((N : Int) + 4 - 1) / 4 * 4 = (U : Int)) := by show _ = _; rw [← hU]; unfold up; omega
  clear hr hU
  go_enter Tryd.func91, Tryd.ntmps91
  go_wp2_with fail
  refine HC.out.mono ?_
  rintro e w1 ⟨rfl, h1, h2⟩
  have H1 := Lib.hid h1
  clear h1
  go_wp2_with fail
  all_goals
    refine (fail_any 5 H1.out).mono ?_
    rintro e w2 ⟨rfl, h3, h4⟩
    have hl : (failS s1 5).1.length < U := by rw [fail_fst 5 H1.out.fine]; simp; omega
    have H3 := Lib.hid h3
    clear h3
    go_wp2_with fail
    rw [HU.out]
    refine (take_no H3.out hl (by omega)).mono ?_
    rintro e w3 ⟨rfl, h5, h6⟩
    go_wp2_with fail
    go_ret
    exact ⟨rfl, h5, (h2.trans h4).trans h6⟩

/-- what a call that hands a slice of the bytes bs on leaves -/
def Gives (w : World) (g : Nat) (s : St) (bs : List UInt8) (e : Ending) (w' : World) : Prop :=
  ∃ v, e = .returned v ∧ Sees w' v bs ∧ Rdr w' g s ∧ w.grownBy w' (some g)

theorem gives_nil {w w' : World} {g : Nat} {s : St} (h : Rdr w' g s) (hg : w.grownBy w' (some g)) : Gives w g s [] (.returned (.slice none 0 0)) w' := ⟨_, rfl, sees_nil _, h, hg⟩

set_option maxRecDepth 100000 in
set_option maxHeartbeats 400000 in
theorem counted_short {g : Nat} {s : St} {w : World} (most : Int) (hr : Rdr w g s) (hM : most ≤ 9223372036854775807) (hlim : ((numS s).2 : Int) ≤ max most 0) (hs : (numS s).1.1.length < up (numS s).2) :
    Calls Tryd.prog 91 #[.pointer (some ⟨g, 0, none⟩), .int .i64 most] w (Gives w g (failS (numS s).1 4) []) := by
  have hN := numS_lt s
  have HC := Lib.hid (number_any hr)
  generalize (numS s).2 = N at *
  generalize (numS s).1 = s1 at *
  obtain ⟨U, hU⟩ : ∃ U, up N = U := ⟨_, rfl⟩
  have hUN := up_ge N
  rw [hU] at hUN hs
  have HU : Hid (((N : Int) + 4 - 1) / 4 * 4 = (U : Int)) := by show _ = _; rw [← hU]; unfold up; omega
  have hl2 : (N : Int) ≤ if most < 0 then 0 else most := by split <;> omega
  clear hr hU
  go_enter Tryd.func91, Tryd.ntmps91
  go_wp2_with fail
  refine HC.out.mono ?_
  rintro e w1 ⟨rfl, h1, h2⟩
  have H1 := Lib.hid h1
  clear h1
  go_wp2_with fail
  all_goals
    rw [HU.out]
    refine (take_no H1.out hs (by omega)).mono ?_
    rintro e w3 ⟨rfl, h5, h6⟩
    go_wp2_with fail
    go_ret
    exact gives_nil h5 (h2.trans h6)

/-- the first k bytes of the padding are zero -/
def ZeroTo (xs : List UInt8) (n k : Nat) : Prop := ∀ j, j < k → xs.getD (n + j) 0 = 0

theorem zero_all {xs : List UInt8} {n u : Nat} (hl : xs.length = u) (h : ZeroTo xs n (u - n)) : xs.drop n = List.replicate (u - n) 0 := by
  apply List.ext_getElem
  · simp [hl]
  · intro i h1 h2
    simp only [List.getElem_drop, List.getElem_replicate]
    have := h i (by simpa [hl] using h1)
    rw [List.getD, List.getElem?_eq_getElem (by simp at h1; omega)] at this
    exact this

theorem zero_not {xs : List UInt8} {n u k : Nat} (hk : k < u - n) (h : xs.getD (n + k) 0 ≠ 0) : xs.drop n ≠ List.replicate (u - n) 0 := by
  intro e
  apply h
  have h1 : (xs.drop n)[k]? = (List.replicate (u - n) (0 : UInt8))[k]? := by rw [e]
  rw [List.getElem?_drop, List.getElem?_replicate, if_pos hk] at h1
  rw [List.getD, h1]; rfl

set_option maxRecDepth 100000 in
set_option maxHeartbeats 1000000 in
theorem counted_cut {g : Nat} {s : St} {w : World} (most : Int) (hr : Rdr w g s) (hM : most ≤ 9223372036854775807) (hlim : ((numS s).2 : Int) ≤ max most 0) (hs : up (numS s).2 ≤ (numS s).1.1.length) :
    Calls Tryd.prog 91 #[.pointer (some ⟨g, 0, none⟩), .int .i64 most] w (Gives w g (cutS (numS s).1 (numS s).2).1 (cutS (numS s).1 (numS s).2).2) := by
  have hN := numS_lt s
  have HC := Lib.hid (number_any hr)
  generalize (numS s).2 = N at *
  generalize (numS s).1 = s1 at *
  unfold cutS
  obtain ⟨U, hU⟩ : ∃ U, up N = U := ⟨_, rfl⟩
  have hUN := up_ge N
  rw [hU] at hUN hs ⊢
  have HU : Hid (((N : Int) + 4 - 1) / 4 * 4 = (U : Int)) := by show _ = _; rw [← hU]; unfold up; omega
  have hl2 : (N : Int) ≤ if most < 0 then 0 else most := by split <;> omega
  rw [if_neg (by omega)]
  obtain ⟨P, hP⟩ : ∃ P, P = Gives w g (if (s1.1.take U).drop N = List.replicate (U - N) 0 then ((s1.1.drop U, s1.2), s1.1.take N) else (failS (s1.1.drop U, s1.2) 3, [])).1 (if (s1.1.take U).drop N = List.replicate (U - N) 0 then ((s1.1.drop U, s1.2), s1.1.take N) else (failS (s1.1.drop U, s1.2) 3, [])).2 := ⟨_, rfl⟩
  rw [← hP]
  have HP := Lib.hid hP
  clear hr hU hP
  go_enter Tryd.func91, Tryd.ntmps91
  go_wp2_with fail
  refine HC.out.mono ?_
  rintro e w1 ⟨rfl, h1, h2⟩
  have H1 := Lib.hid h1
  clear h1
  go_wp2_with fail
  all_goals
    rw [HU.out]
    refine (take_yes H1.out hs).mono ?_
    rintro e w2 ⟨A, c, rfl, hc, hm, hsee, h3, h4⟩
    have hm2 : c ≤ 9223372036854775807 := by simpa [maxLen] using hm
    have H3 := Lib.hid h3
    have HS := Lib.hid hsee
    have hxl : (s1.1.take U).length = U := by simp; omega
    have htk : (s1.1.take U).take N = s1.1.take N := by rw [List.take_take, Nat.min_eq_left (by omega)]
    have HX := Lib.hid hxl
    have HT := Lib.hid htk
    clear h3 hsee hxl htk
    generalize hxs : s1.1.take U = xs at *
    clear hxs
    have hgr : w.grownBy w2 (some g) := h2.trans h4
    have hways : (U = 0 ∧ Hid True) ∨ ∃ b off, A = some ⟨b, off, none⟩ ∧ Hid (∀ j, j < U → w2.cell? ⟨b, off + j, none⟩ = some (byte (xs.getD j 0))) := by
      rcases HS.out.ways with ⟨A', c', hv, _⟩ | ⟨b, off, n, c', hv, _, _, _, _, _, hcell⟩
      · injection hv with _ e2; exact .inl ⟨e2, trivial⟩
      · injection hv with e1 e2 e3
        subst e2
        exact .inr ⟨b, off, e1, hcell⟩
    rcases hways with ⟨h0, _⟩ | ⟨b, off, rfl, HCELL⟩
    · obtain rfl : U = 0 := h0
      obtain rfl : N = 0 := by omega
      go_wp2_with fail
      refine wp_loop_rounds 1 ?_
      rw [rounds_succ]
      go_wp2_with fail
      rw [HP.out, if_pos (by have := HX.out; simp [List.eq_nil_of_length_eq_zero this])]
      exact ⟨_, rfl, by have e := List.eq_nil_of_length_eq_zero HX.out; have h := HS.out; rw [e] at h; simpa using h, H3.out, hgr⟩
    · go_wp2_with fail
      all_goals
        go_loop [36] (fun i => ∃ k : Nat, k ≤ U - N ∧ i = .int .i64 k ∧ Hid (ZeroTo xs N k)) (fun i => U - N - (intOf i).toNat)
        case atStart => exact ⟨0, Nat.zero_le _, rfl, fun j hj => by omega⟩
        case round =>
          obtain ⟨k, hk, rfl, hz⟩ := hrel
          by_cases hlt : k < U - N
          · have hck := HCELL.out (N + k) (by omega)
            unfold byte at hck
            rw [← Nat.add_assoc] at hck
            by_cases hb : xs.getD (N + k) 0 = 0
            · rw [hb] at hck
              have hck' : w2.cell? ⟨b, off + N + k, none⟩ = some (.int .u8 0) := hck
              have HB := Lib.hid hb
              clear hck hb
              go_wp2_with fail
              all_goals
                go_round
                case rel => exact ⟨k + 1, by omega, by go_num, fun j hj => by
                  by_cases h : j = k
                  · subst h; exact HB.out
                  · exact hz.out j (by omega)⟩
                case measure => simp [intOf]; omega
            · have hne : (((xs.getD (N + k) 0).toNat : Int) == 0) = false := by
                rw [beq_eq_false_iff_ne]
                intro h
                exact hb (UInt8.toNat_inj.1 (by simpa using h))
              have hne2 : (((xs.getD (N + k) 0).toNat : Int) != 0) = true := by rw [bne, hne]; rfl
              have HB := Lib.hid hb
              clear hb
              generalize (xs.getD (N + k) 0).toNat = y at hck hne hne2
              go_wp2_with fail
              all_goals
                refine (fail_any 3 H3.out).mono ?_
                rintro e w3 ⟨rfl, h5, h6⟩
                have H5 := Lib.hid h5
                clear h5
                go_wp2_with fail
                rw [HP.out, if_neg (zero_not hlt HB.out)]
                exact gives_nil H5.out (hgr.trans h6)
          · go_wp2_with fail
            all_goals
              have hkk : U - N = k := by omega
              rw [HP.out, if_pos (zero_all HX.out (by rw [hkk]; exact hz.out))]
              exact ⟨_, rfl, by have h := HS.out.take (k := N) (by omega); rw [HT.out] at h; first | exact h | (rw [show c = N by omega] at h; exact h), H3.out, hgr⟩

set_option maxRecDepth 100000 in
theorem counted_any {g : Nat} {s : St} {w : World} (most : Int) (hr : Rdr w g s) (hM : most ≤ 9223372036854775807) :
    Calls Tryd.prog 91 #[.pointer (some ⟨g, 0, none⟩), .int .i64 most] w (Gives w g (countS s most).1 (countS s most).2) := by
  unfold countS limS
  by_cases hlim : max most 0 < ((numS s).2 : Int)
  · rw [if_pos hlim]
    have hfs : (failS (numS s).1 5).1.length < up (numS s).2 := by
      have := up_ge (numS s).2
      rw [fail_fst 5 (fine_num hr.fine)]
      simp only [List.length_nil]
      omega
    refine (counted_lim most hr hM (by omega) (by omega)).mono ?_
    rintro e w' ⟨rfl, h1, h2⟩
    rw [cutS, if_pos hfs]
    exact gives_nil h1 h2
  · rw [if_neg hlim]
    by_cases hs : (numS s).1.1.length < up (numS s).2
    · refine (counted_short most hr hM (by omega) hs).mono ?_
      intro e w' h
      rw [cutS, if_pos hs]
      exact h
    · exact counted_cut most hr hM (by omega) (by omega)

end Go.Proofs.YtmpkjjmgfakomaaDoor

namespace Go.Proofs.YtmpkjjmgfakomaaDoor
open Go.RowKit Mem Wire

theorem hasZero (bs : List UInt8) : 0 ≤ Lib.indexByte bs 0 ↔ (0 : UInt8) ∈ bs := by
  induction bs with
  | nil => simp [Lib.indexByte]
  | cons b l ih =>
    have hge := Lib.indexByte_ge l 0
    unfold Lib.indexByte
    by_cases hb : b = 0
    · subst hb; simp
    · rw [if_neg (by simpa using hb)]
      by_cases h1 : Lib.indexByte l 0 = -1
      · rw [if_pos (by simpa using h1)]
        rw [h1] at ih
        simp only [List.mem_cons]
        constructor
        · intro h; omega
        · rintro (h | h)
          · exact absurd h.symm hb
          · exact absurd (ih.2 h) (by omega)
      · rw [if_neg (by simpa using h1)]
        simp only [List.mem_cons]
        constructor
        · intro h; exact .inr (ih.1 (by omega))
        · rintro (h | h)
          · exact absurd h.symm hb
          · have := ih.2 h; omega

theorem bytesOf_nums (bs : List UInt8) : Lib.bytesOf (bs.map fun x => (x.toNat : Int)) = bs := by
  unfold Lib.bytesOf
  rw [List.map_map]
  conv => rhs; rw [← List.map_id bs]
  apply List.map_congr_left
  intro x _
  simp

/-- bytes.IndexByte's foreign part, at zero -/
theorem run_index0 {P : Program} {w : World} {A : Option Addr} {n c : Nat} {bs : List UInt8} (hs : Sees w (.slice A n c) bs) :
    (Extern.BytealgIndexByte.indexByte #[.slice A n c, .int .u8 0]).run P w = .ok (.int .i64 (Lib.indexByte bs 0)) w := by
  rcases hs.ways with ⟨A', c', hv, rfl, _⟩ | ⟨b, off, n', c', hv, hl, _, _, _, _, hcell⟩
  · injection hv with e1 e2 e3
    subst e2
    cases A with
    | none => exact Lib.run_indexByteNil w 0 c 0
    | some a =>
      have h := Lib.run_indexByteNil (P := P) w 0 c 0
      exact h
  · injection hv with e1 e2 e3
    subst e1 e2 e3
    have h := Lib.run_indexByteSlice (P := P) w b off n c (bs.map fun x => (x.toNat : Int)) (by simpa using hl) (fun i hi => by
      rw [hcell i hi]
      unfold byte
      simp only [List.getD, List.getElem?_map]
      rw [List.getElem?_eq_getElem (by omega)]
      rfl) 0
    rw [bytesOf_nums] at h
    exact h

set_option maxRecDepth 100000 in
theorem index_any {w : World} {A : Option Addr} {n c : Nat} {bs : List UInt8} (hs : Sees w (.slice A n c) bs) :
    Calls Tryd.prog 92 #[.slice A n c, .int .u8 0] w fun e w' => e = .returned (.int .i64 (Lib.indexByte bs 0)) ∧ w = w' := by
  go_enter Tryd.func92, Tryd.ntmps92
  go_wp2
  rw [run_callFunc_extern Tryd.func108 (by kernel_rfl) (by kernel_rfl) (by kernel_rfl) (e := Extern.BytealgIndexByte.indexByte) (by kernel_rfl), run_index0 hs]
  simp only [Result.andThen]
  rw [Oper.upon_value]
  go_wp2
  go_ret
  exact ⟨rfl, rfl⟩

/-- string(b) of a slice of bytes -/
theorem run_text {P : Program} {w : World} {A : Option Addr} {n c : Nat} {bs : List UInt8} {src e dst : TypeId} (h1 : P.underlying src = some (.slice e)) (h2 : P.underlying e = some (.int .u8)) (h3 : P.underlying dst = some .string)
    (hs : Sees w (.slice A n c) bs) : (convert src dst (.slice A n c)).run P w = .ok (.string ⟨bs.toArray⟩) w := by
  rcases hs.ways with ⟨A', c', hv, rfl, _⟩ | ⟨b, off, n', c', hv, hl, _, _, _, _, hcell⟩
  · injection hv with e1 e2 e3
    subst e2
    cases A with
    | none => exact run_convert_bytes_nil w src e h1 h2 0 c dst h3
    | some a =>
      have h := run_convert_bytes_nil (P := P) w src e h1 h2 0 c dst h3
      rw [run_convert_bytes_string w src dst e _ 0 c h1 h2 h3] at h ⊢
      have hl : (loadCells a 0).run P w = .ok (([] : List Int).map (Value.int .u8)).toArray w := rfl
      rw [run_bytesToString w a 0 c [] hl]
      rfl
  · injection hv with e1 e2 e3
    subst e1 e2 e3
    have h := run_convert_bytes_arg (P := P) w src e h1 h2 b off n c (bs.map fun x => (x.toNat : Int)) (by simpa using hl) (fun i hi => by
      rw [hcell i hi]
      unfold byte
      simp only [List.getD, List.getElem?_map]
      rw [List.getElem?_eq_getElem (by omega)]
      rfl) dst h3
    rw [h]
    have := bytesOf_nums bs
    unfold Lib.bytesOf at this
    unfold strOfNums
    rw [this]

set_option maxRecDepth 100000 in
theorem uint_any {g : Nat} {s : St} {w : World} (hr : Rdr w g s) :
    Calls Tryd.prog 71 #[.pointer (some ⟨g, 0, none⟩)] w fun e w' => e = .returned (.int .u32 ((numS s).2 : Int)) ∧ Rdr w' g (numS s).1 ∧ w.grownBy w' (some g) := by
  have H := Lib.hid hr
  clear hr
  go_enter Tryd.func71, Tryd.ntmps71
  go_wp2_with fail
  refine (created_yes H.out).mono ?_
  rintro e w1 ⟨rfl, rfl⟩
  go_wp2_with fail
  refine (number_any H.out).mono ?_
  rintro e w1 ⟨rfl, h1, h2⟩
  go_wp2_with fail
  go_ret
  exact ⟨rfl, h1, h2⟩

set_option maxRecDepth 100000 in
theorem uint_none {p : Option Addr} {w : World} (h : Calls Tryd.prog 72 #[.pointer p] w fun e w' => e = .returned (.bool false) ∧ w = w') :
    Calls Tryd.prog 71 #[.pointer p] w fun e w' => e = .returned (.int .u32 0) ∧ w = w' := by
  have H := Lib.hid h
  clear h
  go_enter Tryd.func71, Tryd.ntmps71
  go_wp2_with fail
  refine H.out.mono ?_
  rintro e w1 ⟨rfl, rfl⟩
  go_wp2_with fail
  go_ret
  exact ⟨rfl, rfl⟩

set_option maxRecDepth 100000 in
theorem int_any {g : Nat} {s : St} {w : World} (hr : Rdr w g s) :
    Calls Tryd.prog 65 #[.pointer (some ⟨g, 0, none⟩)] w fun e w' => e = .returned (.int .i32 (wrap32 ((numS s).2 : Int))) ∧ Rdr w' g (numS s).1 ∧ w.grownBy w' (some g) := by
  have hN := numS_lt s
  have H := Lib.hid (uint_any hr)
  clear hr
  generalize (numS s).2 = N at *
  go_enter Tryd.func65, Tryd.ntmps65
  go_wp2_with fail
  refine H.out.mono ?_
  rintro e w1 ⟨rfl, h1, h2⟩
  go_wp2_with fail
  go_ret
  exact ⟨rfl, h1, h2⟩

set_option maxRecDepth 100000 in
theorem int_none {p : Option Addr} {w : World} (h : Calls Tryd.prog 72 #[.pointer p] w fun e w' => e = .returned (.bool false) ∧ w = w') :
    Calls Tryd.prog 65 #[.pointer p] w fun e w' => e = .returned (.int .i32 0) ∧ w = w' := by
  have H := Lib.hid (uint_none h)
  clear h
  go_enter Tryd.func65, Tryd.ntmps65
  go_wp2_with fail
  refine H.out.mono ?_
  rintro e w1 ⟨rfl, rfl⟩
  go_wp2_with fail
  go_ret
  exact ⟨rfl, rfl⟩

theorem fine_lim {s : St} (h : Fine s) (n : Nat) (m : Int) : Fine (limS s n m) := by
  unfold limS; split
  · exact h.fail 5
  · exact h

set_option maxRecDepth 100000 in
/-- the String method of a reader that From returned -/
theorem string_any {g : Nat} {s : St} {w : World} (most : Int) (hr : Rdr w g s) (hM : most ≤ 9223372036854775807) :
    Calls Tryd.prog 67 #[.pointer (some ⟨g, 0, none⟩), .int .i64 most] w fun e w' => e = .returned (.string ⟨(strS s most).2.toArray⟩) ∧ Rdr w' g (strS s most).1 ∧ w.grownBy w' (some g) := by
  have H := Lib.hid hr
  have HC := Lib.hid (counted_any most hr hM)
  unfold strS
  clear hr
  generalize countS s most = cs at *
  obtain ⟨s1, bs⟩ := cs
  dsimp only at HC ⊢
  by_cases hz : (0 : UInt8) ∈ bs
  · have hi := (hasZero bs).2 hz
    simp only [if_pos hz]
    clear hz
    go_enter Tryd.func67, Tryd.ntmps67
    go_wp2_with fail
    refine (created_yes H.out).mono ?_
    rintro e w1 ⟨rfl, rfl⟩
    go_wp2_with fail
    refine HC.out.mono ?_
    rintro e w1 ⟨v, rfl, h1, h2, h3⟩
    obtain ⟨A, c, rfl, _, _⟩ := h1.shape
    have H1 := Lib.hid h1
    have H2 := Lib.hid h2
    clear h1 h2
    generalize bs.length = n at *
    go_wp2_with fail
    refine (index_any H1.out).mono ?_
    rintro e w2 ⟨rfl, rfl⟩
    generalize Lib.indexByte bs 0 = i at *
    go_wp2_with fail
    refine (fail_any 3 H2.out).mono ?_
    rintro e w2 ⟨rfl, h4, h5⟩
    go_wp2_with fail
    go_ret
    exact ⟨rfl, h4, h3.trans h5⟩
  · have hi : Lib.indexByte bs 0 < 0 := Int.not_le.1 (fun h => hz ((hasZero bs).1 h))
    simp only [if_neg hz]
    clear hz
    go_enter Tryd.func67, Tryd.ntmps67
    go_wp2_with fail
    refine (created_yes H.out).mono ?_
    rintro e w1 ⟨rfl, rfl⟩
    go_wp2_with fail
    refine HC.out.mono ?_
    rintro e w1 ⟨v, rfl, h1, h2, h3⟩
    obtain ⟨A, c, rfl, _, _⟩ := h1.shape
    have ht := run_text (P := Tryd.prog) Tryd.underlying28 Tryd.underlying5 Tryd.underlying9 h1
    have H1 := Lib.hid h1
    have H2 := Lib.hid h2
    clear h1 h2
    generalize bs.length = n at *
    go_wp2_with fail
    refine (index_any H1.out).mono ?_
    rintro e w2 ⟨rfl, rfl⟩
    generalize Lib.indexByte bs 0 = i at *
    go_wp2_with fail
    go_ret
    exact ⟨rfl, H2.out, h3⟩

set_option maxRecDepth 100000 in
theorem string_none {p : Option Addr} {w : World} (most : Int) (h : Calls Tryd.prog 72 #[.pointer p] w fun e w' => e = .returned (.bool false) ∧ w = w') :
    Calls Tryd.prog 67 #[.pointer p, .int .i64 most] w fun e w' => e = .returned (.string ⟨#[]⟩) ∧ w = w' := by
  have H := Lib.hid h
  clear h
  go_enter Tryd.func67, Tryd.ntmps67
  go_wp2_with fail
  refine H.out.mono ?_
  rintro e w1 ⟨rfl, rfl⟩
  go_wp2_with fail
  go_ret
  exact ⟨rfl, rfl⟩

set_option maxRecDepth 100000 in
theorem left_any {g : Nat} {s : St} {w : World} (hr : Rdr w g s) :
    Calls Tryd.prog 73 #[.pointer (some ⟨g, 0, none⟩)] w fun e w' => e = .returned (.int .i64 (s.1.length : Int)) ∧ w = w' := by
  have H := Lib.hid hr
  obtain ⟨A, c, h0, h1, h2, _⟩ := hr.unread
  clear hr
  generalize s.1.length = n at *
  go_enter Tryd.func73, Tryd.ntmps73
  go_wp2_with fail
  refine (created_yes H.out).mono ?_
  rintro e w1 ⟨rfl, rfl⟩
  go_wp2_with fail
  go_ret
  exact ⟨rfl, rfl⟩

set_option maxRecDepth 100000 in
theorem left_none {p : Option Addr} {w : World} (h : Calls Tryd.prog 72 #[.pointer p] w fun e w' => e = .returned (.bool false) ∧ w = w') :
    Calls Tryd.prog 73 #[.pointer p] w fun e w' => e = .returned (.int .i64 0) ∧ w = w' := by
  have H := Lib.hid h
  clear h
  go_enter Tryd.func73, Tryd.ntmps73
  go_wp2_with fail
  refine H.out.mono ?_
  rintro e w1 ⟨rfl, rfl⟩
  go_wp2_with fail
  go_ret
  exact ⟨rfl, rfl⟩

set_option maxRecDepth 100000 in
theorem err_any {g : Nat} {s : St} {w : World} (hr : Rdr w g s) :
    Calls Tryd.prog 31 #[.pointer (some ⟨g, 0, none⟩)] w fun e w' => e = .returned (.int .i64 s.2) ∧ w = w' := by
  have H := Lib.hid hr
  have h0 := hr.err
  clear hr
  go_enter Tryd.func31, Tryd.ntmps31
  go_wp2_with fail
  refine (created_yes H.out).mono ?_
  rintro e w1 ⟨rfl, rfl⟩
  go_wp2_with fail
  go_ret
  exact ⟨rfl, rfl⟩

set_option maxRecDepth 100000 in
theorem err_none {p : Option Addr} {w : World} (h : Calls Tryd.prog 72 #[.pointer p] w fun e w' => e = .returned (.bool false) ∧ w = w') :
    Calls Tryd.prog 31 #[.pointer p] w fun e w' => e = .returned (.int .i64 1) ∧ w = w' := by
  have H := Lib.hid h
  clear h
  go_enter Tryd.func31, Tryd.ntmps31
  go_wp2_with fail
  refine H.out.mono ?_
  rintro e w1 ⟨rfl, rfl⟩
  go_wp2_with fail
  go_ret
  exact ⟨rfl, rfl⟩

set_option maxRecDepth 100000 in
theorem end_none {p : Option Addr} {w : World} (h : Calls Tryd.prog 72 #[.pointer p] w fun e w' => e = .returned (.bool false) ∧ w = w') :
    Calls Tryd.prog 33 #[.pointer p] w fun e w' => e = .returned (.int .i64 1) ∧ w = w' := by
  have H := Lib.hid (err_none h)
  clear h
  go_enter Tryd.func33, Tryd.ntmps33
  go_wp2_with fail
  refine H.out.mono ?_
  rintro e w1 ⟨rfl, rfl⟩
  go_wp2_with fail
  refine H.out.mono ?_
  rintro e w1 ⟨rfl, rfl⟩
  go_wp2_with fail
  go_ret
  exact ⟨rfl, rfl⟩

set_option maxRecDepth 100000 in
theorem end_any {g : Nat} {s : St} {w : World} (hr : Rdr w g s) :
    Calls Tryd.prog 33 #[.pointer (some ⟨g, 0, none⟩)] w fun e w' => e = .returned (.int .i64 (endS s)) ∧ w = w' := by
  have H := Lib.hid (err_any hr)
  have HL := Lib.hid (left_any hr)
  unfold endS
  clear hr
  obtain ⟨bs, x⟩ := s
  dsimp only at H HL ⊢
  generalize bs.length = n at *
  by_cases hx : x = 0
  · subst hx
    by_cases hn : 0 < n
    · rw [if_pos ⟨rfl, hn⟩]
      go_enter Tryd.func33, Tryd.ntmps33
      go_wp2_with fail
      refine H.out.mono ?_
      rintro e w1 ⟨rfl, rfl⟩
      go_wp2_with fail
      refine HL.out.mono ?_
      rintro e w1 ⟨rfl, rfl⟩
      go_wp2_with fail
      go_ret
      exact ⟨rfl, rfl⟩
    · rw [if_neg (fun h => hn h.2)]
      go_enter Tryd.func33, Tryd.ntmps33
      go_wp2_with fail
      refine H.out.mono ?_
      rintro e w1 ⟨rfl, rfl⟩
      go_wp2_with fail
      refine HL.out.mono ?_
      rintro e w1 ⟨rfl, rfl⟩
      go_wp2_with fail
      refine H.out.mono ?_
      rintro e w1 ⟨rfl, rfl⟩
      go_wp2_with fail
      go_ret
      exact ⟨rfl, rfl⟩
  · rw [if_neg (fun h => hx h.1)]
    have hb : (x == 0) = false := by simpa using hx
    go_enter Tryd.func33, Tryd.ntmps33
    go_wp2_with fail
    refine H.out.mono ?_
    rintro e w1 ⟨rfl, rfl⟩
    go_wp2_with fail
    refine H.out.mono ?_
    rintro e w1 ⟨rfl, rfl⟩
    go_wp2_with fail
    go_ret
    exact ⟨rfl, rfl⟩

end Go.Proofs.YtmpkjjmgfakomaaDoor

namespace Go.Proofs.YtmpkjjmgfakomaaDoor
open Go.RowKit Mem

set_option maxRecDepth 100000 in
theorem byte_info : (Tryd.prog.info? 5).map (fun i => (i.zero, i.size, i.bytes)) = some (some (.int .u8 0), 1, 1) := by kernel_rfl

/-- the value v owns a row of the bytes bs, in a block from base on -/
def Owns (w : World) (base : Nat) (v : Value) (bs : List UInt8) : Prop := w.ownsRow base 5 1 v bs.length (bs.map byte)

section
variable {w w' : World} {base : Nat} {v : Value} {bs : List UInt8}

theorem Owns.sees (h : Owns w base v bs) : Sees w v bs := by
  have hall := h
  obtain ⟨_, hc⟩ := h
  rcases hc with ⟨rfl, h0⟩ | ⟨g, cap, cur, rfl, _, hh, hn, hm, _⟩
  · have : bs = [] := List.eq_nil_of_length_eq_zero h0
    subst this
    exact sees_nil w
  · refine ⟨_, cap, rfl, hn, hm, fun _ => ⟨g, 0, rfl, ?_, fun j hj => ?_⟩⟩
    · rcases Nat.lt_or_ge g w.heap.size with hl | hl
      · exact hl
      · rw [Array.getElem?_eq_none hl] at hh; cases hh
    · rw [Nat.zero_add, hall.cellAt j (by omega)]
      simp only [List.getElem?_map, List.getD]
      rw [List.getElem?_eq_getElem hj]
      rfl

theorem Owns.shape (h : Owns w base v bs) : (v = .slice none 0 0 ∧ bs = []) ∨ ∃ g cap, v = .slice (some ⟨g, 0, none⟩) bs.length cap ∧ base ≤ g ∧ g < w.heap.size := by
  obtain ⟨_, hc⟩ := h
  rcases hc with ⟨rfl, h0⟩ | ⟨g, cap, cur, rfl, hb, hh, _⟩
  · exact .inl ⟨rfl, List.eq_nil_of_length_eq_zero h0⟩
  · refine .inr ⟨g, cap, rfl, hb, ?_⟩
    rcases Nat.lt_or_ge g w.heap.size with hl | hl
    · exact hl
    · rw [Array.getElem?_eq_none hl] at hh; cases hh

theorem Owns.block (h : Owns w base v bs) : ∀ k, v.ownBlock = some k → base ≤ k ∧ k < w.heap.size := World.ownsRow.lt h

theorem Owns.kept {row : Option Nat} (h : Owns w base v bs) (hg : w.grownBy w' row) (hne : v.ownBlock = none ∨ v.ownBlock ≠ row) : Owns w' base v bs := World.ownsRow.kept h hg hne

theorem Owns.alloc (h : Owns w base v bs) (o : Obj) : Owns (w.alloc o) base v bs := World.ownsRow.alloc h o

/-- kept where nothing of the blocks that are there turns -/
theorem Owns.below (h : Owns w base v bs) (hb : Below w.heap.size w w') : Owns w' base v bs :=
  World.ownsRow.kept (row := none) h ⟨hb.os, hb.tape, hb.output, hb.size, fun k hk _ => hb.block k hk⟩ (by cases v.ownBlock <;> simp)

end

theorem oneCell_bytes (bs : List UInt8) : ∀ u ∈ bs.map byte, u.oneCell' = true := by
  intro u hu
  obtain ⟨x, _, rfl⟩ := List.mem_map.1 hu
  rfl

theorem append_nil_run {P : Program} {w : World} {base : Nat} {t ty e : TypeId} {i : TypeInfo} {size : Nat} (ht : P.underlying t = some (.slice e)) (hi : P.info? e = some i)
    {v : Value} {n : Nat} {xs : List Value} (hown : w.ownsRow base e size v n xs) (c : Nat) : (Builtin.append_ #[t, t] ty #[v, .slice none 0 c]).run P w = .ok v w := by
  rcases hown.2 with ⟨rfl, rfl⟩ | ⟨g, cap, cur, rfl, _, _, hnc, _⟩
  · simp [Builtin.append_, run_underlying ht, sizeOf, typeInfo, hi, Builtin.lenOf, Builtin.firstCells]
  · simp [Builtin.append_, run_underlying ht, sizeOf, typeInfo, hi, Builtin.lenOf, Builtin.firstCells, hnc, storeCells]

set_option maxRecDepth 100000 in
theorem append_run {w : World} {base : Nat} {v : Value} {xs bs : List UInt8} (hown : Owns w base v xs) {A : Option Addr} {m c : Nat} (hsee : Sees w (.slice A m c) bs)
    (hb : xs.length + bs.length ≤ 140737488355328) (hbase : base ≤ w.heap.size) (ty : TypeId) :
    ∃ v' w', (Builtin.append_ #[28, 28] ty #[v, .slice A m c]).run Tryd.prog w = .ok v' w' ∧ Owns w' base v' (xs ++ bs) ∧ w.grownBy w' v.ownBlock ∧ (v'.ownBlock = v.ownBlock ∨ v'.ownBlock = some w.heap.size) := by
  obtain ⟨i, hi, hz, hsz, hby⟩ := info_parts byte_info
  have hm : m = bs.length := by
    obtain ⟨A', c', hv, _⟩ := hsee.shape
    injection hv
  subst hm
  cases A with
  | none =>
    have h0 : bs = [] := by
      rcases hsee.ways with ⟨_, _, _, h, _⟩ | ⟨b, off, n, c', hv, _⟩
      · exact h
      · injection hv with e; cases e
    subst h0
    exact ⟨v, w, append_nil_run Tryd.underlying28 hi hown c, by simpa [Owns] using hown, World.grownBy.refl w _, .inl rfl⟩
  | some a =>
    have hcells : ∀ j u, (bs.map byte)[j]? = some u → w.cell? (a.add j) = some u := by
      intro j u hu
      rcases hsee.ways with ⟨_, _, _, h, _⟩ | ⟨b, off, n, c', hv, hl, _, _, _, _, hcell⟩
      · subst h; simp at hu
      · injection hv with e1 e2 e3
        injection e1 with e1
        subst e1
        have hj : j < bs.length := by
          have := (List.getElem?_eq_some_iff.1 hu).1
          simpa using this
        have hadd : (⟨b, off, none⟩ : Addr).add j = ⟨b, off + j, none⟩ := by unfold Addr.add; split <;> simp_all
        rw [hadd, hcell j (by omega), ← hu]
        simp only [List.getElem?_map, List.getD]
        rw [List.getElem?_eq_getElem hj]
        rfl
    obtain ⟨v', w', hrun, h2, h3, _, h5⟩ := run_append_own_at (P := Tryd.prog) w base 28 ty 5 i (.int .u8 0) 1 1 Tryd.underlying28 hi hz hsz hby rfl (by decide) v xs.length (xs.map byte) hown a bs.length c (bs.map byte) (by simp) hcells (oneCell_bytes bs) (by simp only [maxLen]; omega) (by omega) hbase
    exact ⟨v', w', hrun, by simpa [Owns] using h2, h3, h5⟩

set_option maxRecDepth 100000 in
/-- append onto bytes of the call's own, for the walk -/
theorem wpList_app {w : World} {ops : Array Oper} {rest : List Oper} {o : Oper} {a : Act} {Q : Exit → Act → World → Prop} (hgd : o.guard = none) (s x : Operand)
    (ho : o.op = .call { callee := .builtin .append, args := #[s, x], argTypes := #[28, 28] })
    {base : Nat} {v : Value} {xs bs : List UInt8} (hs : a.eval s = v) (hown : Owns w base v xs) {A : Option Addr} {m c : Nat} (hx : a.eval x = .slice A m c) (hsee : Sees w (.slice A m c) bs)
    (hb : xs.length + bs.length ≤ 140737488355328) (hbase : base ≤ w.heap.size)
    (h : ∀ v' w', Owns w' base v' (xs ++ bs) → w.grownBy w' v.ownBlock → (v'.ownBlock = v.ownBlock ∨ v'.ownBlock = some w.heap.size) → wpList Tryd.prog ops Q rest (a.put o.dst v') w') : wpList Tryd.prog ops Q (o :: rest) a w := by
  refine wpList_plain hgd fun K hK => ?_
  obtain ⟨v', w', hrun, h2, h3, h4⟩ := append_run hown hsee hb hbase o.type
  unfold Oper.wp execOp
  simp only [ho, resolve, invoke, builtin, Sem.run_bind, Sem.run_pure, Result.andThen_ok, List.map_toArray, List.map_cons, List.map_nil, hs, hx, hrun]
  exact hK _ _ (h v' w' h2 h3 h4)

end Go.Proofs.YtmpkjjmgfakomaaDoor

namespace Go.Proofs.YtmpkjjmgfakomaaDoor
open Go.RowKit Mem Wire

/-- what a call that hands new memory with the bytes bs on leaves; nothing that was there has turned -/
def Fresh (w : World) (bs : List UInt8) (e : Ending) (w' : World) : Prop :=
  ∃ v, e = .returned v ∧ Sees w' v bs ∧ Below w.heap.size w w'

theorem own_empty (w : World) : Owns (w.alloc (.cells #[] 5)) w.heap.size (.slice (some ⟨w.heap.size, 0, none⟩) 0 0) [] :=
  World.ownsRow_made w #[] 0 (Nat.le_refl _) (by simp [maxLen]) rfl

set_option maxRecDepth 100000 in
theorem clone_any {w : World} {A : Option Addr} {n c : Nat} {bs : List UInt8} (hs : Sees w (.slice A n c) bs) (hb : bs.length ≤ 140737488355328) :
    Calls Tryd.prog 63 #[.slice A n c] w (Fresh w bs) := by
  have q22 : ∀ (w : World) (a : Option Addr) (n c n' c' : Nat), (binOp .eql 28 (.slice a n c) (.slice none n' c')).run Tryd.prog w = .ok (.bool a.isNone) w := fun w a n c n' c' => Lib.run_eql_slice_nil w _ _ a n c n' c' Tryd.underlying28
  have HS := Lib.hid hs
  cases A with
  | none =>
    have h0 : bs = [] := by
      rcases hs.ways with ⟨_, _, _, h, _⟩ | ⟨b, off, n, c', hv, _⟩
      · exact h
      · injection hv with e; cases e
    subst h0
    clear hs
    go_enter Tryd.func63, Tryd.ntmps63
    go_wp2_with fail
    go_ret
    exact ⟨_, rfl, sees_nil _, Below.refl _ _⟩
  | some ad =>
    clear hs
    go_enter Tryd.func63, Tryd.ntmps63
    go_wp2_with (at_builtin; refine wpList_app rfl (.tmp 5) (.tmp 6) rfl rfl (own_empty w) rfl (HS.out.alloc _) (by simpa using hb) (by simp) ?_; intro v1 w1 hown1 hg1 _)
    go_ret
    exact ⟨v1, rfl, by simpa using hown1.sees, ((Below.refl _ _).alloc (Nat.le_refl _) _).grown hg1 (by simp) (fun k hk => by have e : some w.heap.size = some k := hk; injection e with e; omega)⟩

set_option maxRecDepth 100000 in
/-- the Array method of a reader that From returned -/
theorem array_any {g : Nat} {s : St} {w : World} (most : Int) (hr : Rdr w g s) (hM : most ≤ 9223372036854775807) (hl : (countS s most).2.length ≤ 140737488355328) :
    Calls Tryd.prog 69 #[.pointer (some ⟨g, 0, none⟩), .int .i64 most] w (Gives w g (countS s most).1 (countS s most).2) := by
  have H := Lib.hid hr
  have HC := Lib.hid (counted_any most hr hM)
  clear hr
  generalize countS s most = cs at *
  obtain ⟨s1, bs⟩ := cs
  dsimp only at HC hl ⊢
  go_enter Tryd.func69, Tryd.ntmps69
  go_wp2_with fail
  refine (created_yes H.out).mono ?_
  rintro e w1 ⟨rfl, rfl⟩
  go_wp2_with fail
  refine HC.out.mono ?_
  rintro e w1 ⟨v, rfl, h1, h2, h3⟩
  obtain ⟨A, c, rfl, _, _⟩ := h1.shape
  have HK := Lib.hid (clone_any h1 hl)
  have H2 := Lib.hid h2
  clear h1 h2
  go_wp2_with fail
  refine HK.out.mono ?_
  rintro e w2 ⟨v2, rfl, h4, h5⟩
  go_wp2_with fail
  go_ret
  exact ⟨v2, rfl, h4, H2.out.below h5, h3.trans ⟨h5.os, h5.tape, h5.output, h5.size, fun k hk _ => h5.block k hk⟩⟩

set_option maxRecDepth 100000 in
theorem array_none {p : Option Addr} {w : World} (most : Int) (h : Calls Tryd.prog 72 #[.pointer p] w fun e w' => e = .returned (.bool false) ∧ w = w') :
    Calls Tryd.prog 69 #[.pointer p, .int .i64 most] w fun e w' => e = .returned (.slice none 0 0) ∧ w = w' := by
  have H := Lib.hid h
  clear h
  go_enter Tryd.func69, Tryd.ntmps69
  go_wp2_with fail
  refine H.out.mono ?_
  rintro e w1 ⟨rfl, rfl⟩
  go_wp2_with fail
  go_ret
  exact ⟨rfl, rfl⟩

/-- what From leaves: a reader at a new block -/
def Made (w : World) (bs : List UInt8) (e : Ending) (w' : World) : Prop :=
  ∃ g, e = .returned (.pointer (some ⟨g, 0, none⟩)) ∧ w.heap.size ≤ g ∧ Rdr w' g (bs, 0) ∧ Below w.heap.size w w'

set_option maxRecDepth 100000 in
theorem from_any {w : World} {A : Option Addr} {n c : Nat} {bs : List UInt8} (hs : Sees w (.slice A n c) bs) (hb : bs.length ≤ 140737488355328) :
    Calls Tryd.prog 28 #[.slice A n c] w (Made w bs) := by
  have HK := Lib.hid (clone_any hs hb)
  clear hs
  go_enter Tryd.func28, Tryd.ntmps28
  go_wp2_with fail
  refine HK.out.mono ?_
  rintro e w2 ⟨v2, rfl, h4, h5⟩
  obtain ⟨A2, c2, rfl, _, _⟩ := h4.shape
  have H4 := Lib.hid h4
  clear h4
  generalize bs.length = n at *
  go_wp2_with fail
  go_ret
  have hb2 : Below w2.heap.size w2 (w2.alloc (.cells #[.slice A2 n c2, .int .i64 0, .pointer (some ⟨w2.heap.size, 0, none⟩)] 83)) := (Below.refl _ _).alloc (Nat.le_refl _) _
  exact ⟨w2.heap.size, rfl, h5.size, ⟨.slice A2 n c2, heap_alloc_new w2 _, H4.out.below hb2, fun h => absurd rfl h⟩, h5.trans (hb2.mono h5.size)⟩

/-- what a call that hands bytes of its own on leaves -/
def Puts (w : World) (bs : List UInt8) (e : Ending) (w' : World) : Prop :=
  ∃ v, e = .returned v ∧ Owns w' w.heap.size v bs ∧ Below w.heap.size w w'

/-- what a call that appends to bytes of the caller's own leaves -/
def Grows (w : World) (base : Nat) (v : Value) (bs : List UInt8) (e : Ending) (w' : World) : Prop :=
  ∃ v', e = .returned v' ∧ Owns w' base v' bs ∧ w.grownBy w' v.ownBlock

/-- a literal row of bytes, just made -/
theorem sees_new (w : World) (cs : Array Value) {t : TypeId} (bs : List UInt8) (n : Nat) (hn : n = bs.length) (h : cs = (bs.map byte).toArray) (hm : n ≤ maxLen) : Sees (w.alloc (.cells cs t)) (.slice (some ⟨w.heap.size, 0, none⟩) n n) bs := by
  subst h hn
  refine ⟨_, _, rfl, Nat.le_refl _, hm, fun _ => ⟨w.heap.size, 0, rfl, by simp, fun j hj => ?_⟩⟩
  rw [Nat.zero_add, World.cell?_alloc_at _ _ _ _ rfl]
  simp [List.getD, List.getElem?_eq_getElem hj]

theorem grown_alloc (w : World) (o : Obj) (row : Option Nat) : w.grownBy (w.alloc o) row := World.grownBy_alloc w o row

theorem enc4_cells (n : Nat) : (#[.int .u8 ((n : Int) % 256), .int .u8 ((n : Int) / 256 % 256), .int .u8 ((n : Int) / 65536 % 256), .int .u8 ((n : Int) / 16777216 % 256)] : Array Value) = ((enc4 n).map byte).toArray := by
  simp only [enc4, byte, List.map_cons, List.map_nil, UInt8.toNat_ofNat']
  rfl

set_option maxRecDepth 100000 in
theorem number_put {w : World} {base : Nat} {v : Value} {bs : List UInt8} (n : Nat) (hn : n < 4294967296) (hown : Owns w base v bs) (hb : bs.length + 4 ≤ 140737488355328) (hW : base ≤ w.heap.size) :
    Calls Tryd.prog 89 #[v, .int .u32 n] w (Grows w base v (bs ++ enc4 n)) := by
  have HO := Lib.hid hown
  have hl4 : (enc4 n).length = 4 := rfl
  have HC := Lib.hid (enc4_cells n)
  clear hown
  go_enter Tryd.func89, Tryd.ntmps89
  go_wp2_with (at_builtin; refine wpList_app rfl (.tmp 5) (.tmp 17) rfl rfl (HO.out.alloc _) rfl (sees_new w _ (enc4 n) 4 rfl (by rw [← HC.out]; simp; omega) (by simp [maxLen])) (by omega) (by simp; omega) ?_; intro v1 w1 hown1 hg1 _)
  go_ret
  exact ⟨v1, rfl, hown1, (grown_alloc w _ _).trans hg1⟩

set_option maxRecDepth 100000 in
theorem room_any {w : World} {A : Option Addr} {n c : Nat} {bs : List UInt8} (r : Nat) (hs : Sees w (.slice A n c) bs) (hb : n + r ≤ 140737488355328) :
    Calls Tryd.prog 88 #[.slice A n c, .int .i64 r] w (Puts w bs) := by
  have HS := Lib.hid hs
  have hnl : n = bs.length := by
    obtain ⟨_, _, hv, _⟩ := hs.shape
    injection hv
  obtain ⟨i, hi, hz, hsz, hby⟩ := info_parts byte_info
  have HL := Lib.hid hnl
  clear hs hnl
  go_enter Tryd.func88, Tryd.ntmps88
  go_wp2_with (first
    | (at_make; refine wpList_make_own _ rfl _ _ 28 rfl w.heap.size 5 i (.int .u8 0) 1 Tryd.underlying28 hi hz hsz .i64 .i64 _ (n + r) rfl rfl (by omega) (by rw [hby]; omega) (by unfold maxLen; omega) (Nat.le_refl _) ?_; intro w0 hown0 hg0; have hb0 : Below w.heap.size w w0 := (Below.refl _ _).grown hg0 (Nat.le_refl _) (fun k hk => by cases hk))
    | (at_builtin; refine wpList_app rfl (.tmp 9) (.tmp 10) rfl rfl (base := w.heap.size) (xs := []) hown0 rfl (HS.out.below hb0) (by have := HL.out; simp only [List.length_nil]; omega) hb0.size ?_; intro v1 w1 hown1 hg1 _))
  go_ret
  refine ⟨v1, rfl, hown1, hb0.grown hg1 hb0.size (fun k hk => ?_)⟩
  have e : some w.heap.size = some k := hk
  injection e with e
  omega

set_option maxRecDepth 100000 in
theorem uint_put {w : World} {A : Option Addr} {n c : Nat} {bs : List UInt8} (x : Nat) (hx : x < 4294967296) (hs : Sees w (.slice A n c) bs) (hb : n + 4 ≤ 140737488355328) :
    Calls Tryd.prog 56 #[.slice A n c, .int .u32 x] w (Puts w (bs ++ enc4 x)) := by
  have hnl : n = bs.length := by
    obtain ⟨_, _, hv, _⟩ := hs.shape
    injection hv
  have HL := Lib.hid hnl
  have HR := Lib.hid (room_any 4 hs hb)
  clear hs hnl
  go_enter Tryd.func56, Tryd.ntmps56
  go_wp2_with fail
  refine HR.out.mono ?_
  rintro e w1 ⟨v1, rfl, h1, h2⟩
  have HN := Lib.hid (number_put x hx h1 (by have := HL.out; omega) h2.size)
  have hbl := h1.block
  clear h1
  go_wp2_with fail
  refine HN.out.mono ?_
  rintro e w2 ⟨v2, rfl, h3, h4⟩
  go_wp2_with fail
  go_ret
  exact ⟨v2, rfl, h3, h2.grown h4 h2.size (fun k hk => (hbl k hk).1)⟩

set_option maxRecDepth 100000 in
theorem int_put {w : World} {A : Option Addr} {n c : Nat} {bs : List UInt8} (x : Int) (hs : Sees w (.slice A n c) bs) (hb : n + 4 ≤ 140737488355328) :
    Calls Tryd.prog 53 #[.slice A n c, .int .i32 x] w (Puts w (bs ++ enc4 (x % 4294967296).toNat)) := by
  have HR := Lib.hid (uint_put (x % 4294967296).toNat (by omega) hs hb)
  have hxx : (((x % 4294967296).toNat : Nat) : Int) = x % 4294967296 := by omega
  rw [hxx] at HR
  clear hs hxx
  go_enter Tryd.func53, Tryd.ntmps53
  go_wp2_with fail
  refine HR.out.mono ?_
  rintro e w1 ⟨v1, rfl, h1, h2⟩
  go_wp2_with fail
  go_ret
  exact ⟨v1, rfl, h1, h2⟩

theorem Owns.mono {w : World} {base base' : Nat} {v : Value} {bs : List UInt8} (h : Owns w base v bs) (hb : base' ≤ base) : Owns w base' v bs := by
  refine ⟨h.1, ?_⟩
  rcases h.2 with h2 | ⟨g, cap, cur, hv, hg, r⟩
  · exact .inl h2
  · exact .inr ⟨g, cap, cur, hv, Nat.le_trans hb hg, r⟩

set_option maxRecDepth 100000 in
set_option maxHeartbeats 400000 in
theorem array_put {w : World} {A A' : Option Addr} {n c m c' : Nat} {bs xs : List UInt8} (hs : Sees w (.slice A n c) bs) (hx : Sees w (.slice A' m c') xs) (hb : n ≤ 1000000) (hm : m ≤ 1000000) :
    Calls Tryd.prog 55 #[.slice A n c, .slice A' m c'] w (Puts w (bs ++ encA xs)) := by
  have hnl : n = bs.length := by
    obtain ⟨_, _, hv, _⟩ := hs.shape
    injection hv
  have hml : m = xs.length := by
    obtain ⟨_, _, hv, _⟩ := hx.shape
    injection hv
  have HL := Lib.hid hnl
  have HM := Lib.hid hml
  have HS := Lib.hid hs
  have HX := Lib.hid hx
  clear hs hx hnl hml
  have hal : Tryd.prog.arrayLen 112 = 4 := by kernel_rfl
  have hel : Tryd.prog.elem 112 = 5 := by kernel_rfl
  have hpad : (-((m : Int) % 4) % 4) = ((pad m : Nat) : Int) := by unfold pad; omega
  have hp4 : pad m ≤ 3 := by unfold pad; omega
  have hpl : Hid (pad m = pad xs.length) := by show _ = _; rw [← HM.out]
  have hsl : ∀ (a : Addr) (w : World), (Instr.sliceAt 112 (.pointer (some a)) none (some (.int .i64 (-((m : Int) % 4) % 4))) none).run Tryd.prog w = .ok (.slice (some a) (pad m) 4) w := fun a w => by
    rw [hpad]
    have h := run_sliceAt_array_h (P := Tryd.prog) w 112 a (by kernel_rfl) .i64 (pad m : Int) (by omega) (by rw [hal]; omega)
    rw [hal, hel] at h
    obtain ⟨i, hi, hz, hsz, hby⟩ := info_parts byte_info
    simpa [sizeOf, typeInfo, hi, slicedAt, Addr.add, Result.andThen] using h
  clear hpad hal hel
  generalize pad m = p at *
  obtain ⟨w0, hw0⟩ : ∃ w0, w0 = w.alloc (.cells #[.int .u8 0, .int .u8 0, .int .u8 0, .int .u8 0] 112) := ⟨_, rfl⟩
  have hb0 : Below w.heap.size w w0 := by rw [hw0]; exact (Below.refl _ _).alloc (Nat.le_refl _) _
  have hs0 : w.heap.size + 1 = w0.heap.size := by rw [hw0]; simp
  have HS0 := Lib.hid (show Sees w0 (.slice A n c) bs by rw [hw0]; exact HS.out.alloc _)
  have HX0 := Lib.hid (show Sees w0 (.slice A' m c') xs by rw [hw0]; exact HX.out.alloc _)
  have HP0 := Lib.hid (show Sees w0 (.slice (some ⟨w.heap.size, 0, none⟩) p 4) (List.replicate p 0) by
    have h : Sees w0 (.slice (some ⟨w.heap.size, 0, none⟩) 4 4) (List.replicate 4 0) := by rw [hw0]; exact sees_new w _ (List.replicate 4 0) 4 rfl rfl (by simp [maxLen])
    have h2 := h.take (k := p) (by omega)
    rw [List.take_replicate, Nat.min_eq_left (by omega)] at h2
    exact h2)
  have HW := Lib.hid hw0
  have HZ := Lib.hid hs0
  clear hw0 hs0
  go_enter Tryd.func55, Tryd.ntmps55
  go_wp2_with fail
  rw [← HW.out, show (4 + (m : Int) + (p : Int)) = ((4 + m + p : Nat) : Int) by omega]
  refine (room_any (4 + m + p) HS0.out (by omega)).mono ?_
  rintro e w1 ⟨v1, rfl, h1, h2⟩
  have HN := Lib.hid (number_put m (by omega) h1 (by have := HL.out; omega) h2.size)
  have hbl := h1.block
  clear h1
  go_wp2_with fail
  refine HN.out.mono ?_
  rintro e w2 ⟨v2, rfl, h3, h4⟩
  have h5 : Below w0.heap.size w0 w2 := h2.grown h4 h2.size (fun k hk => (hbl k hk).1)
  have hbl2 := h3.block
  have H3 := Lib.hid h3
  clear h3 h4 hbl
  go_wp2_with (first
    | (at_builtin; refine wpList_app rfl (.tmp 27) (.tmp 28) rfl rfl H3.out rfl (HX0.out.below h5) (by have := HL.out; have := HM.out; simp [enc4]; omega) h5.size ?_; intro v3 w3 hown3 hg3 _; have h6 : Below w0.heap.size w0 w3 := h5.grown hg3 h5.size (fun k hk => (hbl2 k hk).1); have H6 := Lib.hid hown3)
    | (at_builtin; refine wpList_app rfl (.tmp 30) (.tmp 31) rfl rfl H6.out rfl (HP0.out.below h6) (by have := HL.out; have := HM.out; simp [enc4]; omega) h6.size ?_; intro v4 w4 hown4 hg4 _; have h7 : Below w0.heap.size w0 w4 := h6.grown hg4 h6.size (fun k hk => (H6.out.block k hk).1)))
  go_ret
  have hz := HZ.out
  refine ⟨v4, rfl, ?_, hb0.trans (h7.mono (by omega))⟩
  have ho := hown4.mono (base' := w.heap.size) (by omega)
  have e1 : encA xs = enc4 m ++ xs ++ List.replicate p 0 := by unfold encA; rw [← hpl.out, ← HM.out]
  rw [e1]
  simpa [List.append_assoc] using ho

end Go.Proofs.YtmpkjjmgfakomaaDoor

namespace Go.Proofs.YtmpkjjmgfakomaaDoor
open Go.RowKit Mem Wire

theorem bytesWorld_below (w : World) (e : TypeId) (s : ByteArray) : Below w.heap.size w (Lib.bytesWorld w e s) :=
  ⟨rfl, rfl, rfl, by rw [Lib.bytesWorld_size]; omega, fun k hk => Lib.bytesWorld_at_old w e s k hk⟩

theorem sees_text (w : World) (s : ByteArray) (hs : s.size ≤ maxLen) : Sees (Lib.bytesWorld w 5 s) (.slice (some ⟨w.heap.size, 0, none⟩) s.size (grownCap w s.size 0 5)) s.data.toList := by
  refine ⟨_, _, by rw [Array.length_toList]; rfl, by rw [Array.length_toList]; exact grownCap_ge _ _ _ _, grownCap_le_maxLen _ _ _ _ hs, fun _ => ⟨w.heap.size, 0, rfl, by rw [Lib.bytesWorld_size]; omega, fun j hj => ?_⟩⟩
  rw [Nat.zero_add, Lib.bytesWorld_cell w 5 s j (by simpa using hj)]
  rfl

set_option maxRecDepth 100000 in
theorem string_put {w : World} {A : Option Addr} {n c : Nat} {bs : List UInt8} (s : ByteArray) (hs : Sees w (.slice A n c) bs) (hb : n ≤ 1000000) (hm : s.size ≤ 1000000) :
    Calls Tryd.prog 54 #[.slice A n c, .string s] w (Puts w (bs ++ encA s.data.toList)) := by
  have hcv : ∀ w : World, (convert 9 28 (.string s)).run Tryd.prog w = .ok (.slice (some ⟨w.heap.size, 0, none⟩) s.size (grownCap w s.size 0 5)) (Lib.bytesWorld w 5 s) := fun w => Lib.run_convert_string_bytes w 9 28 5 s Tryd.underlying9 Tryd.underlying28 Tryd.underlying5
  have hbw := bytesWorld_below w 5 s
  have HA := Lib.hid (array_put (hs.below hbw) (sees_text w s (by simp only [maxLen]; omega)) hb hm)
  clear hs
  go_enter Tryd.func54, Tryd.ntmps54
  go_wp2_with fail
  refine HA.out.mono ?_
  rintro e w1 ⟨v1, rfl, h1, h2⟩
  go_wp2_with fail
  go_ret
  exact ⟨v1, rfl, h1.mono hbw.size, hbw.trans (h2.mono hbw.size)⟩

end Go.Proofs.YtmpkjjmgfakomaaDoor
