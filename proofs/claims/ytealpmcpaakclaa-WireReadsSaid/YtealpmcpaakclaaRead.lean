/-
  The reader of package wire: what its block holds ('Rdr'), and a contract for each of its small functions: created, fail, take, number.
-/
import Derived.Test.YtealpmcpaakclaaRows
import Derived.Test.YtealpmcpaakclaaMem
import Derived.Test.YtealpmcpaakclaaPure
import Derived.LaidEqlPtr
import Derived.WalkSpells
import Derived.BigQuiet
import Derived.Deep.QuietTactic
namespace Go.Proofs.Ytealpmcpaakclaa
open Go.RowKit Mem Wire

/-- the reader at block g holds the state s -/
def Rdr (w : World) (g : Nat) (s : St) : Prop :=
  ∃ v, w.heap[g]? = some (.cells #[v, .int .i64 s.2, .pointer (some ⟨g, 0, none⟩)] 68 (0, 0)) ∧ Sees w v s.1 ∧ Fine s

theorem block_cell {w : World} {g : Nat} {cs : Array Value} {t : TypeId} (h : w.heap[g]? = some (.cells cs t (0, 0))) (i : Nat) : w.cell? ⟨g, i, none⟩ = cs[i]? := cell_of_row w g i cs t (0, 0) h
theorem block_free {w : World} {g : Nat} {cs : Array Value} {t : TypeId} (h : w.heap[g]? = some (.cells cs t (0, 0))) (i : Nat) : w.frozen? ⟨g, i, none⟩ = false := by
  simp [World.frozen?, h]
theorem block_set {w : World} {g : Nat} {cs : Array Value} {t : TypeId} (h : w.heap[g]? = some (.cells cs t (0, 0))) (i : Nat) (u : Value) :
    (w.setCell ⟨g, i, none⟩ u).heap[g]? = some (.cells (cs.setIfInBounds i u) t (0, 0)) := by
  simp [World.setCell, Array.getElem?_modify, h]
theorem block_lt {w : World} {g : Nat} {o : Obj} (h : w.heap[g]? = some o) : g < w.heap.size := by
  rcases Nat.lt_or_ge g w.heap.size with hl | hl
  · exact hl
  · rw [Array.getElem?_eq_none hl] at h; cases h
theorem grown_set (w : World) (g i : Nat) (u : Value) : w.grownBy (w.setCell ⟨g, i, none⟩ u) (some g) :=
  ⟨rfl, rfl, rfl, by simp [World.setCell], fun k _ hne => Below.heap_setCell w ⟨g, i, none⟩ u k (fun e => hne (by rw [e]))⟩
theorem grown_draws {w w' : World} {row : Option Nat} (h : w.grownBy w' row) (n : Nat) : w.grownBy (w'.drewN n) row := ⟨h.os, h.tape, h.output, h.size, h.block⟩

section
variable {w w' : World} {g : Nat} {s : St}

theorem noByte {v : Value} {A : Option Addr} {n c : Nat} {e : Int} {p : Value} (hv : v = .slice A n c) (hp : ∀ x : UInt8, p ≠ byte x) (h : w.heap[g]? = some (.cells #[v, .int .i64 e, p] 68 (0, 0))) :
    ∀ o x, w.cell? ⟨g, o, none⟩ ≠ some (byte x) := by
  intro o x
  rw [block_cell h]
  match o with
  | 0 => simp [hv, byte]
  | 1 => simp [byte]
  | 2 => simpa using hp x
  | o + 3 => simp

theorem Rdr.noByte (h : Rdr w g s) : ∀ o x, w.cell? ⟨g, o, none⟩ ≠ some (byte x) := by
  obtain ⟨v, hb, hs, _⟩ := h
  obtain ⟨A, c, hv, _⟩ := hs.shape
  exact Ytealpmcpaakclaa.noByte hv (by simp [byte]) hb

theorem Rdr.lt (h : Rdr w g s) : g < w.heap.size := by
  obtain ⟨v, hb, _⟩ := h
  exact block_lt hb

theorem Rdr.self (h : Rdr w g s) : w.cell? ⟨g, 2, none⟩ = some (.pointer (some ⟨g, 0, none⟩)) := by
  obtain ⟨v, hb, _⟩ := h
  rw [block_cell hb]; rfl

theorem Rdr.err (h : Rdr w g s) : w.cell? ⟨g, 1, none⟩ = some (.int .i64 s.2) := by
  obtain ⟨v, hb, _⟩ := h
  rw [block_cell hb]; rfl

theorem Rdr.free (h : Rdr w g s) (i : Nat) : w.frozen? ⟨g, i, none⟩ = false := by
  obtain ⟨v, hb, _⟩ := h
  exact block_free hb i

theorem Rdr.unread (h : Rdr w g s) : ∃ A c, w.cell? ⟨g, 0, none⟩ = some (.slice A s.1.length c) ∧ s.1.length ≤ c ∧ c ≤ maxLen ∧ Sees w (.slice A s.1.length c) s.1 := by
  obtain ⟨v, hb, hs, _⟩ := h
  obtain ⟨A, c, rfl, h1, h2⟩ := hs.shape
  exact ⟨A, c, by rw [block_cell hb]; rfl, h1, h2, hs⟩

theorem Rdr.fine (h : Rdr w g s) : Fine s := h.choose_spec.2.2

/-- kept over what turns other blocks alone -/
theorem Rdr.below (h : Rdr w g s) (hb : Below w.heap.size w w') : Rdr w' g s := by
  have hl := h.lt
  obtain ⟨v, hh, hs, hg⟩ := h
  exact ⟨v, (hb.block g hl).trans hh, hs.below hb, hg⟩
theorem Rdr.draws (h : Rdr w g s) (n : Nat) : Rdr (w.drewN n) g s := h
theorem Rdr.grown {g' : Nat} {s' : St} (h : Rdr w g s) (h' : Rdr w g' s') (hne : g ≠ g') (hg : w.grownBy w' (some g')) : Rdr w' g s := by
  have hl := h.lt
  have hn := h'.noByte
  obtain ⟨v, hh, hs, hgd⟩ := h
  exact ⟨v, (hg.block g hl (fun e => hne (by injection e))).trans hh, hs.grown hg hn, hgd⟩

/-- the unread bytes set anew -/
theorem Rdr.set0 (h : Rdr w g s) {v' : Value} {bs : List UInt8} (hs : Sees w v' bs) (hg : Fine (bs, s.2)) : Rdr (w.setCell ⟨g, 0, none⟩ v') g (bs, s.2) := by
  have hn := h.noByte
  obtain ⟨v, hh, _, _⟩ := h
  exact ⟨v', by rw [block_set hh]; rfl, hs.grown (grown_set w g 0 v') hn, hg⟩

/-- the error set, no bytes left -/
theorem Rdr.set1 (h : Rdr w g s) (x : Int) : Rdr ((w.setCell ⟨g, 1, none⟩ (.int .i64 x)).setCell ⟨g, 0, none⟩ (.slice none 0 0)) g ([], x) := by
  obtain ⟨v, hh, _, _⟩ := h
  exact ⟨.slice none 0 0, by rw [block_set (block_set hh 1 _)]; rfl, sees_nil _, fun _ => rfl⟩
end

theorem created_nil (w : World) : Calls Try.prog 45 #[.pointer none] w fun e w' => e = .returned (.bool false) ∧ w = w' := by
  go_enter Try.func45, Try.ntmps45
  go_wp2
  go_ret
  exact ⟨rfl, rfl⟩

theorem info68 : (Try.prog.info? 68).isSome = true := by kernel_rfl

theorem created_yes {g : Nat} {s : St} {w : World} (hr : Rdr w g s) :
    Calls Try.prog 45 #[.pointer (some ⟨g, 0, none⟩)] w fun e w' => e = .returned (.bool true) ∧ w = w' := by
  have h := hr.self
  clear hr
  obtain ⟨j, hj⟩ := Option.isSome_iff_exists.1 info68
  have hp : ∀ w : World, (binOp .eql 33 (.pointer (some ⟨g, 0, none⟩)) (.pointer (some ⟨g, 0, none⟩))).run Try.prog w = .ok (.bool true) w := fun w => run_eql_ptr_same w _ Try.underlying33 hj
  go_enter Try.func45, Try.ntmps45
  go_wp2
  go_ret
  exact ⟨rfl, rfl⟩

theorem run_eql_none_some {P : Program} {tp te : TypeId} (a : Addr) (hp : P.underlying tp = some (.pointer te)) (w : World) :
    (binOp .eql tp (.pointer none) (.pointer (some a))).run P w = .ok (.bool false) w := by
  have h : ∀ d : Nat, (Op.equalIn (d + 1) tp (.pointer none) (.pointer (some a))).run P w = .ok false w := fun d => by
    simp [Op.equalIn, run_underlying hp]
  simp only [binOp]
  simp [Op.equal, Op.maxDepth, h 9999]

theorem created_no (g : Nat) (w : World) (h : w.cell? ⟨g, 2, none⟩ = some (.pointer none)) :
    Calls Try.prog 45 #[.pointer (some ⟨g, 0, none⟩)] w fun e w' => e = .returned (.bool false) ∧ w = w' := by
  have hp : ∀ w : World, (binOp .eql 33 (.pointer none) (.pointer (some ⟨g, 0, none⟩))).run Try.prog w = .ok (.bool false) w := fun w => run_eql_none_some _ Try.underlying33 w
  go_enter Try.func45, Try.ntmps45
  go_wp2
  go_ret
  exact ⟨rfl, rfl⟩

theorem fail_any {g : Nat} {s : St} {w : World} (x : Int) (hr : Rdr w g s) :
    Calls Try.prog 49 #[.pointer (some ⟨g, 0, none⟩), .int .i64 x] w fun e w' => e = .returned (.tuple #[]) ∧ Rdr w' g (failS s x) ∧ w.grownBy w' (some g) := by
  obtain ⟨A, c, h0, _, _, _⟩ := hr.unread
  have f0 := hr.free 0
  have f1 := hr.free 1
  have h1 := hr.err
  by_cases he : s.2 = 0
  · have hk : Rdr ((w.setCell ⟨g, 1, none⟩ (.int .i64 x)).setCell ⟨g, 0, none⟩ (.slice none 0 0)) g (failS s x) := by
      rw [failS, if_pos he]; exact hr.set1 x
    rw [he] at h1
    have HK := Lib.hid hk
    have HE := Lib.hid he
    clear hk he hr
    go_enter Try.func49, Try.ntmps49
    go_wp2
    go_end0
    exact ⟨rfl, HK.out, (grown_set w g 1 _).trans (grown_set _ g 0 _)⟩
  · have hk : Rdr w g (failS s x) := by rw [failS, if_neg he]; exact hr
    have HK := Lib.hid hk
    have hb : (s.2 == 0) = false := by simpa using he
    clear hk hr
    generalize s.2 = y at h1 hb he
    go_enter Try.func49, Try.ntmps49
    go_wp2
    go_end0
    exact ⟨rfl, HK.out, World.grownBy.refl _ _⟩

theorem take_walk (g n len cap : Nat) (A : Option Addr) (w : World) (hn : n ≤ len) (hl : len ≤ cap) (hm : cap ≤ 9223372036854775807)
    (h0 : w.cell? ⟨g, 0, none⟩ = some (.slice A len cap)) (f0 : w.frozen? ⟨g, 0, none⟩ = false) :
    Calls Try.prog 54 #[.pointer (some ⟨g, 0, none⟩), .int .u64 n] w fun e w' => e = .returned (.tuple #[.slice A n cap, .bool true]) ∧ w' = w.setCell ⟨g, 0, none⟩ (.slice (if cap = n then A else A.map (·.add n)) (len - n) (cap - n)) := by
  go_enter Try.func54, Try.ntmps54
  go_wp2
  all_goals (go_ret2; exact ⟨rfl, rfl⟩)

theorem take_yes {g n : Nat} {s : St} {w : World} (hr : Rdr w g s) (hn : n ≤ s.1.length) :
    Calls Try.prog 54 #[.pointer (some ⟨g, 0, none⟩), .int .u64 n] w fun e w' => ∃ A c, e = .returned (.tuple #[.slice A n c, .bool true]) ∧ n ≤ c ∧ c ≤ maxLen ∧
      Sees w' (.slice A n c) (s.1.take n) ∧ Rdr w' g (s.1.drop n, s.2) ∧ w.grownBy w' (some g) := by
  obtain ⟨A, c, h0, hl, hm, hs⟩ := hr.unread
  refine (take_walk g n _ c A w hn hl (by simpa [maxLen] using hm) h0 (hr.free 0)).mono ?_
  rintro e w' ⟨rfl, rfl⟩
  refine ⟨A, c, rfl, by omega, hm, (hs.take hn).grown (grown_set w g 0 _) hr.noByte, hr.set0 (hs.drop hn) (fun h => ?_), grown_set w g 0 _⟩
  have := hr.fine h
  simp [this]

theorem take_no {g n : Nat} {s : St} {w : World} (hr : Rdr w g s) (hn : s.1.length < n) (hm' : n ≤ 9223372036854775807) :
    Calls Try.prog 54 #[.pointer (some ⟨g, 0, none⟩), .int .u64 n] w fun e w' => e = .returned (.tuple #[.slice none 0 0, .bool false]) ∧ Rdr w' g (failS s 4) ∧ w.grownBy w' (some g) := by
  obtain ⟨A, c, h0, hl, hm, _⟩ := hr.unread
  have hm2 : c ≤ 9223372036854775807 := by simpa [maxLen] using hm
  have HR := Lib.hid hr
  clear hr
  generalize hlen : s.1.length = len at h0 hl hn
  clear hlen
  go_enter Try.func54, Try.ntmps54
  go_wp2_with fail
  refine (fail_any 4 HR.out).mono ?_
  rintro e w' ⟨rfl, h1, h2⟩
  go_wp2
  go_ret2
  exact ⟨rfl, h1, h2⟩

set_option maxHeartbeats 400000 in
theorem number_any {g : Nat} {s : St} {w : World} (hr : Rdr w g s) :
    Calls Try.prog 46 #[.pointer (some ⟨g, 0, none⟩)] w fun e w' => e = .returned (.int .u32 ((numS s).2 : Int)) ∧ Rdr w' g (numS s).1 ∧ w.grownBy w' (some g) := by
  by_cases hl : s.1.length < 4
  · have he : numS s = (failS s 4, 0) := by rw [numS, if_pos hl]
    rw [he]
    clear he
    go_enter Try.func46, Try.ntmps46
    go_wp2_with fail
    refine (take_no (n := 4) hr hl (by omega)).mono ?_
    rintro e w1 ⟨rfl, h1, h2⟩
    go_wp2_with fail
    go_ret
    exact ⟨rfl, h1, h2⟩
  · have he : numS s = ((s.1.drop 4, s.2), at4 s.1) := by rw [numS, if_neg hl]
    rw [he]
    clear he
    go_enter Try.func46, Try.ntmps46
    go_wp2_with fail
    refine (take_yes (n := 4) hr (by omega)).mono ?_
    rintro e w1 ⟨A, c, rfl, hc, hm, hs, h1, h2⟩
    rcases hs.ways with ⟨A', c', hv, _⟩ | ⟨b, off, n, c', hv, hbl, _, _, _, _, hcell⟩
    · injection hv with _ e2; omega
    · injection hv with e1 e2 e3
      subst e1 e2 e3
      have hg4 : ∀ j, j < 4 → (s.1.take 4).getD j 0 = s.1.getD j 0 := fun j hj => by simp only [List.getD, List.getElem?_take, if_pos hj]
      have hbyte : ∀ x : UInt8, x.toNat < 256 := fun x => x.toNat_lt
      have c0 := hcell 0 (by omega)
      have c1 := hcell 1 (by omega)
      have c2 := hcell 2 (by omega)
      have c3 := hcell 3 (by omega)
      rw [hg4 _ (by omega)] at c0 c1 c2 c3
      unfold byte at c0 c1 c2 c3
      rw [Nat.add_zero] at c0
      have b0 := hbyte (s.1.getD 0 0)
      have b1 := hbyte (s.1.getD 1 0)
      have b2 := hbyte (s.1.getD 2 0)
      have b3 := hbyte (s.1.getD 3 0)
      have HV := Lib.hid (num4_or _ _ _ _ b0 b1 b2 b3)
      have H1 := Lib.hid h1
      clear hcell hg4 hbyte hs hbl h1 hr
      change Hid (_ = ((at4 s.1 : Nat) : Int)) at HV
      generalize (s.1.getD 0 0).toNat = x0 at *
      generalize (s.1.getD 1 0).toNat = x1 at *
      generalize (s.1.getD 2 0).toNat = x2 at *
      generalize (s.1.getD 3 0).toNat = x3 at *
      go_wp2_with fail
      go_quiet (fail)
      go_wp2_with fail
      go_ret
      exact ⟨congrArg (fun x => Ending.returned (.int .u32 x)) HV.out, H1.out, grown_draws h2 _⟩

end Go.Proofs.Ytealpmcpaakclaa
