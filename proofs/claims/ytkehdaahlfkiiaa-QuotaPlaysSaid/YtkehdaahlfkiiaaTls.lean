/-
  The calls that the laws list: two numbers and a Bool each; buckets at times that are not later than the recorded one.
-/
import Derived.Test.YtkehdaahlfkiiaaQex
import Derived.Deep.CutRange
namespace Go.Proofs.Ytkehdaahlfkiiaa
open Go.RowKit

structure Tr where
  a : Int
  b : Int
  c : Bool
def TrAt (w : World) (b o : Nat) (r : Tr) : Prop := w.cell? ⟨b, o, none⟩ = some (.int .i64 r.a) ∧ w.cell? ⟨b, o + 1, none⟩ = some (.int .i64 r.b) ∧ w.cell? ⟨b, o + 2, none⟩ = some (.bool r.c)
/-- the slice value v holds the calls l -/
def Trs (w : World) (v : Value) (l : List Tr) : Prop :=
  ∃ (A : Option Addr) (cap : Nat), v = .slice A l.length cap ∧ l.length ≤ cap ∧ cap ≤ maxLen ∧ (∀ p ∈ l, I64 p.a ∧ I64 p.b) ∧
    (0 < l.length → ∃ b off, A = some ⟨b, off, none⟩ ∧ b < w.heap.size ∧ ∀ (j : Nat) (r : Tr), l[j]? = some r → TrAt w b (off + j * 3) r)
theorem Trs.shape {w : World} {v : Value} {l : List Tr} (h : Trs w v l) : ∃ A cap, v = .slice A l.length cap ∧ l.length ≤ cap ∧ cap ≤ maxLen := by
  obtain ⟨A, cap, hv, h1, h2, _⟩ := h
  exact ⟨A, cap, hv, h1, h2⟩
theorem trs_at {w : World} {A : Option Addr} {n cap : Nat} {l : List Tr} (h : Trs w (.slice A n cap) l) {j : Nat} {r : Tr} (hj : l[j]? = some r) :
    I64 r.a ∧ I64 r.b ∧ ∃ b off, A = some ⟨b, off, none⟩ ∧ ∀ W, Below w.heap.size w W → TrAt W b (off + j * 3) r := by
  obtain ⟨A', cap', hv, _, _, hq, hc⟩ := h
  injection hv with e1 e2 e3
  subst e1
  have hl := (List.getElem?_eq_some_iff.1 hj).1
  obtain ⟨b, off, rfl, hlt, hc⟩ := hc (by omega)
  obtain ⟨c0, c1, c2⟩ := hc j r hj
  have hm := hq r (List.mem_of_getElem? hj)
  exact ⟨hm.1, hm.2, b, off, rfl, fun W hb => ⟨(hb.cell (p := ⟨b, off + j * 3, none⟩) hlt).trans c0, (hb.cell (p := ⟨b, off + j * 3 + 1, none⟩) hlt).trans c1, (hb.cell (p := ⟨b, off + j * 3 + 2, none⟩) hlt).trans c2⟩⟩

/-- tokens taken at the recorded time -/
def tkB (b : Bk) (n : Int) : Bk × Bool := if n < 0 ∨ b.bu < n ∨ b.fi < n * 1000 then (b, false) else ({ b with fi := b.fi - n * 1000 }, true)
/-- a bucket whose recorded time is t -/
structure AtB (b : Bk) (t : Int) : Prop where
  md : b.md = true
  st : b.st = true
  la : b.la = t
  ok : BOk b
theorem adv_old {b : Bk} {t u : Int} (h : AtB b u) (ht : t ≤ u) : advB b t = b := by
  unfold advB
  rw [if_neg (by rw [h.st]; simp), if_pos (by rw [h.la]; exact ht)]
theorem take_old {b : Bk} {t u : Int} (h : AtB b u) (ht : t ≤ u) (n : Int) : takeB b t n = tkB b n := by
  unfold takeB tkB
  rw [if_neg (by rw [h.md]; simp), adv_old h ht]
theorem lvl_old {b : Bk} {t u : Int} (h : AtB b u) (ht : t ≤ u) : lvlB b t = (b, b.fi / 1000) := by
  unfold lvlB
  rw [if_neg (by rw [h.md]; simp), adv_old h ht]
theorem tk_at {b : Bk} {u : Int} (h : AtB b u) (n : Int) : AtB (tkB b n).1 u := by
  have hok : BOk (tkB b n).1 := by
    rw [← take_old h (Int.le_refl u) n]
    exact takeB_ok h.ok (by rw [← h.la]; exact h.ok.la) n
  unfold tkB at hok ⊢
  split
  · exact h
  · rename_i hc
    rw [if_neg hc] at hok
    exact ⟨h.md, h.st, h.la, hok⟩

end Go.Proofs.Ytkehdaahlfkiiaa
