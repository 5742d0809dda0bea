/-
  bytes.Equal: whether two slices hold the same bytes, by their strings.
-/
import Derived.Test.YtllmdgbokmldnaaOwn
import Derived.Lib.BytesEntry
import Derived.Laws.BytesArg
namespace Go.Proofs.Ytllmdgbokmldnaa
open Go.RowKit Mem

theorem bytesOf_nums (bs : List UInt8) : Lib.bytesOf (bs.map fun x => (x.toNat : Int)) = bs := by
  unfold Lib.bytesOf
  rw [List.map_map]
  conv => rhs; rw [← List.map_id bs]
  apply List.map_congr_left
  intro x _
  simp

/-- string(b) of a slice of bytes -/
theorem run_text {P : Program} {w : World} {A : Option Addr} {n c : Nat} {bs : List UInt8} {src e dst : TypeId} (h1 : P.underlying src = some (.slice e)) (h2 : P.underlying e = some (.int .u8)) (h3 : P.underlying dst = some .string)
    (hs : Sees w (.slice A n c) bs) : (convert src dst (.slice A n c)).run P w = .ok (.string ⟨bs.toArray⟩) w := by
  rcases hs.ways with ⟨A', c', hv, rfl, _⟩ | ⟨b, off, n', c', hv, hl, _, _, _, _, hcell⟩
  · injection hv with e1 e2 e3
    subst e2
    cases A with
    | none => exact run_convert_bytes_nil w src e h1 h2 0 c dst h3
    | some a =>
      have h := run_convert_bytes_nil (P := P) w src e h1 h2 0 c dst h3
      rw [run_convert_bytes_string w src dst e _ 0 c h1 h2 h3] at h ⊢
      have hl : (loadCells a 0).run P w = .ok (([] : List Int).map (Value.int .u8)).toArray w := rfl
      rw [run_bytesToString w a 0 c [] hl]
      rfl
  · injection hv with e1 e2 e3
    subst e1 e2 e3
    have h := run_convert_bytes_arg (P := P) w src e h1 h2 b off n c (bs.map fun x => (x.toNat : Int)) (by simpa using hl) (fun i hi => by
      rw [hcell i hi]
      unfold byte
      simp only [List.getD, List.getElem?_map]
      rw [List.getElem?_eq_getElem (by omega)]
      rfl) dst h3
    rw [h]
    have := bytesOf_nums bs
    unfold Lib.bytesOf at this
    unfold strOfNums
    rw [this]

theorem str_eq (xs ys : List UInt8) : ((⟨xs.toArray⟩ : ByteArray).toList == (⟨ys.toArray⟩ : ByteArray).toList) = decide (xs = ys) := by
  rw [ByteArray.toList_mk, ByteArray.toList_mk]
  by_cases h : xs = ys
  · subst h
    simp
  · rw [decide_eq_false h, beq_eq_false_iff_ne]
    exact h

def Whether (w : World) (b : Bool) (e : Ending) (w' : World) : Prop := e = .returned (.bool b) ∧ w = w'

theorem equal_any {w : World} {A A' : Option Addr} {n c n' c' : Nat} {xs ys : List UInt8} (h1 : Sees w (.slice A n c) xs) (h2 : Sees w (.slice A' n' c') ys) :
    Calls Try.prog 31 #[.slice A n c, .slice A' n' c'] w (Whether w (decide (xs = ys))) := by
  have t1 := run_text (P := Try.prog) Try.underlying23 Try.underlying5 Try.underlying9 h1
  have t2 := run_text (P := Try.prog) Try.underlying23 Try.underlying5 Try.underlying9 h2
  have hq := str_eq xs ys
  generalize decide (xs = ys) = r at *
  generalize (⟨xs.toArray⟩ : ByteArray) = s1 at *
  generalize (⟨ys.toArray⟩ : ByteArray) = s2 at *
  clear h1 h2
  go_enter Try.func31, Try.ntmps31
  go_wp2_with fail
  go_ret
  exact ⟨rfl, rfl⟩

end Go.Proofs.Ytllmdgbokmldnaa
