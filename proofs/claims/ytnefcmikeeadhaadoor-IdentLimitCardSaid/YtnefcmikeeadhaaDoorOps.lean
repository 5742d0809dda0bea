/-
  Slices of calls in memory, and as arguments.
-/
import Derived.Test.YtnefcmikeeadhaaDoorExm
namespace Go.Proofs.YtnefcmikeeadhaaDoor
open Go.RowKit

/-- the slice value v holds the calls l: a kind and an identifier each -/
def Opv (w : World) (v : Value) (l : List (Int × Nat)) : Prop :=
  ∃ (A : Option Addr) (cap : Nat), v = .slice A l.length cap ∧ l.length ≤ cap ∧ cap ≤ maxLen ∧ (∀ o ∈ l, o.2 < 4294967296) ∧
    (0 < l.length → ∃ b off, A = some ⟨b, off, none⟩ ∧ b < w.heap.size ∧ ∀ (j : Nat) (o : Int × Nat), l[j]? = some o → w.cell? ⟨b, off + j * 2, none⟩ = some (.int .i64 o.1) ∧ w.cell? ⟨b, off + j * 2 + 1, none⟩ = some (.int .u32 (o.2 : Int)))

theorem Opv.below {w w' : World} {v : Value} {l : List (Int × Nat)} (h : Opv w v l) (hb : Below w.heap.size w w') : Opv w' v l := by
  obtain ⟨A, cap, hv, h1, h2, h3, h4⟩ := h
  refine ⟨A, cap, hv, h1, h2, h3, fun hn => ?_⟩
  obtain ⟨b, off, hA, hlt, hc⟩ := h4 hn
  refine ⟨b, off, hA, Nat.lt_of_lt_of_le hlt hb.size, fun j o ho => ?_⟩
  rw [hb.cell (p := ⟨b, off + j * 2, none⟩) hlt, hb.cell (p := ⟨b, off + j * 2 + 1, none⟩) hlt]
  exact hc j o ho

theorem opv_nil (w : World) : Opv w (.slice none 0 0) [] := ⟨none, 0, rfl, Nat.le_refl _, by simp [maxLen], fun o h => by simp at h, fun h => by simp at h⟩

end Go.Proofs.YtnefcmikeeadhaaDoor
