/-
  A canonical list is its own region.
-/
import Derived.Test.YtclnepijbnhdfaaTop3
namespace Go.Proofs.Ytclnepijbnhdfaa

theorem setS_nil (l : List R) (x y : Int) : setS orB l [] x y = inL l x y := by simp [setS, inL]

theorem comb_fix {S : Int → Int → Bool} {l : List R} (h : Region S l) (hi : Inside S) : combP orB l [] = l :=
  region_unique ((combP_ok (op := orB) rfl l []).congr fun x y => by rw [setS_nil, region_in h hi]) h

theorem comb_idem {op : Op2} (h0 : op false false = false) (a b : List R) : combP orB (combP op a b) [] = combP op a b :=
  comb_fix (combP_ok h0 a b) (setS_inside h0 a b)

end Go.Proofs.Ytclnepijbnhdfaa
