/-
  Surface states: what Check, Merge, Clone, Size and light compute. No program is named here.
-/
import Derived.Test.YthedglfocjljjaaGreatDoorMga
import Derived.Test.YthedglfocjljjaaGreatDoorRob
import Derived.Test.YthedglfocjljjaaGreatDoorTra
namespace Go.Proofs.YthedglfocjljjaaGreatDoor

structure Bf where
  a : Int
  b : Int
  l : List Px
structure St where
  set : Int
  bf : List Bf
  sc : Int
  tr : Int
  dm : List R
  op : List R
  is : Bool
  ip : List R
  dx : Int
  dy : Int
  cb : List Nat
def zeroS : St := ⟨0, [], 0, 0, [], [], false, [], 0, 0, []⟩
def initS : St := { zeroS with sc := 1 }

abbrev canS (l : List R) : List R := Rgn.combP (fun x y => x || y) l []
def wideB (l : List R) : Bool := decide (256 < (canS l).length)
def sidB (x y : Int) : Bool := (decide (x = 0) && decide (y = 0)) || ((decide (1 ≤ x) && decide (x ≤ 256)) && (decide (1 ≤ y) && decide (y ≤ 256)))
def argB (s : St) : Bool := (decide (1 ≤ s.sc) && decide (s.sc ≤ 4)) && Trf.vT s.tr && decide (s.bf.length ≤ 1)
def bfB (x : Bf) (sc : Int) : Bool := vBuf x.a x.b x.l && (decide (x.a % sc = 0) && decide (x.b % sc = 0))
def bufB (s : St) : Bool := s.bf.all fun x => bfB x s.sc
def manyB (s : St) : Bool := wideB s.dm || wideB s.op || (s.is && wideB s.ip)
def chkS (s : St) : Int := if argB s = false then 2 else if bufB s = false then 15 else if sidB s.dx s.dy = false then 6 else if manyB s = true then 5 else 0
def bitB (n : Int) (m : Int) : Bool := decide (bits .and .i64 n m ≠ 0)
end Go.Proofs.YthedglfocjljjaaGreatDoor
