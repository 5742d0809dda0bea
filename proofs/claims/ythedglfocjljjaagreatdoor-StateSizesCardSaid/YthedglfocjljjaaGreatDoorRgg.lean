/-
  What is asked of package region holds.
-/
import Derived.Test.YthedglfocjljjaaGreatDoorScc
import Derived.Test.YthedglfocjljjaaGreatDoorRoi
namespace Go.Proofs.YthedglfocjljjaaGreatDoor

theorem rg : RG where
  new := fun h hl => Rgn.new_any h (by omega)
  inter := fun h g hl => Rgn.inter_any h g (by omega)

end Go.Proofs.YthedglfocjljjaaGreatDoor
