/-
  The map of changes as the sweep reads it: a row for each key, the keys in ascending order.
-/
import Derived.Test.YtclnepijbnhdfaaChg2
import Derived.Test.YtclnepijbnhdfaaStp
import Derived.Test.YtclnepijbnhdfaaShelf
import Derived.RangeFuncNested
import Derived.RangeFuncBound
import Derived.RangeFuncCalls
import Derived.RangeFuncLeaves
import Derived.Shelf.Abstract
import Derived.Shelf.RegionOpen
import Derived.OwnWalkIn
import Derived.TacticsInMore
import Derived.LoopNIn
import Derived.LoopIn
namespace Go.Proofs.Ytclnepijbnhdfaa
open Go.RowKit Go.Maps Go.Shelf
open Go.ChangeMaps Go.MapKept
open Go.WideElems (Fit rd rg pl rd_val rd_key)

/-- the row that block b yields at y, whatever else turns -/
def RowAtKey (b : Nat) (h : Option Obj) (y : Int) (v : Value) : Prop := ∀ W : World, W.heap[b]? = h → (Instr.lookup 62 (.map (some b)) (.int .i64 y) false).run Try.prog W = .ok v W

theorem grp_pick {w : World} {base b n : Nat} {D : DE} (h : GrpE w base b n D) (hmax : n < maxLen) {f : Int → List E} {ks : Int → Prop} (hc : Cont D f ks) :
    ∃ V : Int → Value, (∀ y, (Lit.int .i64 y).wf = true → RowAtKey b w.heap[b]? y (V y) ∧ OwnE w base (V y) (f y)) ∧
      ∀ y z, (Lit.int .i64 y).wf = true → (Lit.int .i64 z).wf = true → y ≠ z → ∀ k, blk (V y) k → ¬ blk (V z) k := by
  obtain ⟨es, clock, hb, F, hn, hD, hbb, hap⟩ := id h
  have hz : ∀ W, (zeroValue 64).run Try.prog W = .ok (.slice none 0 0) W := fun W => by kernel_rfl
  have ex : ∀ y, ∃ v, (Lit.int .i64 y).wf = true → (RowAtKey b w.heap[b]? y v ∧ OwnE w base v (f y)) ∧ (v = .slice none 0 0 ∨ ∃ e ∈ es.toList, e.key = .int .i64 y ∧ e.val = v) := fun y => by
    by_cases hy : (Lit.int .i64 y).wf = true
    · obtain ⟨v, l, hlk, hat, hov, _⟩ := h.at hmax hy
      have hl : l = f y := by have h2 := (hc.row y).symm.trans hat; injection h2 with h2; exact h2.symm
      subst hl
      refine ⟨v, fun _ => ⟨⟨hlk, hov⟩, ?_⟩⟩
      have hkey : keyOf Try.prog 3 (.int .i64 y) = some (.int .i64 y) := keyOf_int_mk Try.underlying3 hy
      have h1 := hlk w rfl
      rcases Maps.fit_look (w := w) false key3 Try.underlying62 (hz w) hb F hkey with ⟨hrun, _, _⟩ | ⟨e0, z, hm0, h3, hrun, _⟩
      · rw [hrun] at h1
        cases h1
        exact .inl rfl
      · rw [hrun] at h1
        cases h1
        exact .inr ⟨e0, hm0, h3, rfl⟩
    · exact ⟨.slice none 0 0, fun h => absurd h hy⟩
  obtain ⟨V, hV⟩ := Classical.axiomOfChoice ex
  refine ⟨V, fun y hy => (hV y hy).1, fun y z hy hz' hne k hk hk' => ?_⟩
  rcases (hV y hy).2 with h1 | ⟨e, he, he1, he2⟩
  · rw [h1] at hk
    simp [blk, Value.ownBlock] at hk
  · rcases (hV z hz').2 with h1 | ⟨e', he', he1', he2'⟩
    · rw [h1] at hk'
      simp [blk, Value.ownBlock] at hk'
    · rw [← he2] at hk
      rw [← he2'] at hk'
      exact hap e he e' he' (by rw [he1, he1']; intro h; injection h with _ h; exact hne h) k hk hk'

/-- slices.Sort's two contracts at the fence that asks nothing -/
theorem sortsA (m : Nat) : AnyZI.SortsIn Try.prog LsortedA_ren Fence.wide m :=
  ⟨fun blk off cap ss W hH hblk hsz => callsIn_wide.2 (AnyM.slices_Sort_int LsortA blk off cap ss W hH hblk hsz),
   fun p cap W => callsIn_wide.2 (AnyM.slices_Sort_int_none LsortA p cap W)⟩

theorem keys_calls (mb : Option Nat) (w : World) : Calls Try.prog 60 #[.map mb] w fun e w' => e = .returned (.func (.func 76) #[] #[.pointer (some ⟨w.heap.size, 0, none⟩)]) ∧ w' = w.alloc (.cells #[.map mb] 62) :=
  callsIn_wide.1 (AnyZI.keys_in LkeysA Fence.wide 5 trivial rfl mb w)

/-- slices.Sorted of the keys of the map of changes -/
theorem sorted_calls {w : World} {base b n : Nat} {D : DE} (h : GrpE w base b n D) {f : Int → List E} {ks : Int → Prop} (hc : Cont D f ks) {ys : List Int} (hys : ys.Pairwise (· < ·)) (hk : ∀ z, ks z ↔ z ∈ ys) (hl : ys.length ≤ 100000) :
    Calls Try.prog 59 #[.func (.func 76) #[] #[.pointer (some ⟨w.heap.size, 0, none⟩)]] (w.alloc (.cells #[.map (some b)] 62)) fun e w' => ∃ v, e = .returned v ∧ OwnI w' (w.heap.size + 1) v ys ∧ Below (w.heap.size + 1) (w.alloc (.cells #[.map (some b)] 62)) w' := by
  have hown := h.owns
  have hbl := hown.lt
  have hsz : Maps.size D = ys.length := by
    obtain ⟨es, hD, _⟩ := hown.entries key3
    have h1 : Maps.size D = (intKeys D).length := by rw [hD]; simp [Maps.size, intKeys]
    have h2 := keys_sorted h hc (List.Perm.refl _) hys hk
    rw [h1, ← h2, List.length_mergeSort]
  have hseq : SeqGives Fence.wide 2 Try.prog 76 #[.pointer (some ⟨w.heap.size, 0, none⟩)] encZ (fun ss => ss.Perm (intKeys D)) (Maps.size D) (w.alloc (.cells #[.map (some b)] 62)) :=
    AnyZI.keys_gives (ρ := LkeysA_ren) { LkeysA with } Fence.wide _ trivial rfl (by omega) w.heap.size b n D _ (by simp) (by simp) (by
      obtain ⟨es, clock, hb, Ft, hs, hD⟩ := hown
      exact ⟨es, clock, (Below.heap_alloc _ _ b hbl).trans hb, Ft, hs, hD⟩)
  have cS := AnyZI.sorted_in LsortedA Fence.wide 5 trivial trivial trivial trivial rfl (by omega) (sortsA _) (enters_of Try.func75 (by kernel_rfl) rfl) 76 #[.pointer (some ⟨w.heap.size, 0, none⟩)] trivial (enters_of Try.func76 (by kernel_rfl) rfl) _ _ (by rw [hsz]; simp only [maxLen]; omega) (by rw [hsz]; omega) _ hseq
  change CallsIn _ _ Try.prog 59 _ _ _ at cS
  refine (callsIn_wide.1 cS).mono ?_
  rintro e w' ⟨v, ss, rfl, hS, hrow, _, hb⟩
  have h2 := keys_sorted h hc hS hys hk
  have hrow' : OwnI w' (w.heap.size + 1) v ys := by
    unfold OwnI
    rw [← h2, List.length_mergeSort]
    rw [World.size_alloc] at hrow
    exact hrow
  rw [World.size_alloc] at hb
  exact ⟨v, rfl, hrow', hb⟩

end Go.Proofs.Ytclnepijbnhdfaa
