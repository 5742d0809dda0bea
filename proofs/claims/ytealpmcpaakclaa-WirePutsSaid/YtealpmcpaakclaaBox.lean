/-
  The box that a law's own parameter of struct type gets, and one item in a new row.
-/
import Derived.Test.YtealpmcpaakclaaPlain
import Derived.Test.YtealpmcpaakclaaOpen
namespace Go.Proofs.Ytealpmcpaakclaa
open Go.ChangeShapes Go.WideShapes Go.ChangeAt Go.RowKit Mem Wire

/-- the box of an item that a law's own parameter gets -/
structure Boxed (w1 : World) (h : Nat) (t : It) (W : World) : Prop where
  k : W.cell? ⟨h, 0, none⟩ = some (.int .i64 t.k)
  n : W.cell? ⟨h, 1, none⟩ = some (.int .u32 (t.n : Int))
  v : W.cell? ⟨h, 2, none⟩ = some t.v
  ok : t.ok W
  below : Below w1.heap.size w1 W

theorem boxed_new {w : World} {t : It} (ht : t.ok w) : Boxed (w.alloc (.cells t.cells 25)) w.heap.size t (w.alloc (.cells t.cells 25)) := by
  refine ⟨?_, ?_, ?_, ht.below ((Below.refl _ _).alloc (Nat.le_refl _) _), Below.refl _ _⟩ <;> (rw [World.cell?_alloc_at _ _ _ _ rfl]; rfl)

theorem Boxed.step {w1 W W' : World} {h : Nat} {t : It} (hx : Boxed w1 h t W) (hh : h < w1.heap.size) (hb : Below W.heap.size W W') : Boxed w1 h t W' := by
  have hlt : h < W.heap.size := Nat.lt_of_lt_of_le hh hx.below.size
  exact ⟨(hb.cell (p := ⟨h, 0, none⟩) hlt).trans hx.k, (hb.cell (p := ⟨h, 1, none⟩) hlt).trans hx.n, (hb.cell (p := ⟨h, 2, none⟩) hlt).trans hx.v, hx.ok.below hb, hx.below.trans (hb.mono hx.below.size)⟩

theorem Boxed.grown {w1 W W' : World} {h g : Nat} {t : It} {s : St} (hx : Boxed w1 h t W) (hh : h < w1.heap.size) (hg : W.grownBy W' (some g)) (hr : Rdr W g s) (hge : w1.heap.size ≤ g) : Boxed w1 h t W' := by
  have hlt : h < W.heap.size := Nat.lt_of_lt_of_le hh hx.below.size
  have hne : some h ≠ some g := fun e => by injection e with e; omega
  have hc : ∀ o, W'.cell? ⟨h, o, none⟩ = W.cell? ⟨h, o, none⟩ := fun o => World.cell?_of_block (hg.block h hlt hne)
  exact ⟨(hc 0).trans hx.k, (hc 1).trans hx.n, (hc 2).trans hx.v, ⟨hx.ok.1.grown hg hr.noByte, hx.ok.2⟩, hx.below.grown hg hx.below.size (fun k hk => by injection hk with hk; omega)⟩

/-- one item in a new row -/
theorem items_one {w : World} {t : It} (ht : t.ok w) : Items (w.alloc (.cells t.cells 25)) (.slice (some ⟨w.heap.size, 0, none⟩) 1 1) [t] := by
  have hb : Below w.heap.size w (w.alloc (.cells t.cells 25)) := (Below.refl _ _).alloc (Nat.le_refl _) _
  refine ⟨_, _, rfl, Nat.le_refl _, by simp [maxLen], fun u hu => ?_, fun _ => ⟨w.heap.size, 0, rfl, by simp, fun j u hu => ?_⟩⟩
  · simp only [List.mem_singleton] at hu; subst hu; exact ht.below hb
  · match j, hu with
    | 0, hu =>
      simp only [List.getElem?_cons_zero, Option.some.injEq] at hu
      subst hu
      refine ⟨?_, ?_, ?_⟩ <;> (rw [World.cell?_alloc_at _ _ _ _ rfl]; rfl)

end Go.Proofs.Ytealpmcpaakclaa
