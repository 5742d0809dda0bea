/-
  An item read back and compared; plain laws of a list's encoding; cells kept.
-/
import Derived.Test.YtealpmcpaakclaaPlain
import Derived.Test.YtealpmcpaakclaaOpen
import Derived.Deep.RegionHeld3
namespace Go.Proofs.Ytealpmcpaakclaa
open Go.ChangeShapes Go.WideShapes Go.ChangeAt Go.RowKit Mem Wire

/-- what reading an item back leaves -/
def ReadsBack (w : World) (g : Nat) (t : It) (r : List UInt8) (e : Ending) (w' : World) : Prop :=
  ∃ u : It, e = .returned u.val ∧ u.ok w' ∧ u.eq t = true ∧ Rdr w' g (r, 0) ∧ w.grownBy w' (some g)

theorem read_back {w : World} {g : Nat} {t : It} {r : List UInt8} (hr : Rdr w g (t.enc ++ r, 0)) (hlen : (t.enc ++ r).length ≤ 1000000) (hn : t.n < 4294967296) (hb : t.b.length ≤ 300) (hrd : t.readable = true) :
    Calls Try.prog 34 #[.pointer (some ⟨g, 0, none⟩), .int .i64 t.k, .int .i64 (t.b.length : Int)] w (ReadsBack w g t r) := by
  refine (read_any t.k (t.b.length : Int) hr (by omega) hlen).mono ?_
  rintro e w' ⟨v, rfl, hs, hr', hg⟩
  rw [read_enc t r hn (by omega) hrd _ (by omega)] at hs hr'
  dsimp only at hs hr'
  by_cases h0 : t.k = 0 ∨ t.k = 1
  · rw [read_enc t r hn (by omega) hrd _ (by omega), if_pos h0]
    rw [if_pos h0] at hs
    exact ⟨⟨t.k, t.n, v, []⟩, rfl, ⟨hs, hn⟩, by simp [It.eq, h0], hr', hg⟩
  · rw [read_enc t r hn (by omega) hrd _ (by omega), if_neg h0]
    rw [if_neg h0] at hs
    exact ⟨⟨t.k, 0, v, t.b⟩, rfl, ⟨hs, by simp⟩, by simp [It.eq, h0], hr', hg⟩

theorem enc_mod (t : It) : t.enc.length % 4 = 0 := by
  unfold It.enc
  split
  · simp [enc4]
  · simp only [encA, enc4, List.length_append, List.length_cons, List.length_nil, List.length_replicate, pad]
    omega

theorem encAll_mod : ∀ l : List It, (encAll l).length % 4 = 0
  | [] => rfl
  | t :: l => by
    have h1 := enc_mod t
    have h2 := encAll_mod l
    simp only [encAll, List.flatMap_cons, List.length_append] at h2 ⊢
    omega

theorem encAll_drop {l : List It} {k : Nat} {t : It} (h : l[k]? = some t) : encAll (l.drop k) = t.enc ++ encAll (l.drop (k + 1)) := by
  have hk := (List.getElem?_eq_some_iff.1 h).1
  have he : l[k] = t := (List.getElem?_eq_some_iff.1 h).2
  rw [List.drop_eq_getElem_cons hk, he]
  simp [encAll]

def AllReadable (l : List It) (j : Nat) : Prop := ∀ i, i < j → ∀ t, l[i]? = some t → t.readable = true

/-- the relation of the second loop -/
def Back (w : World) (g : Nat) (l : List It) (j : Nat) (wr : World) : Prop := Rdr wr g (encAll (l.drop j), 0) ∧ Below w.heap.size w wr

theorem items_cells {w : World} {v : Value} {l : List It} (h : Items w v l) (hn : 0 < l.length) : ∃ b off cap, v = .slice (some ⟨b, off, none⟩) l.length cap ∧ b < w.heap.size := by
  obtain ⟨A, cap, rfl, _, _, _, h4⟩ := h
  obtain ⟨b, off, rfl, hb, _⟩ := h4 hn
  exact ⟨b, off, cap, rfl, hb⟩

theorem cells_below {W W' : World} {h a b c : Nat} {x y z : Value} (hh : h < W.heap.size) (hb : Below W.heap.size W W')
    (hc : W.cell? ⟨h, a, none⟩ = some x ∧ W.cell? ⟨h, b, none⟩ = some y ∧ W.cell? ⟨h, c, none⟩ = some z) :
    W'.cell? ⟨h, a, none⟩ = some x ∧ W'.cell? ⟨h, b, none⟩ = some y ∧ W'.cell? ⟨h, c, none⟩ = some z :=
  ⟨(hb.cell (p := ⟨h, a, none⟩) hh).trans hc.1, (hb.cell (p := ⟨h, b, none⟩) hh).trans hc.2.1, (hb.cell (p := ⟨h, c, none⟩) hh).trans hc.2.2⟩

theorem cells_grown {W W' : World} {h g a b c : Nat} {x y z : Value} (hh : h < W.heap.size) (hg : W.grownBy W' (some g)) (hne : h ≠ g)
    (hc : W.cell? ⟨h, a, none⟩ = some x ∧ W.cell? ⟨h, b, none⟩ = some y ∧ W.cell? ⟨h, c, none⟩ = some z) :
    W'.cell? ⟨h, a, none⟩ = some x ∧ W'.cell? ⟨h, b, none⟩ = some y ∧ W'.cell? ⟨h, c, none⟩ = some z := by
  have hk : ∀ o, W'.cell? ⟨h, o, none⟩ = W.cell? ⟨h, o, none⟩ := fun o => World.cell?_of_block (hg.block h hh (fun e => hne (by injection e)))
  rw [hk, hk, hk]
  exact hc

theorem It.ok.drew {w : World} {t : It} (h : t.ok w) : t.ok w.drew := h

theorem It.ok.grown {w w' : World} {t : It} {g : Nat} {s : St} (h : t.ok w) (hg : w.grownBy w' (some g)) (hr : Rdr w g s) : t.ok w' := ⟨h.1.grown hg hr.noByte, h.2⟩

theorem equal_back {w : World} {u t : It} (hu : u.ok w) (ht : t.ok w) (he : u.eq t = true) : Calls Try.prog 33 #[u.val, t.val] w (Says true w) := by
  have h := equal_any hu ht
  rw [he] at h
  exact h

theorem err_zero {g : Nat} {r : List UInt8} {w : World} (hr : Rdr w g (r, 0)) : Calls Try.prog 27 #[.pointer (some ⟨g, 0, none⟩)] w fun e w' => e = .returned (.int .i64 0) ∧ w = w' := err_any hr

end Go.Proofs.Ytealpmcpaakclaa
