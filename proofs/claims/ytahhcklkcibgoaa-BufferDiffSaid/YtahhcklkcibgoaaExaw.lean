/-
  exampleHolds: its walk.
-/
import Derived.Test.YtahhcklkcibgoaaExam
namespace Go.Proofs.Ytahhcklkcibgoaa
open Go.RowKit Mem

/-- boxes held, and something seen that stays -/
structure HeldX (w W : World) (l : List (Nat × List Value)) (q : World → Prop) : Prop where
  held : Held w W l
  fact : q W
  kept : ∀ W1 W2, Below W1.heap.size W1 W2 → q W1 → q W2

section
variable {w W W' : World} {l : List (Nat × List Value)} {q : World → Prop}
theorem HeldX.step (h : HeldX w W l q) (hb : Below W.heap.size W W') : HeldX w W' l q := ⟨h.held.step hb, h.kept _ _ hb h.fact, h.kept⟩
theorem HeldX.drew (h : HeldX w W l q) : HeldX w W.drew l q := h.step (Below.refl _ _).drew
theorem HeldX.drews (h : HeldX w W l q) (n : Nat) : HeldX w (W.drewN n) l q := h.step (below_draws (Below.refl _ _) n)
theorem HeldX.made (h : HeldX w W l q) (o : Obj) : HeldX w (W.alloc o) l q := h.step ((Below.refl _ _).alloc (Nat.le_refl _) o)
theorem HeldX.alloc (h : HeldX w W l q) (vs : List Value) (t : TypeId) : HeldX w (W.alloc (.cells vs.toArray t)) ((W.heap.size, vs) :: l) q :=
  ⟨h.held.alloc vs t, h.kept _ _ ((Below.refl _ _).alloc (Nat.le_refl _) _) h.fact, h.kept⟩
theorem HeldX.add {r : World → Prop} (h : HeldX w W l q) (hr : r W) (hk : ∀ W1 W2, Below W1.heap.size W1 W2 → r W1 → r W2) : HeldX w W l (fun V => r V ∧ q V) :=
  ⟨h.held, ⟨hr, h.fact⟩, fun W1 W2 hb ⟨h1, h2⟩ => ⟨hk W1 W2 hb h1, h.kept W1 W2 hb h2⟩⟩
theorem HeldX.addP {v : Value} {m : List Px} (h : HeldX w W l q) (hr : Pxs W v m) : HeldX w W l (fun V => Pxs V v m ∧ q V) := h.add hr fun _ _ hb h => h.below hb
theorem HeldX.addR {v : Value} {m : List R} (h : HeldX w W l q) (hr : Rs W v m) : HeldX w W l (fun V => Rs V v m ∧ q V) := h.add hr fun _ _ hb h => h.below hb
theorem HeldX.addS {v : Value} {m : List UInt8} (h : HeldX w W l q) (hr : Sees W v m) : HeldX w W l (fun V => Sees V v m ∧ q V) := h.add hr fun _ _ hb h => h.below hb
theorem Held.toX (h : Held w W l) : HeldX w W l (fun _ => True) := ⟨h, trivial, fun _ _ _ _ => trivial⟩
theorem HeldX.below (h : HeldX w W l q) : Below w.heap.size w W := h.held.below
end

/-- the boxes of the two colors -/
theorem heldE (w : World) : HeldX w ((w.alloc (.cells #[.int .u8 255, .int .u8 255, .int .u8 255, .int .u8 255] 30)).alloc (.cells #[.int .u8 0, .int .u8 0, .int .u8 0, .int .u8 255] 30)) [(w.heap.size + 1, [.int .u8 0, .int .u8 0, .int .u8 0, .int .u8 255]), (w.heap.size, [.int .u8 255, .int .u8 255, .int .u8 255, .int .u8 255])] (fun _ => True) := by
  have h := ((Held.nil w).alloc [.int .u8 255, .int .u8 255, .int .u8 255, .int .u8 255] 30).alloc [.int .u8 0, .int .u8 0, .int .u8 0, .int .u8 255] 30
  rw [World.size_alloc] at h
  exact h.toX

theorem x_call1 (W : World) {k : Nat} (hk : W.heap.size = k) : Calls Try.prog 23 #[.int .i64 2, .int .i64 1, .int .i64 1, .int .i64 4, .slice (some ⟨k, 0, none⟩) 4 4] (W.alloc (.cells #[.int .u8 1, .int .u8 2, .int .u8 3, .int .u8 0] 5)) fun e w' => ∃ g c, e = .returned (.tuple #[.agg #[.int .i64 1, .int .i64 1, .slice (some ⟨g, 0, none⟩) 1 c], .int .i64 0]) ∧ Pxs w' (.slice (some ⟨g, 0, none⟩) 1 c) [⟨3, 2, 1, 255⟩] ∧ Below (W.alloc (.cells #[.int .u8 1, .int .u8 2, .int .u8 3, .int .u8 0] 5)).heap.size (W.alloc (.cells #[.int .u8 1, .int .u8 2, .int .u8 3, .int .u8 0] 5)) w' := by
  subst hk
  exact x_dec1 (sees_made W [1, 2, 3, 0] (by decide) (by decide))

theorem x_call4 (W : World) {k j : Nat} (hk : W.heap.size = k) (hj : (W.alloc (.cells #[.int .u8 255, .int .u8 255, .int .u8 255, .int .u8 255, .int .u8 255, .int .u8 255, .int .u8 255, .int .u8 255, .int .u8 255, .int .u8 255, .int .u8 255, .int .u8 255] 30)).heap.size = j) :
    Calls Try.prog 34 #[.agg #[.int .i64 3, .int .i64 1, .slice (some ⟨k, 0, none⟩) 3 3], .agg #[.int .i64 3, .int .i64 1, .slice (some ⟨j, 0, none⟩) 3 3]] ((W.alloc (.cells #[.int .u8 255, .int .u8 255, .int .u8 255, .int .u8 255, .int .u8 255, .int .u8 255, .int .u8 255, .int .u8 255, .int .u8 255, .int .u8 255, .int .u8 255, .int .u8 255] 30)).alloc (.cells #[.int .u8 255, .int .u8 255, .int .u8 255, .int .u8 255, .int .u8 0, .int .u8 0, .int .u8 0, .int .u8 255, .int .u8 255, .int .u8 255, .int .u8 255, .int .u8 255] 30))
      fun e w' => ∃ A c, e = .returned (.tuple #[.slice A 1 c, .int .i64 0]) ∧ Rs w' (.slice A 1 c) [⟨1, 0, 2, 1⟩] ∧ Below (W.alloc (.cells #[.int .u8 255, .int .u8 255, .int .u8 255, .int .u8 255, .int .u8 255, .int .u8 255, .int .u8 255, .int .u8 255, .int .u8 255, .int .u8 255, .int .u8 255, .int .u8 255] 30)).heap.size (W.alloc (.cells #[.int .u8 255, .int .u8 255, .int .u8 255, .int .u8 255, .int .u8 255, .int .u8 255, .int .u8 255, .int .u8 255, .int .u8 255, .int .u8 255, .int .u8 255, .int .u8 255] 30)) w' := by
  have h1 := pxs_made W [whP, whP, whP] (by decide)
  have h2 := pxs_made (W.alloc (.cells (flat [whP, whP, whP]).toArray 30)) [whP, blP, whP] (by decide)
  have hb : Below (W.alloc (.cells (flat [whP, whP, whP]).toArray 30)).heap.size (W.alloc (.cells (flat [whP, whP, whP]).toArray 30)) ((W.alloc (.cells (flat [whP, whP, whP]).toArray 30)).alloc (.cells (flat [whP, blP, whP]).toArray 30)) := (Below.refl _ _).alloc (Nat.le_refl _) _
  subst hk hj
  refine (x_diff (h1.below hb) h2).mono ?_
  rintro e w' ⟨A, c, rfl, h3, h4⟩
  exact ⟨A, c, rfl, h3, hb.trans (h4.mono hb.size)⟩

theorem x_call5 (W : World) {k : Nat} (hk : W.heap.size = k) : Calls Try.prog 27 #[.agg #[.int .i64 2, .int .i64 2, .slice (some ⟨k, 0, none⟩) 4 4], .agg #[.int .i64 1, .int .i64 0, .int .i64 3, .int .i64 1]] (W.alloc (.cells #[.int .u8 255, .int .u8 255, .int .u8 255, .int .u8 255, .int .u8 255, .int .u8 255, .int .u8 255, .int .u8 255, .int .u8 255, .int .u8 255, .int .u8 255, .int .u8 255, .int .u8 255, .int .u8 255, .int .u8 255, .int .u8 255] 30)) (NoBuf 6 (W.alloc (.cells #[.int .u8 255, .int .u8 255, .int .u8 255, .int .u8 255, .int .u8 255, .int .u8 255, .int .u8 255, .int .u8 255, .int .u8 255, .int .u8 255, .int .u8 255, .int .u8 255, .int .u8 255, .int .u8 255, .int .u8 255, .int .u8 255] 30))) := by
  subst hk
  exact x_crp (pxs_made W [whP, whP, whP, whP] (by decide))

theorem rs_1at {W : World} {A : Option Addr} {c : Nat} (h : Rs W (.slice A 1 c) [⟨1, 0, 2, 1⟩]) : ∃ b off, A = some ⟨b, off, none⟩ ∧ b < W.heap.size ∧ W.cell? ⟨b, off, none⟩ = some (.int .i64 1) ∧ W.cell? ⟨b, off + 1, none⟩ = some (.int .i64 0) ∧ W.cell? ⟨b, off + 2, none⟩ = some (.int .i64 2) ∧ W.cell? ⟨b, off + 3, none⟩ = some (.int .i64 1) := by
  obtain ⟨A', c', hv, _, _, hc⟩ := h
  obtain ⟨b, off, hA, hb, hcs⟩ := hc (Nat.zero_lt_one)
  injection hv with e
  subst e
  have h0 := hcs 0 ⟨1, 0, 2, 1⟩ rfl
  rw [Nat.zero_mul, Nat.add_zero] at h0
  exact ⟨b, off, hA, hb, h0⟩
theorem ps_one {W : World} {g c : Nat} (h : Pxs W (.slice (some ⟨g, 0, none⟩) 1 c) [⟨3, 2, 1, 255⟩]) : g < W.heap.size ∧ W.cell? ⟨g, 0, none⟩ = some (.int .u8 3) ∧ W.cell? ⟨g, 1, none⟩ = some (.int .u8 2) ∧ W.cell? ⟨g, 2, none⟩ = some (.int .u8 1) ∧ W.cell? ⟨g, 3, none⟩ = some (.int .u8 255) := by
  obtain ⟨A', c', hv, _, _, hc⟩ := h
  obtain ⟨b, off, hA, hb, hcs⟩ := hc (Nat.zero_lt_one)
  injection hv with e
  subst e
  injection hA with hA
  injection hA with e0 e1
  subst e0 e1
  exact ⟨hb, hcs 0 ⟨3, 2, 1, 255⟩ rfl⟩

set_option maxRecDepth 100000 in
set_option maxHeartbeats 4000000 in
theorem example_any (w : World) : Calls Try.prog 14 #[] w (Says true w) := by
  have J := Lib.hid (heldE w)
  have E1 := fun W => x_eqp W
  have E2 := fun W => x_eqr W
  have C1 := fun W k hk => Lib.hid (x_call1 W (k := k) hk)
  have C2 := fun A n c W => Lib.hid (x_dec2 A n c W)
  have C3 := fun A c W => Lib.hid (x_dec3 A c W)
  have C4 := fun W k j hk hj => Lib.hid (x_call4 W (k := k) (j := j) hk hj)
  have C5 := fun W k hk => Lib.hid (x_call5 W (k := k) hk)
  go_enter Try.func14, Try.ntmps14
  go_wp2_with fail
  have hs0 : ((w.alloc (.cells #[.int .u8 255, .int .u8 255, .int .u8 255, .int .u8 255] 30)).alloc (.cells #[.int .u8 0, .int .u8 0, .int .u8 0, .int .u8 255] 30)).heap.size = w.heap.size + 1 + 1 := by rw [World.size_alloc, World.size_alloc]
  generalize (w.alloc (.cells #[.int .u8 255, .int .u8 255, .int .u8 255, .int .u8 255] 30)).alloc (.cells #[.int .u8 0, .int .u8 0, .int .u8 0, .int .u8 255] 30) = w0 at *
  with_reducible refine (C1 w0 _ hs0).out.mono ?_
  rintro e w1 ⟨g, c1, rfl, hp, hb⟩
  replace J := Lib.hid (((J.out.made _).step hb).addP hp)
  clear hb hp hs0
  go_wp2_with fail
  replace J := Lib.hid (J.out.alloc [.int .i64 1, .int .i64 1, .slice (some ⟨g, 0, none⟩) 1 c1] 24)
  generalize w1.alloc (.cells #[.int .i64 1, .int .i64 1, .slice (some ⟨g, 0, none⟩) 1 c1] 24) = u1 at *
  generalize w1.heap.size = k1 at *
  with_reducible refine (C2 _ _ _ _).out.mono ?_
  rintro e w2 ⟨A2, c2, rfl, hb⟩
  replace J := Lib.hid ((J.out.made _).step hb)
  clear hb
  go_wp2_with fail
  replace J := Lib.hid (J.out.made (.cells #[.int .i64 0, .int .i64 0, .slice A2 0 c2] 24))
  generalize w2.alloc (.cells #[.int .i64 0, .int .i64 0, .slice A2 0 c2] 24) = u2 at *
  generalize w2.heap.size = k2 at *
  with_reducible refine (C3 _ _ _).out.mono ?_
  rintro e w3 ⟨A3, c3, rfl, hb⟩
  replace J := Lib.hid ((J.out.made _).step hb)
  clear hb
  obtain ⟨b0, b1, b2, b3, _, bt⟩ := J.out.held.four (l1 := [_])
  obtain ⟨a0, a1, a2, a3, _, at0⟩ := J.out.held.four (l1 := [_, _])
  go_wp2_with fail
  clear b0 b1 b2 b3 bt a0 a1 a2 a3 at0
  replace J := Lib.hid (J.out.made (.cells #[.int .i64 0, .int .i64 0, .slice A3 0 c3] 24))
  have hs3 : (w3.alloc (.cells #[.int .i64 0, .int .i64 0, .slice A3 0 c3] 24)).heap.size = w3.heap.size + 1 := by rw [World.size_alloc]
  generalize w3.alloc (.cells #[.int .i64 0, .int .i64 0, .slice A3 0 c3] 24) = u3 at *
  generalize w3.heap.size = k3 at *
  with_reducible refine (C4 u3 _ _ hs3 (by rw [World.size_alloc, hs3])).out.mono ?_
  rintro e w4 ⟨A4, c4, rfl, hr, hb⟩
  replace J := Lib.hid (((J.out.made _).step hb).addR hr)
  clear hb hr hs3
  obtain ⟨a0, a1, a2, a3, _, at0⟩ := J.out.held.four (l1 := [_, _])
  go_wp2_with fail
  clear a0 a1 a2 a3 at0
  with_reducible refine (C5 w4 _ rfl).out.mono ?_
  rintro e w5 ⟨A5, c5, rfl, hb⟩
  replace J := Lib.hid ((J.out.made _).step hb)
  clear hb C1 C2 C3 C4 C5
  obtain ⟨m0, m1, m2, _, mt⟩ := J.out.held.tri (l1 := [])
  obtain ⟨bb, off, rfl, hbb, r0, r1, r2, r3⟩ := rs_1at J.out.fact.1
  obtain ⟨hgg, p0, p1, p2, p3⟩ := ps_one J.out.fact.2.1
  replace J := Lib.hid (J.out.made (.cells #[.int .i64 0, .int .i64 0, .slice A5 0 c5] 24))
  go_wp2_with fail
  go_ret
  exact ⟨rfl, J.out.below⟩

end Go.Proofs.Ytahhcklkcibgoaa
