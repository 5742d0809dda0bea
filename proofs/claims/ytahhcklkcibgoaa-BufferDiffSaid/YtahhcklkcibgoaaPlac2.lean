/-
  place of package buffer: its walks, with copyRow and with blendRow.
-/
import Derived.Test.YtahhcklkcibgoaaPlace
namespace Go.Proofs.Ytahhcklkcibgoaa
open Go.RowKit

theorem Held.six {w W : World} {l1 l2 : List (Nat × List Value)} {k j : Nat} {x0 x1 x2 y0 y1 y2 : Value} (h : Held w W (l1 ++ (j, [y0, y1, y2]) :: (k, [x0, x1, x2]) :: l2)) :
    W.cell? ⟨k, 0, none⟩ = some x0 ∧ W.cell? ⟨k, 1, none⟩ = some x1 ∧ W.cell? ⟨k, 2, none⟩ = some x2 ∧ W.cell? ⟨j, 0, none⟩ = some y0 ∧ W.cell? ⟨j, 1, none⟩ = some y1 ∧ W.cell? ⟨j, 2, none⟩ = some y2 := by
  have h2 : Held w W ((l1 ++ [(j, [y0, y1, y2])]) ++ (k, [x0, x1, x2]) :: l2) := by rw [List.append_assoc]; exact h
  obtain ⟨a0, a1, a2, _, _⟩ := h.tri
  obtain ⟨b0, b1, b2, _, _⟩ := h2.tri
  exact ⟨b0, b1, b2, a0, a1, a2⟩

theorem HeldG.ten {g : Nat} {w W : World} {k j m : Nat} {x0 x1 x2 y0 y1 y2 z0 z1 z2 z3 : Value} (h : HeldG g w W [(m, [z0, z1, z2, z3]), (j, [y0, y1, y2]), (k, [x0, x1, x2])]) :
    W.cell? ⟨k, 0, none⟩ = some x0 ∧ W.cell? ⟨k, 1, none⟩ = some x1 ∧ W.cell? ⟨k, 2, none⟩ = some x2 ∧ W.cell? ⟨j, 0, none⟩ = some y0 ∧ W.cell? ⟨j, 1, none⟩ = some y1 ∧ W.cell? ⟨j, 2, none⟩ = some y2 ∧
      W.cell? ⟨m, 0, none⟩ = some z0 ∧ W.cell? ⟨m, 1, none⟩ = some z1 ∧ W.cell? ⟨m, 2, none⟩ = some z2 ∧ W.cell? ⟨m, 3, none⟩ = some z3 := by
  obtain ⟨a0, a1, a2, a3, _, _⟩ := h.four (l1 := [])
  obtain ⟨b0, b1, b2, _, _⟩ := h.tri (l1 := [_])
  obtain ⟨c0, c1, c2, _, _⟩ := h.tri (l1 := [_, _])
  exact ⟨c0, c1, c2, b0, b1, b2, a0, a1, a2, a3⟩


set_option maxRecDepth 100000 in
set_option maxHeartbeats 8000000 in
theorem place_copy {a b sa sb : Nat} {L s : List Px} (ha : 1 ≤ a ∧ a ≤ 256) (hb : 1 ≤ b ∧ b ≤ 256) (hsa : 1 ≤ sa ∧ sa ≤ 256) (hsb : 1 ≤ sb ∧ sb ≤ 256) (hL : L.length = a * b) (hs : s.length = sa * sb) (x y : Int) {w : World} {g n c bs off m cm : Nat}
    (hr : RowP w g L) (hn : n = a * b) (hc : n ≤ c) (hcm : c ≤ maxLen) (hsee : ∀ j p, s[j]? = some p → At4 w bs off j p) (hbs : bs < w.heap.size) (hne : bs ≠ g) (hm : m = sa * sb) (hmc : m ≤ cm) (hmm : cm ≤ maxLen) (hLb : ∀ p ∈ L, Byt p) (hsby : ∀ p ∈ s, Byt p) :
    Calls Try.prog 51 #[.agg #[.int .i64 (a : Int), .int .i64 (b : Int), .slice (some ⟨g, 0, none⟩) n c], .agg #[.int .i64 (sa : Int), .int .i64 (sb : Int), .slice (some ⟨bs, off, none⟩) m cm], .int .i64 x, .int .i64 y, .func (.func 52) #[] #[]] w fun e w' => e = .returned (.tuple #[]) ∧ RowP w' g (putL (fun p _ => p) a L sa sb s x y) ∧ w.grownBy w' (some g) := by
  have J := Lib.hid (heldB w a b (.slice (some ⟨g, 0, none⟩) n c) sa sb (.slice (some ⟨bs, off, none⟩) m cm))
  have C1 := fun W => Lib.hid (frame_any a b (some ⟨g, 0, none⟩) n c W)
  have C2 := fun W => Lib.hid (frame_any sa sb (some ⟨bs, off, none⟩) m cm W)
  have C3 := fun W => Lib.hid (trans_any (frR sa sb) x y W)
  have C4 := fun W => Lib.hid (int_any (frR a b) (trR (frR sa sb) x y) W)
  have HG := Lib.hid hr
  have HSE := Lib.hid hsee
  have HSB := Lib.hid hsby
  have hcov := cov_rect ha hb hsa hsb x y
  generalize trR (frR sa sb) x y = T at *
  generalize hR : intR (frR a b) T = R at *
  have HN := Lib.hid hn
  have HM := Lib.hid hm
  have HL := Lib.hid hL
  have HS := Lib.hid hs
  clear hR hr hsee hn hm hL hs
  dsimp only [frR] at C3 C4
  have hgw := HG.out.2.2
  go_enter Try.func51, Try.ntmps51
  go_wp2_with fail
  have q0 : w.heap.size ≠ w.heap.size + 1 := by omega
  unfold WB at J
  generalize (w.alloc (.cells #[.int .i64 (a : Int), .int .i64 (b : Int), .slice (some ⟨g, 0, none⟩) n c] 24)).alloc (.cells #[.int .i64 (sa : Int), .int .i64 (sb : Int), .slice (some ⟨bs, off, none⟩) m cm] 24) = W1 at *
  go_upto_region 1 with fail
  go_cut [10] from 12 to 19 (fun s10 wx => ∃ mm : Nat, s10 = .pointer (some ⟨mm, 0, none⟩) ∧ Hid (Held w wx [(mm, [.int .i64 R.x0, .int .i64 R.y0, .int .i64 R.x1, .int .i64 R.y1]), (w.heap.size + 1, [.int .i64 (sa : Int), .int .i64 (sb : Int), .slice (some ⟨bs, off, none⟩) m cm]), (w.heap.size, [.int .i64 (a : Int), .int .i64 (b : Int), .slice (some ⟨g, 0, none⟩) n c])]))
  case first =>
    have sk := J.out.drew.six (l1 := [])
    have sa0 := (J.out.made (.cells #[.int .i64 0, .int .i64 0, .int .i64 0, .int .i64 0] 44)).drew.six (l1 := [])
    go_region_held3 (fun W => W.cell? ⟨w.heap.size, 0, none⟩ = some (.int .i64 (a : Int)) ∧ W.cell? ⟨w.heap.size, 1, none⟩ = some (.int .i64 (b : Int)) ∧ W.cell? ⟨w.heap.size, 2, none⟩ = some (.slice (some ⟨g, 0, none⟩) n c) ∧ W.cell? ⟨w.heap.size + 1, 0, none⟩ = some (.int .i64 (sa : Int)) ∧ W.cell? ⟨w.heap.size + 1, 1, none⟩ = some (.int .i64 (sb : Int)) ∧ W.cell? ⟨w.heap.size + 1, 2, none⟩ = some (.slice (some ⟨bs, off, none⟩) m cm))
      (first
        | with_reducible exact sk
        | with_reducible exact sa0
        | exact sz.out
        | exact sk
        | exact sa0
        | go_keep)
      (first
        | (go_at_call 44; (with_reducible refine (C1 _).out.mono ?_); rintro e w1 ⟨rfl, hb1⟩; (first | replace J := Lib.hid (J.out.step hb1) | replace J := Lib.hid (J.out.drew.step hb1) | replace J := Lib.hid ((J.out.alloc [.int .i64 0, .int .i64 0, .int .i64 0, .int .i64 0] 44).step hb1) | replace J := Lib.hid ((J.out.alloc [.int .i64 0, .int .i64 0, .int .i64 0, .int .i64 0] 44).drew.step hb1)); (try clear sk); (try clear sa0); (first | have sk := J.out.six (l1 := []) | have sk := J.out.six (l1 := [_])); (first | have sa0 := (J.out.made (.cells #[.int .i64 0, .int .i64 0, .int .i64 0, .int .i64 0] 44)).six (l1 := []) | have sa0 := (J.out.made (.cells #[.int .i64 0, .int .i64 0, .int .i64 0, .int .i64 0] 44)).six (l1 := [_])); clear hb1)
        | (go_at_call 44; (with_reducible refine (C2 _).out.mono ?_); rintro e w1 ⟨rfl, hb1⟩; (first | replace J := Lib.hid (J.out.step hb1) | replace J := Lib.hid (J.out.drew.step hb1) | replace J := Lib.hid ((J.out.alloc [.int .i64 0, .int .i64 0, .int .i64 0, .int .i64 0] 44).step hb1) | replace J := Lib.hid ((J.out.alloc [.int .i64 0, .int .i64 0, .int .i64 0, .int .i64 0] 44).drew.step hb1)); (try clear sk); (try clear sa0); (first | have sk := J.out.six (l1 := []) | have sk := J.out.six (l1 := [_])); (first | have sa0 := (J.out.made (.cells #[.int .i64 0, .int .i64 0, .int .i64 0, .int .i64 0] 44)).six (l1 := []) | have sa0 := (J.out.made (.cells #[.int .i64 0, .int .i64 0, .int .i64 0, .int .i64 0] 44)).six (l1 := [_])); clear hb1)
        | (go_at_call 68; (with_reducible refine (C3 _).out.mono ?_); rintro e w1 ⟨rfl, hb1⟩; (first | replace J := Lib.hid (J.out.step hb1) | replace J := Lib.hid (J.out.drew.step hb1) | replace J := Lib.hid ((J.out.alloc [.int .i64 0, .int .i64 0, .int .i64 0, .int .i64 0] 44).step hb1) | replace J := Lib.hid ((J.out.alloc [.int .i64 0, .int .i64 0, .int .i64 0, .int .i64 0] 44).drew.step hb1)); (try clear sk); (try clear sa0); (first | have sk := J.out.six (l1 := []) | have sk := J.out.six (l1 := [_])); (first | have sa0 := (J.out.made (.cells #[.int .i64 0, .int .i64 0, .int .i64 0, .int .i64 0] 44)).six (l1 := []) | have sa0 := (J.out.made (.cells #[.int .i64 0, .int .i64 0, .int .i64 0, .int .i64 0] 44)).six (l1 := [_])); clear hb1)
        | (go_at_call 66; (with_reducible refine (C4 _).out.mono ?_); rintro e w1 ⟨rfl, hb1⟩; (first | replace J := Lib.hid (J.out.step hb1) | replace J := Lib.hid (J.out.drew.step hb1) | replace J := Lib.hid ((J.out.alloc [.int .i64 0, .int .i64 0, .int .i64 0, .int .i64 0] 44).step hb1) | replace J := Lib.hid ((J.out.alloc [.int .i64 0, .int .i64 0, .int .i64 0, .int .i64 0] 44).drew.step hb1)); (try clear sk); (try clear sa0); (first | have sk := J.out.six (l1 := []) | have sk := J.out.six (l1 := [_])); (first | have sa0 := (J.out.made (.cells #[.int .i64 0, .int .i64 0, .int .i64 0, .int .i64 0] 44)).six (l1 := []) | have sa0 := (J.out.made (.cells #[.int .i64 0, .int .i64 0, .int .i64 0, .int .i64 0] 44)).six (l1 := [_])); (try obtain ⟨z0, z1, z2, z3, zf, zt⟩ := J.out.four (l1 := [])); (try (have sz := Lib.hid ((J.out.set4 (l1 := []) (.int .i64 R.x0) (.int .i64 R.y0) (.int .i64 R.x1) (.int .i64 R.y1)).six (l1 := [_])))); clear hb1)
        | fail)
    all_goals
      (try clear sa0)
      (try clear sz)
      (try clear z0 z1 z2 z3 zf zt)
      clear sk
      go_wp2_with fail
      go_meet
      first
        | exact ⟨_, rfl, Lib.hid (J.out.alloc [.int .i64 R.x0, .int .i64 R.y0, .int .i64 R.x1, .int .i64 R.y1] 44)⟩
        | exact ⟨_, rfl, Lib.hid (J.out.set4 (l1 := []) (.int .i64 R.x0) (.int .i64 R.y0) (.int .i64 R.x1) (.int .i64 R.y1))⟩
  case rest =>
    obtain ⟨mm, rfl, JJ⟩ := hcut
    clear J C1 C2 C3 C4
    rcases hcov with ⟨rfl, hno⟩ | ⟨x0, x1, y0, y1, rfl, hx, hxa, hyl, hyb, hX0, hX1, hY0, hY1, hc2⟩
    · have HP := Lib.hid (put_none (F := fun p _ => p) (s := s) ha.1 HL.out hno)
      have HZ : Hid (RowP wc g (putL (fun p _ => p) a L sa sb s x y) ∧ w.grownBy wc (some g)) := Lib.hid ⟨by rw [HP.out]; exact HG.out.keep JJ.out.below hgw, grown_below JJ.out.below _⟩
      obtain ⟨z0, z1, z2, z3, _, _⟩ := JJ.out.four (l1 := [])
      simp only [zeroR] at z0 z1 z2 z3
      clear hno HP
      go_wp2_with fail
      go_loopw [11] (fun s11 wr => s11 = .int .i64 0 ∧ wr = wc) (fun _ _ => 0)
      case atStart => exact ⟨rfl, rfl⟩
      case round =>
        obtain ⟨rfl, rfl⟩ := hrel
        go_wp2_with fail
        go_end0
        exact ⟨rfl, HZ.out⟩
    · obtain ⟨z0, z1, z2, z3, _, _⟩ := JJ.out.four (l1 := [])
      have hla : 1 ≤ a := ha.1
      have HFI := Lib.hid (line_first (F := fun p _ => p) (s := s) (l := L) hla HL.out (by omega : y0 ≤ b) hc2)
      have HLA := Lib.hid (line_last (F := fun p _ => p) (s := s) (l := L) hla HL.out hc2)
      have HNX := fun t (h0 : y0 ≤ t) (h1 : t < y1) => Lib.hid (line_next (F := fun p _ => p) (s := s) (l := L) hla HL.out hx hxa hyb h0 h1 hX0 hY0 hc2)
      have HBY := fun t => Lib.hid (done_byt (m := t * a) hLb (fun k hk => new_byt (F := fun p _ => p) (sb := sb) (a := a) (sa := sa) (x := x) (y := y) (fun _ _ h _ => h) hLb hsby k hk))
      have G0 : Hid (RowP wc g (doneL (newP (fun p _ => p) a L sa sb s x y) L (y0 * a)) ∧ HeldG g w wc [(mm, [.int .i64 (x0 : Int), .int .i64 (y0 : Int), .int .i64 (x1 : Int), .int .i64 (y1 : Int)]), (w.heap.size + 1, [.int .i64 (sa : Int), .int .i64 (sb : Int), .slice (some ⟨bs, off, none⟩) m cm]), (w.heap.size, [.int .i64 (a : Int), .int .i64 (b : Int), .slice (some ⟨g, 0, none⟩) n c])]) := Lib.hid ⟨by rw [HFI.out]; exact HG.out.keep JJ.out.below hgw, JJ.out.toG g⟩
      clear hc2 JJ HFI hsby hLb
      go_wp2_with fail
      clear z0 z1 z2 z3
      go_loopw [11] (fun s11 wr => ∃ t : Nat, t ≤ y1 ∧ s11 = .int .i64 (t : Int) ∧ Hid (y0 ≤ t ∧ RowP wr g (doneL (newP (fun p _ => p) a L sa sb s x y) L (t * a)) ∧ HeldG g w wr [(mm, [.int .i64 (x0 : Int), .int .i64 (y0 : Int), .int .i64 (x1 : Int), .int .i64 (y1 : Int)]), (w.heap.size + 1, [.int .i64 (sa : Int), .int .i64 (sb : Int), .slice (some ⟨bs, off, none⟩) m cm]), (w.heap.size, [.int .i64 (a : Int), .int .i64 (b : Int), .slice (some ⟨g, 0, none⟩) n c])])) (fun s11 _ => leftN y1 s11)
      case atStart => exact ⟨y0, by omega, rfl, Nat.le_refl _, G0.out⟩
      case round =>
        obtain ⟨t, ht, rfl, HR⟩ := hrel
        obtain ⟨z0, z1, z2, z3, _, _⟩ := HR.out.2.2.four (l1 := [])
        by_cases hlt : t < y1
        · have q1 : (t : Int) < y1 := by omega
          have hnx := HNX t HR.out.1 hlt
          have hy0 := HR.out.1
          have Q := Lib.hid HR.out.2.1
          have K := Lib.hid HR.out.2.2
          obtain ⟨ys, hys⟩ : ∃ ys : Nat, (t : Int) - y = ys := ⟨((t : Int) - y).toNat, by omega⟩
          obtain ⟨xs, hxs⟩ : ∃ xs : Nat, (x0 : Int) - x = xs := ⟨((x0 : Int) - x).toNat, by omega⟩
          have hxe : (x1 : Int) - x = ((xs + (x1 - x0) : Nat) : Int) := by omega
          have e0 : IntKind.i64.wrap ((t : Int) - y) = (ys : Int) := by rw [IntWalk.i64_in _ (by omega)]; exact hys
          have e1 : IntKind.i64.wrap ((x0 : Int) - x) = (xs : Int) := by rw [IntWalk.i64_in _ (by omega)]; exact hxs
          have e2 : IntKind.i64.wrap ((x1 : Int) - x) = ((xs + (x1 - x0) : Nat) : Int) := by rw [IntWalk.i64_in _ (by omega)]; exact hxe
          rw [hys, hxs, Int.toNat_natCast, Int.toNat_natCast] at hnx
          have r1 : t * a + x1 ≤ n := by
            rw [HN.out]
            have h1 : (t + 1) * a ≤ b * a := Nat.mul_le_mul_right a (by omega)
            rw [Nat.add_mul, Nat.mul_comm b a] at h1
            omega
          have r2 : ys * sa + (xs + (x1 - x0)) ≤ m := by
            rw [HM.out]
            have h1 : (ys + 1) * sa ≤ sb * sa := Nat.mul_le_mul_right sa (by omega)
            rw [Nat.add_mul, Nat.mul_comm sb sa] at h1
            omega
          have C5 := fun W => Lib.hid (row_any (b : Int) (a := a) (bb := g) (off := 0) (n := n) (c := c) (y := t) (x0 := x0) (x1 := x1) ha.2 (by omega) hx hxa r1 hc hcm W)
          have C6 := fun W => Lib.hid (row_any (sb : Int) (a := sa) (bb := bs) (off := off) (n := m) (c := cm) (y := ys) (x0 := xs) (x1 := xs + (x1 - x0)) hsa.2 (by omega) (by omega) (by omega) r2 hmc hmm W)
          have C7 := fun W (h1 : RowP W g (doneL (newP (fun p _ => p) a L sa sb s x y) L (t * a))) (h2 : ∀ j p, s[j]? = some p → At4 W bs off j p) (h3 : bs < W.heap.size) => Lib.hid (line_copy (g := g) (o := t * a + x0) (n := x1 - x0) (so := ys * sa + xs) h1 h2 h3 hne (by omega) (by omega) (by rw [HS.out, ← HM.out]; omega) (by rw [done_len, HL.out, ← HN.out]; omega) HSB.out (HBY t).out)
          rw [Nat.add_sub_cancel_left] at C6
          simp only [Nat.zero_add] at C5
          generalize doneL (newP (fun p _ => p) a L sa sb s x y) L (t * a) = Lt at *
          generalize xs + (x1 - x0) = xe at *
          generalize x1 - x0 = nn at *
          generalize (t * a + x0) * 4 = o4 at *
          generalize (ys * sa + xs) * 4 = s4 at *
          clear HR hys hxs hxe r1 r2
          go_wp2_with fail
          have sk := K.out.drew.ten
          go_region_held3 (fun W => W.cell? ⟨w.heap.size, 0, none⟩ = some (.int .i64 (a : Int)) ∧ W.cell? ⟨w.heap.size, 1, none⟩ = some (.int .i64 (b : Int)) ∧ W.cell? ⟨w.heap.size, 2, none⟩ = some (.slice (some ⟨g, 0, none⟩) n c) ∧ W.cell? ⟨w.heap.size + 1, 0, none⟩ = some (.int .i64 (sa : Int)) ∧ W.cell? ⟨w.heap.size + 1, 1, none⟩ = some (.int .i64 (sb : Int)) ∧ W.cell? ⟨w.heap.size + 1, 2, none⟩ = some (.slice (some ⟨bs, off, none⟩) m cm) ∧ W.cell? ⟨mm, 0, none⟩ = some (.int .i64 (x0 : Int)) ∧ W.cell? ⟨mm, 1, none⟩ = some (.int .i64 (y0 : Int)) ∧ W.cell? ⟨mm, 2, none⟩ = some (.int .i64 (x1 : Int)) ∧ W.cell? ⟨mm, 3, none⟩ = some (.int .i64 (y1 : Int)))
            (first
              | with_reducible exact sk
              | go_keep)
            (first
              | (go_at_call 69; (with_reducible refine (C5 _).out.mono ?_); rintro e w1 ⟨rfl, hb1⟩; (first | (replace K := Lib.hid (K.out.step hb1); replace Q := Lib.hid (Q.out.step hb1)) | (replace K := Lib.hid (K.out.drew.step hb1); replace Q := Lib.hid (Q.out.drew.step hb1))); clear sk; have sk := K.out.ten; clear hb1)
              | (go_at_call 69; (with_reducible refine (C6 _).out.mono ?_); rintro e w1 ⟨rfl, hb1⟩; (first | (replace K := Lib.hid (K.out.step hb1); replace Q := Lib.hid (Q.out.step hb1)) | (replace K := Lib.hid (K.out.drew.step hb1); replace Q := Lib.hid (Q.out.drew.step hb1))); clear sk; have sk := K.out.ten; clear hb1)
              | (go_at_call 52; (with_reducible refine (C7 _ Q.out (fun j p hj => (HSE.out j p hj).grown K.out.kept hbs hne) (Nat.lt_of_lt_of_le hbs K.out.kept.size)).out.mono ?_); rintro e w1 ⟨rfl, hr1, hg1⟩; replace K := Lib.hid (K.out.write hg1 hgw); replace Q := Lib.hid hr1; clear sk; have sk := K.out.ten; clear hg1 hr1)
              | fail)
          all_goals
            have HF := Lib.hid (And.intro (Nat.le_succ_of_le hy0) (And.intro Q.out K.out))
            rw [← hnx.out] at HF
            clear sk hnx HNX C5 C6 C7 K Q e0 e1 e2
            go_wp2_with fail
            go_roundw
            case rel => exact ⟨t + 1, by omega, by go_num, HF⟩
            case measure =>
              unfold leftN
              simp [intOf]
              omega
        · obtain rfl : t = y1 := by omega
          have q1 : ¬ (t : Int) < t := by omega
          have HF := HR.out
          rw [HLA.out] at HF
          have HE := Lib.hid HF
          clear HF HR
          go_wp2_with fail
          go_end0
          exact ⟨rfl, HE.out.2.1, HE.out.2.2.kept⟩
set_option maxRecDepth 100000 in
set_option maxHeartbeats 8000000 in
theorem place_over {a b sa sb : Nat} {L s : List Px} (ha : 1 ≤ a ∧ a ≤ 256) (hb : 1 ≤ b ∧ b ≤ 256) (hsa : 1 ≤ sa ∧ sa ≤ 256) (hsb : 1 ≤ sb ∧ sb ≤ 256) (hL : L.length = a * b) (hs : s.length = sa * sb) (x y : Int) {w : World} {g n c bs off m cm : Nat}
    (hr : RowP w g L) (hn : n = a * b) (hc : n ≤ c) (hcm : c ≤ maxLen) (hsee : ∀ j p, s[j]? = some p → At4 w bs off j p) (hbs : bs < w.heap.size) (hne : bs ≠ g) (hm : m = sa * sb) (hmc : m ≤ cm) (hmm : cm ≤ maxLen) (hLb : ∀ p ∈ L, Byt p) (hsby : ∀ p ∈ s, Byt p) :
    Calls Try.prog 51 #[.agg #[.int .i64 (a : Int), .int .i64 (b : Int), .slice (some ⟨g, 0, none⟩) n c], .agg #[.int .i64 (sa : Int), .int .i64 (sb : Int), .slice (some ⟨bs, off, none⟩) m cm], .int .i64 x, .int .i64 y, .func (.func 56) #[] #[]] w fun e w' => e = .returned (.tuple #[]) ∧ RowP w' g (putL (overP) a L sa sb s x y) ∧ w.grownBy w' (some g) := by
  have J := Lib.hid (heldB w a b (.slice (some ⟨g, 0, none⟩) n c) sa sb (.slice (some ⟨bs, off, none⟩) m cm))
  have C1 := fun W => Lib.hid (frame_any a b (some ⟨g, 0, none⟩) n c W)
  have C2 := fun W => Lib.hid (frame_any sa sb (some ⟨bs, off, none⟩) m cm W)
  have C3 := fun W => Lib.hid (trans_any (frR sa sb) x y W)
  have C4 := fun W => Lib.hid (int_any (frR a b) (trR (frR sa sb) x y) W)
  have HG := Lib.hid hr
  have HSE := Lib.hid hsee
  have HSB := Lib.hid hsby
  have hcov := cov_rect ha hb hsa hsb x y
  generalize trR (frR sa sb) x y = T at *
  generalize hR : intR (frR a b) T = R at *
  have HN := Lib.hid hn
  have HM := Lib.hid hm
  have HL := Lib.hid hL
  have HS := Lib.hid hs
  clear hR hr hsee hn hm hL hs
  dsimp only [frR] at C3 C4
  have hgw := HG.out.2.2
  go_enter Try.func51, Try.ntmps51
  go_wp2_with fail
  have q0 : w.heap.size ≠ w.heap.size + 1 := by omega
  unfold WB at J
  generalize (w.alloc (.cells #[.int .i64 (a : Int), .int .i64 (b : Int), .slice (some ⟨g, 0, none⟩) n c] 24)).alloc (.cells #[.int .i64 (sa : Int), .int .i64 (sb : Int), .slice (some ⟨bs, off, none⟩) m cm] 24) = W1 at *
  go_upto_region 1 with fail
  go_cut [10] from 12 to 19 (fun s10 wx => ∃ mm : Nat, s10 = .pointer (some ⟨mm, 0, none⟩) ∧ Hid (Held w wx [(mm, [.int .i64 R.x0, .int .i64 R.y0, .int .i64 R.x1, .int .i64 R.y1]), (w.heap.size + 1, [.int .i64 (sa : Int), .int .i64 (sb : Int), .slice (some ⟨bs, off, none⟩) m cm]), (w.heap.size, [.int .i64 (a : Int), .int .i64 (b : Int), .slice (some ⟨g, 0, none⟩) n c])]))
  case first =>
    have sk := J.out.drew.six (l1 := [])
    have sa0 := (J.out.made (.cells #[.int .i64 0, .int .i64 0, .int .i64 0, .int .i64 0] 44)).drew.six (l1 := [])
    go_region_held3 (fun W => W.cell? ⟨w.heap.size, 0, none⟩ = some (.int .i64 (a : Int)) ∧ W.cell? ⟨w.heap.size, 1, none⟩ = some (.int .i64 (b : Int)) ∧ W.cell? ⟨w.heap.size, 2, none⟩ = some (.slice (some ⟨g, 0, none⟩) n c) ∧ W.cell? ⟨w.heap.size + 1, 0, none⟩ = some (.int .i64 (sa : Int)) ∧ W.cell? ⟨w.heap.size + 1, 1, none⟩ = some (.int .i64 (sb : Int)) ∧ W.cell? ⟨w.heap.size + 1, 2, none⟩ = some (.slice (some ⟨bs, off, none⟩) m cm))
      (first
        | with_reducible exact sk
        | with_reducible exact sa0
        | exact sz.out
        | exact sk
        | exact sa0
        | go_keep)
      (first
        | (go_at_call 44; (with_reducible refine (C1 _).out.mono ?_); rintro e w1 ⟨rfl, hb1⟩; (first | replace J := Lib.hid (J.out.step hb1) | replace J := Lib.hid (J.out.drew.step hb1) | replace J := Lib.hid ((J.out.alloc [.int .i64 0, .int .i64 0, .int .i64 0, .int .i64 0] 44).step hb1) | replace J := Lib.hid ((J.out.alloc [.int .i64 0, .int .i64 0, .int .i64 0, .int .i64 0] 44).drew.step hb1)); (try clear sk); (try clear sa0); (first | have sk := J.out.six (l1 := []) | have sk := J.out.six (l1 := [_])); (first | have sa0 := (J.out.made (.cells #[.int .i64 0, .int .i64 0, .int .i64 0, .int .i64 0] 44)).six (l1 := []) | have sa0 := (J.out.made (.cells #[.int .i64 0, .int .i64 0, .int .i64 0, .int .i64 0] 44)).six (l1 := [_])); clear hb1)
        | (go_at_call 44; (with_reducible refine (C2 _).out.mono ?_); rintro e w1 ⟨rfl, hb1⟩; (first | replace J := Lib.hid (J.out.step hb1) | replace J := Lib.hid (J.out.drew.step hb1) | replace J := Lib.hid ((J.out.alloc [.int .i64 0, .int .i64 0, .int .i64 0, .int .i64 0] 44).step hb1) | replace J := Lib.hid ((J.out.alloc [.int .i64 0, .int .i64 0, .int .i64 0, .int .i64 0] 44).drew.step hb1)); (try clear sk); (try clear sa0); (first | have sk := J.out.six (l1 := []) | have sk := J.out.six (l1 := [_])); (first | have sa0 := (J.out.made (.cells #[.int .i64 0, .int .i64 0, .int .i64 0, .int .i64 0] 44)).six (l1 := []) | have sa0 := (J.out.made (.cells #[.int .i64 0, .int .i64 0, .int .i64 0, .int .i64 0] 44)).six (l1 := [_])); clear hb1)
        | (go_at_call 68; (with_reducible refine (C3 _).out.mono ?_); rintro e w1 ⟨rfl, hb1⟩; (first | replace J := Lib.hid (J.out.step hb1) | replace J := Lib.hid (J.out.drew.step hb1) | replace J := Lib.hid ((J.out.alloc [.int .i64 0, .int .i64 0, .int .i64 0, .int .i64 0] 44).step hb1) | replace J := Lib.hid ((J.out.alloc [.int .i64 0, .int .i64 0, .int .i64 0, .int .i64 0] 44).drew.step hb1)); (try clear sk); (try clear sa0); (first | have sk := J.out.six (l1 := []) | have sk := J.out.six (l1 := [_])); (first | have sa0 := (J.out.made (.cells #[.int .i64 0, .int .i64 0, .int .i64 0, .int .i64 0] 44)).six (l1 := []) | have sa0 := (J.out.made (.cells #[.int .i64 0, .int .i64 0, .int .i64 0, .int .i64 0] 44)).six (l1 := [_])); clear hb1)
        | (go_at_call 66; (with_reducible refine (C4 _).out.mono ?_); rintro e w1 ⟨rfl, hb1⟩; (first | replace J := Lib.hid (J.out.step hb1) | replace J := Lib.hid (J.out.drew.step hb1) | replace J := Lib.hid ((J.out.alloc [.int .i64 0, .int .i64 0, .int .i64 0, .int .i64 0] 44).step hb1) | replace J := Lib.hid ((J.out.alloc [.int .i64 0, .int .i64 0, .int .i64 0, .int .i64 0] 44).drew.step hb1)); (try clear sk); (try clear sa0); (first | have sk := J.out.six (l1 := []) | have sk := J.out.six (l1 := [_])); (first | have sa0 := (J.out.made (.cells #[.int .i64 0, .int .i64 0, .int .i64 0, .int .i64 0] 44)).six (l1 := []) | have sa0 := (J.out.made (.cells #[.int .i64 0, .int .i64 0, .int .i64 0, .int .i64 0] 44)).six (l1 := [_])); (try obtain ⟨z0, z1, z2, z3, zf, zt⟩ := J.out.four (l1 := [])); (try (have sz := Lib.hid ((J.out.set4 (l1 := []) (.int .i64 R.x0) (.int .i64 R.y0) (.int .i64 R.x1) (.int .i64 R.y1)).six (l1 := [_])))); clear hb1)
        | fail)
    all_goals
      (try clear sa0)
      (try clear sz)
      (try clear z0 z1 z2 z3 zf zt)
      clear sk
      go_wp2_with fail
      go_meet
      first
        | exact ⟨_, rfl, Lib.hid (J.out.alloc [.int .i64 R.x0, .int .i64 R.y0, .int .i64 R.x1, .int .i64 R.y1] 44)⟩
        | exact ⟨_, rfl, Lib.hid (J.out.set4 (l1 := []) (.int .i64 R.x0) (.int .i64 R.y0) (.int .i64 R.x1) (.int .i64 R.y1))⟩
  case rest =>
    obtain ⟨mm, rfl, JJ⟩ := hcut
    clear J C1 C2 C3 C4
    rcases hcov with ⟨rfl, hno⟩ | ⟨x0, x1, y0, y1, rfl, hx, hxa, hyl, hyb, hX0, hX1, hY0, hY1, hc2⟩
    · have HP := Lib.hid (put_none (F := overP) (s := s) ha.1 HL.out hno)
      have HZ : Hid (RowP wc g (putL (overP) a L sa sb s x y) ∧ w.grownBy wc (some g)) := Lib.hid ⟨by rw [HP.out]; exact HG.out.keep JJ.out.below hgw, grown_below JJ.out.below _⟩
      obtain ⟨z0, z1, z2, z3, _, _⟩ := JJ.out.four (l1 := [])
      simp only [zeroR] at z0 z1 z2 z3
      clear hno HP
      go_wp2_with fail
      go_loopw [11] (fun s11 wr => s11 = .int .i64 0 ∧ wr = wc) (fun _ _ => 0)
      case atStart => exact ⟨rfl, rfl⟩
      case round =>
        obtain ⟨rfl, rfl⟩ := hrel
        go_wp2_with fail
        go_end0
        exact ⟨rfl, HZ.out⟩
    · obtain ⟨z0, z1, z2, z3, _, _⟩ := JJ.out.four (l1 := [])
      have hla : 1 ≤ a := ha.1
      have HFI := Lib.hid (line_first (F := overP) (s := s) (l := L) hla HL.out (by omega : y0 ≤ b) hc2)
      have HLA := Lib.hid (line_last (F := overP) (s := s) (l := L) hla HL.out hc2)
      have HNX := fun t (h0 : y0 ≤ t) (h1 : t < y1) => Lib.hid (line_next (F := overP) (s := s) (l := L) hla HL.out hx hxa hyb h0 h1 hX0 hY0 hc2)
      have HBY := fun t => Lib.hid (done_byt (m := t * a) hLb (fun k hk => new_byt (F := overP) (sb := sb) (a := a) (sa := sa) (x := x) (y := y) (fun _ _ h k => over_byt h k) hLb hsby k hk))
      have G0 : Hid (RowP wc g (doneL (newP (overP) a L sa sb s x y) L (y0 * a)) ∧ HeldG g w wc [(mm, [.int .i64 (x0 : Int), .int .i64 (y0 : Int), .int .i64 (x1 : Int), .int .i64 (y1 : Int)]), (w.heap.size + 1, [.int .i64 (sa : Int), .int .i64 (sb : Int), .slice (some ⟨bs, off, none⟩) m cm]), (w.heap.size, [.int .i64 (a : Int), .int .i64 (b : Int), .slice (some ⟨g, 0, none⟩) n c])]) := Lib.hid ⟨by rw [HFI.out]; exact HG.out.keep JJ.out.below hgw, JJ.out.toG g⟩
      clear hc2 JJ HFI hsby hLb
      go_wp2_with fail
      clear z0 z1 z2 z3
      go_loopw [11] (fun s11 wr => ∃ t : Nat, t ≤ y1 ∧ s11 = .int .i64 (t : Int) ∧ Hid (y0 ≤ t ∧ RowP wr g (doneL (newP (overP) a L sa sb s x y) L (t * a)) ∧ HeldG g w wr [(mm, [.int .i64 (x0 : Int), .int .i64 (y0 : Int), .int .i64 (x1 : Int), .int .i64 (y1 : Int)]), (w.heap.size + 1, [.int .i64 (sa : Int), .int .i64 (sb : Int), .slice (some ⟨bs, off, none⟩) m cm]), (w.heap.size, [.int .i64 (a : Int), .int .i64 (b : Int), .slice (some ⟨g, 0, none⟩) n c])])) (fun s11 _ => leftN y1 s11)
      case atStart => exact ⟨y0, by omega, rfl, Nat.le_refl _, G0.out⟩
      case round =>
        obtain ⟨t, ht, rfl, HR⟩ := hrel
        obtain ⟨z0, z1, z2, z3, _, _⟩ := HR.out.2.2.four (l1 := [])
        by_cases hlt : t < y1
        · have q1 : (t : Int) < y1 := by omega
          have hnx := HNX t HR.out.1 hlt
          have hy0 := HR.out.1
          have Q := Lib.hid HR.out.2.1
          have K := Lib.hid HR.out.2.2
          obtain ⟨ys, hys⟩ : ∃ ys : Nat, (t : Int) - y = ys := ⟨((t : Int) - y).toNat, by omega⟩
          obtain ⟨xs, hxs⟩ : ∃ xs : Nat, (x0 : Int) - x = xs := ⟨((x0 : Int) - x).toNat, by omega⟩
          have hxe : (x1 : Int) - x = ((xs + (x1 - x0) : Nat) : Int) := by omega
          have e0 : IntKind.i64.wrap ((t : Int) - y) = (ys : Int) := by rw [IntWalk.i64_in _ (by omega)]; exact hys
          have e1 : IntKind.i64.wrap ((x0 : Int) - x) = (xs : Int) := by rw [IntWalk.i64_in _ (by omega)]; exact hxs
          have e2 : IntKind.i64.wrap ((x1 : Int) - x) = ((xs + (x1 - x0) : Nat) : Int) := by rw [IntWalk.i64_in _ (by omega)]; exact hxe
          rw [hys, hxs, Int.toNat_natCast, Int.toNat_natCast] at hnx
          have r1 : t * a + x1 ≤ n := by
            rw [HN.out]
            have h1 : (t + 1) * a ≤ b * a := Nat.mul_le_mul_right a (by omega)
            rw [Nat.add_mul, Nat.mul_comm b a] at h1
            omega
          have r2 : ys * sa + (xs + (x1 - x0)) ≤ m := by
            rw [HM.out]
            have h1 : (ys + 1) * sa ≤ sb * sa := Nat.mul_le_mul_right sa (by omega)
            rw [Nat.add_mul, Nat.mul_comm sb sa] at h1
            omega
          have C5 := fun W => Lib.hid (row_any (b : Int) (a := a) (bb := g) (off := 0) (n := n) (c := c) (y := t) (x0 := x0) (x1 := x1) ha.2 (by omega) hx hxa r1 hc hcm W)
          have C6 := fun W => Lib.hid (row_any (sb : Int) (a := sa) (bb := bs) (off := off) (n := m) (c := cm) (y := ys) (x0 := xs) (x1 := xs + (x1 - x0)) hsa.2 (by omega) (by omega) (by omega) r2 hmc hmm W)
          have C7 := fun W (h1 : RowP W g (doneL (newP (overP) a L sa sb s x y) L (t * a))) (h2 : ∀ j p, s[j]? = some p → At4 W bs off j p) (h3 : bs < W.heap.size) => Lib.hid (line_over (g := g) (o := t * a + x0) (n := x1 - x0) (so := ys * sa + xs) h1 h2 h3 hne (by omega) (by omega) (by rw [HS.out, ← HM.out]; omega) (by rw [done_len, HL.out, ← HN.out]; omega) HSB.out (HBY t).out)
          rw [Nat.add_sub_cancel_left] at C6
          simp only [Nat.zero_add] at C5
          generalize doneL (newP (overP) a L sa sb s x y) L (t * a) = Lt at *
          generalize xs + (x1 - x0) = xe at *
          generalize x1 - x0 = nn at *
          generalize (t * a + x0) * 4 = o4 at *
          generalize (ys * sa + xs) * 4 = s4 at *
          clear HR hys hxs hxe r1 r2
          go_wp2_with fail
          have sk := K.out.drew.ten
          go_region_held3 (fun W => W.cell? ⟨w.heap.size, 0, none⟩ = some (.int .i64 (a : Int)) ∧ W.cell? ⟨w.heap.size, 1, none⟩ = some (.int .i64 (b : Int)) ∧ W.cell? ⟨w.heap.size, 2, none⟩ = some (.slice (some ⟨g, 0, none⟩) n c) ∧ W.cell? ⟨w.heap.size + 1, 0, none⟩ = some (.int .i64 (sa : Int)) ∧ W.cell? ⟨w.heap.size + 1, 1, none⟩ = some (.int .i64 (sb : Int)) ∧ W.cell? ⟨w.heap.size + 1, 2, none⟩ = some (.slice (some ⟨bs, off, none⟩) m cm) ∧ W.cell? ⟨mm, 0, none⟩ = some (.int .i64 (x0 : Int)) ∧ W.cell? ⟨mm, 1, none⟩ = some (.int .i64 (y0 : Int)) ∧ W.cell? ⟨mm, 2, none⟩ = some (.int .i64 (x1 : Int)) ∧ W.cell? ⟨mm, 3, none⟩ = some (.int .i64 (y1 : Int)))
            (first
              | with_reducible exact sk
              | go_keep)
            (first
              | (go_at_call 69; (with_reducible refine (C5 _).out.mono ?_); rintro e w1 ⟨rfl, hb1⟩; (first | (replace K := Lib.hid (K.out.step hb1); replace Q := Lib.hid (Q.out.step hb1)) | (replace K := Lib.hid (K.out.drew.step hb1); replace Q := Lib.hid (Q.out.drew.step hb1))); clear sk; have sk := K.out.ten; clear hb1)
              | (go_at_call 69; (with_reducible refine (C6 _).out.mono ?_); rintro e w1 ⟨rfl, hb1⟩; (first | (replace K := Lib.hid (K.out.step hb1); replace Q := Lib.hid (Q.out.step hb1)) | (replace K := Lib.hid (K.out.drew.step hb1); replace Q := Lib.hid (Q.out.drew.step hb1))); clear sk; have sk := K.out.ten; clear hb1)
              | (go_at_call 56; (with_reducible refine (C7 _ Q.out (fun j p hj => (HSE.out j p hj).grown K.out.kept hbs hne) (Nat.lt_of_lt_of_le hbs K.out.kept.size)).out.mono ?_); rintro e w1 ⟨rfl, hr1, hg1⟩; replace K := Lib.hid (K.out.write hg1 hgw); replace Q := Lib.hid hr1; clear sk; have sk := K.out.ten; clear hg1 hr1)
              | fail)
          all_goals
            have HF := Lib.hid (And.intro (Nat.le_succ_of_le hy0) (And.intro Q.out K.out))
            rw [← hnx.out] at HF
            clear sk hnx HNX C5 C6 C7 K Q e0 e1 e2
            go_wp2_with fail
            go_roundw
            case rel => exact ⟨t + 1, by omega, by go_num, HF⟩
            case measure =>
              unfold leftN
              simp [intOf]
              omega
        · obtain rfl : t = y1 := by omega
          have q1 : ¬ (t : Int) < t := by omega
          have HF := HR.out
          rw [HLA.out] at HF
          have HE := Lib.hid HF
          clear HF HR
          go_wp2_with fail
          go_end0
          exact ⟨rfl, HE.out.2.1, HE.out.2.2.kept⟩
end Go.Proofs.Ytahhcklkcibgoaa
