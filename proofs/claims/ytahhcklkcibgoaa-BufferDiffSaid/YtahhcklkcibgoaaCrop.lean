/-
  Crop of package buffer: a part of an image.
-/
import Derived.Test.YtahhcklkcibgoaaChan
import Derived.Test.YtahhcklkcibgoaaWith
namespace Go.Proofs.Ytahhcklkcibgoaa
open Go.RowKit

def cropB (a b : Nat) (r : R) : Bool := !empB r && decide (0 ≤ r.x0 ∧ 0 ≤ r.y0 ∧ r.x1 ≤ a ∧ r.y1 ≤ b)
def cropL (a : Nat) (l : List Px) (x0 y0 w h : Nat) : List Px := tabL (w * h) (fun k => l.getD ((y0 + k / w) * a + (x0 + k % w)) zeroPx)

theorem with_fr {a b : Nat} (ha : 1 ≤ a ∧ a ≤ 256) (hb : 1 ≤ b ∧ b ≤ 256) {r : R} (h : empB r = false) : withB r (frR a b) = decide (0 ≤ r.x0 ∧ 0 ≤ r.y0 ∧ r.x1 ≤ a ∧ r.y1 ≤ b) := by
  have hf := fr_full ha.1 ha.2 hb.1 hb.2
  unfold withB
  rw [int_full h hf, can_full h]
  have hr := (emp_no r).1 h
  rw [Bool.eq_iff_iff]
  have hs : ∀ p q : R, sameR p q = true ↔ p.x0 = q.x0 ∧ p.y0 = q.y0 ∧ p.x1 = q.x1 ∧ p.y1 = q.y1 := fun p q => by simp [sameR, and_assoc]
  rw [hs, decide_eq_true_eq]
  by_cases hq : empB (cutR r (frR a b)) = true
  · rw [can_emp hq]
    rw [emp_yes] at hq
    simp only [cutR, frR, zeroR] at hq ⊢
    omega
  · have hq' : empB (cutR r (frR a b)) = false := by simpa using hq
    rw [can_full hq']
    rw [emp_no] at hq'
    simp only [cutR, frR] at hq' ⊢
    omega

/-- the part of a valid buffer within a rectangle: as natural numbers -/
theorem crop_nat {a b : Nat} {r : R} (h : cropB a b r = true) : ∃ x0 y0 x1 y1 w h : Nat, r = ⟨x0, y0, x1, y1⟩ ∧ x0 + w = x1 ∧ y0 + h = y1 ∧ 1 ≤ w ∧ 1 ≤ h ∧ x1 ≤ a ∧ y1 ≤ b := by
  simp only [cropB, Bool.and_eq_true, Bool.not_eq_true', decide_eq_true_eq] at h
  obtain ⟨h0, h1, h2, h3, h4⟩ := h
  have hr := (emp_no r).1 h0
  refine ⟨r.x0.toNat, r.y0.toNat, r.x1.toNat, r.y1.toNat, (r.x1 - r.x0).toNat, (r.y1 - r.y0).toNat, R.same ?_ ?_ ?_ ?_, by omega, by omega, by omega, by omega, by omega, by omega⟩ <;> (simp only; omega)

theorem put_crop {a b : Nat} {l : List Px} {x0 y0 w h : Nat} (hw : 1 ≤ w) (hx : x0 + w ≤ a) (hy : y0 + h ≤ b) : putL (fun p _ => p) w (List.replicate (w * h) zeroPx) a b l (-(x0 : Int)) (-(y0 : Int)) = cropL a l x0 y0 w h := by
  unfold putL cropL
  rw [List.length_replicate]
  refine tab_congr fun k hk => ?_
  have h1 := col_lt (k := k) hw
  have h2 := row_lt hk
  unfold newP
  generalize k % w = i at *
  generalize k / w = j at *
  rw [if_pos (cov_iff.2 ⟨by omega, by omega, by omega, by omega⟩)]
  have e0 : ((j : Int) - -(y0 : Int)).toNat = y0 + j := by omega
  have e1 : ((i : Int) - -(x0 : Int)).toNat = x0 + i := by omega
  rw [e0, e1]

theorem crop_len (a : Nat) (l : List Px) (x0 y0 w h : Nat) : (cropL a l x0 y0 w h).length = w * h := tab_len _ _
theorem zero_byt (n : Nat) : ∀ p ∈ List.replicate n zeroPx, Byt p := by
  intro p hp
  rw [List.eq_of_mem_replicate hp]
  exact ⟨by decide, by decide, by decide, by decide⟩

/-- the boxes of a buffer, of a rectangle and of a result -/
theorem heldR3 (w : World) (a b : Int) (v : Value) (r : R) : Held w (((w.alloc (.cells #[.int .i64 a, .int .i64 b, v] 24)).alloc (.cells #[.int .i64 r.x0, .int .i64 r.y0, .int .i64 r.x1, .int .i64 r.y1] 44)).alloc (.cells #[.int .i64 0, .int .i64 0, .slice none 0 0] 24)) [(w.heap.size + 1 + 1, [.int .i64 0, .int .i64 0, .slice none 0 0]), (w.heap.size + 1, [.int .i64 r.x0, .int .i64 r.y0, .int .i64 r.x1, .int .i64 r.y1]), (w.heap.size, [.int .i64 a, .int .i64 b, v])] := by
  have h := (((Held.nil w).alloc [.int .i64 a, .int .i64 b, v] 24).alloc [.int .i64 r.x0, .int .i64 r.y0, .int .i64 r.x1, .int .i64 r.y1] 44).alloc [.int .i64 0, .int .i64 0, .slice none 0 0] 24
  rw [World.size_alloc, World.size_alloc] at h
  exact h

theorem Held.seven {w W : World} {l1 l2 : List (Nat × List Value)} {k j : Nat} {x0 x1 x2 y0 y1 y2 y3 : Value} (h : Held w W (l1 ++ (j, [y0, y1, y2, y3]) :: (k, [x0, x1, x2]) :: l2)) :
    W.cell? ⟨k, 0, none⟩ = some x0 ∧ W.cell? ⟨k, 1, none⟩ = some x1 ∧ W.cell? ⟨k, 2, none⟩ = some x2 ∧ W.cell? ⟨j, 0, none⟩ = some y0 ∧ W.cell? ⟨j, 1, none⟩ = some y1 ∧ W.cell? ⟨j, 2, none⟩ = some y2 ∧ W.cell? ⟨j, 3, none⟩ = some y3 := by
  have h2 : Held w W ((l1 ++ [(j, [y0, y1, y2, y3])]) ++ (k, [x0, x1, x2]) :: l2) := by rw [List.append_assoc]; exact h
  obtain ⟨a0, a1, a2, a3, _, _⟩ := h.four
  obtain ⟨b0, b1, b2, _, _⟩ := h2.tri
  exact ⟨b0, b1, b2, a0, a1, a2, a3⟩

theorem Held.apart3 {w W : World} {l : List (Nat × List Value)} (h : Held w W l) {vs : List Value} : ∀ p ∈ (W.heap.size + 1, vs) :: l, p.1 ≠ W.heap.size := by
  intro p hp
  rcases List.mem_cons.1 hp with rfl | hp
  · simp
  · exact h.apart (Nat.le_refl _) p hp

theorem crop_bad {a b : Nat} {r : R} (h : cropB a b r = false) : empB r = true ∨ (empB r = false ∧ decide (0 ≤ r.x0 ∧ 0 ≤ r.y0 ∧ r.x1 ≤ a ∧ r.y1 ≤ b) = false) := by
  unfold cropB at h
  cases he : empB r
  · rw [he] at h
    exact .inr ⟨rfl, by simpa using h⟩
  · exact .inl rfl

set_option maxRecDepth 100000 in
set_option maxHeartbeats 4000000 in
theorem crop_inv {a b : Int} {v : Value} {l : List Px} (r : R) {w : World} (h : Pxs w v l) (hbad : vBuf a b l = false) : Calls Try.prog 27 #[.agg #[.int .i64 a, .int .i64 b, v], .agg #[.int .i64 r.x0, .int .i64 r.y0, .int .i64 r.x1, .int .i64 r.y1]] w (Outs 0 0 [] 15 w) := by
  have H1 := Lib.hid h
  obtain ⟨A, n, rfl, _⟩ := h.shape
  have C1 := fun W (hb : Below w.heap.size w W) => Lib.hid (valid_any a b (H1.out.below hb))
  rw [hbad] at C1
  have J := Lib.hid (heldR3 w a b (.slice A l.length n) r)
  unfold Outs
  generalize l.length = n1 at *
  clear h hbad
  go_enter Try.func27, Try.ntmps27
  go_wp2_with fail
  refine (C1 _ J.out.below).out.mono ?_
  rintro e w1 ⟨rfl, hb⟩
  replace J := Lib.hid (J.out.step hb)
  clear hb
  obtain ⟨z0, z1, z2, zf, zt⟩ := J.out.tri (l1 := [])
  have K := Lib.hid (below_set3 (y0 := .int .i64 0) (y1 := .int .i64 0) (y2 := .slice none 0 0) J.out.below (by omega : w.heap.size ≤ w.heap.size + 1 + 1))
  clear J
  go_wp2_with fail
  exact bodyPost_ret (v := .tuple #[.agg #[.int .i64 0, .int .i64 0, .slice none 0 0], .int .i64 15]) (by simp [results, Try.results27, go_sem, z0, z1, z2]) rfl ⟨_, rfl, .inl ⟨rfl, rfl⟩, K.out⟩


set_option maxRecDepth 100000 in
set_option maxHeartbeats 4000000 in
theorem crop_range {a b : Nat} {v : Value} {l : List Px} (r : R) {w : World} (h : Pxs w v l) (hv : Vld a b l) (hbad : cropB a b r = false) : Calls Try.prog 27 #[.agg #[.int .i64 (a : Int), .int .i64 (b : Int), v], .agg #[.int .i64 r.x0, .int .i64 r.y0, .int .i64 r.x1, .int .i64 r.y1]] w (Outs 0 0 [] 6 w) := by
  have H1 := Lib.hid h
  obtain ⟨A, n, rfl, _⟩ := h.shape
  have C1 := fun W (hb : Below w.heap.size w W) => Lib.hid (valid_any (a : Int) (b : Int) (H1.out.below hb))
  rw [hv.vBuf] at C1
  have C2 := fun W => Lib.hid (empty_any r W)
  have C3 := fun W => Lib.hid (frame_any (a : Int) (b : Int) A l.length n W)
  have C4 := fun W => Lib.hid (with_any r (frR a b) W)
  have J := Lib.hid (heldR3 w a b (.slice A l.length n) r)
  unfold Outs
  have hvw := fun he => with_fr ⟨hv.a1, hv.a2⟩ ⟨hv.b1, hv.b2⟩ (r := r) he
  rcases crop_bad hbad with he | ⟨he, hd⟩
  · rw [he] at C2
    generalize l.length = n1 at *
    clear h hbad he hv hvw C3 C4
    go_enter Try.func27, Try.ntmps27
    go_wp2_with fail
    refine (C1 _ J.out.below).out.mono ?_
    rintro e w1 ⟨rfl, hb⟩
    replace J := Lib.hid (J.out.step hb)
    clear hb
    obtain ⟨y0, y1, y2, y3, _, _⟩ := J.out.four (l1 := [_])
    go_wp2_with fail
    first
      | (go_region_with (first
          | (go_at_call 49; (with_reducible refine (C2 _).out.mono ?_); rintro e w2 ⟨rfl, hb⟩; replace J := Lib.hid (J.out.drew.step hb); clear hb)))
      | fail
    all_goals
      clear y0 y1 y2 y3
      obtain ⟨z0, z1, z2, zf, zt⟩ := J.out.tri (l1 := [])
      have K := Lib.hid (below_set3 (y0 := .int .i64 0) (y1 := .int .i64 0) (y2 := .slice none 0 0) J.out.below (by omega : w.heap.size ≤ w.heap.size + 1 + 1))
      clear J
      go_wp2_with fail
      exact bodyPost_ret (v := .tuple #[.agg #[.int .i64 0, .int .i64 0, .slice none 0 0], .int .i64 6]) (by simp [results, Try.results27, go_sem, z0, z1, z2]) rfl ⟨_, rfl, .inl ⟨rfl, rfl⟩, K.out⟩
  · rw [he] at C2
    rw [hvw he, hd] at C4
    dsimp only [frR] at C4
    generalize l.length = n1 at *
    clear h hbad he hv hvw hd
    go_enter Try.func27, Try.ntmps27
    go_wp2_with fail
    refine (C1 _ J.out.below).out.mono ?_
    rintro e w1 ⟨rfl, hb⟩
    replace J := Lib.hid (J.out.step hb)
    clear hb
    go_wp2_with fail
    replace J := Lib.hid J.out.drew
    have sk := J.out.seven (l1 := [_])
    go_region_held3 (fun W => W.cell? ⟨w.heap.size, 0, none⟩ = some (.int .i64 (a : Int)) ∧ W.cell? ⟨w.heap.size, 1, none⟩ = some (.int .i64 (b : Int)) ∧ W.cell? ⟨w.heap.size, 2, none⟩ = some (.slice A n1 n) ∧ W.cell? ⟨w.heap.size + 1, 0, none⟩ = some (.int .i64 r.x0) ∧ W.cell? ⟨w.heap.size + 1, 1, none⟩ = some (.int .i64 r.y0) ∧ W.cell? ⟨w.heap.size + 1, 2, none⟩ = some (.int .i64 r.x1) ∧ W.cell? ⟨w.heap.size + 1, 3, none⟩ = some (.int .i64 r.y1))
      (first
        | with_reducible exact sk
        | go_keep)
      (first
        | (go_at_call 49; (with_reducible refine (C2 _).out.mono ?_); rintro e w2 ⟨rfl, hb⟩; replace J := Lib.hid (J.out.step hb); clear sk; have sk := J.out.seven (l1 := [_]); clear hb)
        | (go_at_call 44; (with_reducible refine (C3 _).out.mono ?_); rintro e w2 ⟨rfl, hb⟩; replace J := Lib.hid (J.out.step hb); clear sk; have sk := J.out.seven (l1 := [_]); clear hb)
        | (go_at_call 50; (with_reducible refine (C4 _).out.mono ?_); rintro e w2 ⟨rfl, hb⟩; replace J := Lib.hid (J.out.step hb); clear sk; have sk := J.out.seven (l1 := [_]); clear hb)
        | fail)
    all_goals
      clear sk
      obtain ⟨z0, z1, z2, zf, zt⟩ := J.out.tri (l1 := [])
      have K := Lib.hid (below_set3 (y0 := .int .i64 0) (y1 := .int .i64 0) (y2 := .slice none 0 0) J.out.below (by omega : w.heap.size ≤ w.heap.size + 1 + 1))
      clear J
      go_wp2_with fail
      exact bodyPost_ret (v := .tuple #[.agg #[.int .i64 0, .int .i64 0, .slice none 0 0], .int .i64 6]) (by simp [results, Try.results27, go_sem, z0, z1, z2]) rfl ⟨_, rfl, .inl ⟨rfl, rfl⟩, K.out⟩

set_option maxRecDepth 100000 in
set_option maxHeartbeats 8000000 in
theorem crop_good {a b x0 y0 x1 y1 cw ch : Nat} {v : Value} {l : List Px} {w : World} (h : Pxs w v l) (hv : Vld a b l) (hlb : ∀ p ∈ l, Byt p) (hcw : 1 ≤ cw) (hch : 1 ≤ ch) (hx1 : x0 + cw = x1) (hy1 : y0 + ch = y1) (hx : x1 ≤ a) (hy : y1 ≤ b) :
    Calls Try.prog 27 #[.agg #[.int .i64 (a : Int), .int .i64 (b : Int), v], .agg #[.int .i64 (x0 : Int), .int .i64 (y0 : Int), .int .i64 (x1 : Int), .int .i64 (y1 : Int)]] w (Outs cw ch (cropL a l x0 y0 cw ch) 0 w) := by
  have H1 := Lib.hid h
  have C1 := fun W (hb : Below w.heap.size w W) => Lib.hid (valid_any (a : Int) (b : Int) (H1.out.below hb))
  rw [hv.vBuf] at C1
  obtain ⟨r, hr⟩ : ∃ r : R, r = ⟨x0, y0, x1, y1⟩ := ⟨_, rfl⟩
  have ha2 := hv.a2
  have hb2 := hv.b2
  have hcr : empB r = false ∧ withB r (frR a b) = true := by
    have he : empB r = false := by
      rw [emp_no, hr]
      simp only
      omega
    refine ⟨he, ?_⟩
    rw [with_fr ⟨hv.a1, hv.a2⟩ ⟨hv.b1, hv.b2⟩ he, hr]
    simp only [decide_eq_true_eq]
    omega
  have C2 := fun W => Lib.hid (empty_any r W)
  rw [hcr.1] at C2
  have C4 := fun W => Lib.hid (with_any r (frR a b) W)
  rw [hcr.2] at C4
  dsimp only [frR] at C4
  have hJ := fun A n c => heldR3 w a b (.slice A n c) r
  have e0 : r.x0 = (x0 : Int) := by rw [hr]
  have e1 : r.y0 = (y0 : Int) := by rw [hr]
  have e2 : r.x1 = (x1 : Int) := by rw [hr]
  have e3 : r.y1 = (y1 : Int) := by rw [hr]
  simp only [e0, e1, e2, e3] at C2 C4 hJ
  clear e0 e1 e2 e3 hcr hr
  obtain ⟨A, n, rfl, hn1, hn2, hcell⟩ := h
  obtain ⟨bs, off, rfl, hbs, hsee⟩ := hcell hv.small.1
  have C3 := fun W => Lib.hid (frame_any (a : Int) (b : Int) (some ⟨bs, off, none⟩) l.length n W)
  have J := Lib.hid (hJ (some ⟨bs, off, none⟩) l.length n)
  have HS := Lib.hid hsee
  have hms : cw * ch ≤ 65536 := mul_small (by omega) (by omega)
  have hpc := put_crop (l := l) (a := a) (b := b) hcw (by omega : x0 + cw ≤ a) (by omega : y0 + ch ≤ b)
  have C5 := fun (W : World) g (hr : RowP W g (List.replicate (cw * ch) zeroPx)) (h3 : ∀ j p, l[j]? = some p → At4 W bs off j p) (h4 : bs < W.heap.size) (h5 : bs ≠ g) => Lib.hid (place_copy ⟨hcw, by omega⟩ ⟨hch, by omega⟩ ⟨hv.a1, hv.a2⟩ ⟨hv.b1, hv.b2⟩ (List.length_replicate ..) hv.len (-(x0 : Int)) (-(y0 : Int)) (n := cw * ch) (c := cw * ch) (m := l.length) (cm := n) hr rfl (Nat.le_refl _) (by simp only [maxLen]; omega) h3 h4 h5 hv.len hn1 hn2 (zero_byt _) hlb)
  rw [hpc] at C5
  have HL := Lib.hid (crop_len a l x0 y0 cw ch)
  unfold Outs Res RowOf
  rw [HL.out]
  generalize cropL a l x0 y0 cw ch = O at *
  generalize hM : cw * ch = M at *
  have hm1 : Hid (wrap64 ((cw : Int) * (ch : Int)) = (M : Int)) := Lib.hid (by
    have e : (cw : Int) * (ch : Int) = ((M : Nat) : Int) := by rw [← hM, Int.natCast_mul]
    rw [e]
    exact IntWalk.wrap64_in _ (by omega))
  generalize l.length = n1 at *
  clear hcell hsee hv hlb hpc hJ hM
  go_enter Try.func27, Try.ntmps27
  go_wp2_with fail
  refine (C1 _ J.out.below).out.mono ?_
  rintro e w1 ⟨rfl, hb⟩
  replace J := Lib.hid (J.out.step hb)
  clear hb
  go_wp2_with fail
  replace J := Lib.hid J.out.drew
  have sk := J.out.seven (l1 := [_])
  go_region_held3 (fun W => W.cell? ⟨w.heap.size, 0, none⟩ = some (.int .i64 (a : Int)) ∧ W.cell? ⟨w.heap.size, 1, none⟩ = some (.int .i64 (b : Int)) ∧ W.cell? ⟨w.heap.size, 2, none⟩ = some (.slice (some ⟨bs, off, none⟩) n1 n) ∧ W.cell? ⟨w.heap.size + 1, 0, none⟩ = some (.int .i64 (x0 : Int)) ∧ W.cell? ⟨w.heap.size + 1, 1, none⟩ = some (.int .i64 (y0 : Int)) ∧ W.cell? ⟨w.heap.size + 1, 2, none⟩ = some (.int .i64 (x1 : Int)) ∧ W.cell? ⟨w.heap.size + 1, 3, none⟩ = some (.int .i64 (y1 : Int)))
    (first
      | with_reducible exact sk
      | go_keep)
    (first
      | (go_at_call 49; (with_reducible refine (C2 _).out.mono ?_); rintro e w2 ⟨rfl, hb⟩; replace J := Lib.hid (J.out.step hb); clear sk; have sk := J.out.seven (l1 := [_]); clear hb)
      | (go_at_call 44; (with_reducible refine (C3 _).out.mono ?_); rintro e w2 ⟨rfl, hb⟩; replace J := Lib.hid (J.out.step hb); clear sk; have sk := J.out.seven (l1 := [_]); clear hb)
      | (go_at_call 50; (with_reducible refine (C4 _).out.mono ?_); rintro e w2 ⟨rfl, hb⟩; replace J := Lib.hid (J.out.step hb); clear sk; have sk := J.out.seven (l1 := [_]); clear hb)
      | fail)
  all_goals
    clear sk
    obtain ⟨y0', y1', y2', y3', _, _⟩ := J.out.four (l1 := [_])
    go_wp2_with fail
    have f0 : IntKind.i64.wrap ((x1 : Int) - x0) = (cw : Int) := by rw [IntWalk.i64_in _ (by omega)]; omega
    have f1 : IntKind.i64.wrap ((y1 : Int) - y0) = (ch : Int) := by rw [IntWalk.i64_in _ (by omega)]; omega
    go_quiet (fail)
    clear f0 f1
    replace J := Lib.hid (J.out.drews nq)
    clear y0' y1' y2' y3'
    generalize w2.drewN nq = w3 at *
    have j5 := (J.out.made (.cells (zerosP M) 30)).alloc [.int .i64 (cw : Int), .int .i64 (ch : Int), .slice (some ⟨w3.heap.size, 0, none⟩) M M] 24
    rw [World.size_alloc] at j5
    have J5 := Lib.hid j5
    have R5 := Lib.hid ((RowP.new w3 M).step ((Below.refl _ _).alloc (Nat.le_refl _) (.cells #[.int .i64 (cw : Int), .int .i64 (ch : Int), .slice (some ⟨w3.heap.size, 0, none⟩) M M] 24)))
    have hk0 := (J.out.tri (l1 := [])).2.2.2.2
    obtain ⟨b0, b1, b2, _, bt⟩ := J.out.tri (l1 := [_, _])
    obtain ⟨r0, r1, r2, r3, _, rt⟩ := J.out.four (l1 := [_])
    have hmk := make_px M hms
    have hm2 := hm1.out
    clear j5
    have hbz : bs < w3.heap.size := Nat.lt_of_lt_of_le hbs J.out.below.size
    go_wp2_with fail
    clear hm2 hmk b0 b1 b2 bt r0 r1 r2 r3 rt
    refine (C5 _ w3.heap.size R5.out (fun j p hj => (HS.out j p hj).keep J5.out.below hbs) (Nat.lt_of_lt_of_le hbs J5.out.below.size) (Nat.ne_of_lt hbz)).out.mono ?_
    rintro e w6 ⟨rfl, hr, hg⟩
    have J6 := Lib.hid (J5.out.grown hg J.out.below.size J.out.apart3)
    have hgk : w3.heap.size ≠ w.heap.size + 1 + 1 := by omega
    have Q := Lib.hid (hr.far (k := w.heap.size + 1 + 1) hgk (.int .i64 (cw : Int)) (.int .i64 (ch : Int)) (.slice (some ⟨w3.heap.size, 0, none⟩) M M))
    have K := Lib.hid (below_set3 (y0 := .int .i64 (cw : Int)) (y1 := .int .i64 (ch : Int)) (y2 := .slice (some ⟨w3.heap.size, 0, none⟩) M M) J6.out.below (by omega : w.heap.size ≤ w.heap.size + 1 + 1))
    obtain ⟨m0, m1, m2, _, _⟩ := J6.out.tri (l1 := [])
    obtain ⟨z0, z1, z2, zf, zt⟩ := J6.out.tri (l1 := [_])
    have hge : w.heap.size ≤ w3.heap.size := by omega
    clear J5 R5 J hr hg
    go_wp2_with fail
    exact bodyPost_ret (v := .tuple #[.agg #[.int .i64 (cw : Int), .int .i64 (ch : Int), .slice (some ⟨w3.heap.size, 0, none⟩) M M], .int .i64 0]) (by simp [results, Try.results27, go_sem, z0, z1, z2]) rfl ⟨_, rfl, .inr ⟨w3.heap.size, M, rfl, Nat.le_refl _, by simp only [maxLen]; omega, hge, Q.out⟩, K.out⟩

end Go.Proofs.Ytahhcklkcibgoaa
