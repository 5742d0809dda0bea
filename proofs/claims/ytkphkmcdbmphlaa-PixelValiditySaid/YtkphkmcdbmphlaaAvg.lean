/-
  Slices of pixels in a world; Average of package pixel and of its reference. Types: 35 a slice of pixels.
-/
import Derived.Test.YtkphkmcdbmphlaaScal
namespace Go.Proofs.Ytkphkmcdbmphlaa
open Go.RowKit

/-- the four cells of pixel j of a row that begins at off -/
def At4 (w : World) (b off j : Nat) (p : Px) : Prop :=
  w.cell? ⟨b, off + j * 4, none⟩ = some (.int .u8 (p.r : Int)) ∧ w.cell? ⟨b, off + j * 4 + 1, none⟩ = some (.int .u8 (p.g : Int)) ∧ w.cell? ⟨b, off + j * 4 + 2, none⟩ = some (.int .u8 (p.b : Int)) ∧ w.cell? ⟨b, off + j * 4 + 3, none⟩ = some (.int .u8 (p.a : Int))

theorem At4.keep {w w1 : World} {B b off j : Nat} {p : Px} (h : At4 w b off j p) (hb : Below B w w1) (hk : b < B) : At4 w1 b off j p :=
  ⟨(hb.cell (p := ⟨b, off + j * 4, none⟩) hk).trans h.1, (hb.cell (p := ⟨b, off + j * 4 + 1, none⟩) hk).trans h.2.1, (hb.cell (p := ⟨b, off + j * 4 + 2, none⟩) hk).trans h.2.2.1, (hb.cell (p := ⟨b, off + j * 4 + 3, none⟩) hk).trans h.2.2.2⟩

/-- the slice value v holds the pixels l -/
def Pxs (w : World) (v : Value) (l : List Px) : Prop :=
  ∃ (A : Option Addr) (cap : Nat), v = .slice A l.length cap ∧ l.length ≤ cap ∧ cap ≤ maxLen ∧
    (0 < l.length → ∃ b off, A = some ⟨b, off, none⟩ ∧ b < w.heap.size ∧ ∀ (j : Nat) (p : Px), l[j]? = some p → At4 w b off j p)

theorem Pxs.below {w w' : World} {v : Value} {l : List Px} (h : Pxs w v l) (hb : Below w.heap.size w w') : Pxs w' v l := by
  obtain ⟨A, cap, hv, h1, h2, h4⟩ := h
  refine ⟨A, cap, hv, h1, h2, fun hn => ?_⟩
  obtain ⟨b, off, hA, hlt, hc⟩ := h4 hn
  exact ⟨b, off, hA, Nat.lt_of_lt_of_le hlt hb.size, fun j t ht => (hc j t ht).keep hb hlt⟩

theorem pxs_nil (w : World) : Pxs w (.slice none 0 0) [] := ⟨none, 0, rfl, Nat.le_refl _, by simp [maxLen], fun h => by simp at h⟩

theorem Pxs.shape {w : World} {v : Value} {l : List Px} (h : Pxs w v l) : ∃ A cap, v = .slice A l.length cap ∧ l.length ≤ cap ∧ cap ≤ maxLen := by
  obtain ⟨A, cap, hv, h1, h2, _⟩ := h
  exact ⟨A, cap, hv, h1, h2⟩

/-- the result's box, held while calls make memory -/
structure HeldA (w W : World) : Prop where
  at0 : AtP W w.heap.size zeroPx
  below : Below w.heap.size w W
  there : w.heap.size < W.heap.size
theorem HeldA.step {w W w' : World} (h : HeldA w W) (hb : Below W.heap.size W w') : HeldA w w' :=
  ⟨h.at0.keep hb h.there, Below.next h.below hb, Nat.lt_of_lt_of_le h.there hb.size⟩
theorem HeldA.new (w : World) : HeldA w (w.alloc (.cells #[.int .u8 (zeroPx.r : Int), .int .u8 (zeroPx.g : Int), .int .u8 (zeroPx.b : Int), .int .u8 (zeroPx.a : Int)] 23)) :=
  ⟨Four.new w _ _ _ _ _, (Below.refl _ _).alloc (Nat.le_refl _) _, by simp⟩

theorem below_draws {B : Nat} {w w1 : World} (h : Below B w w1) : ∀ n, Below B w (w1.drewN n)
  | 0 => h
  | n + 1 => (below_draws h n).drew

/-- the sums of the first k pixels -/
theorem sums_at {l : List Px} (h : ∀ p ∈ l, Byt p) {k : Nat} (hk : k ≤ l.length) : (sums (l.take k)).r ≤ 255 * l.length ∧ (sums (l.take k)).g ≤ 255 * l.length ∧ (sums (l.take k)).b ≤ 255 * l.length ∧ (sums (l.take k)).a ≤ 255 * l.length := by
  obtain ⟨h0, h1, h2, h3⟩ := sums_le (l.take k) (fun p hp => h p (List.mem_of_mem_take hp))
  rw [List.length_take, Nat.min_eq_left hk] at h0 h1 h2 h3
  exact ⟨by omega, by omega, by omega, by omega⟩

def leftN (n : Nat) (v : Value) : Nat := n - (intOf v).toNat

set_option maxRecDepth 100000 in
set_option maxHeartbeats 4000000 in
theorem avg_any {v : Value} {l : List Px} (hl : ∀ p ∈ l, Byt p) (hn6 : l.length ≤ 100000) {w : World} (h : Pxs w v l) : Calls Try.prog 26 #[v] w (GivesP (avgP l) w) := by
  obtain ⟨A, c, rfl, hc, hm, hcell⟩ := h
  simp only [maxLen] at hm
  have HC := Lib.hid hcell
  have HB := Lib.hid hl
  obtain ⟨n, hn⟩ : ∃ n, l.length = n := ⟨_, rfl⟩
  have HN := Lib.hid hn
  rw [hn] at hc hn6 ⊢
  have J : Hid (HeldA w (w.alloc (.cells #[.int .u8 0, .int .u8 0, .int .u8 0, .int .u8 0] 23))) := Lib.hid (HeldA.new w)
  unfold GivesP
  by_cases h0 : n = 0
  · subst h0
    have hz : avgP l = zeroPx := by unfold avgP; rw [if_pos hn]
    rw [hz]
    clear hz hcell hl hn
    go_enter Try.func26, Try.ntmps26
    go_wp2_with fail
    exact bodyPost_ret (v := .agg #[.int .u8 (zeroPx.r : Int), .int .u8 (zeroPx.g : Int), .int .u8 (zeroPx.b : Int), .int .u8 (zeroPx.a : Int)]) (by simp [results, Try.results26, go_sem, zeroPx]) rfl ⟨rfl, (Below.refl _ _).alloc (Nat.le_refl _) _⟩
  · have hz : avgP l = ⟨meanB (sums l).r n, meanB (sums l).g n, meanB (sums l).b n, meanB (sums l).a n⟩ := by unfold avgP; rw [hn, if_neg h0]
    obtain ⟨R, hR⟩ : ∃ R, avgP l = R := ⟨_, rfl⟩
    rw [hR] at hz ⊢
    have HZ := Lib.hid hz
    clear hR
    have hp : 0 < n := by omega
    have hsum := Lib.hid (sums_at hl (Nat.le_refl _))
    rw [hn, List.take_of_length_le (by omega)] at hsum
    obtain ⟨bb, off, rfl, hbb, hcs⟩ := HC.out (by rw [HN.out]; exact hp)
    have HC2 := Lib.hid hcs
    have HS := fun (k : Nat) (hk : k ≤ n) => Lib.hid (sums_at hl (k := k) (by rw [HN.out]; exact hk))
    rw [hn] at HS
    clear hz hcell hl hn HC hcs
    have h1 : ((n : Int) == 0) = false := by simpa using h0
    go_enter Try.func26, Try.ntmps26
    go_wp2_with fail
    go_loopw [3, 4, 5, 6, 17] (fun s3 s4 s5 s6 s17 wr => ∃ (k : Nat) (t : Px), k ≤ n ∧ s17 = .int .i64 (k : Int) ∧ s3 = .int .u64 (t.r : Int) ∧ s4 = .int .u64 (t.g : Int) ∧ s5 = .int .u64 (t.b : Int) ∧ s6 = .int .u64 (t.a : Int) ∧ Hid (t = sums (l.take k) ∧ HeldA w wr)) (fun _ _ _ _ s17 _ => leftN n s17)
    case atStart => exact ⟨0, zeroPx, by omega, rfl, rfl, rfl, rfl, rfl, rfl, J.out⟩
    case round =>
      obtain ⟨k, t, hk, rfl, rfl, rfl, rfl, rfl, HR⟩ := hrel
      by_cases hlt : k < n
      · obtain ⟨p, hpx⟩ : ∃ p, l[k]? = some p := ⟨_, List.getElem?_eq_getElem (by rw [HN.out]; exact hlt)⟩
        obtain ⟨c0, c1, c2, c3⟩ := (HC2.out k p hpx).keep HR.out.2.below hbb
        have hnx := sums_take hpx
        rw [← HR.out.1] at hnx
        obtain ⟨y0, y1, y2, y3⟩ := clamp_byt (HB.out p (List.mem_of_getElem? hpx))
        obtain ⟨z0, z1, z2, z3⟩ := (HS k hk).out
        rw [← HR.out.1] at z0 z1 z2 z3
        have C1 := fun W => Lib.hid (clamp_any p W)
        have J := Lib.hid HR.out.2
        have q0 : (k : Int) < n := by omega
        have q1 : (0 : Int) ≤ k := by omega
        generalize clampP p = q at *
        replace hnx := Lib.hid hnx
        clear hpx HR
        have J1 := Lib.hid (J.out.step ((Below.refl _ _).alloc (Nat.le_refl _) (.cells #[.int .u8 (p.r : Int), .int .u8 (p.g : Int), .int .u8 (p.b : Int), .int .u8 (p.a : Int)] 23)))
        go_wp2_with fail
        refine (C1 _).out.mono ?_
        rintro e w1 ⟨rfl, hb⟩
        have P := (Four.new wr (.int .u8 (p.r : Int)) (.int .u8 (p.g : Int)) (.int .u8 (p.b : Int)) (.int .u8 (p.a : Int)) 23).keep hb (by simp)
        have J2 := Lib.hid (J1.out.step hb)
        have hz5 : wr.heap.size < w1.heap.size := Nat.lt_of_lt_of_le (by simp) hb.size
        have hz6 := J.out.there
        obtain ⟨a0, a1, a2, a3, af⟩ := P
        have J3 : Hid (HeldA w (setP w1 wr.heap.size q)) := Lib.hid ⟨J2.out.at0.far q (by omega), below_setP J2.out.below (by have := J.out.below.size; omega) q, by rw [setP_size]; exact J2.out.there⟩
        clear hb c0 c1 c2 c3 J J1 J2
        go_wp2_with fail
        change Code.wp _ _ _ _ (setP w1 wr.heap.size q)
        have P2 : AtP (setP w1 wr.heap.size q) wr.heap.size q := Four.set (x0 := .int .u8 (p.r : Int)) (x1 := .int .u8 (p.g : Int)) (x2 := .int .u8 (p.b : Int)) (x3 := .int .u8 (p.a : Int)) ⟨a0, a1, a2, a3, af⟩
        clear a0 a1 a2 a3 af
        generalize setP w1 wr.heap.size q = w4 at *
        obtain ⟨a0, a1, a2, a3, af⟩ := P2
        go_quiet (fail)
        go_wp2_with fail
        go_roundw
        case rel => exact ⟨k + 1, sumP t q, by omega, by go_num, rfl, rfl, rfl, rfl, hnx.out.symm, J3.out.step (below_draws (Below.refl _ _) _)⟩
        case measure =>
          unfold leftN
          simp [intOf]
          omega
      · obtain rfl : k = n := by omega
        have q0 : ¬ (k : Int) < k := by omega
        have ht := HR.out.1
        rw [List.take_of_length_le (by rw [HN.out]; exact Nat.le_refl _)] at ht
        have hz := HZ.out
        rw [← ht] at hsum hz
        obtain ⟨s0, s1, s2, s3⟩ := hsum.out
        have hcn : (wr.alloc (.cells #[.int .u64 (k : Int)] 45)).cell? ⟨wr.heap.size, 0, none⟩ = some (.int .u64 (k : Int)) := by simp [go_sem]
        have D0 := meanc_any hp (by omega) s0 _ hcn
        have D1 := meanc_any hp (by omega) s1 _ hcn
        have D2 := meanc_any hp (by omega) s2 _ hcn
        have D3 := meanc_any hp (by omega) s3 _ hcn
        have e0 : meanB t.r k = R.r := by rw [hz]
        have e1 : meanB t.g k = R.g := by rw [hz]
        have e2 : meanB t.b k = R.b := by rw [hz]
        have e3 : meanB t.a k = R.a := by rw [hz]
        rw [e0] at D0
        rw [e1] at D1
        rw [e2] at D2
        rw [e3] at D3
        replace D0 := Lib.hid D0
        replace D1 := Lib.hid D1
        replace D2 := Lib.hid D2
        replace D3 := Lib.hid D3
        clear e0 e1 e2 e3 hz
        have J := Lib.hid HR.out.2
        have J1 := Lib.hid (J.out.step ((Below.refl _ _).alloc (Nat.le_refl _) (.cells #[.int .u64 (k : Int)] 45)))
        obtain ⟨u0, u1, u2, u3, uf⟩ := J.out.at0
        have JB := Lib.hid J.out.below
        have hz6 := J.out.there
        have hne : ¬ w.heap.size = wr.heap.size := by omega
        have V := (AtP.set J.out.at0 R).keep ((Below.refl _ _).alloc (Nat.le_refl _) (.cells #[.int .u64 (k : Int)] 45)) (by rw [setP_size]; exact hz6)
        obtain ⟨v0, v1, v2, v3, _⟩ := V
        unfold setP set4 at v0 v1 v2 v3
        replace v0 := Lib.hid v0
        replace v1 := Lib.hid v1
        replace v2 := Lib.hid v2
        replace v3 := Lib.hid v3
        clear ht hsum s0 s1 s2 s3 HR J hcn
        go_wp2_with (first
          | (go_at_call 31; (with_reducible refine D0.out.mono ?_); rintro e wq ⟨rfl, rfl⟩)
          | (go_at_call 31; (with_reducible refine D1.out.mono ?_); rintro e wq ⟨rfl, rfl⟩)
          | (go_at_call 31; (with_reducible refine D2.out.mono ?_); rintro e wq ⟨rfl, rfl⟩)
          | (go_at_call 31; (with_reducible refine D3.out.mono ?_); rintro e wq ⟨rfl, rfl⟩)
          | fail)
        exact bodyPost_ret (v := .agg #[.int .u8 (R.r : Int), .int .u8 (R.g : Int), .int .u8 (R.b : Int), .int .u8 (R.a : Int)]) (by simp [results, Try.results26, go_sem, v0.out, v1.out, v2.out, v3.out]) rfl ⟨rfl, (below_setP JB.out (Nat.le_refl _) R).alloc (by rw [setP_size]; omega) _⟩

set_option maxRecDepth 100000 in
set_option maxHeartbeats 4000000 in
theorem ravg_any {v : Value} {l : List Px} (hl : ∀ p ∈ l, Byt p) (hn6 : l.length ≤ 100000) {w : World} (h : Pxs w v l) : Calls Try.prog 27 #[v] w (GivesP (avgP l) w) := by
  obtain ⟨A, c, rfl, hc, hm, hcell⟩ := h
  simp only [maxLen] at hm
  have HC := Lib.hid hcell
  have HB := Lib.hid hl
  obtain ⟨n, hn⟩ : ∃ n, l.length = n := ⟨_, rfl⟩
  have HN := Lib.hid hn
  rw [hn] at hc hn6 ⊢
  have J : Hid (HeldA w (w.alloc (.cells #[.int .u8 0, .int .u8 0, .int .u8 0, .int .u8 0] 23))) := Lib.hid (HeldA.new w)
  unfold GivesP
  by_cases h0 : n = 0
  · subst h0
    have hz : avgP l = zeroPx := by unfold avgP; rw [if_pos hn]
    rw [hz]
    clear hz hcell hl hn
    go_enter Try.func27, Try.ntmps27
    go_wp2_with fail
    exact bodyPost_ret (v := .agg #[.int .u8 (zeroPx.r : Int), .int .u8 (zeroPx.g : Int), .int .u8 (zeroPx.b : Int), .int .u8 (zeroPx.a : Int)]) (by simp [results, Try.results27, go_sem, zeroPx]) rfl ⟨rfl, (Below.refl _ _).alloc (Nat.le_refl _) _⟩
  · have hz : avgP l = ⟨meanB (sums l).r n, meanB (sums l).g n, meanB (sums l).b n, meanB (sums l).a n⟩ := by unfold avgP; rw [hn, if_neg h0]
    obtain ⟨R, hR⟩ : ∃ R, avgP l = R := ⟨_, rfl⟩
    rw [hR] at hz ⊢
    have HZ := Lib.hid hz
    clear hR
    have hp : 0 < n := by omega
    have hsum := Lib.hid (sums_at hl (Nat.le_refl _))
    rw [hn, List.take_of_length_le (by omega)] at hsum
    obtain ⟨bb, off, rfl, hbb, hcs⟩ := HC.out (by rw [HN.out]; exact hp)
    have HC2 := Lib.hid hcs
    have HS := fun (k : Nat) (hk : k ≤ n) => Lib.hid (sums_at hl (k := k) (by rw [HN.out]; exact hk))
    rw [hn] at HS
    clear hz hcell hl hn HC hcs
    have h1 : ((n : Int) == 0) = false := by simpa using h0
    go_enter Try.func27, Try.ntmps27
    go_wp2_with fail
    go_loopw [4, 5, 6, 7, 8] (fun s4 s5 s6 s7 s8 wr => ∃ (k : Nat) (t : Px), k ≤ n ∧ s8 = .int .i64 (k : Int) ∧ s4 = .int .i64 (t.r : Int) ∧ s5 = .int .i64 (t.g : Int) ∧ s6 = .int .i64 (t.b : Int) ∧ s7 = .int .i64 (t.a : Int) ∧ Hid (t = sums (l.take k) ∧ HeldA w wr)) (fun _ _ _ _ s8 _ => leftN n s8)
    case atStart => exact ⟨0, zeroPx, by omega, rfl, rfl, rfl, rfl, rfl, rfl, J.out⟩
    case round =>
      obtain ⟨k, t, hk, rfl, rfl, rfl, rfl, rfl, HR⟩ := hrel
      by_cases hlt : k < n
      · obtain ⟨p, hpx⟩ : ∃ p, l[k]? = some p := ⟨_, List.getElem?_eq_getElem (by rw [HN.out]; exact hlt)⟩
        obtain ⟨c0, c1, c2, c3⟩ := (HC2.out k p hpx).keep HR.out.2.below hbb
        have hnx := sums_take hpx
        rw [← HR.out.1] at hnx
        obtain ⟨y0, y1, y2, y3⟩ := clamp_byt (HB.out p (List.mem_of_getElem? hpx))
        obtain ⟨z0, z1, z2, z3⟩ := (HS k hk).out
        rw [← HR.out.1] at z0 z1 z2 z3
        have C1 := fun W => Lib.hid (rclamp_any p W)
        have J := Lib.hid HR.out.2
        have q0 : (k : Int) < n := by omega
        have q1 : (0 : Int) ≤ k := by omega
        generalize clampP p = q at *
        replace hnx := Lib.hid hnx
        clear hpx HR
        go_wp2_with fail
        refine (C1 _).out.mono ?_
        rintro e w1 ⟨rfl, hb⟩
        have J2 := Lib.hid (J.out.step hb)
        have J3 := Lib.hid (J2.out.step ((Below.refl _ _).alloc (Nat.le_refl _) (.cells #[.int .u8 (q.r : Int), .int .u8 (q.g : Int), .int .u8 (q.b : Int), .int .u8 (q.a : Int)] 23)))
        clear hb c0 c1 c2 c3 J J2
        go_wp2_with fail
        go_roundw
        case rel => exact ⟨k + 1, sumP t q, by omega, by go_num, rfl, rfl, rfl, rfl, hnx.out.symm, J3.out⟩
        case measure =>
          unfold leftN
          simp [intOf]
          omega
      · obtain rfl : k = n := by omega
        have q0 : ¬ (k : Int) < k := by omega
        have ht := HR.out.1
        rw [List.take_of_length_le (by rw [HN.out]; exact Nat.le_refl _)] at ht
        have hz := HZ.out
        rw [← ht] at hsum hz
        obtain ⟨s0, s1, s2, s3⟩ := hsum.out
        have D0 := mean_any hp (by omega) s0 wr
        have D1 := mean_any hp (by omega) s1 wr
        have D2 := mean_any hp (by omega) s2 wr
        have D3 := mean_any hp (by omega) s3 wr
        have e0 : meanB t.r k = R.r := by rw [hz]
        have e1 : meanB t.g k = R.g := by rw [hz]
        have e2 : meanB t.b k = R.b := by rw [hz]
        have e3 : meanB t.a k = R.a := by rw [hz]
        rw [e0] at D0
        rw [e1] at D1
        rw [e2] at D2
        rw [e3] at D3
        replace D0 := Lib.hid D0
        replace D1 := Lib.hid D1
        replace D2 := Lib.hid D2
        replace D3 := Lib.hid D3
        clear e0 e1 e2 e3 hz
        have J := Lib.hid HR.out.2
        obtain ⟨u0, u1, u2, u3, uf⟩ := J.out.at0
        have JB := Lib.hid J.out.below
        have hz6 := J.out.there
        have hne : ¬ w.heap.size = wr.heap.size := by omega
        clear ht hsum s0 s1 s2 s3 HR J
        go_wp2_with (first
          | (go_at_call 32; (with_reducible refine D0.out.mono ?_); rintro e wq ⟨rfl, rfl⟩)
          | (go_at_call 32; (with_reducible refine D1.out.mono ?_); rintro e wq ⟨rfl, rfl⟩)
          | (go_at_call 32; (with_reducible refine D2.out.mono ?_); rintro e wq ⟨rfl, rfl⟩)
          | (go_at_call 32; (with_reducible refine D3.out.mono ?_); rintro e wq ⟨rfl, rfl⟩)
          | fail)
        exact bodyPost_ret (v := .agg #[.int .u8 (R.r : Int), .int .u8 (R.g : Int), .int .u8 (R.b : Int), .int .u8 (R.a : Int)]) (by simp [results, Try.results27, go_sem, u0, u1, u2, u3]) rfl ⟨rfl, below_setP JB.out (Nat.le_refl _) R⟩

end Go.Proofs.Ytkphkmcdbmphlaa
