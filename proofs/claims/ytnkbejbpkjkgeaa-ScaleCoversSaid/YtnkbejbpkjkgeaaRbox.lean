/-
  Box of the reference of package scale.
-/
import Derived.Test.YtnkbejbpkjkgeaaRcov
namespace Go.Proofs.Ytnkbejbpkjkgeaa
open Go.RowKit

theorem box_next {a b p q x y : Nat} (l : List Px) (hx : x < p) (hy : y < q) : (boxL a b l p q).take (y * p + x + 1) = (boxL a b l p q).take (y * p + x) ++ [boxP a b l x y p q] := by
  have hk := idx_lt hx hy
  rw [take_next (by rw [box_len]; exact hk)]
  unfold boxL
  rw [tab_getD _ _ hk, idx_mod hx, idx_div hx]

set_option maxRecDepth 100000 in
set_option maxHeartbeats 8000000 in
theorem rbox_good {a b p q : Nat} {v : Value} {l : List Px} {w : World} (h : Pxs w v l) (hv : Vld a b l) (hlb : ∀ z ∈ l, Byt z) (hp : 1 ≤ p ∧ p ≤ 256) (hq : 1 ≤ q ∧ q ≤ 256) : Calls Try.prog 17 #[.agg #[.int .i64 (a : Int), .int .i64 (b : Int), v], .int .i64 (p : Int), .int .i64 (q : Int)] w (Outs p q (boxL a b l p q) 0 w) := by
  have H := Lib.hid h
  have C1 := fun W (hb : Below w.heap.size w W) => Lib.hid (rcheck_any (a : Int) (b : Int) (p : Int) (q : Int) (H.out.below hb))
  have e0 : chkE a b l p q = 0 := by
    unfold chkE
    rw [if_pos hv.vBuf, if_pos (siz_iff.2 ⟨by omega, by omega⟩)]
  rw [e0] at C1
  obtain ⟨A, c, rfl, hc1, hc2, hcell⟩ := h
  have J := Lib.hid (heldS w a b (.slice A l.length c))
  obtain ⟨h0, h6⟩ := hv.small
  obtain ⟨bb, off, rfl, hbb, hcs⟩ := hcell h0
  have HCS := Lib.hid hcs
  have hms : p * q ≤ 65536 := mul_small hp.2 hq.2
  have hms1 := pos_mul hp.1 hq.1
  have CC := fun x y (hx : x < p) (hy : y < q) W (hb : Below w.heap.size w W) => Lib.hid (rcovered_any (H.out.below hb) hv hlb hx hy (by omega) (by omega))
  have HNX := fun x y hx hy => Lib.hid (box_next (a := a) (b := b) (p := p) (q := q) (x := x) (y := y) l hx hy)
  have HL := Lib.hid (box_len a b l p q)
  have HV := Lib.hid hv
  obtain ⟨hp1, hp2⟩ := hp
  obtain ⟨hq1, hq2⟩ := hq
  unfold Outs
  generalize boxL a b l p q = O at *
  obtain ⟨n, hn⟩ : ∃ n, l.length = n := ⟨_, rfl⟩
  have HN := Lib.hid hn
  have hnab := Lib.hid (hn.symm.trans hv.len)
  rw [hn] at J C1 CC hc1 h6 ⊢
  clear hcell hv e0 hcs hn hc2 H h0 hlb
  go_enter Try.func17, Try.ntmps17
  go_wp2_with fail
  refine (C1 _ J.out.below).out.mono ?_
  rintro e w1 ⟨rfl, hb⟩
  replace J := Lib.hid (J.out.step hb)
  clear hb C1
  go_wp2_with fail
  have hkm := (J.out.tri (l1 := [])).2.2.2.2
  have hwb := J.out.below.size
  have G : Hid (OwnP (w1.alloc (.cells #[.int .i64 (p : Int), .int .i64 (q : Int), .slice none 0 0] 24)) (w1.heap.size + 1) (.slice none 0 0) (O.take (0 * p)) ∧ Held w (w1.alloc (.cells #[.int .i64 (p : Int), .int .i64 (q : Int), .slice none 0 0] 24)) ((w1.heap.size, [.int .i64 (p : Int), .int .i64 (q : Int), .slice none 0 0]) :: [(w.heap.size + 1, [.int .i64 0, .int .i64 0, .slice none 0 0]), (w.heap.size, [.int .i64 (a : Int), .int .i64 (b : Int), .slice (some ⟨bb, off, none⟩) n c])])) := Lib.hid ⟨by rw [Nat.zero_mul, List.take_zero]; exact ownP_nil _ _, J.out.alloc [.int .i64 (p : Int), .int .i64 (q : Int), .slice none 0 0] 24⟩
  generalize w1.alloc (.cells #[.int .i64 (p : Int), .int .i64 (q : Int), .slice none 0 0] 24) = w3 at *
  generalize w1.heap.size = mm at *
  have HLT : ∀ vs : List Value, Hid (∀ z ∈ ((mm, vs) :: [(w.heap.size + 1, [.int .i64 0, .int .i64 0, .slice none 0 0]), (w.heap.size, [.int .i64 (a : Int), .int .i64 (b : Int), .slice (some ⟨bb, off, none⟩) n c])] : List (Nat × List Value)), z.1 < mm + 1) := fun vs => Lib.hid (fun z hz => by
    simp only [List.mem_cons, List.not_mem_nil, or_false] at hz
    rcases hz with rfl | rfl | rfl
    · simp
    · simp only; omega
    · simp only; omega)
  clear J
  go_loopw [10] (fun s10 wr => ∃ (y : Nat) (A1 : Option Addr) (k1 c1 : Nat), y ≤ q ∧ s10 = .int .i64 (y : Int) ∧ Hid (OwnP wr (mm + 1) (.slice A1 k1 c1) (O.take (y * p)) ∧ Held w wr ((mm, [.int .i64 (p : Int), .int .i64 (q : Int), .slice A1 k1 c1]) :: [(w.heap.size + 1, [.int .i64 0, .int .i64 0, .slice none 0 0]), (w.heap.size, [.int .i64 (a : Int), .int .i64 (b : Int), .slice (some ⟨bb, off, none⟩) n c])]))) (fun s10 _ => leftN q s10)
  case atStart => exact ⟨0, none, 0, 0, Nat.zero_le _, rfl, G⟩
  case round =>
    obtain ⟨y, A1, k1, c1, hy, rfl, HR⟩ := hrel
    by_cases hlt : y < q
    · have q1 : (y : Int) < q := by omega
      obtain ⟨wu, rfl⟩ : ∃ z, z = wr := ⟨_, rfl⟩
      go_wp2_with fail
      go_loopw [11] (fun s11 wr => ∃ (x : Nat) (A1 : Option Addr) (k1 c1 : Nat), x ≤ p ∧ s11 = .int .i64 (x : Int) ∧ Hid (OwnP wr (mm + 1) (.slice A1 k1 c1) (O.take (y * p + x)) ∧ Held w wr ((mm, [.int .i64 (p : Int), .int .i64 (q : Int), .slice A1 k1 c1]) :: [(w.heap.size + 1, [.int .i64 0, .int .i64 0, .slice none 0 0]), (w.heap.size, [.int .i64 (a : Int), .int .i64 (b : Int), .slice (some ⟨bb, off, none⟩) n c])]))) (fun s11 _ => leftN p s11)
      case atStart => exact ⟨0, A1, k1, c1, Nat.zero_le _, rfl, HR⟩
      case round =>
        clear HR
        obtain ⟨x, A1, k1, c1, hx, rfl, HS⟩ := hrel
        by_cases hxl : x < p
        · have q2 : (x : Int) < p := by omega
          have hnx := HNX x y hxl hlt
          have C4 := CC x y hxl hlt
          have hlen := Lib.hid (show (O.take (y * p + x)).length + [boxP a b l x y p q].length ≤ 4000000 by
            have := hms
            rw [List.length_take, HL.out, List.length_singleton]
            omega)
          generalize boxP a b l x y p q = px at *
          generalize hLk : O.take (y * p + x) = Lk at *
          have hnx2 : Hid (O.take (y * p + (x + 1)) = Lk ++ [px]) := Lib.hid (by rw [← hnx.out, Nat.add_assoc])
          clear hnx hLk HNX
          obtain ⟨d0, d1, d2, _, dt⟩ := HS.out.2.tri (l1 := [_, _])
          obtain ⟨m0, m1, m2, _, mt⟩ := HS.out.2.tri (l1 := [])
          have BD := Lib.hid HS.out.2.drew.below
          go_wp2_with fail
          go_region_law (first
            | (go_simp; go_at_call 40; (with_reducible refine (C4 _ BD.out).out.mono ?_); rintro e w5 ⟨rfl, hb5⟩; have J5 := Lib.hid (HS.out.2.drew.step hb5); have O5 := Lib.hid ((show OwnP wr.drew (mm + 1) (.slice A1 k1 c1) Lk from HS.out.1).below hb5); obtain ⟨n0, n1', n2, _, nt⟩ := J5.out.tri (l1 := []); clear hb5)
            | (refine step_appP (by rfl) _ _ (by rfl) (base := mm + 1) (l := Lk) (m := [px]) (by rfl) (by exact O5.out.alloc _) (by rfl) (by exact pxs_one w5 px) (by exact hlen.out) (by have := (J5.out.tri (l1 := [])).2.2.2.2; rw [World.size_alloc]; omega) ?_; intro v6 w6 ho6 hg6 _; have J6 := Lib.hid ((J5.out.made _).grownO hg6 (O5.out.alloc _) (by omega) (HLT _).out); obtain ⟨A6, c6, rfl, _, _⟩ := ho6.pxs.shape; rw [List.length_append, List.length_singleton] at ho6; rw [← hnx2.out] at ho6; have O6 := Lib.hid ho6; obtain ⟨z0, z1, z2, zf, zt⟩ := J6.out.tri (l1 := []); clear ho6 hg6))
          all_goals
            have Z := Lib.hid (And.intro (O6.out.cell (k := mm) (Nat.lt_succ_self mm) 2 (.slice A6 (Lk.length + 1) c6)) (J6.out.cell (l1 := []) (i := 2) (by simp) (.slice A6 (Lk.length + 1) c6)))
            clear z0 z1 z2 zf zt n0 n1' n2 nt d0 d1 d2 dt m0 m1 m2 mt J6 O6 J5 O5 HS C4
            go_wp2_with fail
            go_roundw
            case rel => exact ⟨x + 1, A6, Lk.length + 1, c6, by omega, by go_num, Z⟩
            case measure =>
              unfold leftN
              simp [intOf]
              omega
        · obtain rfl : p = x := by omega
          have q2 : ¬ (p : Int) < p := by omega
          rw [show y * p + p = (y + 1) * p by rw [Nat.add_mul, Nat.one_mul]] at HS
          go_wp2_with fail
          go_roundw
          case rel => exact ⟨y + 1, A1, k1, c1, by omega, by go_num, HS⟩
          case measure =>
            unfold leftN
            simp [intOf]
            omega
    · obtain rfl : q = y := by omega
      have q1 : ¬ (q : Int) < q := by omega
      have hO : O.take (q * p) = O := List.take_of_length_le (by rw [HL.out, Nat.mul_comm]; exact Nat.le_refl _)
      rw [hO] at HR
      have Q := Lib.hid ((HR.out.1.set3 (k := w.heap.size + 1) (by omega) (.int .i64 (p : Int)) (.int .i64 (q : Int)) (.slice A1 k1 c1)).res (w := w) (by omega) (by rw [HL.out]; omega))
      have K := Lib.hid (below_set3 (y0 := .int .i64 (p : Int)) (y1 := .int .i64 (q : Int)) (y2 := .slice A1 k1 c1) HR.out.2.below (by omega : w.heap.size ≤ w.heap.size + 1))
      obtain ⟨m0, m1, m2, _, mt⟩ := HR.out.2.tri (l1 := [])
      obtain ⟨z0, z1, z2, zf, zt⟩ := HR.out.2.tri (l1 := [_])
      clear HR hO
      go_wp2_with fail
      exact bodyPost_ret (v := .tuple #[.agg #[.int .i64 (p : Int), .int .i64 (q : Int), .slice A1 k1 c1], .int .i64 0]) (by simp [results, Try.results17, go_sem, z0, z1, z2]) rfl ⟨_, rfl, Q.out, K.out⟩

end Go.Proofs.Ytnkbejbpkjkgeaa
