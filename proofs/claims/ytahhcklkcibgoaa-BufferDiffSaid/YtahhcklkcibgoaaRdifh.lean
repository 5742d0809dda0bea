/-
  Diff of the reference, where the buffers are valid.
-/
import Derived.Test.YtahhcklkcibgoaaRdifg
namespace Go.Proofs.Ytahhcklkcibgoaa
open Go.RowKit

set_option maxRecDepth 100000 in
set_option maxHeartbeats 4000000 in
theorem rdiff_good {a b : Nat} {v u : Value} {l m : List Px} {w : World} (h1 : Pxs w v l) (h2 : Pxs w u m) (hv : Vld a b l) (hv' : Vld a b m) :
    Calls Try.prog 35 #[.agg #[.int .i64 (a : Int), .int .i64 (b : Int), v], .agg #[.int .i64 (a : Int), .int .i64 (b : Int), u]] w (RunsO (runsP a (diffB l m) l.length) w) := by
  have H1 := Lib.hid h1
  have H2 := Lib.hid h2
  have HV := Lib.hid hv
  obtain ⟨A0', c0', rfl, hc', hm', hcell'⟩ := h2
  rw [hv'.len, ← hv.len] at hc' hcell'
  obtain ⟨A0, c0, rfl, hc, hm, hcell⟩ := h1
  simp only [maxLen] at hm hm'
  have hs2 := mul_small hv.a2 hv.b2
  have hpos := Nat.mul_le_mul hv.a1 hv.b1
  obtain ⟨b0, off, rfl, hb0, hcs⟩ := hcell (by have := hv.len; omega)
  obtain ⟨b0', off', rfl, hb0', hcs'⟩ := hcell' (by have := hv.len; omega)
  have HD' := fun i (hi : i < l.length) => Lib.hid (hcs' i _ (get_of (by rw [hv'.len, ← hv.len]; exact hi)))
  have HD := fun i (hi : i < l.length) => Lib.hid (hcs i _ (get_of hi))
  have C1 := fun W (hb : Below w.heap.size w W) => Lib.hid (rvalid_any (a : Int) (b : Int) (H1.out.below hb))
  rw [hv.vBuf] at C1
  have C2 := fun W (hb : Below w.heap.size w W) => Lib.hid (rvalid_any (a : Int) (b : Int) (H2.out.below hb))
  rw [hv'.vBuf, hv'.len, ← hv.len] at C2
  rw [hv'.len, ← hv.len]
  have J := Lib.hid (heldD w a b (.slice (some ⟨b0, off, none⟩) l.length c0) a b (.slice (some ⟨b0', off', none⟩) l.length c0'))
  have HE := fun i => Lib.hid (show (!sameP (l.getD i zeroPx) (m.getD i zeroPx)) = diffB l m i by rw [same_dec]; rfl)
  have HN := Lib.hid hv.len
  obtain ⟨n, hn⟩ : ∃ n, l.length = n := ⟨_, rfl⟩
  rw [hn] at hc hc' HD HD' C1 C2 J HN ⊢
  have hnn := HN.out
  have C5 := fun W v bs (h : Bs W v bs) (hl : bs.length = a * b) (hh : ∀ i, i < a * b → bs[i]? = some (diffB l m i)) => Lib.hid (rruns_any h ⟨HV.out.a1, HV.out.a2⟩ ⟨HV.out.b1, HV.out.b2⟩ hl (diffB l m) hh)
  rw [← hnn] at C5 hs2 hpos
  clear hcs hcell hcs' hcell' hn hv hv' hnn H1 H2
  go_enter Try.func35, Try.ntmps35
  obtain ⟨y0, y1, y2, _, _⟩ := J.out.tri (l1 := [_])
  go_wp2_with fail
  refine (C1 _ J.out.below).out.mono ?_
  rintro e w1 ⟨rfl, hb⟩
  replace J := Lib.hid (J.out.step hb)
  clear hb y0 y1 y2
  obtain ⟨y0, y1, y2, _, _⟩ := J.out.tri (l1 := [])
  go_wp2_with fail
  refine (C2 _ J.out.below).out.mono ?_
  rintro e w2 ⟨rfl, hb⟩
  replace J := Lib.hid (J.out.step hb)
  clear hb y0 y1 y2 C1 C2
  obtain ⟨y0, y1, y2, _, _⟩ := J.out.tri (l1 := [])
  obtain ⟨x0, x1, x2, _, _⟩ := J.out.tri (l1 := [_])
  go_wp2_with fail
  clear x0 x1 x2 y0 y1 y2
  go_loopw [6, 7] (fun s4 s5 wr => ∃ (i : Nat) (A : Option Addr) (c1 : Nat), i ≤ n ∧ s4 = .slice A i c1 ∧ s5 = .int .i64 (i : Int) ∧ Hid (OwnBo wr (w.heap.size + 1 + 1) (.slice A i c1) (marksL (diffB l m) i) ∧ Held w wr [(w.heap.size + 1, [.int .i64 (a : Int), .int .i64 (b : Int), .slice (some ⟨b0', off', none⟩) n c0']), (w.heap.size, [.int .i64 (a : Int), .int .i64 (b : Int), .slice (some ⟨b0, off, none⟩) n c0])])) (fun _ s5 _ => leftN n s5)
  case atStart => exact ⟨0, none, 0, Nat.zero_le _, rfl, rfl, Lib.hid ⟨ownBo_nil _ _, J.out⟩⟩
  case round =>
    obtain ⟨i, A, c1, hi, rfl, rfl, HR⟩ := hrel
    obtain ⟨y0, y1, y2, _, yt⟩ := HR.out.2.tri (l1 := [])
    obtain ⟨x0, x1, x2, _, xt⟩ := HR.out.2.tri (l1 := [_])
    by_cases hlt : i < n
    · have r0 : (i : Int) < n := by omega
      have r1 : (0 : Int) ≤ i := by omega
      obtain ⟨t0, t1, t2, t3⟩ := (HD i hlt).out.keep HR.out.2.below hb0
      have hbw : b0 < wr.heap.size := Nat.lt_of_lt_of_le hb0 HR.out.2.below.size
      have he := HE i
      obtain ⟨s0, s1, s2, s3⟩ := (HD' i hlt).out.keep HR.out.2.below hb0'
      have hbw' : b0' < wr.heap.size := Nat.lt_of_lt_of_le hb0' HR.out.2.below.size
      have E1 := fun W => neq_px (l.getD i zeroPx) (m.getD i zeroPx) W
      rw [he.out] at E1
      have hnx := Lib.hid (marks_next (diffB l m) i)
      have hln := Lib.hid (marks_len (diffB l m) i)
      have HO := Lib.hid (show OwnBo wr.drew (w.heap.size + 1 + 1) (.slice A i c1) (marksL (diffB l m) i) from HR.out.1.below (Below.refl _ _).drew)
      have HJ := Lib.hid HR.out.2.drew
      generalize l.getD i zeroPx = p at *
      generalize m.getD i zeroPx = q at *
      generalize diffB l m i = res at *
      have hlen : Hid ((marksL (diffB l m) i).length + [res].length ≤ 4000000) := Lib.hid (by rw [hln.out]; simp; omega)
      have hsz := Lib.hid (show w.heap.size + 1 + 1 ≤ wr.heap.size from yt)
      clear HE he
      go_wp2_with fail
      go_region_law (first
        | (refine step_appBo (by rfl) _ _ (by rfl) (base := w.heap.size + 1 + 1) (l := marksL (diffB l m) i) (m := [res]) (by rfl) (by exact World.ownsRow.alloc HO.out _) (by rfl) (by exact bs_one _ res) (by exact hlen.out) (by exact Nat.le_trans hsz.out (by simp)) ?_; intro v1 w1 ho1 hg1 hl1 _))
      all_goals
        have hj6 := (HJ.out.made (.cells #[.bool res] 4)).grownBo hg1 (World.ownsRow.alloc HO.out _) (by omega) (fun z hz => by
          simp only [List.mem_cons, List.not_mem_nil, or_false] at hz
          rcases hz with rfl | rfl
          · simp only; omega
          · simp only; omega)
        rw [← hnx.out] at ho1
        obtain ⟨A6, c6, hv6, _⟩ := ho1.bs
        rw [marks_len] at hv6
        subst hv6
        have Z := Lib.hid (And.intro ho1 hj6)
        clear ho1 hj6 hg1 hl1 HJ HO HR hnx hlen hln hsz s0 s1 s2 s3 t0 t1 t2 t3 y0 y1 y2 yt x0 x1 x2 xt E1
        go_wp2_with fail
        go_roundw
        case rel => exact ⟨i + 1, A6, c6, by omega, rfl, by go_num, Z⟩
        case measure =>
          unfold leftN
          simp [intOf]
          omega
    · obtain rfl : n = i := by omega
      have r0 : ¬ (n : Int) < n := by omega
      go_wp2_with fail
      have HB := Lib.hid HR.out.1.bs
      refine (C5 _ _ _ HB.out (marks_len _ _) (fun j hj => marks_get _ _ _ hj)).out.mono ?_
      rintro e w5 ⟨u, rfl, ho5, hb5⟩
      have K := Lib.hid (Below.next HR.out.2.below hb5)
      have Q := Lib.hid (show OwnR w5 w.heap.size u (runsP a (diffB l m) n) from ho5.mono HR.out.2.below.size)
      clear ho5 hb5 HR HB C5 HE y0 y1 y2 yt
      obtain ⟨A6, c6, rfl, _, _⟩ := Q.out.rs.shape
      obtain ⟨L, hL⟩ : ∃ L, runsP a (diffB l m) n = L := ⟨_, rfl⟩
      have HLL := Lib.hid hL
      rw [hL] at Q ⊢
      clear hL
      obtain ⟨len, hlen⟩ : ∃ len, L.length = len := ⟨_, rfl⟩
      have HLEN := Lib.hid hlen
      rw [hlen] at Q ⊢
      clear hlen
      by_cases h6 : 256 < len
      · have h7 : (256 : Int) < len := by omega
        have P := Lib.hid h6
        clear h6
        go_wp2_with fail
        exact bodyPost_ret (v := .tuple #[.slice none 0 0, .int .i64 5]) (by simp [results, Try.results35, go_sem]) rfl (.inr ⟨by rw [HLL.out, HLEN.out]; exact P.out, rfl, K.out⟩)
      · have h7 : ¬ (256 : Int) < len := by omega
        have P := Lib.hid h6
        clear h6
        go_wp2_with fail
        exact bodyPost_ret (v := .tuple #[.slice A6 len c6, .int .i64 0]) (by simp [results, Try.results35, go_sem]) rfl (.inl ⟨by rw [HLL.out, HLEN.out]; exact Nat.le_of_not_lt P.out, _, rfl, by rw [HLL.out]; exact Q.out, K.out⟩)

end Go.Proofs.Ytahhcklkcibgoaa
