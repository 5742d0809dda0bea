/-
  OpaqueRegion and Diff of the reference, where the buffers are valid.
-/
import Derived.Test.YtahhcklkcibgoaaRdiff
import Derived.Test.YtahhcklkcibgoaaRruns
namespace Go.Proofs.Ytahhcklkcibgoaa
open Go.RowKit

def marksL (has : Nat → Bool) (n : Nat) : List Bool := (List.range n).map has
theorem marks_len (has : Nat → Bool) (n : Nat) : (marksL has n).length = n := by unfold marksL; simp
theorem marks_next (has : Nat → Bool) (n : Nat) : marksL has (n + 1) = marksL has n ++ [has n] := by unfold marksL; rw [List.range_succ, List.map_append]; rfl
theorem marks_get (has : Nat → Bool) (n i : Nat) (h : i < n) : (marksL has n)[i]? = some (has i) := by unfold marksL; simp [h]

theorem Held.grownBo {w W W' : World} {l : List (Nat × List Value)} (h : Held w W l) {v : Value} {base : Nat} {L : List Bool} (hg : W.grownBy W' v.ownBlock) (ho : OwnBo W base v L) (hw : w.heap.size ≤ base) (hl : ∀ p ∈ l, p.1 < base) : Held w W' l := by
  have hk := World.ownsRow.lt ho
  cases hv : v.ownBlock with
  | none =>
    rw [hv] at hg
    exact h.step ⟨hg.os, hg.tape, hg.output, hg.size, fun k hk => hg.block k hk (by simp)⟩
  | some g =>
    rw [hv] at hg
    obtain ⟨h1, _⟩ := hk g hv
    refine h.grown hg (by omega) fun p hp => ?_
    have := hl p hp
    omega

set_option maxRecDepth 100000 in
set_option maxHeartbeats 4000000 in
theorem ropq_good {a b : Nat} {v : Value} {l : List Px} {w : World} (h1 : Pxs w v l) (hv : Vld a b l) :
    Calls Try.prog 38 #[.agg #[.int .i64 (a : Int), .int .i64 (b : Int), v]] w (RunsO (runsP a (opqB l) l.length) w) := by
  have H1 := Lib.hid h1
  have HV := Lib.hid hv
  obtain ⟨A0, c0, rfl, hc, hm, hcell⟩ := h1
  simp only [maxLen] at hm
  have hs2 := mul_small hv.a2 hv.b2
  have hpos := Nat.mul_le_mul hv.a1 hv.b1
  obtain ⟨b0, off, rfl, hb0, hcs⟩ := hcell (by have := hv.len; omega)
  have HD := fun i (hi : i < l.length) => Lib.hid (hcs i _ (get_of hi))
  have C1 := fun W (hb : Below w.heap.size w W) => Lib.hid (rvalid_any (a : Int) (b : Int) (H1.out.below hb))
  rw [hv.vBuf] at C1
  have J := Lib.hid ((Held.nil w).alloc [.int .i64 (a : Int), .int .i64 (b : Int), .slice (some ⟨b0, off, none⟩) l.length c0] 24)
  have HE := fun i => Lib.hid (show decide ((l.getD i zeroPx).a = 255) = opqB l i from rfl)
  have HN := Lib.hid hv.len
  obtain ⟨n, hn⟩ : ∃ n, l.length = n := ⟨_, rfl⟩
  rw [hn] at hc HD C1 J HN ⊢
  have hnn := HN.out
  have C5 := fun W v bs (h : Bs W v bs) (hl : bs.length = a * b) (hh : ∀ i, i < a * b → bs[i]? = some (opqB l i)) => Lib.hid (rruns_any h ⟨HV.out.a1, HV.out.a2⟩ ⟨HV.out.b1, HV.out.b2⟩ hl (opqB l) hh)
  rw [← hnn] at C5 hs2 hpos
  clear hcs hcell hn hv hnn H1
  go_enter Try.func38, Try.ntmps38
  obtain ⟨y0, y1, y2, _, _⟩ := J.out.tri (l1 := [])
  go_wp2_with fail
  refine (C1 _ J.out.below).out.mono ?_
  rintro e w2 ⟨rfl, hb⟩
  replace J := Lib.hid (J.out.step hb)
  clear hb y0 y1 y2 C1
  go_wp2_with fail
  go_loopw [4, 5] (fun s4 s5 wr => ∃ (i : Nat) (A : Option Addr) (c1 : Nat), i ≤ n ∧ s4 = .slice A i c1 ∧ s5 = .int .i64 (i : Int) ∧ Hid (OwnBo wr (w.heap.size + 1) (.slice A i c1) (marksL (opqB l) i) ∧ Held w wr [(w.heap.size, [.int .i64 (a : Int), .int .i64 (b : Int), .slice (some ⟨b0, off, none⟩) n c0])])) (fun _ s5 _ => leftN n s5)
  case atStart => exact ⟨0, none, 0, Nat.zero_le _, rfl, rfl, Lib.hid ⟨ownBo_nil _ _, J.out⟩⟩
  case round =>
    obtain ⟨i, A, c1, hi, rfl, rfl, HR⟩ := hrel
    obtain ⟨y0, y1, y2, _, yt⟩ := HR.out.2.tri (l1 := [])
    by_cases hlt : i < n
    · have r0 : (i : Int) < n := by omega
      have r1 : (0 : Int) ≤ i := by omega
      obtain ⟨t0, t1, t2, t3⟩ := (HD i hlt).out.keep HR.out.2.below hb0
      have hbw : b0 < wr.heap.size := Nat.lt_of_lt_of_le hb0 HR.out.2.below.size
      have he := HE i
      have C6 := fun W => Lib.hid (ropaque_any (l.getD i zeroPx) W)
      have hnx := Lib.hid (marks_next (opqB l) i)
      have hln := Lib.hid (marks_len (opqB l) i)
      rw [he.out] at C6
      generalize l.getD i zeroPx = p at *
      generalize opqB l i = res at *
      clear HE
      go_wp2_with fail
      refine (C6 _).out.mono ?_
      rintro e w5 ⟨rfl, hb5⟩
      have HO := Lib.hid (HR.out.1.below hb5)
      have HJ := Lib.hid (HR.out.2.step hb5)
      have hlen : Hid ((marksL (opqB l) i).length + [res].length ≤ 4000000) := Lib.hid (by rw [hln.out]; simp; omega)
      have hsz := Lib.hid (HJ.out.tri (l1 := [])).2.2.2.2
      clear y0 y1 y2 t0 t1 t2 t3 hb5 HR
      go_wp2_with (at_builtin; refine wpList_appBo rfl _ _ rfl (base := w.heap.size + 1) (l := marksL (opqB l) i) (m := [res]) rfl (World.ownsRow.alloc HO.out _) rfl (bs_one _ res) hlen.out (by rw [World.size_alloc]; exact Nat.le_succ_of_le hsz.out) ?_; intro v1 w1 ho1 hg1 hl1 _)
      have hj6 := (HJ.out.made (.cells #[.bool res] 4)).grownBo hg1 (World.ownsRow.alloc HO.out _) (by omega) (fun q hq => by simp only [List.mem_cons, List.not_mem_nil, or_false] at hq; subst hq; exact Nat.lt_succ_self _)
      rw [← hnx.out] at ho1
      clear hg1 hl1 HJ HO hnx hlen hln
      obtain ⟨A6, c6, hv6, _⟩ := ho1.bs
      rw [marks_len] at hv6
      subst hv6
      have Z := Lib.hid (And.intro ho1 hj6)
      clear ho1 hj6
      go_roundw
      case rel => exact ⟨i + 1, A6, c6, by omega, rfl, by go_num, Z⟩
      case measure =>
        unfold leftN
        simp [intOf]
        omega
    · obtain rfl : n = i := by omega
      have r0 : ¬ (n : Int) < n := by omega
      go_wp2_with fail
      have HB := Lib.hid HR.out.1.bs
      refine (C5 _ _ _ HB.out (marks_len _ _) (fun j hj => marks_get _ _ _ hj)).out.mono ?_
      rintro e w5 ⟨u, rfl, ho5, hb5⟩
      have K := Lib.hid (Below.next HR.out.2.below hb5)
      have Q := Lib.hid (show OwnR w5 w.heap.size u (runsP a (opqB l) n) from ho5.mono HR.out.2.below.size)
      clear ho5 hb5 HR HB C5 HE y0 y1 y2 yt
      obtain ⟨A6, c6, rfl, _, _⟩ := Q.out.rs.shape
      obtain ⟨L, hL⟩ : ∃ L, runsP a (opqB l) n = L := ⟨_, rfl⟩
      have HLL := Lib.hid hL
      rw [hL] at Q ⊢
      clear hL
      obtain ⟨len, hlen⟩ : ∃ len, L.length = len := ⟨_, rfl⟩
      have HLEN := Lib.hid hlen
      rw [hlen] at Q ⊢
      clear hlen
      by_cases h6 : 256 < len
      · have h7 : (256 : Int) < len := by omega
        have P := Lib.hid h6
        clear h6
        go_wp2_with fail
        exact bodyPost_ret (v := .tuple #[.slice none 0 0, .int .i64 5]) (by simp [results, Try.results38, go_sem]) rfl (.inr ⟨by rw [HLL.out, HLEN.out]; exact P.out, rfl, K.out⟩)
      · have h7 : ¬ (256 : Int) < len := by omega
        have P := Lib.hid h6
        clear h6
        go_wp2_with fail
        exact bodyPost_ret (v := .tuple #[.slice A6 len c6, .int .i64 0]) (by simp [results, Try.results38, go_sem]) rfl (.inl ⟨by rw [HLL.out, HLEN.out]; exact Nat.le_of_not_lt P.out, _, rfl, by rw [HLL.out]; exact Q.out, K.out⟩)

end Go.Proofs.Ytahhcklkcibgoaa
