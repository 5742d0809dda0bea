/-
  Pixels of the reference: the same image.
-/
import Derived.Test.YthedglfocjljjaaGreatDoorTrc
namespace Go.Proofs.YthedglfocjljjaaGreatDoor.Trf
open Go.RowKit

theorem At4.setP {W : World} {b off j g i : Nat} {p q : Px} (h : At4 W b off j p) (hne : b ≠ g) : At4 (Go.Proofs.YthedglfocjljjaaGreatDoor.Trf.setP W g i q) b off j p := by
  obtain ⟨a0, a1, a2, a3⟩ := h
  unfold At4 Go.Proofs.YthedglfocjljjaaGreatDoor.Trf.setP
  simp [go_sem, a0, a1, a2, a3]
theorem Two.setP {W : World} {k g i : Nat} {x0 x1 : Value} {q : Px} (h : Two W k x0 x1) (hne : k ≠ g) : Two (Go.Proofs.YthedglfocjljjaaGreatDoor.Trf.setP W g i q) k x0 x1 := by
  obtain ⟨h0, h1, h2⟩ := h
  unfold Two Go.Proofs.YthedglfocjljjaaGreatDoor.Trf.setP
  simp [go_sem, h0, h1, h2]

theorem sums {a : Int} {A x y k : Nat} (ha : a = A) (hk : k = y * A + x) (hk6 : k ≤ 65536) : wrap64 ((y : Int) * a) = (y * A : Nat) ∧ IntKind.i64.wrap ((y : Int) * a) = (y * A : Nat) ∧ wrap64 (((y * A : Nat) : Int) + x) = (k : Int) ∧ IntKind.i64.wrap (((y * A : Nat) : Int) + x) = (k : Int) := by
  have e : (y : Int) * a = ((y * A : Nat) : Int) := by rw [ha, Int.natCast_mul]
  rw [e]
  generalize y * A = m at *
  refine ⟨IntWalk.wrap64_in _ (by omega), IntWalk.i64_in _ (by omega), ?_, ?_⟩
  · rw [IntWalk.wrap64_in _ (by omega)]; omega
  · rw [IntWalk.i64_in _ (by omega)]; omega

theorem place_sums {PX PY sw sh : Int} {sg n : Nat} (hi : (sg : Int) = PY * sw + PX) (hp : (0 ≤ PX ∧ PX < sw) ∧ (0 ≤ PY ∧ PY < sh)) (hs : sg < n) (hn : n ≤ 65536) :
    ∃ M, wrap64 (PY * sw) = M ∧ IntKind.i64.wrap (PY * sw) = M ∧ wrap64 (M + PX) = (sg : Int) ∧ IntKind.i64.wrap (M + PX) = (sg : Int) := by
  have hM0 : 0 ≤ PY * sw := Int.mul_nonneg hp.2.1 (by omega)
  generalize PY * sw = M at *
  exact ⟨M, IntWalk.wrap64_in _ (by omega), IntWalk.i64_in _ (by omega), by rw [← hi]; exact IntWalk.wrap64_in _ (by omega), by rw [← hi]; exact IntWalk.i64_in _ (by omega)⟩

set_option maxRecDepth 100000 in
set_option maxHeartbeats 4000000 in
theorem rpixels_any (t a b : Int) {v : Value} {l : List Px} {w : World} (h : Pxs w v l) : Calls Tryz.prog 56 #[.int .i64 t, .agg #[.int .i64 a, .int .i64 b, v]] w (Gives (oW t a b l) (oH t a b l) (oL t a b l) w) := by
  have HV := Lib.hid h
  have C1 := fun W (hW : Pxs W v l) => Lib.hid (rvalid_buf_any a b hW)
  obtain ⟨A, c, rfl, hc, hm, hcell⟩ := h
  simp only [maxLen] at hm
  have HC := Lib.hid hcell
  clear hcell
  have J := Lib.hid (Below.refl (BB w a b A l.length c).heap.size (BB w a b A l.length c))
  cases hv : vBuf a b l
  · obtain ⟨e0, e1, e2⟩ := zero_out (t := t) hv
    rw [e0, e1, e2]
    rw [hv] at C1
    clear e0 e1 e2 hv
    generalize l.length = n at *
    go_enter Tryz.func56, Tryz.ntmps56
    go_wp2_with fail
    refine (C1 _ (HV.out.below (bb_held J.out).2.2.1)).out.mono ?_
    rintro e w1 ⟨rfl, hb⟩
    obtain ⟨_, ⟨o0, o1, o2, of⟩, B, _⟩ := bb_held hb
    replace B := Lib.hid B
    clear hb
    go_wp2_with fail
    refine bodyPost_ret (v := .agg #[.int .i64 0, .int .i64 0, .slice none 0 0]) (by simp [results, Tryz.results56, go_sem, o0, o1, o2]) rfl ⟨none, 0, rfl, pxs_nil _, ?_, fun _ h => by cases h⟩
    exact below_set3 B.out (Nat.le_succ _)
  · obtain ⟨e0, e1, e2⟩ := full_out (t := t) hv
    rw [e0, e1, e2]
    rw [hv] at C1
    obtain ⟨ha, hb, hlen, _⟩ := vBuf_iff.1 hv
    have hp := mul_small ha hb
    have C2 := fun W => Lib.hid (rsize_any t a b W)
    have C6 := fun W => Lib.hid (rclean_any t W)
    have hpos := si_pos t (w := a) (h := b) (by omega) (by omega)
    obtain ⟨bb, off, rfl, hbb, hcs⟩ := HC.out (by omega)
    have HS := Lib.hid hcs
    have HL := Lib.hid hlen
    obtain ⟨n, hn⟩ : ∃ n, l.length = n := ⟨_, rfl⟩
    obtain ⟨A, hA⟩ : ∃ A : Nat, a = (A : Int) := ⟨a.toNat, by omega⟩
    obtain ⟨B', hB⟩ : ∃ B : Nat, b = (B : Int) := ⟨b.toNat, by omega⟩
    have HN := Lib.hid hn
    have hnAB : n = B' * A := by
      have : ((n : Nat) : Int) = ((B' * A : Nat) : Int) := by rw [← hn, hlen, hA, hB, Int.natCast_mul, Int.mul_comm]
      exact_mod_cast this
    have hnb : n ≤ 65536 := by omega
    have hmk := make_px n hnb
    have hil : (imgP t a b l).length = n := by rw [img_len, hn]
    have hin : ∀ x y : Nat, x < A → y < B' → y * A + x < n ∧ ((y * A + x : Nat) : Int) % a = x ∧ ((y * A + x : Nat) : Int) / a = y := by
      intro x y hx hy
      have e : ((y * A + x : Nat) : Int) = (y : Int) * a + x := by rw [hA, Int.natCast_add, Int.natCast_mul]
      refine ⟨?_, ?_, ?_⟩
      · have := (row_lt (w := a) (h := b) (x := x) (y := y) (by omega) (by omega)).2
        rw [← hlen, hn, ← e] at this
        omega
      · rw [e]; exact (row_div (by omega)).1
      · rw [e]; exact (row_div (by omega)).2
    have C4 := fun (x y : Nat) (hx : x < A) (hy : y < B') => Lib.hid (place_any (cl t) a b x y (cl_in t) ⟨⟨by omega, by omega⟩, by omega, by omega⟩)
    have HI := fun (k : Nat) (hk : k < n) => Lib.hid (sig_int (w := a) (h := b) (n := n) t (by omega) (by rw [← hn]; exact hlen) hk)
    have HLT := fun (k : Nat) (hk : k < n) => Lib.hid (sig_lt (w := a) (h := b) (n := n) t (by omega) (by rw [← hn]; exact hlen) hk)
    have HPI := fun (x y : Nat) (hx : x < A) (hy : y < B') => Lib.hid (pos_in t (w := a) (h := b) (x := x) (y := y) (by omega) (by omega))
    have hsw : siW t a b ≤ 256 ∧ siH t a b ≤ 256 := by
      unfold siW siH
      cases odd t <;> simp <;> omega
    unfold Gives
    rw [hil]
    rw [hn] at hc J HV ⊢
    simp only [hn] at C1
    have HIL := Lib.hid hil
    have HAe := Lib.hid hA
    have HBe := Lib.hid hB
    replace hnAB := Lib.hid hnAB
    clear e0 e1 e2 hv HC hcs hlen hp hn hil hA hB
    have hR : Hid (imgP t a b l = mkI (sig t a b) l n) := Lib.hid (by unfold imgP; rw [HN.out])
    generalize imgP t a b l = R at *
    generalize siW t a b = sw at *
    generalize siH t a b = sh at *
    go_enter Tryz.func56, Tryz.ntmps56
    go_wp2_with fail
    refine (C1 _ (HV.out.below (bb_held J.out).2.2.1)).out.mono ?_
    rintro e w1 ⟨rfl, hb1⟩
    obtain ⟨T0, T1, B, hz⟩ := bb_held hb1
    have HX := Lib.hid (HeldX.new T0 T1 B hz sw sh n)
    replace B := Lib.hid B
    clear hb1 T1
    obtain ⟨o0, o1, o2, of⟩ := T0
    go_wp2_with fail
    refine (C2 _).out.mono ?_
    rintro e wq ⟨rfl, rfl⟩
    have x2 := HX.out.at1.2.2.1
    have hz0 : w.heap.size < w1.heap.size := by omega
    have hz1 : w.heap.size < w1.heap.size + 1 := by omega
    go_wp2_with fail
    clear x2 o0 o1 o2 of hmk
    have HX0 : Hid (HeldX w ((w1.alloc (.cells (zerosP n) 58)).alloc (.cells #[.int .i64 sw, .int .i64 sh, .slice (some ⟨w1.heap.size, 0, none⟩) n n] 42)) a b (.slice (some ⟨bb, off, none⟩) n c) sw sh w1.heap.size n (w1.heap.size + 1) (mkI (sig t a b) l (0 * A))) := Lib.hid (by rw [Nat.zero_mul]; unfold mkI; rw [HN.out]; exact HX.out)
    clear HX
    generalize w1.heap.size = g at *
    go_loopw [8] (fun s8 wr => ∃ y : Nat, y ≤ B' ∧ s8 = .int .i64 (y : Int) ∧ Hid (HeldX w wr a b (.slice (some ⟨bb, off, none⟩) n c) sw sh g n (g + 1) (mkI (sig t a b) l (y * A)))) (fun s8 _ => leftN B' s8)
    case atStart => exact ⟨0, by omega, rfl, HX0⟩
    case round =>
      obtain ⟨y, hy, rfl, HR⟩ := hrel
      obtain ⟨o0, o1, o2, of⟩ := HR.out.at1
      by_cases hly : y < B'
      · have q0 : (y : Int) < b := by rw [HBe.out]; omega
        go_wp2_with fail
        have HR0 : Hid (HeldX w wr a b (.slice (some ⟨bb, off, none⟩) n c) sw sh g n (g + 1) (mkI (sig t a b) l (y * A + 0))) := HR
        clear o0 o1 o2 of HR
        go_loopw [9] (fun s9 wr => ∃ x : Nat, x ≤ A ∧ s9 = .int .i64 (x : Int) ∧ Hid (HeldX w wr a b (.slice (some ⟨bb, off, none⟩) n c) sw sh g n (g + 1) (mkI (sig t a b) l (y * A + x)))) (fun s9 _ => leftN A s9)
        case atStart => exact ⟨0, by omega, rfl, HR0⟩
        case round =>
          obtain ⟨x, hx, rfl, HR⟩ := hrel
          obtain ⟨o0, o1, o2, of⟩ := HR.out.at1
          by_cases hlx : x < A
          · have q1 : (x : Int) < a := by rw [HAe.out]; omega
            obtain ⟨hkn, ex, ey⟩ := hin x y hlx hly
            have hsum := fun k (e : y * A + x = k) => sums (a := a) (A := A) (x := x) (y := y) (k := k) HAe.out e.symm (by omega)
            obtain ⟨k, hk0⟩ : ∃ k, y * A + x = k := ⟨_, rfl⟩
            have SU := Lib.hid (hsum k hk0)
            generalize ((y * A : Nat) : Int) = M2 at SU
            clear hsum
            rw [hk0] at hkn ex ey HR
            obtain ⟨p, hpx⟩ : ∃ p, l[k]? = some p := ⟨_, List.getElem?_eq_getElem (by rw [HN.out]; exact hkn)⟩
            have hset : mkI (sig t a b) l (y * A + (x + 1)) = (mkI (sig t a b) l k).set (sig t a b k) p := by
              rw [show y * A + (x + 1) = k + 1 by omega, mkI, List.getD_eq_getElem?_getD, hpx]
              rfl
            have C5 := fun W => Lib.hid ((C4 x y hlx hly).out W)
            rw [(pos_cl t a b x y).1, (pos_cl t a b x y).2] at C5
            have hi := (HI k hkn).out
            rw [ex, ey] at hi
            have hl2 := (HLT k hkn).out
            have hpi := (HPI x y hlx hly).out
            have hml : (mkI (sig t a b) l k).length = n := by rw [mkI_len, HN.out]
            generalize mkI (sig t a b) l k = L at *
            generalize sig t a b k = sg at *
            generalize posX t a b x y = PX at *
            generalize posY t a b x y = PY at *
            generalize cl t = ct at *
            obtain ⟨M, hmul, hmul2, hadd, hadd2⟩ := place_sums hi hpi hl2 hnb
            obtain ⟨s1, s2, s3, s4⟩ := SU.out
            replace hset := Lib.hid hset
            have SRC := Lib.hid (HS.out k p hpx)
            replace hk0 := Lib.hid hk0
            clear hpx hi hpi ex ey
            have g2 : (0 : Int) ≤ k := by omega
            have g3 : (k : Int) < n := by omega
            go_upto_region 11 with fail
            go_cut [10] from 43 to 72 (fun s10 wx => ∃ mm : Nat, s10 = .pointer (some ⟨mm, 0, none⟩) ∧ Hid (HeldX w wx a b (.slice (some ⟨bb, off, none⟩) n c) sw sh g n (g + 1) L ∧ Two wx mm (.int .i64 PX) (.int .i64 PY) ∧ g + 1 < mm))
            case first =>
              clear o0 o1 o2 of
              have n1 : w.heap.size ≠ wr.heap.size := by have h1 := HR.out.there; omega
              have n2 : wr.heap.size ≠ w.heap.size := fun e => n1 e.symm
              have HXa := Lib.hid (HR.out.step ((Below.refl wr.heap.size wr).alloc (Nat.le_refl _) (.cells #[.int .i64 0, .int .i64 0] 25)).drew)
              have hmw : g + 1 < wr.heap.size := HR.out.there.2.2
              have hbd : Below wr.heap.size wr wr.drew := (Below.refl wr.heap.size wr).drew
              have sj := And.intro HR.out.at1.1 HR.out.at1.2.1
              have sa := And.intro HXa.out.at1.1 HXa.out.at1.2.1
              go_region_held3 (fun W => W.cell? ⟨w.heap.size, 0, none⟩ = some (.int .i64 a) ∧ W.cell? ⟨w.heap.size, 1, none⟩ = some (.int .i64 b))
                (first
                  | go_keep
                  | exact sk
                  | exact ss
                  | exact sj
                  | exact sa)
                (first
                  | (go_at_call 80; (with_reducible refine (C6 _).out.mono ?_); rintro e wq ⟨rfl, rfl⟩)
                  | (go_at_call 89; (with_reducible refine (C5 (wr.alloc _).drew).out.mono ?_); rintro e w4 ⟨rfl, hb⟩; have HF := HXa.out.step hb; have T := ((Two.new wr (.int .i64 0) (.int .i64 0) 25).drew 1).keep hb (by simp); have Z := Lib.hid (And.intro (HF.two (k := wr.heap.size) hmw (.int .i64 PX) (.int .i64 PY)) (And.intro (T.set (y0 := .int .i64 PX) (y1 := .int .i64 PY)) hmw)); obtain ⟨p0, p1, pf⟩ := T; have sk := And.intro HF.at1.1 HF.at1.2.1; have ss := And.intro Z.out.1.at1.1 Z.out.1.at1.2.1; clear HF hb)
                  | (go_at_call 89; (with_reducible refine (C5 wr.drew).out.mono ?_); rintro e w4 ⟨rfl, hb⟩; have HF := HR.out.step hbd; replace HF := HF.step hb; have Z := Lib.hid (And.intro (HF.step ((Below.refl _ _).alloc (Nat.le_refl _) (.cells #[.int .i64 PX, .int .i64 PY] 25))) (And.intro (Two.new w4 (.int .i64 PX) (.int .i64 PY) 25) (Nat.lt_of_lt_of_le hmw hb.size))); have sk := And.intro HF.at1.1 HF.at1.2.1; clear HF hb)
                  | fail)
              all_goals
                clear n1 n2 sj sa sk hmul hadd hmul2 hadd2 s1 s2 s3 s4
                (try clear p0 p1 pf ss)
                go_wp2_with fail
                go_meet
                exact ⟨_, rfl, Z⟩
            case rest =>
              obtain ⟨mm, rfl, HZ⟩ := hcut
              clear HR o0 o1 o2 of
              obtain ⟨o, ho⟩ : ∃ o, L[sg]? = some o := ⟨_, List.getElem?_eq_getElem (by rw [hml]; exact hl2)⟩
              obtain ⟨a0, a1, a2, a3⟩ := HZ.out.1.row.1 sg o ho
              rw [Nat.zero_add] at a0 a1 a2 a3
              have af := HZ.out.1.row.2.1
              have sc := (SRC.out.keep HZ.out.1.below hbb)
              have HN2 := Lib.hid (HZ.out.1.set (j := sg) (by rw [hml]; exact hl2) p)
              have hth := HZ.out.1.there
              have hmm := HZ.out.2.2
              have hwb := HZ.out.1.below.size
              have sc2 := sc.setP (g := g) (i := sg) (q := p) (by omega)
              have tt2 := HZ.out.2.1.setP (g := g) (i := sg) (q := p) (by omega)
              have g0 : (0 : Int) ≤ sg := by omega
              have g1 : (sg : Int) < n := by omega
              have sj : wc.cell? ⟨w.heap.size, 0, none⟩ = some (.int .i64 a) ∧ wc.cell? ⟨w.heap.size, 2, none⟩ = some (.slice (some ⟨bb, off, none⟩) n c) ∧ wc.cell? ⟨g + 1, 2, none⟩ = some (.slice (some ⟨g, 0, none⟩) n n) ∧ wc.cell? ⟨mm, 0, none⟩ = some (.int .i64 PX) ∧ wc.cell? ⟨mm, 1, none⟩ = some (.int .i64 PY) ∧ wc.cell? ⟨bb, off + k * 4, none⟩ = some (.int .u8 p.r) ∧ wc.cell? ⟨bb, off + k * 4 + 1, none⟩ = some (.int .u8 p.g) ∧ wc.cell? ⟨bb, off + k * 4 + 2, none⟩ = some (.int .u8 p.b) ∧ wc.cell? ⟨bb, off + k * 4 + 3, none⟩ = some (.int .u8 p.a) :=
                ⟨HZ.out.1.at1.1, HZ.out.1.at1.2.2.1, HZ.out.1.at3.2.2.1, HZ.out.2.1.1, HZ.out.2.1.2.1, sc⟩
              have ss : (setP wc g sg p).cell? ⟨w.heap.size, 0, none⟩ = some (.int .i64 a) ∧ (setP wc g sg p).cell? ⟨w.heap.size, 2, none⟩ = some (.slice (some ⟨bb, off, none⟩) n c) ∧ (setP wc g sg p).cell? ⟨g + 1, 2, none⟩ = some (.slice (some ⟨g, 0, none⟩) n n) ∧ (setP wc g sg p).cell? ⟨mm, 0, none⟩ = some (.int .i64 PX) ∧ (setP wc g sg p).cell? ⟨mm, 1, none⟩ = some (.int .i64 PY) ∧ (setP wc g sg p).cell? ⟨bb, off + k * 4, none⟩ = some (.int .u8 p.r) ∧ (setP wc g sg p).cell? ⟨bb, off + k * 4 + 1, none⟩ = some (.int .u8 p.g) ∧ (setP wc g sg p).cell? ⟨bb, off + k * 4 + 2, none⟩ = some (.int .u8 p.b) ∧ (setP wc g sg p).cell? ⟨bb, off + k * 4 + 3, none⟩ = some (.int .u8 p.a) :=
                ⟨HN2.out.at1.1, HN2.out.at1.2.2.1, HN2.out.at3.2.2.1, tt2.1, tt2.2.1, sc2⟩
              rw [← hset.out] at HN2
              clear ho sc sc2 tt2 hth hmm hwb
              go_upto_region 12 with fail
              go_region_held3 (fun W => W.cell? ⟨w.heap.size, 0, none⟩ = some (.int .i64 a) ∧ W.cell? ⟨w.heap.size, 2, none⟩ = some (.slice (some ⟨bb, off, none⟩) n c) ∧ W.cell? ⟨g + 1, 2, none⟩ = some (.slice (some ⟨g, 0, none⟩) n n) ∧ W.cell? ⟨mm, 0, none⟩ = some (.int .i64 PX) ∧ W.cell? ⟨mm, 1, none⟩ = some (.int .i64 PY) ∧ W.cell? ⟨bb, off + k * 4, none⟩ = some (.int .u8 p.r) ∧ W.cell? ⟨bb, off + k * 4 + 1, none⟩ = some (.int .u8 p.g) ∧ W.cell? ⟨bb, off + k * 4 + 2, none⟩ = some (.int .u8 p.b) ∧ W.cell? ⟨bb, off + k * 4 + 3, none⟩ = some (.int .u8 p.a))
                (first
                  | exact ss
                  | exact sj
                  | go_keep)
                (first
                  | fail)
              all_goals
                clear sj ss hmul hadd hmul2 hadd2 s1 s2 s3 s4
                go_wp2_with fail
                go_roundw
                case rel => exact ⟨x + 1, by omega, by go_num, Lib.hid (HN2.out.step (Below.refl _ _).drew)⟩
                case measure =>
                  unfold leftN
                  simp [RowKit.intOf]
                  omega
          · obtain rfl : x = A := by omega
            have q1 : ¬ (x : Int) < a := by rw [HAe.out]; omega
            have e3 : y * x + x = (y + 1) * x := by rw [Nat.succ_mul]
            go_wp2_with fail
            go_roundw
            case rel => exact ⟨y + 1, by omega, by go_num, by rw [← e3]; exact HR⟩
            case measure =>
              unfold leftN
              simp [RowKit.intOf]
              omega
      · obtain rfl : y = B' := by omega
        have q0 : ¬ (y : Int) < b := by rw [HBe.out]; omega
        have HE := HR.out
        rw [← hnAB.out, ← hR.out] at HE
        obtain ⟨u0, u1, u2, uf⟩ := HE.at3
        obtain ⟨p0, p1, p2, pf⟩ := HE.at2
        have HF := Lib.hid HE
        clear HE
        go_wp2_with fail
        refine bodyPost_ret (v := .agg #[.int .i64 sw, .int .i64 sh, .slice (some ⟨g, 0, none⟩) n n]) (by simp [results, Tryz.results56, go_sem, p0, p1, p2]) rfl ⟨_, _, rfl, ?_, below_set3 HF.out.below (Nat.le_succ _), fun ad h => by injection h with h; subst h; have := HF.out.there; show w.heap.size ≤ g; omega⟩
        have hne : g ≠ w.heap.size + 1 := by have := HF.out.there; omega
        have := (HF.out.row.far hne (.int .i64 sw) (.int .i64 sh) (.slice (some ⟨g, 0, none⟩) n n)).pxs (by rw [HIL.out]; exact hnb)
        rw [HIL.out] at this
        exact this

end Go.Proofs.YthedglfocjljjaaGreatDoor.Trf
