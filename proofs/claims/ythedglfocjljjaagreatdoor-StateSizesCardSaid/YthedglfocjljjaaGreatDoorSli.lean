/-
  The law's light.
-/
import Derived.Test.YthedglfocjljjaaGreatDoorSrh
namespace Go.Proofs.YthedglfocjljjaaGreatDoor
open Go.RowKit

def lightB (s : St) : Bool :=
  (decide (s.bf.length ≤ 3) && decide (s.dm.length ≤ 12) && decide (s.op.length ≤ 12) && decide (s.ip.length ≤ 12) && decide (s.cb.length ≤ 40) && !decide (16 < s.dx ∧ s.dx ≤ 256) && !decide (16 < s.dy ∧ s.dy ≤ 256)) && s.bf.all fun x => decide (x.l.length ≤ 300)
theorem light_eq (set : Int) (bf : List Bf) (sc tr : Int) (dm op : List R) (is : Bool) (ip : List R) (dx dy : Int) (cb : List Nat) : lightB ⟨set, bf, sc, tr, dm, op, is, ip, dx, dy, cb⟩ = ((decide (bf.length ≤ 3) && decide (dm.length ≤ 12) && decide (op.length ≤ 12) && decide (ip.length ≤ 12) && decide (cb.length ≤ 40) && !decide (16 < dx ∧ dx ≤ 256) && !decide (16 < dy ∧ dy ≤ 256)) && bf.all fun x => decide (x.l.length ≤ 300)) := rfl
theorem light_few {s : St} (h : lightB s = true) : Few s := by
  simp only [lightB, Bool.and_eq_true, decide_eq_true_eq, List.all_eq_true] at h
  obtain ⟨⟨⟨⟨⟨⟨⟨h1, h2⟩, h3⟩, h4⟩, h5⟩, -⟩, -⟩, h8⟩ := h
  exact ⟨by omega, by omega, by omega, by omega, by omega, fun x hx => by have := h8 x hx; omega⟩

set_option maxRecDepth 100000 in
set_option maxHeartbeats 8000000 in
theorem light_any {w : World} {s : St} {L : List Bv} {vb vd vo vi vc : Value} (h : StAt w s L vb vd vo vi vc) :
    Calls Tryz.prog 10 #[stV s vb vd vo vi vc] w fun e w' => e = .returned (.bool (lightB s)) ∧ Below w.heap.size w w' := by
  have HL := Lib.hid h.bf
  have PL := Lib.hid h.px
  have HE := Lib.hid h.eq
  have hlen := h.len
  obtain ⟨set, bf, sc, tr, dm, op, is, ip, dx, dy, cb⟩ := s
  obtain ⟨A, c, rfl, h1, h2⟩ := h.bf.shape
  obtain ⟨Ad, cd, rfl, hd1, hd2⟩ := h.dm.shape
  obtain ⟨Ao, co, rfl, ho1, ho2⟩ := h.op.shape
  obtain ⟨Ai, ci, rfl, hi1, hi2⟩ := h.ip.shape
  obtain ⟨Ac, cc, rfl, hc1, hc2⟩ := h.cb.shape
  simp only [maxLen] at h2 hd2 ho2 hi2 hc2
  dsimp only at HE hlen hd1 ho1 hi1 hc1 ⊢
  clear h
  obtain ⟨n, hn⟩ : ∃ n, L.length = n := ⟨_, rfl⟩
  obtain ⟨nd, hd9⟩ : ∃ n, dm.length = n := ⟨_, rfl⟩
  obtain ⟨no, ho9⟩ : ∃ n, op.length = n := ⟨_, rfl⟩
  obtain ⟨ni, hi9⟩ : ∃ n, ip.length = n := ⟨_, rfl⟩
  obtain ⟨nc, hc9⟩ : ∃ n, cb.length = n := ⟨_, rfl⟩
  have hn9 := hlen.trans hn
  have HN := Lib.hid hn
  have HBN := Lib.hid hn9
  rw [hn] at HL h1 ⊢
  rw [hd9] at hd1 ⊢
  rw [ho9] at ho1 ⊢
  rw [hi9] at hi1 ⊢
  rw [hc9] at hc1 ⊢
  clear hn hlen
  have J := Lib.hid ((HO.nil w).alloc (stC ⟨set, bf, sc, tr, dm, op, is, ip, dx, dy, cb⟩ (.slice A n c) (.slice Ad nd cd) (.slice Ao no co) (.slice Ai ni ci) (.slice Ac nc cc)) 28)
  by_cases c1 : n ≤ 3
  · by_cases c2 : nd ≤ 12
    · by_cases c3 : no ≤ 12
      · by_cases c4 : ni ≤ 12
        · by_cases c5 : nc ≤ 40
          · by_cases c6 : 16 < dx
            · by_cases c7 : dx ≤ 256
              · skip
                have el : lightB ⟨set, bf, sc, tr, dm, op, is, ip, dx, dy, cb⟩ = false := by
                  rw [light_eq, hn9, hd9, ho9, hi9, hc9]
                  simp only [Bool.and_eq_false_iff, decide_eq_false_iff_not, Bool.not_eq_false']
                  simp
                  omega
                rw [el]
                clear el
                go_enter Tryz.func10, Tryz.ntmps10
                go_wp2_with fail
                go_ret
                exact ⟨rfl, J.out.below⟩
              · by_cases c8 : 16 < dy
                · by_cases c9 : dy ≤ 256
                  · skip
                    have el : lightB ⟨set, bf, sc, tr, dm, op, is, ip, dx, dy, cb⟩ = false := by
                      rw [light_eq, hn9, hd9, ho9, hi9, hc9]
                      simp only [Bool.and_eq_false_iff, decide_eq_false_iff_not, Bool.not_eq_false']
                      simp
                      omega
                    rw [el]
                    clear el
                    go_enter Tryz.func10, Tryz.ntmps10
                    go_wp2_with fail
                    go_ret
                    exact ⟨rfl, J.out.below⟩
                  · skip
                    have el : lightB ⟨set, bf, sc, tr, dm, op, is, ip, dx, dy, cb⟩ = bf.all (fun x => decide (x.l.length ≤ 300)) := by
                      rw [light_eq, hn9, hd9, ho9, hi9, hc9]
                      have e1 : decide (n ≤ 3) = true := decide_eq_true (by omega)
                      have e2 : decide (nd ≤ 12) = true := decide_eq_true (by omega)
                      have e3 : decide (no ≤ 12) = true := decide_eq_true (by omega)
                      have e4 : decide (ni ≤ 12) = true := decide_eq_true (by omega)
                      have e5 : decide (nc ≤ 40) = true := decide_eq_true (by omega)
                      have e6 : decide (16 < dx ∧ dx ≤ 256) = false := decide_eq_false (by omega)
                      have e7 : decide (16 < dy ∧ dy ≤ 256) = false := decide_eq_false (by omega)
                      rw [e1, e2, e3, e4, e5, e6, e7]
                      rfl
                    obtain ⟨r, hr⟩ : ∃ r, bf.all (fun x => decide (x.l.length ≤ 300)) = r := ⟨_, rfl⟩
                    rw [el, hr]
                    have HR := Lib.hid hr
                    clear el hn9 hd9 ho9 hi9 hc9 hr
                    go_enter Tryz.func10, Tryz.ntmps10
                    go_wp2_with fail
                    go_loopw [3] (fun s3 wr => ∃ (i : Nat), i ≤ n ∧ s3 = .int .i64 (i : Int) ∧ Hid ((bf.take i).all (fun x => decide (x.l.length ≤ 300)) = true) ∧ Hid (HO w wr [boxO w.heap.size (stC ⟨set, bf, sc, tr, dm, op, is, ip, dx, dy, cb⟩ (.slice A n c) (.slice Ad nd cd) (.slice Ao no co) (.slice Ai ni ci) (.slice Ac nc cc))])) (fun s3 _ => leftN n s3)
                    case atStart => exact ⟨0, Nat.zero_le _, rfl, Lib.hid rfl, J⟩
                    case round =>
                      clear J
                      obtain ⟨i, hin, rfl, HT, J⟩ := hrel
                      have k1 := (show HO w wr ([] ++ boxO w.heap.size _ :: _) from J.out).c 1 rfl
                      by_cases hlt : i < n
                      · have q0 : (0 : Int) ≤ i := by omega
                        have q1 : (i : Int) < n := by omega
                        obtain ⟨p, hp⟩ : ∃ p, L[i]? = some p := ⟨_, List.getElem?_eq_getElem (by rw [HN.out]; exact hlt)⟩
                        have hb : bf[i]? = some p.1 := by rw [← HE.out, List.getElem?_map, hp]; rfl
                        obtain ⟨b0, off0, rfl, hb0, hc0⟩ := bf_cells HL.out (by omega) J.out.below
                        obtain ⟨-, -, x2⟩ := hc0 i p hp
                        obtain ⟨Ap, cp, hvp, -, -⟩ := (PL.out p (List.mem_of_getElem? hp)).shape
                        rw [hvp] at x2
                        clear hc0
                        by_cases hbig : p.1.l.length ≤ 300
                        · have HT2 : Hid ((bf.take (i + 1)).all (fun x => decide (x.l.length ≤ 300)) = true) := Lib.hid (by rw [List.take_add_one, hb, List.all_append, HT.out]; simp [hbig])
                          clear hp hb hvp HT
                          generalize p.1.l.length = pn at *
                          go_wp2_with fail
                          go_roundw
                          case rel => exact ⟨i + 1, by omega, by go_num, HT2, J⟩
                          case measure =>
                            unfold leftN
                            simp [RowKit.intOf]
                            omega
                        · have ef : bf.all (fun x => decide (x.l.length ≤ 300)) = false := by
                            rw [List.all_eq_false]
                            exact ⟨p.1, List.mem_of_getElem? hb, by simpa using hbig⟩
                          obtain rfl : r = false := HR.out.symm.trans ef
                          clear hp hb hvp HT ef HR
                          generalize p.1.l.length = pn at *
                          go_wp2_with fail
                          go_ret
                          exact ⟨rfl, J.out.below⟩
                      · obtain rfl : n = i := by omega
                        have ef : bf.all (fun x => decide (x.l.length ≤ 300)) = true := by
                          have := HT.out
                          rwa [List.take_of_length_le (by rw [HBN.out]; exact Nat.le_refl _)] at this
                        obtain rfl : r = true := HR.out.symm.trans ef
                        clear ef HT HR
                        go_wp2_with fail
                        go_ret
                        exact ⟨rfl, J.out.below⟩
                · skip
                  have el : lightB ⟨set, bf, sc, tr, dm, op, is, ip, dx, dy, cb⟩ = bf.all (fun x => decide (x.l.length ≤ 300)) := by
                    rw [light_eq, hn9, hd9, ho9, hi9, hc9]
                    have e1 : decide (n ≤ 3) = true := decide_eq_true (by omega)
                    have e2 : decide (nd ≤ 12) = true := decide_eq_true (by omega)
                    have e3 : decide (no ≤ 12) = true := decide_eq_true (by omega)
                    have e4 : decide (ni ≤ 12) = true := decide_eq_true (by omega)
                    have e5 : decide (nc ≤ 40) = true := decide_eq_true (by omega)
                    have e6 : decide (16 < dx ∧ dx ≤ 256) = false := decide_eq_false (by omega)
                    have e7 : decide (16 < dy ∧ dy ≤ 256) = false := decide_eq_false (by omega)
                    rw [e1, e2, e3, e4, e5, e6, e7]
                    rfl
                  obtain ⟨r, hr⟩ : ∃ r, bf.all (fun x => decide (x.l.length ≤ 300)) = r := ⟨_, rfl⟩
                  rw [el, hr]
                  have HR := Lib.hid hr
                  clear el hn9 hd9 ho9 hi9 hc9 hr
                  go_enter Tryz.func10, Tryz.ntmps10
                  go_wp2_with fail
                  go_loopw [3] (fun s3 wr => ∃ (i : Nat), i ≤ n ∧ s3 = .int .i64 (i : Int) ∧ Hid ((bf.take i).all (fun x => decide (x.l.length ≤ 300)) = true) ∧ Hid (HO w wr [boxO w.heap.size (stC ⟨set, bf, sc, tr, dm, op, is, ip, dx, dy, cb⟩ (.slice A n c) (.slice Ad nd cd) (.slice Ao no co) (.slice Ai ni ci) (.slice Ac nc cc))])) (fun s3 _ => leftN n s3)
                  case atStart => exact ⟨0, Nat.zero_le _, rfl, Lib.hid rfl, J⟩
                  case round =>
                    clear J
                    obtain ⟨i, hin, rfl, HT, J⟩ := hrel
                    have k1 := (show HO w wr ([] ++ boxO w.heap.size _ :: _) from J.out).c 1 rfl
                    by_cases hlt : i < n
                    · have q0 : (0 : Int) ≤ i := by omega
                      have q1 : (i : Int) < n := by omega
                      obtain ⟨p, hp⟩ : ∃ p, L[i]? = some p := ⟨_, List.getElem?_eq_getElem (by rw [HN.out]; exact hlt)⟩
                      have hb : bf[i]? = some p.1 := by rw [← HE.out, List.getElem?_map, hp]; rfl
                      obtain ⟨b0, off0, rfl, hb0, hc0⟩ := bf_cells HL.out (by omega) J.out.below
                      obtain ⟨-, -, x2⟩ := hc0 i p hp
                      obtain ⟨Ap, cp, hvp, -, -⟩ := (PL.out p (List.mem_of_getElem? hp)).shape
                      rw [hvp] at x2
                      clear hc0
                      by_cases hbig : p.1.l.length ≤ 300
                      · have HT2 : Hid ((bf.take (i + 1)).all (fun x => decide (x.l.length ≤ 300)) = true) := Lib.hid (by rw [List.take_add_one, hb, List.all_append, HT.out]; simp [hbig])
                        clear hp hb hvp HT
                        generalize p.1.l.length = pn at *
                        go_wp2_with fail
                        go_roundw
                        case rel => exact ⟨i + 1, by omega, by go_num, HT2, J⟩
                        case measure =>
                          unfold leftN
                          simp [RowKit.intOf]
                          omega
                      · have ef : bf.all (fun x => decide (x.l.length ≤ 300)) = false := by
                          rw [List.all_eq_false]
                          exact ⟨p.1, List.mem_of_getElem? hb, by simpa using hbig⟩
                        obtain rfl : r = false := HR.out.symm.trans ef
                        clear hp hb hvp HT ef HR
                        generalize p.1.l.length = pn at *
                        go_wp2_with fail
                        go_ret
                        exact ⟨rfl, J.out.below⟩
                    · obtain rfl : n = i := by omega
                      have ef : bf.all (fun x => decide (x.l.length ≤ 300)) = true := by
                        have := HT.out
                        rwa [List.take_of_length_le (by rw [HBN.out]; exact Nat.le_refl _)] at this
                      obtain rfl : r = true := HR.out.symm.trans ef
                      clear ef HT HR
                      go_wp2_with fail
                      go_ret
                      exact ⟨rfl, J.out.below⟩
            · by_cases c8 : 16 < dy
              · by_cases c9 : dy ≤ 256
                · skip
                  have el : lightB ⟨set, bf, sc, tr, dm, op, is, ip, dx, dy, cb⟩ = false := by
                    rw [light_eq, hn9, hd9, ho9, hi9, hc9]
                    simp only [Bool.and_eq_false_iff, decide_eq_false_iff_not, Bool.not_eq_false']
                    simp
                    omega
                  rw [el]
                  clear el
                  go_enter Tryz.func10, Tryz.ntmps10
                  go_wp2_with fail
                  go_ret
                  exact ⟨rfl, J.out.below⟩
                · skip
                  have el : lightB ⟨set, bf, sc, tr, dm, op, is, ip, dx, dy, cb⟩ = bf.all (fun x => decide (x.l.length ≤ 300)) := by
                    rw [light_eq, hn9, hd9, ho9, hi9, hc9]
                    have e1 : decide (n ≤ 3) = true := decide_eq_true (by omega)
                    have e2 : decide (nd ≤ 12) = true := decide_eq_true (by omega)
                    have e3 : decide (no ≤ 12) = true := decide_eq_true (by omega)
                    have e4 : decide (ni ≤ 12) = true := decide_eq_true (by omega)
                    have e5 : decide (nc ≤ 40) = true := decide_eq_true (by omega)
                    have e6 : decide (16 < dx ∧ dx ≤ 256) = false := decide_eq_false (by omega)
                    have e7 : decide (16 < dy ∧ dy ≤ 256) = false := decide_eq_false (by omega)
                    rw [e1, e2, e3, e4, e5, e6, e7]
                    rfl
                  obtain ⟨r, hr⟩ : ∃ r, bf.all (fun x => decide (x.l.length ≤ 300)) = r := ⟨_, rfl⟩
                  rw [el, hr]
                  have HR := Lib.hid hr
                  clear el hn9 hd9 ho9 hi9 hc9 hr
                  go_enter Tryz.func10, Tryz.ntmps10
                  go_wp2_with fail
                  go_loopw [3] (fun s3 wr => ∃ (i : Nat), i ≤ n ∧ s3 = .int .i64 (i : Int) ∧ Hid ((bf.take i).all (fun x => decide (x.l.length ≤ 300)) = true) ∧ Hid (HO w wr [boxO w.heap.size (stC ⟨set, bf, sc, tr, dm, op, is, ip, dx, dy, cb⟩ (.slice A n c) (.slice Ad nd cd) (.slice Ao no co) (.slice Ai ni ci) (.slice Ac nc cc))])) (fun s3 _ => leftN n s3)
                  case atStart => exact ⟨0, Nat.zero_le _, rfl, Lib.hid rfl, J⟩
                  case round =>
                    clear J
                    obtain ⟨i, hin, rfl, HT, J⟩ := hrel
                    have k1 := (show HO w wr ([] ++ boxO w.heap.size _ :: _) from J.out).c 1 rfl
                    by_cases hlt : i < n
                    · have q0 : (0 : Int) ≤ i := by omega
                      have q1 : (i : Int) < n := by omega
                      obtain ⟨p, hp⟩ : ∃ p, L[i]? = some p := ⟨_, List.getElem?_eq_getElem (by rw [HN.out]; exact hlt)⟩
                      have hb : bf[i]? = some p.1 := by rw [← HE.out, List.getElem?_map, hp]; rfl
                      obtain ⟨b0, off0, rfl, hb0, hc0⟩ := bf_cells HL.out (by omega) J.out.below
                      obtain ⟨-, -, x2⟩ := hc0 i p hp
                      obtain ⟨Ap, cp, hvp, -, -⟩ := (PL.out p (List.mem_of_getElem? hp)).shape
                      rw [hvp] at x2
                      clear hc0
                      by_cases hbig : p.1.l.length ≤ 300
                      · have HT2 : Hid ((bf.take (i + 1)).all (fun x => decide (x.l.length ≤ 300)) = true) := Lib.hid (by rw [List.take_add_one, hb, List.all_append, HT.out]; simp [hbig])
                        clear hp hb hvp HT
                        generalize p.1.l.length = pn at *
                        go_wp2_with fail
                        go_roundw
                        case rel => exact ⟨i + 1, by omega, by go_num, HT2, J⟩
                        case measure =>
                          unfold leftN
                          simp [RowKit.intOf]
                          omega
                      · have ef : bf.all (fun x => decide (x.l.length ≤ 300)) = false := by
                          rw [List.all_eq_false]
                          exact ⟨p.1, List.mem_of_getElem? hb, by simpa using hbig⟩
                        obtain rfl : r = false := HR.out.symm.trans ef
                        clear hp hb hvp HT ef HR
                        generalize p.1.l.length = pn at *
                        go_wp2_with fail
                        go_ret
                        exact ⟨rfl, J.out.below⟩
                    · obtain rfl : n = i := by omega
                      have ef : bf.all (fun x => decide (x.l.length ≤ 300)) = true := by
                        have := HT.out
                        rwa [List.take_of_length_le (by rw [HBN.out]; exact Nat.le_refl _)] at this
                      obtain rfl : r = true := HR.out.symm.trans ef
                      clear ef HT HR
                      go_wp2_with fail
                      go_ret
                      exact ⟨rfl, J.out.below⟩
              · skip
                have el : lightB ⟨set, bf, sc, tr, dm, op, is, ip, dx, dy, cb⟩ = bf.all (fun x => decide (x.l.length ≤ 300)) := by
                  rw [light_eq, hn9, hd9, ho9, hi9, hc9]
                  have e1 : decide (n ≤ 3) = true := decide_eq_true (by omega)
                  have e2 : decide (nd ≤ 12) = true := decide_eq_true (by omega)
                  have e3 : decide (no ≤ 12) = true := decide_eq_true (by omega)
                  have e4 : decide (ni ≤ 12) = true := decide_eq_true (by omega)
                  have e5 : decide (nc ≤ 40) = true := decide_eq_true (by omega)
                  have e6 : decide (16 < dx ∧ dx ≤ 256) = false := decide_eq_false (by omega)
                  have e7 : decide (16 < dy ∧ dy ≤ 256) = false := decide_eq_false (by omega)
                  rw [e1, e2, e3, e4, e5, e6, e7]
                  rfl
                obtain ⟨r, hr⟩ : ∃ r, bf.all (fun x => decide (x.l.length ≤ 300)) = r := ⟨_, rfl⟩
                rw [el, hr]
                have HR := Lib.hid hr
                clear el hn9 hd9 ho9 hi9 hc9 hr
                go_enter Tryz.func10, Tryz.ntmps10
                go_wp2_with fail
                go_loopw [3] (fun s3 wr => ∃ (i : Nat), i ≤ n ∧ s3 = .int .i64 (i : Int) ∧ Hid ((bf.take i).all (fun x => decide (x.l.length ≤ 300)) = true) ∧ Hid (HO w wr [boxO w.heap.size (stC ⟨set, bf, sc, tr, dm, op, is, ip, dx, dy, cb⟩ (.slice A n c) (.slice Ad nd cd) (.slice Ao no co) (.slice Ai ni ci) (.slice Ac nc cc))])) (fun s3 _ => leftN n s3)
                case atStart => exact ⟨0, Nat.zero_le _, rfl, Lib.hid rfl, J⟩
                case round =>
                  clear J
                  obtain ⟨i, hin, rfl, HT, J⟩ := hrel
                  have k1 := (show HO w wr ([] ++ boxO w.heap.size _ :: _) from J.out).c 1 rfl
                  by_cases hlt : i < n
                  · have q0 : (0 : Int) ≤ i := by omega
                    have q1 : (i : Int) < n := by omega
                    obtain ⟨p, hp⟩ : ∃ p, L[i]? = some p := ⟨_, List.getElem?_eq_getElem (by rw [HN.out]; exact hlt)⟩
                    have hb : bf[i]? = some p.1 := by rw [← HE.out, List.getElem?_map, hp]; rfl
                    obtain ⟨b0, off0, rfl, hb0, hc0⟩ := bf_cells HL.out (by omega) J.out.below
                    obtain ⟨-, -, x2⟩ := hc0 i p hp
                    obtain ⟨Ap, cp, hvp, -, -⟩ := (PL.out p (List.mem_of_getElem? hp)).shape
                    rw [hvp] at x2
                    clear hc0
                    by_cases hbig : p.1.l.length ≤ 300
                    · have HT2 : Hid ((bf.take (i + 1)).all (fun x => decide (x.l.length ≤ 300)) = true) := Lib.hid (by rw [List.take_add_one, hb, List.all_append, HT.out]; simp [hbig])
                      clear hp hb hvp HT
                      generalize p.1.l.length = pn at *
                      go_wp2_with fail
                      go_roundw
                      case rel => exact ⟨i + 1, by omega, by go_num, HT2, J⟩
                      case measure =>
                        unfold leftN
                        simp [RowKit.intOf]
                        omega
                    · have ef : bf.all (fun x => decide (x.l.length ≤ 300)) = false := by
                        rw [List.all_eq_false]
                        exact ⟨p.1, List.mem_of_getElem? hb, by simpa using hbig⟩
                      obtain rfl : r = false := HR.out.symm.trans ef
                      clear hp hb hvp HT ef HR
                      generalize p.1.l.length = pn at *
                      go_wp2_with fail
                      go_ret
                      exact ⟨rfl, J.out.below⟩
                  · obtain rfl : n = i := by omega
                    have ef : bf.all (fun x => decide (x.l.length ≤ 300)) = true := by
                      have := HT.out
                      rwa [List.take_of_length_le (by rw [HBN.out]; exact Nat.le_refl _)] at this
                    obtain rfl : r = true := HR.out.symm.trans ef
                    clear ef HT HR
                    go_wp2_with fail
                    go_ret
                    exact ⟨rfl, J.out.below⟩
          · skip
            have el : lightB ⟨set, bf, sc, tr, dm, op, is, ip, dx, dy, cb⟩ = false := by
              rw [light_eq, hn9, hd9, ho9, hi9, hc9]
              simp only [Bool.and_eq_false_iff, decide_eq_false_iff_not, Bool.not_eq_false']
              simp
              omega
            rw [el]
            clear el
            go_enter Tryz.func10, Tryz.ntmps10
            go_wp2_with fail
            go_ret
            exact ⟨rfl, J.out.below⟩
        · skip
          have el : lightB ⟨set, bf, sc, tr, dm, op, is, ip, dx, dy, cb⟩ = false := by
            rw [light_eq, hn9, hd9, ho9, hi9, hc9]
            simp only [Bool.and_eq_false_iff, decide_eq_false_iff_not, Bool.not_eq_false']
            simp
            omega
          rw [el]
          clear el
          go_enter Tryz.func10, Tryz.ntmps10
          go_wp2_with fail
          go_ret
          exact ⟨rfl, J.out.below⟩
      · skip
        have el : lightB ⟨set, bf, sc, tr, dm, op, is, ip, dx, dy, cb⟩ = false := by
          rw [light_eq, hn9, hd9, ho9, hi9, hc9]
          simp only [Bool.and_eq_false_iff, decide_eq_false_iff_not, Bool.not_eq_false']
          simp
          omega
        rw [el]
        clear el
        go_enter Tryz.func10, Tryz.ntmps10
        go_wp2_with fail
        go_ret
        exact ⟨rfl, J.out.below⟩
    · skip
      have el : lightB ⟨set, bf, sc, tr, dm, op, is, ip, dx, dy, cb⟩ = false := by
        rw [light_eq, hn9, hd9, ho9, hi9, hc9]
        simp only [Bool.and_eq_false_iff, decide_eq_false_iff_not, Bool.not_eq_false']
        simp
        omega
      rw [el]
      clear el
      go_enter Tryz.func10, Tryz.ntmps10
      go_wp2_with fail
      go_ret
      exact ⟨rfl, J.out.below⟩
  · skip
    have el : lightB ⟨set, bf, sc, tr, dm, op, is, ip, dx, dy, cb⟩ = false := by
      rw [light_eq, hn9, hd9, ho9, hi9, hc9]
      simp only [Bool.and_eq_false_iff, decide_eq_false_iff_not, Bool.not_eq_false']
      simp
      omega
    rw [el]
    clear el
    go_enter Tryz.func10, Tryz.ntmps10
    go_wp2_with fail
    go_ret
    exact ⟨rfl, J.out.below⟩

end Go.Proofs.YthedglfocjljjaaGreatDoor
