/-
  Package message: Format.
-/
import Derived.Test.YtmpkjjmgfakomaaDoorPjz
import Derived.Test.YtmpkjjmgfakomaaDoorMfm
import Derived.Test.YtmpkjjmgfakomaaDoorPkp
namespace Go.Proofs.YtmpkjjmgfakomaaDoor
open Go.RowKit Mem Wire Go.Lib

set_option maxRecDepth 100000 in
theorem str_info : (Tryd.prog.info? 9).map (fun i => (i.zero, i.size, i.bytes)) = some (some (.string ⟨#[]⟩), 1, 16) := by kernel_rfl
def zeroS (n : Nat) : List Value := List.replicate n (.string ⟨#[]⟩)
theorem made_strs (n : Nat) : madeCells #[.string ⟨#[]⟩] n = (zeroS n).toArray := by
  apply Array.ext'
  apply List.ext_getElem?
  intro j
  unfold madeCells zeroS
  by_cases hj : j < n
  · simp [hj, Nat.mod_one]
  · simp [hj]
set_option maxRecDepth 100000 in
theorem make_strs (n : Nat) (hn : n ≤ 1000000) (w : World) : (Instr.makeSlice 64 (.int .i64 (n : Int)) (.int .i64 (n : Int))).run Tryd.prog w = .ok (.slice (some ⟨w.heap.size, 0, none⟩) n n) (w.alloc (.cells (zeroS n).toArray 9)) := by
  obtain ⟨i, hi, hz, hsz, hby⟩ := infoI_parts str_info
  have h := run_make (P := Tryd.prog) w 64 9 i (.string ⟨#[]⟩) Tryd.underlying64 hi hz .i64 .i64 (n : Int) (n : Int) (by omega) (by omega) (by rw [hby]; omega) (by omega)
  rw [hsz] at h
  simp only [Int.toNat_natCast, Nat.mul_one] at h
  rw [← made_strs]
  exact h

/-- the texts of arguments -/
def txts (l : List AgV) : List ByteArray := l.map fun p => ⟨(txtG p.1).toArray⟩
/-- the row of texts of which some are written -/
def filS (l : List ByteArray) (n : Nat) : List Value := l.map Value.string ++ zeroS (n - l.length)
theorem filS_zero (n : Nat) : filS [] n = zeroS n := rfl
theorem filS_len (l : List ByteArray) {n : Nat} (h : l.length ≤ n) : (filS l n).length = n := by
  unfold filS zeroS
  rw [List.length_append, List.length_map, List.length_replicate]
  omega
theorem filS_set (l : List ByteArray) (x : ByteArray) {n : Nat} (h : l.length < n) : (filS l n).set l.length (.string x) = filS (l ++ [x]) n := by
  unfold filS zeroS
  rw [List.set_append_right _ _ (by simp), List.length_map, Nat.sub_self, show n - l.length = (n - (l ++ [x]).length) + 1 by simp; omega, List.replicate_succ, List.set_cons_zero, List.map_append, List.append_assoc]
  rfl
theorem filS_all (l : List ByteArray) : filS l l.length = l.map Value.string := by
  unfold filS zeroS
  rw [Nat.sub_self, List.replicate_zero, List.append_nil]
theorem filS_at (l : List ByteArray) {n i : Nat} (h : l.length = i) (hi : i < n) : (filS l n)[i]? = some (.string ⟨#[]⟩) := by
  unfold filS zeroS
  rw [List.getElem?_append_right (by simp; omega), List.length_map, h, Nat.sub_self, List.getElem?_replicate, if_pos (by omega)]
theorem txts_take {l : List AgV} {i : Nat} {p : AgV} (h : l[i]? = some p) : txts (l.take (i + 1)) = txts (l.take i) ++ [⟨(txtG p.1).toArray⟩] := by
  unfold txts
  rw [List.take_add_one, h, List.map_append]
  rfl
theorem txts_len (l : List AgV) : (txts l).length = l.length := by simp [txts]

theorem join_txt : ∀ l : List Ag, Lib.join (l.map txtG) [44, 32] = txtL l
  | [] => rfl
  | [a] => by simp [Lib.join_one, txtL]
  | a :: b :: l => by
    have ih := join_txt (b :: l)
    rw [List.map_cons, List.map_cons] at *
    rw [Lib.join_cons] at ih ⊢
    rw [txtL, ← ih]
    simp [Lib.joinTail]
theorem txts_sl (l : List AgV) : (txts l).map sl = (agL l).map txtG := by
  unfold txts agL
  rw [List.map_map, List.map_map]
  apply List.map_congr_left
  intro p _
  show sl ⟨(txtG p.1).toArray⟩ = _
  rw [sl_mk]
  rfl
theorem join_six (a b c d e f : List UInt8) : Lib.join [a, b, c, d, e, f] [] = a ++ (b ++ (c ++ (d ++ (e ++ f)))) := by simp [Lib.join_cons, Lib.joinTail]

theorem p_join_six (W : World) (x1 x2 x3 x4 x5 x6 : ByteArray) (h1 : x1.size ≤ 100000000) (h2 : x2.size ≤ 100000000) (h3 : x3.size ≤ 100000000) (h4 : x4.size ≤ 100000000) (h5 : x5.size ≤ 100000000) (h6 : x6.size ≤ 100000000) :
    Calls Tryd.prog 43 #[.string ⟨#[]⟩, .slice (some ⟨W.heap.size, 0, none⟩) 6 6] (W.alloc (.cells #[.string x1, .string x2, .string x3, .string x4, .string x5, .string x6] 9)) (Tells (sl x1 ++ (sl x2 ++ (sl x3 ++ (sl x4 ++ (sl x5 ++ sl x6))))) (W.alloc (.cells #[.string x1, .string x2, .string x3, .string x4, .string x5, .string x6] 9))) := by
  have h := p_join_any (w := W.alloc (.cells #[.string x1, .string x2, .string x3, .string x4, .string x5, .string x6] 9)) (bk := W.heap.size) (o := 0) (c := 6) [x1, x2, x3, x4, x5, x6] ⟨#[]⟩ (cells_new W [x1, x2, x3, x4, x5, x6] 9 rfl) (by simp) (by simp) (by simp) (by
    simp only [List.map_cons, List.map_nil, show sl ⟨#[]⟩ = [] from rfl]
    rw [join_six]
    simp only [List.length_append, sl_len]
    omega)
  simp only [List.map_cons, List.map_nil, show sl ⟨#[]⟩ = [] from rfl, join_six, List.length_cons, List.length_nil] at h
  exact h

set_option maxRecDepth 100000 in
set_option maxHeartbeats 8000000 in
theorem p_format_any {w : World} {v : Value} {l : List AgV} (h : Ags w v l) (hF : ∀ p ∈ l, Fit p) (hl : l.length ≤ 1000) {ob : Nat} (hob : ob < 4294967296) {oc : Int} (hoc : In64 oc) (htab : Tbp w) :
    Calls Tryd.prog 17 #[msVal ob oc v] w (Tells (fmtT ⟨ob, oc, agL l⟩) w) := by
  have HA := Lib.hid h
  obtain ⟨A, cap, rfl, hcap, hm⟩ := h.shape
  simp only [maxLen] at hm
  obtain ⟨n, hn⟩ : ∃ n, l.length = n := ⟨_, rfl⟩
  have HN := Lib.hid hn
  rw [hn] at hcap HA hl ⊢
  have hob2 : In64 (ob : Int) := ⟨by omega, by omega⟩
  have HF := Lib.hid hF
  have HT := Lib.hid htab
  have U := fun (W : World) (hb : Below w.heap.size w W) => Lib.hid (suint_any ob (by omega) W (htab.below hb))
  have I := fun (W : World) (hb : Below w.heap.size w W) => Lib.hid (itoa_any oc hoc.1 hoc.2 W (htab.below hb))
  have e0 : itoa (ob : Int) = decDigits ob := itoa_nonneg ob
  rw [← e0] at U
  have MK := fun W => make_strs n (by omega) W
  have hT5 : (txtL (agL l)).length ≤ 16012000 := by
    have h1 := txtL_len (agL l) (fun a ha => by
      obtain ⟨p, hp, rfl⟩ := List.mem_map.1 ha
      exact txtG_len (hF p hp).1 (hF p hp).2)
    rw [show (agL l).length = l.length by simp [agL]] at h1
    omega
  obtain ⟨X5, hX5⟩ : ∃ N : ByteArray, (⟨(txtL (agL l)).toArray⟩ : ByteArray) = N := ⟨_, rfl⟩
  obtain ⟨N1, hN1⟩ : ∃ N : ByteArray, (⟨(itoa ob).toArray⟩ : ByteArray) = N := ⟨_, rfl⟩
  obtain ⟨N2, hN2⟩ : ∃ N : ByteArray, (⟨(itoa oc).toArray⟩ : ByteArray) = N := ⟨_, rfl⟩
  have s5 : sl X5 = txtL (agL l) := by rw [← hX5, sl_mk]
  have s1 : sl N1 = itoa ob := by rw [← hN1, sl_mk]
  have s2 : sl N2 = itoa oc := by rw [← hN2, sl_mk]
  have z5 : X5.size ≤ 100000000 := by rw [← sl_len, s5]; omega
  have z1 : N1.size ≤ 100000000 := by rw [← sl_len, s1]; have := itoa_len hob2; omega
  have z2 : N2.size ≤ 100000000 := by rw [← sl_len, s2]; have := itoa_len hoc; omega
  have K := fun (W : World) => Lib.hid (p_join_six W N1 ⟨#[46]⟩ N2 ⟨#[40]⟩ X5 ⟨#[41]⟩ z1 (by decide) z2 (by decide) z5 (by decide))
  rw [s1, s2, s5, show sl ⟨#[46]⟩ = [46] from rfl, show sl ⟨#[40]⟩ = [40] from rfl, show sl ⟨#[41]⟩ = [41] from rfl] at K
  have JT := fun (W : World) (bk : Nat) (hc : ∀ (j : Nat) x, (txts l)[j]? = some x → W.cell? ⟨bk, 0 + j, none⟩ = some (.string x)) (hbk : bk < W.heap.size) => Lib.hid (by
    have := p_join_any (c := n) (txts l) ⟨#[44, 32]⟩ hc hbk (by rw [txts_len]; omega) (by rw [txts_len]; omega) (by rw [txts_sl, show sl ⟨#[44, 32]⟩ = [44, 32] from rfl, join_txt]; omega)
    rw [txts_sl, show sl ⟨#[44, 32]⟩ = [44, 32] from rfl, join_txt, txts_len, hn] at this
    unfold Tells at this
    rw [hX5] at this
    exact this)
  obtain ⟨X, hX⟩ : ∃ X, fmtT ⟨ob, oc, agL l⟩ = X := ⟨_, rfl⟩
  rw [hX]
  have hX2 : itoa (ob : Int) ++ ([46] ++ (itoa oc ++ ([40] ++ (txtL (agL l) ++ [41])))) = X := by rw [← hX]; simp [fmtT]
  rw [hX2] at K
  rw [hN1] at U
  rw [hN2] at I
  have J := Lib.hid ((Held.nil w).alloc [.int .u32 (ob : Int), .int .i64 oc, .slice A n cap] 25)
  obtain ⟨y0, y1, y2, -, -⟩ := (show Held w _ ([] ++ (w.heap.size, _) :: []) from J.out).tri
  clear h hn hF htab e0 hX hX2 hN1 hN2 hX5 s5 s1 s2 z5 z1 z2 hT5 hob2
  go_enter Tryd.func17, Tryd.ntmps17
  go_wp2_with fail
  replace J := Lib.hid (J.out.alloc (zeroS n) 9)
  simp only [World.size_alloc] at J
  rw [← filS_zero] at J
  have HZ : Hid (filS (txts (l.take 0)) n = filS [] n) := Lib.hid rfl
  rw [← HZ.out] at J
  generalize w.heap.size + 1 = kS at *
  clear y0 y1 y2
  go_loopw [14] (fun s14 wr => ∃ i : Nat, i ≤ n ∧ s14 = .int .i64 (i : Int) ∧ Hid (Held w wr [(kS, filS (txts (l.take i)) n), (w.heap.size, [.int .u32 (ob : Int), .int .i64 oc, .slice A n cap])])) (fun s14 _ => leftN n s14)
  case atStart => exact ⟨0, Nat.zero_le _, rfl, J⟩
  case round =>
    clear J
    obtain ⟨i, hi, rfl, J⟩ := hrel
    obtain ⟨y0, y1, y2, -, -⟩ := (show Held w wr ([_] ++ (w.heap.size, _) :: []) from J.out).tri
    by_cases hlt : i < n
    · have q0 : (0 : Int) ≤ i := by omega
      have q1 : (i : Int) < n := by omega
      obtain ⟨p, hp⟩ : ∃ p, l[i]? = some p := ⟨_, List.getElem?_eq_getElem (by rw [HN.out]; exact hlt)⟩
      have hf := HF.out p (List.mem_of_getElem? hp)
      obtain ⟨b, off, rfl, hb, -, -⟩ := ags_at HA.out J.out.below hp
      obtain ⟨c0, c1, c2, c3⟩ := arg_cells HA.out hp J.out.below
      have OK := arg_ok HA.out hp J.out.below
      have hlt2 : (txts (l.take i)).length = i := by rw [txts_len, List.length_take, HN.out]; omega
      have hz0 := filS_at (txts (l.take i)) hlt2 hlt
      have hset := filS_set (txts (l.take i)) ⟨(txtG p.1).toArray⟩ (n := n) (by omega)
      rw [hlt2, ← txts_take hp] at hset
      have C := fun (W : World) (hb : Below wr.heap.size wr W) => Lib.hid (p_arg_any p (OK.below hb) hf.1 ⟨hf.2.1, hf.2.2⟩ (HT.out.below (Below.next J.out.below hb)))
      have OKs := OK.shape
      obtain ⟨⟨kd, nn, ss, bb⟩, pv⟩ := p
      obtain ⟨A3, cap3, hv3, -, -⟩ := OKs
      dsimp only at hv3
      subst hv3
      dsimp only [agVal] at C c0 c1 c2 c3 hset
      unfold Tells at C
      obtain ⟨T, hT⟩ : ∃ T : ByteArray, (⟨(txtG ⟨kd, nn, ss, bb⟩).toArray⟩ : ByteArray) = T := ⟨_, rfl⟩
      rw [hT] at C hset
      have HSET := Lib.hid hset
      have JB := Lib.hid (J.out.alloc [.int .i64 kd, .int .i64 nn, .string ss, .slice A3 bb.length cap3] 43)
      have JW := Lib.hid ((Held.nil wr).alloc [.int .i64 kd, .int .i64 nn, .string ss, .slice A3 bb.length cap3] 43)
      clear OK hp hf hset hT hlt2 J U I K JT
      generalize bb.length = bl at *
      go_wp2_with fail
      refine (C _ JW.out.below).out.mono ?_
      rintro e w2 ⟨rfl, hb2⟩
      replace JB := Lib.hid ((JB.out.step hb2).sub (List.sublist_cons_self _ _))
      obtain ⟨g1, g2, g3, -⟩ := (show Held w w2 ([] ++ (kS, _) :: [_]) from JB.out).at
      have g4 := g1 i _ hz0
      have g5 := g2 i
      have JC := (show Held w w2 ([] ++ (kS, _) :: [_]) from JB.out).cell (i := i) (List.getElem?_eq_some_iff.1 hz0).1 (.string T)
      rw [HSET.out] at JC
      have J2 := Lib.hid JC
      clear C hb2 JW JB g1 g2 JC hz0
      go_wp2_with fail
      go_roundw
      case rel => exact ⟨i + 1, by omega, by go_num, J2⟩
      case measure =>
        unfold leftN
        simp [RowKit.intOf]
        omega
    · obtain rfl : n = i := by omega
      have hJ := J.out
      rw [List.take_of_length_le (by rw [HN.out]; exact Nat.le_refl _), show filS (txts l) n = (txts l).map Value.string by rw [show n = (txts l).length by rw [txts_len, HN.out], filS_all]] at hJ
      replace J := Lib.hid hJ
      clear hJ HF HA MK
      go_wp2_with fail
      refine (U _ J.out.below).out.mono ?_
      rintro e w2 ⟨rfl, hb⟩
      replace J := Lib.hid (J.out.step hb)
      clear hb U y0 y1 y2
      obtain ⟨y0, y1, y2, -, -⟩ := (show Held w w2 ([_] ++ (w.heap.size, _) :: []) from J.out).tri
      go_wp2_with fail
      refine (I _ J.out.below).out.mono ?_
      rintro e w3 ⟨rfl, hb⟩
      replace J := Lib.hid (J.out.step hb)
      clear hb I y0 y1 y2
      have C5 := JT w3 kS (fun j x hx => by
        rw [Nat.zero_add]
        exact (show Held w w3 ([] ++ (kS, _) :: [_]) from J.out).at.1 j _ (by rw [List.getElem?_map, hx]; rfl)) (show Held w w3 ([] ++ (kS, _) :: [_]) from J.out).at.2.2.1
      go_wp2_with fail
      refine C5.out.mono ?_
      rintro e w4 ⟨rfl, hb⟩
      have JL := Lib.hid ((J.out.step hb).below.alloc (J.out.step hb).below.size (.cells #[.string N1, .string ⟨#[46]⟩, .string N2, .string ⟨#[40]⟩, .string X5, .string ⟨#[41]⟩] 9))
      clear hb C5 J JT
      go_wp2_with fail
      refine (K _).out.mono ?_
      rintro e w5 ⟨rfl, hb⟩
      have JM := Lib.hid (Below.next JL.out hb)
      clear hb JL K
      go_wp2_with fail
      go_ret
      exact ⟨rfl, JM.out⟩

end Go.Proofs.YtmpkjjmgfakomaaDoor
