/-
  The reference's Format.
-/
import Derived.Test.YtmpkjjmgfakomaaDoorMta
namespace Go.Proofs.YtmpkjjmgfakomaaDoor
open Go.RowKit Mem Wire Go.Lib

theorem txtL_snoc : ∀ (l : List Ag) (a : Ag), l ≠ [] → txtL (l ++ [a]) = txtL l ++ (44 :: 32 :: txtG a)
  | [], _, h => absurd rfl h
  | [b], a, _ => by simp [txtL]
  | b :: c :: l, a, _ => by
    have ih := txtL_snoc (c :: l) a (by simp)
    simp only [List.cons_append] at ih ⊢
    rw [txtL, ih]
    simp [txtL]
theorem txtG_len {a : Ag} (hn : In64 a.nn) (hs : a.ss.size ≤ 4000 ∧ a.bb.length ≤ 4000) : (txtG a).length ≤ 16010 := by
  have h1 := itoa_len hn
  have h2 := escs_len (sl a.ss)
  have h3 := hexs_len a.bb
  rw [sl_len] at h2
  unfold txtG
  repeat' split
  all_goals (try simp only [List.length_append, List.length_cons, List.length_nil])
  all_goals omega
/-- what Format asks of an argument -/
def Fit (p : AgV) : Prop := In64 p.1.nn ∧ p.1.ss.size ≤ 4000 ∧ p.1.bb.length ≤ 4000
theorem txtL_len : ∀ (l : List Ag), (∀ a ∈ l, (txtG a).length ≤ 16010) → (txtL l).length ≤ 16012 * l.length
  | [], _ => Nat.le_refl _
  | [a], h => by
    have := h a (by simp)
    simp only [txtL, List.length_cons, List.length_nil]
    omega
  | a :: b :: l, h => by
    have h1 := h a (by simp)
    have ih := txtL_len (b :: l) (fun x hx => h x (List.mem_cons_of_mem _ hx))
    simp only [txtL, List.length_append, List.length_cons] at ih ⊢
    omega
/-- the text in front of the first i arguments' end -/
def fmtF (ob : Nat) (oc : Int) (l : List Ag) : List UInt8 := (itoa ob ++ (46 :: (itoa oc ++ [40]))) ++ txtL l
theorem fmtF_done (ob : Nat) (oc : Int) (l : List Ag) : (⟨(fmtF ob oc l).toArray⟩ : ByteArray) ++ ⟨#[41]⟩ = ⟨(fmtT ⟨ob, oc, l⟩).toArray⟩ := by
  rw [show (⟨#[41]⟩ : ByteArray) = ⟨([41] : List UInt8).toArray⟩ from rfl, app_mk]
  simp [fmtF, fmtT]
theorem fmtF_zero (ob : Nat) (oc : Int) (a : Ag) : (⟨(fmtF ob oc []).toArray⟩ : ByteArray) ++ ⟨(txtG a).toArray⟩ = ⟨(fmtF ob oc [a]).toArray⟩ := by
  rw [app_mk]
  simp [fmtF, txtL]
theorem fmtF_snoc (ob : Nat) (oc : Int) (l : List Ag) (a : Ag) (h : l ≠ []) : ((⟨(fmtF ob oc l).toArray⟩ : ByteArray) ++ ⟨#[44, 32]⟩) ++ ⟨(txtG a).toArray⟩ = ⟨(fmtF ob oc (l ++ [a])).toArray⟩ := by
  rw [show (⟨#[44, 32]⟩ : ByteArray) = ⟨([44, 32] : List UInt8).toArray⟩ from rfl, app_mk, app_mk]
  unfold fmtF
  rw [txtL_snoc l a h]
  simp
theorem fmtF_len {ob : Nat} {oc : Int} (ho : In64 ob) (hc : In64 oc) (l : List Ag) (h : ∀ a ∈ l, (txtG a).length ≤ 16010) : (fmtF ob oc l).length ≤ 50 + 16012 * l.length := by
  have h1 := itoa_len ho
  have h2 := itoa_len hc
  have h3 := txtL_len l h
  unfold fmtF
  simp only [List.length_append, List.length_cons, List.length_nil]
  omega

theorem agL_take (l : List AgV) (i : Nat) (p : AgV) (h : l[i]? = some p) : agL (l.take (i + 1)) = agL (l.take i) ++ [p.1] := by
  rw [List.take_add_one, h]
  simp [agL]
theorem agL_take_len (l : List AgV) (i : Nat) : (agL (l.take i)).length ≤ i := by
  unfold agL
  rw [List.length_map, List.length_take]
  omega
theorem fit_take {l : List AgV} (h : ∀ p ∈ l, Fit p) (i : Nat) : ∀ a ∈ agL (l.take i), (txtG a).length ≤ 16010 := by
  intro a ha
  obtain ⟨p, hp, rfl⟩ := List.mem_map.1 ha
  have hf := h p (List.mem_of_mem_take hp)
  exact txtG_len hf.1 hf.2

set_option maxRecDepth 100000 in
set_option maxHeartbeats 4000000 in
theorem format_any {w : World} {v : Value} {l : List AgV} (h : Ags w v l) (hF : ∀ p ∈ l, Fit p) (hl : l.length ≤ 1000) {ob : Nat} (hob : ob < 4294967296) {oc : Int} (hoc : In64 oc) (htab : Tbp w) :
    Calls Tryd.prog 18 #[msVal ob oc v] w (Tells (fmtT ⟨ob, oc, agL l⟩) w) := by
  have HA := Lib.hid h
  obtain ⟨A, cap, rfl, hcap, hm⟩ := h.shape
  simp only [maxLen] at hm
  obtain ⟨n, hn⟩ : ∃ n, l.length = n := ⟨_, rfl⟩
  have HN := Lib.hid hn
  rw [hn] at hcap HA hl ⊢
  have hob2 : In64 (ob : Int) := ⟨by omega, by omega⟩
  have HF := Lib.hid hF
  have HT := Lib.hid htab
  have U0 := fun (W : World) (hb : Below w.heap.size w W) => suint_any ob (by omega) W (htab.below hb)
  have I0 := fun (W : World) (hb : Below w.heap.size w W) => itoa_any oc hoc.1 hoc.2 W (htab.below hb)
  have e0 : itoa (ob : Int) = decDigits ob := itoa_nonneg ob
  have hp1 : (⟨(decDigits ob).toArray⟩ : ByteArray).size ≤ 21 := by rw [mk_size, ← e0]; exact itoa_len hob2
  have hp2 : (⟨(itoa oc).toArray⟩ : ByteArray).size ≤ 21 := by rw [mk_size]; exact itoa_len hoc
  have hp : (((⟨(decDigits ob).toArray⟩ : ByteArray) ++ ⟨#[46]⟩) ++ ⟨(itoa oc).toArray⟩) ++ ⟨#[40]⟩ = ⟨(fmtF ob oc (agL (l.take 0))).toArray⟩ := by
    rw [show (⟨#[46]⟩ : ByteArray) = ⟨([46] : List UInt8).toArray⟩ from rfl, show (⟨#[40]⟩ : ByteArray) = ⟨([40] : List UInt8).toArray⟩ from rfl, app_mk, app_mk, app_mk, ← e0]
    simp [fmtF, agL, txtL]
  have FL := Lib.hid (fun (m : List Ag) (h : ∀ a ∈ m, (txtG a).length ≤ 16010) => fmtF_len hob2 hoc m h)
  obtain ⟨N1, hN1⟩ : ∃ N1 : ByteArray, (⟨(decDigits ob).toArray⟩ : ByteArray) = N1 := ⟨_, rfl⟩
  obtain ⟨N2, hN2⟩ : ∃ N1 : ByteArray, (⟨(itoa oc).toArray⟩ : ByteArray) = N1 := ⟨_, rfl⟩
  rw [hN1] at U0 hp1 hp
  rw [hN2] at I0 hp2 hp
  have HP := Lib.hid hp
  have U := fun W hb => Lib.hid (U0 W hb)
  have I := fun W hb => Lib.hid (I0 W hb)
  have J0 := Lib.hid ((Held.nil w).alloc [.int .u32 (ob : Int), .int .i64 oc, .slice A n cap] 25)
  obtain ⟨X, hX⟩ : ∃ X, fmtT ⟨ob, oc, agL l⟩ = X := ⟨_, rfl⟩
  rw [hX]
  have HX := Lib.hid hX
  clear h hn hF htab e0 hp U0 I0 hN1 hN2 hX
  go_enter Tryd.func18, Tryd.ntmps18
  go_upto_region 1 with (fail)
  have wr1 : IntKind.u64.wrap (ob : Int) = (ob : Int) := by simp [IntKind.wrap, IntKind.bits, IntKind.signed]; omega
  generalize w.alloc (.cells #[.int .u32 (ob : Int), .int .i64 oc, .slice A n cap] 25) = w1 at *
  go_cut [3] from 5 to 14 (fun s3 wx => s3 = .string ⟨(fmtF ob oc (agL (l.take 0))).toArray⟩ ∧ Hid (Held w wx [(w.heap.size, [.int .u32 (ob : Int), .int .i64 oc, .slice A n cap])]))
  case first =>
    have z1 : ¬ 9223372036854775807 < N1.size + 1 := by omega
    have z2 : ¬ 9223372036854775807 < N1.size + 1 + N2.size := by omega
    have z3 : ¬ 9223372036854775807 < N1.size + 1 + N2.size + 1 := by omega
    have J := Lib.hid J0.out.drew
    clear J0
    have sk := And.intro (J.out.tri (l1 := [])).1 (J.out.tri (l1 := [])).2.1
    go_region_held3 (fun W => W.cell? ⟨w.heap.size, 0, none⟩ = some (.int .u32 (ob : Int)) ∧ W.cell? ⟨w.heap.size, 1, none⟩ = some (.int .i64 oc))
      (first
        | exact sk
        | go_keep)
      (first
        | (go_at_call 42; (with_reducible refine (U _ J.out.below).out.mono ?_); rintro e wq ⟨rfl, hb2⟩; replace J := Lib.hid (J.out.step hb2); clear sk hb2; have sk := And.intro (J.out.tri (l1 := [])).1 (J.out.tri (l1 := [])).2.1)
        | (go_at_call 44; (with_reducible refine (I _ J.out.below).out.mono ?_); rintro e wq ⟨rfl, hb2⟩; replace J := Lib.hid (J.out.step hb2); clear sk hb2; have sk := And.intro (J.out.tri (l1 := [])).1 (J.out.tri (l1 := [])).2.1)
        | fail)
    all_goals
      go_wp2_with fail
      go_meet
      exact ⟨congrArg Value.string HP.out, J⟩
  case rest =>
    obtain ⟨rfl, J1⟩ := hcut
    clear J0 U I
    go_wp2_with fail
    go_loopw [3, 4] (fun s3 s4 wr => ∃ i : Nat, i ≤ n ∧ s3 = .string ⟨(fmtF ob oc (agL (l.take i))).toArray⟩ ∧ s4 = .int .i64 (i : Int) ∧ Hid (Held w wr [(w.heap.size, [.int .u32 (ob : Int), .int .i64 oc, .slice A n cap])])) (fun _ s4 _ => leftN n s4)
    case atStart => exact ⟨0, Nat.zero_le _, rfl, rfl, J1⟩
    case round =>
      clear J1
      obtain ⟨i, hi, rfl, rfl, J⟩ := hrel
      obtain ⟨y0, y1, y2, -, -⟩ := (show Held w wr ([] ++ (w.heap.size, _) :: []) from J.out).tri
      obtain ⟨T, hT⟩ : ∃ T : ByteArray, ⟨(fmtF ob oc (agL (l.take i))).toArray⟩ = T := ⟨_, rfl⟩
      have hTs : T.size ≤ 16100000 := by
        rw [← hT, mk_size]
        have h1 := FL.out _ (fit_take HF.out i)
        have h2 := agL_take_len l i
        omega
      by_cases hlt : i < n
      · have q0 : (0 : Int) ≤ i := by omega
        have q1 : (i : Int) < n := by omega
        obtain ⟨p, hp⟩ : ∃ p, l[i]? = some p := ⟨_, List.getElem?_eq_getElem (by rw [HN.out]; exact hlt)⟩
        have hf := HF.out p (List.mem_of_getElem? hp)
        have hG : (⟨(txtG p.1).toArray⟩ : ByteArray).size ≤ 16010 := by rw [mk_size]; exact txtG_len hf.1 hf.2
        have ek := agL_take l i p hp
        obtain ⟨b, off, rfl, hb, -, -⟩ := ags_at HA.out J.out.below hp
        obtain ⟨c0, c1, c2, c3⟩ := arg_cells HA.out hp J.out.below
        have TX0 := fun (W : World) (hb : Below w.heap.size w W) => text_any p (arg_ok HA.out hp hb) hf.1 hf.2 (HT.out.below hb)
        obtain ⟨A5, c5, hv5, -, -⟩ := (arg_ok HA.out hp J.out.below).shape
        clear hf
        obtain ⟨⟨kd, nn, ss, bb⟩, pv⟩ := p
        dsimp only [agVal] at TX0 c0 c1 c2 c3 hG ek hv5
        subst hv5
        obtain ⟨bl, hbl⟩ : ∃ n, bb.length = n := ⟨_, rfl⟩
        obtain ⟨G, hGe⟩ : ∃ G, txtG ⟨kd, nn, ss, bb⟩ = G := ⟨_, rfl⟩
        rw [hbl, hGe] at TX0
        rw [hbl] at c3
        rw [hGe] at hG
        unfold Tells at TX0
        have TX := fun W hb => Lib.hid (TX0 W hb)
        clear TX0 hp hbl
        by_cases h0 : i = 0
        · have EE : Hid (T ++ ⟨G.toArray⟩ = ⟨(fmtF ob oc (agL (l.take (i + 1)))).toArray⟩) := Lib.hid (by
            rw [ek, ← hT, ← hGe]
            subst h0
            exact fmtF_zero ob oc _)
          have h1 : ¬ (0 : Int) < i := by omega
          rw [hT]
          clear hT ek hGe h0
          go_wp2_with fail
          refine (TX _ J.out.below).out.mono ?_
          rintro e wq ⟨rfl, hb2⟩
          replace J := Lib.hid (J.out.step hb2)
          clear hb2 TX
          go_wp2_with fail
          go_roundw
          case rel => exact ⟨i + 1, by omega, congrArg Value.string EE.out, by go_num, J⟩
          case measure =>
            unfold leftN
            simp [RowKit.intOf]
            omega
        · have EE : Hid ((T ++ ⟨#[44, 32]⟩) ++ ⟨G.toArray⟩ = ⟨(fmtF ob oc (agL (l.take (i + 1)))).toArray⟩) := Lib.hid (by
            rw [ek, ← hT, ← hGe]
            refine fmtF_snoc ob oc _ _ (fun e => ?_)
            have := congrArg List.length e
            unfold agL at this
            rw [List.length_map, List.length_take, HN.out, List.length_nil] at this
            omega)
          have h1 : (0 : Int) < i := by omega
          have hT2 : (T ++ (⟨#[44, 32]⟩ : ByteArray)).size ≤ 16100002 := by
            rw [ByteArray.size_append]
            show T.size + 2 ≤ _
            omega
          rw [hT]
          clear hT ek hGe
          go_wp2_with fail
          refine (TX _ J.out.below).out.mono ?_
          rintro e wq ⟨rfl, hb2⟩
          replace J := Lib.hid (J.out.step hb2)
          clear hb2 TX
          go_wp2_with fail
          go_roundw
          case rel => exact ⟨i + 1, by omega, congrArg Value.string EE.out, by go_num, J⟩
          case measure =>
            unfold leftN
            simp [RowKit.intOf]
            omega
      · obtain rfl : n = i := by omega
        have e9 : T ++ ⟨#[41]⟩ = ⟨X.toArray⟩ := by
          rw [← hT, fmtF_done, List.take_of_length_le (by rw [HN.out]; exact Nat.le_refl _), HX.out]
        rw [hT]
        have EE := Lib.hid e9
        clear hT e9
        go_wp2_with fail
        go_ret
        exact ⟨congrArg (fun s => Ending.returned (.string s)) EE.out, J.out.below⟩

end Go.Proofs.YtmpkjjmgfakomaaDoor
