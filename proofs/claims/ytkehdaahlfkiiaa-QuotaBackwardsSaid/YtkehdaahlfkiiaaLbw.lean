/-
  QuotaBackwards, over the contracts of the package's functions.
-/
import Derived.Test.YtkehdaahlfkiiaaTls
namespace Go.Proofs.Ytkehdaahlfkiiaa
open Go.RowKit

theorem wB_new : newB 1000 50 = ⟨true, false, 1000, 50, 50000, 0⟩ := by unfold newB; rw [if_neg (by omega)]; rfl
theorem wB_take (t : Int) : takeB ⟨true, false, 1000, 50, 50000, 0⟩ t 3 = (⟨true, true, 1000, 50, 47000, t⟩, true) := by
  unfold takeB advB
  rw [if_neg (by simp), if_pos rfl, if_neg (by dsimp only; omega)]
  rfl
theorem wB_ok : BOk ⟨true, false, 1000, 50, 50000, 0⟩ := by rw [← wB_new]; exact newB_ok 1000 50
section
variable {T : World → Prop} {R : World → World → Value → Qs → (Nat → Prop) → Prop} {RB : World → World → Value → Bk → (Nat → Prop) → Prop}
set_option maxRecDepth 100000 in
set_option maxHeartbeats 16000000 in
theorem back_walk (K : PQ T R) (KB : PB T RB) {w : World} (hT : T w) {start : Int} (h0 : I64 start) {v : Value} {l : List Tr} (hl : Trs w v l) : Calls Try.prog 9 #[.int .i64 start, v] w (SaysB true w) := by
  have HT := Lib.hid hT
  have EX := fun (W : World) (hb : Below w.heap.size w W) => Lib.hid (ex_any K KB (K.below HT.out hb))
  have J := Lib.hid (HO.nil w)
  have HA := Lib.hid hl
  obtain ⟨A, cap, rfl, hcap, hm⟩ := hl.shape
  simp only [maxLen] at hm
  obtain ⟨n, hn⟩ : ∃ n, l.length = n := ⟨_, rfl⟩
  have HN := Lib.hid hn
  rw [hn] at hcap HA ⊢
  clear hT hl hn
  by_cases h1 : 100 < n
  · have q1 : (100 : Int) < n := by omega
    go_enter Try.func9, Try.ntmps9
    go_wp2_with fail
    refine (EX _ J.out.below).out.mono ?_
    rintro e wq2 ⟨rfl, hb⟩
    replace J := Lib.hid (J.out.step hb)
    clear hb
    go_wp2_with fail
    go_ret
    exact ⟨rfl, J.out.below⟩
  have q1 : ¬ (100 : Int) < n := by omega
  go_enter Try.func9, Try.ntmps9
  go_wp2_with fail
  refine (KB.new (K.below HT.out J.out.below) J.out.below 1000 50 (i64_lit (by decide) (by decide)) (i64_lit (by decide) (by decide))).mono ?_
  rintro e w1 ⟨rv1, S1, rfl, hr, hs, hb⟩
  rw [wB_new] at hr
  replace J := Lib.hid (J.out.newB KB hr hs hb)
  obtain ⟨p1, rfl⟩ := KB.made hr rfl
  clear hr hs hb
  go_wp2_with fail
  refine (KB.new (K.below HT.out J.out.below) J.out.below 1000 50 (i64_lit (by decide) (by decide)) (i64_lit (by decide) (by decide))).mono ?_
  rintro e w2 ⟨rv2, S2, rfl, hr, hs, hb⟩
  rw [wB_new] at hr
  replace J := Lib.hid (J.out.newB KB hr hs hb)
  obtain ⟨p2, rfl⟩ := KB.made hr rfl
  clear hr hs hb
  go_wp2_with fail
  refine (KB.take (K.below HT.out J.out.below) (show HO w _ ([_] ++ objO RB w (.pointer (some p1)) _ _ :: _) from J.out).at wB_ok start 3 h0 (i64_lit (by decide) (by decide))).mono ?_
  rintro e wq ⟨S1', he, hr, hs, ht⟩
  rw [wB_take] at he hr
  obtain rfl : e = .returned (.bool true) := he
  replace J := Lib.hid ((show HO w _ ([_] ++ objO RB w (.pointer (some p1)) _ _ :: _) from J.out).turnB KB hr hs ht)
  clear hr hs ht
  go_wp2_with fail
  refine (KB.take (K.below HT.out J.out.below) (show HO w _ ([] ++ objO RB w (.pointer (some p2)) _ _ :: _) from J.out).at wB_ok start 3 h0 (i64_lit (by decide) (by decide))).mono ?_
  rintro e wq ⟨S2', he, hr, hs, ht⟩
  rw [wB_take] at he hr
  obtain rfl : e = .returned (.bool true) := he
  replace J := Lib.hid ((show HO w _ ([] ++ objO RB w (.pointer (some p2)) _ _ :: _) from J.out).turnB KB hr hs ht)
  clear hr hs ht
  go_wp2_with fail
  go_loopw [7] (fun s7 wr => ∃ (i : Nat) (b : Bk) (Sa Sb : Nat → Prop), i ≤ n ∧ s7 = .int .i64 (i : Int) ∧ Hid (AtB b start) ∧ Hid (HO w wr [objO RB w (.pointer (some p2)) b Sb, objO RB w (.pointer (some p1)) b Sa])) (fun s7 _ => leftN n s7)
  case atStart => exact ⟨0, _, _, _, Nat.zero_le _, rfl, Lib.hid ⟨rfl, rfl, rfl, by have := takeB_ok wB_ok h0 3; rw [wB_take] at this; exact this⟩, J⟩
  case round =>
    clear J
    obtain ⟨i, b, Sa, Sb, hi, rfl, HB, J⟩ := hrel
    by_cases hlt : i < n
    · have q0 : (0 : Int) ≤ i := by omega
      have q2 : (i : Int) < n := by omega
      obtain ⟨x, hx⟩ : ∃ x, l[i]? = some x := ⟨_, List.getElem?_eq_getElem (by rw [HN.out]; exact hlt)⟩
      obtain ⟨ia, ib, bb, off, rfl, TR⟩ := trs_at HA.out hx
      obtain ⟨t, m, c⟩ := x
      dsimp only at ia ib
      obtain ⟨c0, c1, c2⟩ := TR _ J.out.below
      clear hx
      by_cases hlate : start < t
      · go_wp2_with fail
        go_roundw
        case rel => exact ⟨i + 1, b, Sa, Sb, by omega, by go_num, HB, J⟩
        case measure =>
          unfold leftN
          simp [intOf]
          omega
      · have hle : t ≤ start := by omega
        obtain ⟨⟨b2, r⟩, hk⟩ : ∃ q, tkB b m = q := ⟨_, rfl⟩
        have HB2 := Lib.hid (by have := tk_at HB.out m; rw [hk] at this; exact this)
        have T1 := Lib.hid ((take_old HB.out hle m).trans hk)
        have T2 := Lib.hid ((take_old HB.out (Int.le_refl start) m).trans hk)
        have V1 := Lib.hid (lvl_old HB2.out hle)
        have V2 := Lib.hid (lvl_old HB2.out (Int.le_refl start))
        dsimp only at HB2 V1 V2
        obtain ⟨z, hz⟩ : ∃ z, b2.fi / 1000 = z := ⟨_, rfl⟩
        rw [hz] at V1 V2
        have er : (r != r) = false := by cases r <;> rfl
        have ez : (z != z) = false := by simp
        clear hk hz
        go_upto_region 10 with fail
        replace J := Lib.hid J.out.drew
        have sk := And.intro (TR _ J.out.below).1 (TR _ J.out.below).2.1
        clear c0 c1 c2
        go_region_held3 (fun W => W.cell? ⟨bb, off + i * 3, none⟩ = some (.int .i64 t) ∧ W.cell? ⟨bb, off + i * 3 + 1, none⟩ = some (.int .i64 m))
          (first
            | exact sk
            | go_keep)
          (first
            | (go_at_call 26; have R1 : RB w _ (.pointer (some p1)) b _ := (show HO w _ ([_] ++ objO RB w (.pointer (some p1)) b _ :: _) from J.out).at; (with_reducible refine (KB.take (K.below HT.out J.out.below) R1 HB.out.ok t m ia ib).mono ?_); rintro e wq ⟨Sq, he, hr, hs, ht⟩; rw [T1.out] at he hr; obtain rfl := he; replace J := Lib.hid ((show HO w _ ([_] ++ objO RB w (.pointer (some p1)) b _ :: _) from J.out).turnB KB (b' := b2) hr hs ht); clear hr hs ht sk R1; have sk := And.intro (TR _ J.out.below).1 (TR _ J.out.below).2.1)
            | (go_at_call 26; have R1 : RB w _ (.pointer (some p2)) b _ := (show HO w _ ([] ++ objO RB w (.pointer (some p2)) b _ :: _) from J.out).at; (with_reducible refine (KB.take (K.below HT.out J.out.below) R1 HB.out.ok start m h0 ib).mono ?_); rintro e wq ⟨Sq, he, hr, hs, ht⟩; rw [T2.out] at he hr; obtain rfl := he; replace J := Lib.hid ((show HO w _ ([] ++ objO RB w (.pointer (some p2)) b _ :: _) from J.out).turnB KB (b' := b2) hr hs ht); clear hr hs ht sk R1; have sk := And.intro (TR _ J.out.below).1 (TR _ J.out.below).2.1)
            | (go_at_call 24; have R1 : RB w _ (.pointer (some p1)) b2 _ := (show HO w _ ([_] ++ objO RB w (.pointer (some p1)) b2 _ :: _) from J.out).at; (with_reducible refine (KB.lvl (K.below HT.out J.out.below) R1 HB2.out.ok t ia).mono ?_); rintro e wq ⟨Sq, he, hr, hs, ht⟩; rw [V1.out] at he hr; obtain rfl := he; replace J := Lib.hid ((show HO w _ ([_] ++ objO RB w (.pointer (some p1)) b2 _ :: _) from J.out).turnB KB (b' := b2) hr hs ht); clear hr hs ht sk R1; have sk := And.intro (TR _ J.out.below).1 (TR _ J.out.below).2.1)
            | (go_at_call 24; have R1 : RB w _ (.pointer (some p2)) b2 _ := (show HO w _ ([] ++ objO RB w (.pointer (some p2)) b2 _ :: _) from J.out).at; (with_reducible refine (KB.lvl (K.below HT.out J.out.below) R1 HB2.out.ok start h0).mono ?_); rintro e wq ⟨Sq, he, hr, hs, ht⟩; rw [V2.out] at he hr; obtain rfl := he; replace J := Lib.hid ((show HO w _ ([] ++ objO RB w (.pointer (some p2)) b2 _ :: _) from J.out).turnB KB (b' := b2) hr hs ht); clear hr hs ht sk R1; have sk := And.intro (TR _ J.out.below).1 (TR _ J.out.below).2.1)
            | fail)
        all_goals
          go_wp2_with fail
          go_roundw
          case rel => exact ⟨i + 1, b2, _, _, by omega, by go_num, HB2, J⟩
          case measure =>
            unfold leftN
            simp [intOf]
            omega
    · obtain rfl : n = i := by omega
      go_wp2_with fail
      refine (EX _ J.out.below).out.mono ?_
      rintro e wq2 ⟨rfl, hb⟩
      replace J := Lib.hid (J.out.step hb)
      clear hb
      go_wp2_with fail
      go_ret
      exact ⟨rfl, J.out.below⟩
end

end Go.Proofs.Ytkehdaahlfkiiaa
