/-
  The walk of the law PixelAverage.
-/
import Derived.Test.YtkphkmcdbmphlaaRowp
import Derived.Test.YtkphkmcdbmphlaaLawB
import Derived.Deep.RegionWith
import Derived.Deep.DeepCutAuto
namespace Go.Proofs.Ytkphkmcdbmphlaa
open Go.RowKit

theorem avg_is {v : Value} {l : List Px} {q : Px} (hq : avgP l = q) (hl : ∀ p ∈ l, Byt p) (hn : l.length ≤ 100000) {w : World} (h : Pxs w v l) : Calls Try.prog 26 #[v] w (GivesP q w) := by
  have := avg_any hl hn h
  rwa [hq] at this

def leftI (v : Value) : Nat := (intOf v + 1).toNat

theorem drop_px {l : List Px} {j : Nat} {x : Px} (h : l[j]? = some x) : (l.drop j).reverse = (l.drop (j + 1)).reverse ++ [x] := by
  obtain ⟨hj, rfl⟩ := List.getElem?_eq_some_iff.1 h
  rw [List.drop_eq_getElem_cons hj, List.reverse_cons]

set_option maxRecDepth 100000 in
set_option maxHeartbeats 4000000 in
theorem average_walk {v : Value} {l : List Px} (hl : ∀ p ∈ l, Byt p) {p : Px} (hp : Byt p) {n : Nat} (hn : n < 256) {w : World} (hv : Pxs w v l) : Calls Try.prog 5 #[v, .agg #[.int .u8 (p.r : Int), .int .u8 (p.g : Int), .int .u8 (p.b : Int), .int .u8 (p.a : Int)], .int .u8 (n : Int)] w (Says true w) := by
  have hv0 := Lib.hid hv
  obtain ⟨A, c, hve, hc, hm, hcell⟩ := hv
  simp only [maxLen] at hm
  have HC := Lib.hid hcell
  have HB := Lib.hid hl
  obtain ⟨m, hm2⟩ : ∃ m, l.length = m := ⟨_, rfl⟩
  have HM := Lib.hid hm2
  rw [hm2] at hve hc
  subst hve
  have J : Hid (HeldB w (w.alloc (.cells #[.int .u8 (p.r : Int), .int .u8 (p.g : Int), .int .u8 (p.b : Int), .int .u8 (p.a : Int)] 23)) p) := Lib.hid (HeldB.new w p)
  have C19 := fun W => Lib.hid (example_any W)
  clear hcell hl hm2
  by_cases h300 : 300 < m
  · have h0 : (300 : Int) < (m : Int) := by omega
    go_enter Try.func5, Try.ntmps5
    go_wp2_with fail
    refine (C19 _).out.mono ?_
    rintro e w1 ⟨rfl, hb⟩
    replace J := Lib.hid (J.out.step hb)
    clear hb
    go_wp2_with fail
    go_ret
    exact ⟨rfl, J.out.below⟩
  · have h0 : ¬ (300 : Int) < (m : Int) := by omega
    have hm300 : m ≤ 300 := by omega
    clear h300
    have HN := Lib.hid hn
    have HP := Lib.hid hp
    clear hp
    go_enter Try.func5, Try.ntmps5
    go_wp2_with fail
    have hs0 : (w.alloc (.cells #[.int .u8 (p.r : Int), .int .u8 (p.g : Int), .int .u8 (p.b : Int), .int .u8 (p.a : Int)] 23)).heap.size = w.heap.size + 1 := World.size_alloc ..
    generalize w.alloc (.cells #[.int .u8 (p.r : Int), .int .u8 (p.g : Int), .int .u8 (p.b : Int), .int .u8 (p.a : Int)] 23) = w1 at *
    have hs1 := Lib.hid hs0
    clear hs0
    go_loopw [7, 17] (fun s7 s17 wr => ∃ k : Nat, k ≤ n + 1 ∧ s17 = .int .i64 (k : Int) ∧ Hid (OwnP wr (w.heap.size + 1) s7 (List.replicate k p) ∧ HeldB w wr p)) (fun _ s17 _ => n + 1 - (intOf s17).toNat)
    case atStart => exact ⟨0, by omega, rfl, ownP_nil _ _, J.out⟩
    case round =>
      obtain ⟨k, hk, rfl, HR⟩ := hrel
      by_cases hlt : k < n + 1
      · have q0 : (k : Int) < n + 1 := by omega
        have HO := HR.out.1
        have J := Lib.hid HR.out.2
        obtain ⟨a0, a1, a2, a3, _⟩ := J.out.at0
        have hz := J.out.there
        clear HR
        go_wp2_with (at_builtin; refine wpList_appP rfl _ _ rfl (base := w.heap.size + 1) (l := List.replicate k p) (m := [p]) rfl (World.ownsRow.alloc HO _) rfl (pxs_one wr p) (by simp; omega) (by simp; omega) ?_; intro v6 w6 ho6 hg6 _)
        have hb6 := below_grownP ((Below.refl (w.heap.size + 1) wr).alloc (by omega) _) (by simp; omega) (World.ownsRow.alloc HO _) hg6
        go_roundw
        case rel => exact ⟨k + 1, by omega, by go_num, by rw [List.replicate_succ']; exact ho6, ⟨J.out.at0.keep hb6 (by omega), J.out.below.trans (hb6.mono (by omega)), Nat.lt_of_lt_of_le hz hb6.size⟩⟩
        case measure =>
          simp [intOf]
          omega
      · obtain rfl : k = n + 1 := by omega
        have q0 : ¬ ((n + 1 : Nat) : Int) < n + 1 := by omega
        obtain ⟨HO, HJ⟩ := HR.out
        have E := Lib.hid HO.pxs
        have J := Lib.hid HJ
        clear HR HO HJ hk
        obtain ⟨wu, rfl⟩ : ∃ x, x = wr := ⟨_, rfl⟩
        go_wp2_with fail
        go_loopw [8, 9] (fun s8 s9 wr => ∃ (j : Nat) (z : Int), j ≤ m ∧ s9 = .int .i64 z ∧ Hid (z = (j : Int) - 1 ∧ Below wu.heap.size wu wr ∧ OwnP wr wu.heap.size s8 (l.drop j).reverse)) (fun _ s9 _ => leftI s9)
        case atStart => exact ⟨m, _, Nat.le_refl _, rfl, rfl, Below.refl _ _, by rw [List.drop_of_length_le (by rw [HM.out]; exact Nat.le_refl _)]; exact ownP_nil _ _⟩
        case round =>
          obtain ⟨j, z, hj, rfl, HR⟩ := hrel
          cases j with
          | succ i =>
            obtain ⟨hz, hbu, HO⟩ := HR.out
            obtain rfl : z = (i : Int) := by omega
            obtain ⟨x, hx⟩ : ∃ x, l[i]? = some x := ⟨_, List.getElem?_eq_getElem (by rw [HM.out]; omega)⟩
            obtain ⟨bb, off, rfl, hbb, hcs⟩ := HC.out (by rw [HM.out]; omega)
            obtain ⟨c0, c1, c2, c3⟩ := (hcs i x hx).keep (J.out.step hbu).below hbb
            have q0 : (0 : Int) ≤ i := by omega
            have q1 : (i : Int) < m := by omega
            have hx2 := Lib.hid (drop_px hx)
            have hlen : (l.drop (i + 1)).reverse.length + 1 ≤ 4000000 := by rw [List.length_reverse, List.length_drop, HM.out]; omega
            have hsz := hbu.size
            clear HR hz hx hcs
            go_wp2_with (at_builtin; refine wpList_appP rfl _ _ rfl (base := wu.heap.size) (l := (l.drop (i + 1)).reverse) (m := [x]) rfl (World.ownsRow.alloc HO _) rfl (pxs_one wr x) hlen (by simp; omega) ?_; intro v6 w6 ho6 hg6 _)
            have hb6 := below_grownP (hbu.alloc hsz _) (by simp; omega) (World.ownsRow.alloc HO _) hg6
            go_roundw
            case rel => exact ⟨i, (i : Int) - 1, by omega, by go_num, rfl, hb6, by rw [hx2.out]; exact ho6⟩
            case measure =>
              unfold leftI
              simp [intOf]
              try omega
          | zero =>
            obtain ⟨hz, hbu, HO⟩ := HR.out
            obtain rfl : z = -1 := by omega
            have F := Lib.hid HO.pxs
            replace E := Lib.hid (E.out.below hbu)
            replace J := Lib.hid (J.out.step hbu)
            have K := Lib.hid (Below.refl wr.heap.size wr)
            rw [List.drop_zero] at F
            have hl6 : l.length ≤ 100000 := by rw [HM.out]; omega
            have CL := fun W (hb : Below w.heap.size w W) => Lib.hid (avg_any HB.out hl6 (hv0.out.below hb))
            have CR := fun W (hb : Below w.heap.size w W) => Lib.hid (ravg_any HB.out hl6 (hv0.out.below hb))
            have CE := fun W (hb : Below wr.heap.size wr W) => Lib.hid (avg_is (avg_same p n) (fun q hq => by rw [List.eq_of_mem_replicate hq]; exact HP.out) (by rw [List.length_replicate]; have := HN.out; omega) (E.out.below hb))
            have CF := fun W (hb : Below wr.heap.size wr W) => Lib.hid (avg_is (avg_reverse l) (fun q hq => HB.out q (List.mem_reverse.1 hq)) (by rw [List.length_reverse]; exact hl6) (F.out.below hb))
            have C11 := fun W => Lib.hid (clamp_any p W)
            generalize avgP l = ml at *
            generalize clampP p = pc at *
            clear HR HO hbu hz E F hv0 HB HC HM hl6
            go_wp2_with fail
            replace J := Lib.hid (J.out.step (Below.refl _ _).drew)
            replace K := Lib.hid (Below.next K.out (Below.refl _ _).drew)
            have sk := J.out.at0.cells
            go_region_held3 (fun W => W.cell? ⟨w.heap.size, 0, none⟩ = some (.int .u8 (p.r : Int)) ∧ W.cell? ⟨w.heap.size, 1, none⟩ = some (.int .u8 (p.g : Int)) ∧ W.cell? ⟨w.heap.size, 2, none⟩ = some (.int .u8 (p.b : Int)) ∧ W.cell? ⟨w.heap.size, 3, none⟩ = some (.int .u8 (p.a : Int)))
              (first
                | go_keep
                | exact sk)
              (first
                | (go_at_call 26; (with_reducible refine (CL _ J.out.below).out.mono ?_); rintro e wq ⟨rfl, hb⟩; replace J := Lib.hid (J.out.step hb); replace K := Lib.hid (Below.next K.out hb); (try clear sk); have sk := J.out.at0.cells; clear hb)
                | (go_at_call 27; (with_reducible refine (CR _ J.out.below).out.mono ?_); rintro e wq ⟨rfl, hb⟩; replace J := Lib.hid (J.out.step hb); replace K := Lib.hid (Below.next K.out hb); (try clear sk); have sk := J.out.at0.cells; clear hb)
                | (go_at_call 26; (with_reducible refine (CE _ K.out).out.mono ?_); rintro e wq ⟨rfl, hb⟩; replace J := Lib.hid (J.out.step hb); replace K := Lib.hid (Below.next K.out hb); (try clear sk); have sk := J.out.at0.cells; clear hb)
                | (go_at_call 26; (with_reducible refine (CF _ K.out).out.mono ?_); rintro e wq ⟨rfl, hb⟩; replace J := Lib.hid (J.out.step hb); replace K := Lib.hid (Below.next K.out hb); (try clear sk); have sk := J.out.at0.cells; clear hb)
                | (go_at_call 11; (with_reducible refine (C11 _).out.mono ?_); rintro e wq ⟨rfl, hb⟩; replace J := Lib.hid (J.out.step hb); replace K := Lib.hid (Below.next K.out hb); (try clear sk); have sk := J.out.at0.cells; clear hb)
                | (go_at_call 19; (with_reducible refine (C19 _).out.mono ?_); rintro e wq ⟨rfl, hb⟩; replace J := Lib.hid (J.out.step hb); replace K := Lib.hid (Below.next K.out hb); (try clear sk); have sk := J.out.at0.cells; clear hb)
                | fail)
            all_goals
              go_wp2_with fail
              go_ret
              exact ⟨rfl, J.out.below⟩

end Go.Proofs.Ytkphkmcdbmphlaa
