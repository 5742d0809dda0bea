/-
  Package message: join, hex, escape, formatArg.
-/
import Derived.Test.YtmpkjjmgfakomaaDoorMta
import Derived.Test.YtmpkjjmgfakomaaDoorWpz
import Derived.Lib.Join
namespace Go.Proofs.YtmpkjjmgfakomaaDoor
open Go.RowKit Mem Wire Go.Lib

set_option maxRecDepth 100000 in
theorem p_join_any {w : World} {bk o c : Nat} (xs : List ByteArray) (sep : ByteArray) (hcells : ∀ (j : Nat) x, xs[j]? = some x → w.cell? ⟨bk, o + j, none⟩ = some (.string x)) (hbk : bk < w.heap.size) (hN : xs.length ≤ 1000) (hcap : xs.length ≤ c)
    (hlen : (Lib.join (xs.map sl) (sl sep)).length ≤ 140737488355328) :
    Calls Tryd.prog 43 #[.string sep, .slice (some ⟨bk, o, none⟩) xs.length c] w (Tells (Lib.join (xs.map sl) (sl sep)) w) := by
  have C := Lib.hid (Tryd.strings_Join bk o c xs sep w hcells hbk (by omega) hcap hlen)
  rw [show (xs.map (·.data.toList)) = xs.map sl from rfl, show sep.data.toList = sl sep from rfl] at C
  generalize Lib.join (xs.map sl) (sl sep) = r at *
  clear hcells hlen
  generalize xs.length = n at *
  go_enter Tryd.func43, Tryd.ntmps43
  go_wp2_with fail
  refine C.out.mono ?_
  rintro e w1 ⟨rfl, hb⟩
  have HB := Lib.hid hb
  clear hb
  go_wp2_with fail
  go_ret
  exact ⟨rfl, HB.out⟩

set_option maxRecDepth 100000 in
/-- append onto bytes of the call's own, at a step of a region that draws its order -/
theorem step_appB {w : World} {ops : Array Oper} {o : Oper} {a : Act} {K : Act → World → Prop} {Q : Exit → Act → World → Prop} {D : Prop} (hgd : o.guard = none) (s x : Operand)
    (ho : o.op = .call { callee := .builtin .append, args := #[s, x], argTypes := #[28, 28] })
    {base : Nat} {v : Value} {xs bs : List UInt8} (hs : a.eval s = v) (hown : Owns w base v xs) {A : Option Addr} {m c : Nat} (hx : a.eval x = .slice A m c) (hsee : Sees w (.slice A m c) bs)
    (hb : xs.length + bs.length ≤ 140737488355328) (hbase : base ≤ w.heap.size)
    (h : ∀ v' w', Owns w' base v' (xs ++ bs) → w.grownBy w' v.ownBlock → (v'.ownBlock = v.ownBlock ∨ v'.ownBlock = some w.heap.size) → K (a.put o.dst v') w') :
    if Region.wanted o (yielded ops a.tmps) = true then Oper.wp Tryd.prog o a w K Q else D := by
  have hw : Region.wanted o (yielded ops a.tmps) = true := by simp [Region.wanted, hgd]
  rw [if_pos hw]
  obtain ⟨v', w', hrun, h2, h3, h4⟩ := append_run hown hsee hb hbase o.type
  unfold Oper.wp execOp
  simp only [ho, resolve, invoke, builtin, Sem.run_bind, Sem.run_pure, Result.andThen_ok, List.map_toArray, List.map_cons, List.map_nil, hs, hx, hrun]
  exact h v' w' h2 h3 h4

theorem and_15 : ∀ c : Nat, c < 256 → bits .and .u8 (c : Int) 15 = ((c % 16 : Nat) : Int) := by decide +kernel
theorem hex_at : ∀ (d : Nat) (h : d < 16), ((⟨#[48, 49, 50, 51, 52, 53, 54, 55, 56, 57, 97, 98, 99, 100, 101, 102]⟩ : ByteArray)[d]'h) = hexD d := by decide +kernel

set_option maxRecDepth 100000 in
set_option maxHeartbeats 2000000 in
theorem p_hex_any {w : World} {base : Nat} {v : Value} {bs : List UInt8} (x : UInt8) (hown : Owns w base v bs) (hb : bs.length + 2 ≤ 1000000) (hW : base ≤ w.heap.size) :
    Calls Tryd.prog 98 #[v, byte x] w (Grows w base v (bs ++ hexB x)) := by
  have HO := Lib.hid hown
  unfold byte
  obtain ⟨c, hc⟩ : ∃ c, x.toNat = c := ⟨_, rfl⟩
  have hl : c < 256 := by rw [← hc]; exact x.toNat_lt
  obtain ⟨d, hd⟩ : ∃ d, c / 16 = d := ⟨_, rfl⟩
  obtain ⟨m, hm⟩ : ∃ d, c % 16 = d := ⟨_, rfl⟩
  have hx : hexB x = [hexD d, hexD m] := by
    unfold hexB
    rw [hc, hd, hm]
  rw [hc, hx]
  have hd2 : (c : Int) / 16 = (d : Int) := by omega
  have hm2 : bits .and .u8 (c : Int) 15 = (m : Int) := by rw [and_15 c hl, hm]
  have q0 : (0 : Int) ≤ c := by omega
  have q1 : (c : Int) < 256 := by omega
  have ld : d < 16 := by omega
  have lm : m < 16 := by omega
  have ld2 : (d : Int) < 16 := by omega
  have lm2 : (m : Int) < 16 := by omega
  have H1 := hex_at d ld
  have H2 := hex_at m lm
  have HW := Lib.hid hW
  have HS := fun (W : World) => Lib.hid (sees_new W #[.int .u8 ((hexD d).toNat : Int), .int .u8 ((hexD m).toNat : Int)] (t := 5) [hexD d, hexD m] 2 rfl rfl (by simp [maxLen]))
  generalize hexD d = hD at *
  generalize hexD m = hM at *
  clear hown hx hl hc hd hm
  go_enter Tryd.func98, Tryd.ntmps98
  go_wp2_with fail
  go_region_held3 (fun _ => True) (exact trivial)
    (first
      | (refine step_appB (by rfl) _ _ (by rfl) (base := base) (xs := bs) (bs := [hD, hM]) (by rfl) (by exact (HO.out.below (Below.refl _ _).drew).alloc _) (by rfl) (by exact (HS _).out) (by simp; omega) (by have := HW.out; simp; omega) ?_; intro v6 w6 ho6 hg6 _)
      | fail)
  all_goals
    have hg7 := (grown_below ((Below.refl w.heap.size w).alloc (Nat.le_refl _) (.cells #[.int .u8 (hD.toNat : Int), .int .u8 (hM.toNat : Int)] 5)).drew v.ownBlock).trans hg6
    have HH := Lib.hid (And.intro ho6 hg7)
    clear ho6 hg6 hg7
    go_wp2_with fail
    go_ret
    exact ⟨v6, rfl, HH.out.1, HH.out.2⟩

end Go.Proofs.YtmpkjjmgfakomaaDoor

namespace Go.Proofs.YtmpkjjmgfakomaaDoor
open Go.RowKit Mem Wire Go.Lib

theorem below_grownB {w W W' : World} {v : Value} {L : List UInt8} (h : Below w.heap.size w W) (hg : W.grownBy W' v.ownBlock) (ho : Owns W w.heap.size v L) : Below w.heap.size w W' := h.grown hg h.size (fun k hk => (ho.block k hk).1)
theorem hex_take (bb : List UInt8) {i : Nat} (h : i < bb.length) : (bb.take (i + 1)).flatMap hexB = (bb.take i).flatMap hexB ++ hexB (bb.getD i 0) := by
  rw [List.take_add_one, List.getElem?_eq_getElem h, List.flatMap_append]
  simp [List.getD, List.getElem?_eq_getElem h]

set_option maxRecDepth 100000 in
set_option maxHeartbeats 4000000 in
theorem p_hexs_any {w : World} {A : Option Addr} {n c : Nat} {bb : List UInt8} (hS : Sees w (.slice A n c) bb) (hl : n ≤ 4000) :
    Calls Tryd.prog 80 #[.slice A n c] w (Tells (bb.flatMap hexB) w) := by
  have HS := Lib.hid hS
  obtain ⟨_, _, hv, hbc, hcm⟩ := hS.shape
  simp only [Value.slice.injEq] at hv
  obtain ⟨-, hlen, rfl⟩ := hv
  rw [← hlen] at hbc
  simp only [maxLen] at hcm
  have HL := Lib.hid hlen
  have HX0 := fun (x : UInt8) (W : World) (v : Value) (bs : List UInt8) (ho : Owns W w.heap.size v bs) (h2 : bs.length + 2 ≤ 1000000) (h3 : w.heap.size ≤ W.heap.size) => p_hex_any x ho h2 h3
  unfold byte at HX0
  have HX := Lib.hid HX0
  obtain ⟨i, hi, hz, hsz, hby⟩ := info_parts byte_info
  clear hS hlen HX0
  go_enter Tryd.func80, Tryd.ntmps80
  go_wp2_with (at_make; refine wpList_make_own _ rfl _ _ 28 rfl w.heap.size 5 i (.int .u8 0) 1 Tryd.underlying28 hi hz hsz .i64 .i64 _ (2 * n) rfl rfl (by omega) (by rw [hby]; omega) (by unfold maxLen; omega) (Nat.le_refl _) ?_; intro w0 hown0 hg0; have HB0 := Lib.hid (show Below w.heap.size w w0 from (Below.refl _ _).grown hg0 (Nat.le_refl _) (fun k hk => by cases hk)))
  have HO0 := Lib.hid (show Owns w0 w.heap.size (.slice (some ⟨w.heap.size, 0, none⟩) 0 (2 * n)) ((bb.take 0).flatMap hexB) from hown0)
  clear hown0 hg0 hi hz hsz hby
  go_loopw [3, 12] (fun s3 s12 wr => ∃ (j : Nat) (v : Value), j ≤ n ∧ s3 = v ∧ s12 = .int .i64 (j : Int) ∧ Hid (Owns wr w.heap.size v ((bb.take j).flatMap hexB)) ∧ Hid (Below w.heap.size w wr)) (fun _ s12 _ => leftN n s12)
  case atStart => exact ⟨0, _, Nat.zero_le _, rfl, rfl, HO0, HB0⟩
  case round =>
    clear HO0 HB0
    obtain ⟨j, v, hj, rfl, rfl, HO, HB⟩ := hrel
    by_cases hlt : j < n
    · have q0 : (0 : Int) ≤ j := by omega
      have q1 : (j : Int) < n := by omega
      obtain ⟨b, off, rfl, hc⟩ := sees_cell HS.out HB.out hlt
      have ht := hex_take bb (i := j) (by have := HL.out; omega)
      obtain ⟨x, hx⟩ : ∃ x, bb.getD j 0 = x := ⟨_, rfl⟩
      rw [hx] at ht hc
      have C := Lib.hid (HX.out x wr _ _ HO.out (by rw [hexs_len, List.length_take]; omega) HB.out.size)
      rw [← ht] at C
      clear ht hx
      go_wp2_with fail
      refine C.out.mono ?_
      rintro e wq ⟨v', rfl, ho, hg⟩
      have HB2 := Lib.hid (below_grownB HB.out hg HO.out)
      have HO2 := Lib.hid ho
      clear C HB HO ho hg
      go_wp2_with fail
      go_roundw
      case rel => exact ⟨j + 1, _, by omega, rfl, by go_num, HO2, HB2⟩
      case measure =>
        unfold leftN
        simp [RowKit.intOf]
        omega
    · obtain rfl : n = j := by omega
      have ho := HO.out
      rw [List.take_of_length_le (by rw [HL.out]; exact Nat.le_refl _)] at ho
      obtain ⟨A1, c1, rfl, -, -⟩ := ho.sees.shape
      have t1 := run_text (P := Tryd.prog) Tryd.underlying28 Tryd.underlying5 Tryd.underlying9 ho.sees
      generalize (bb.flatMap hexB).length = m at *
      clear HO ho HX
      obtain ⟨T, hT⟩ : ∃ T : ByteArray, ⟨(bb.flatMap hexB).toArray⟩ = T := ⟨_, rfl⟩
      rw [hT] at t1
      have HTT := Lib.hid hT
      clear hT
      go_wp2_with fail
      go_ret
      exact ⟨congrArg (fun s => Ending.returned (.string s)) HTT.out.symm, HB.out⟩

theorem esc_ways (x : UInt8) : (badB x = true → escB x = [92, 120] ++ hexB x) ∧ (badB x = false → escB x = [x]) := by
  refine ⟨fun h => ?_, fun h => ?_⟩
  · unfold escB
    rw [if_pos h]
    rfl
  · unfold escB
    rw [if_neg (by rw [h]; simp)]
theorem esc_take (s : ByteArray) (i : Nat) (h : i < s.size) : ((sl s).take (i + 1)).flatMap escB = ((sl s).take i).flatMap escB ++ escB s[i] := by
  rw [take_byte s i h, List.flatMap_append]
  simp

set_option maxRecDepth 100000 in
set_option maxHeartbeats 8000000 in
theorem p_esc_any {w : World} (ss : ByteArray) (hs : ss.size ≤ 4000) :
    Calls Tryd.prog 79 #[.string ss] w (Tells ((sl ss).flatMap escB) w) := by
  have HX0 := fun (x : UInt8) (W : World) (v : Value) (bs : List UInt8) (ho : Owns W w.heap.size v bs) (h2 : bs.length + 2 ≤ 1000000) (h3 : w.heap.size ≤ W.heap.size) => p_hex_any x ho h2 h3
  unfold byte at HX0
  have HX := Lib.hid HX0
  have HB0 := Lib.hid (Below.refl w.heap.size w)
  have HO0 := Lib.hid (show Owns w w.heap.size (.slice none 0 0) (((sl ss).take 0).flatMap escB) from World.ownsRow_nil w w.heap.size 5 1)
  clear HX0
  go_enter Tryd.func79, Tryd.ntmps79
  go_wp2_with fail
  go_loopw [3, 8] (fun s3 s8 wr => ∃ (j : Nat) (v : Value), j ≤ ss.size ∧ s3 = v ∧ s8 = .int .i64 (j : Int) ∧ Hid (Owns wr w.heap.size v (((sl ss).take j).flatMap escB)) ∧ Hid (Below w.heap.size w wr)) (fun _ s8 _ => leftN ss.size s8)
  case atStart => exact ⟨0, _, Nat.zero_le _, rfl, rfl, HO0, HB0⟩
  case round =>
    clear HO0 HB0
    obtain ⟨j, v, hj, rfl, rfl, HO, HB⟩ := hrel
    by_cases hlt : j < ss.size
    · have q0 : (0 : Int) ≤ j := by omega
      have q1 : (j : Int) < ss.size := by omega
      have ht := esc_take ss j hlt
      have hlen : (((sl ss).take j).flatMap escB).length ≤ 16000 := by
        have h1 := escs_len ((sl ss).take j)
        have h2 : ((sl ss).take j).length ≤ j := by rw [List.length_take]; omega
        omega
      have BI := Lib.hid (bad_iff ss[j])
      have hlo : ((ss[j].toNat : Nat) : Int) < 256 := by have := ss[j].toNat_lt; omega
      have EB := Lib.hid (esc_ways ss[j])
      have HLN := Lib.hid hlen
      have SN := fun (W : World) => Lib.hid (sees_new W #[.int .u8 92, .int .u8 120] (t := 5) [92, 120] 2 rfl rfl (by simp [maxLen]))
      have HOA := Lib.hid (HO.out.alloc (.cells #[.int .u8 92, .int .u8 120] 5))
      have HBA := Lib.hid (HB.out.alloc HB.out.size (.cells #[.int .u8 92, .int .u8 120] 5))
      clear hlen
      by_cases c1 : ss[j].toNat < 32
      · have d1 : ((ss[j].toNat : Nat) : Int) < 32 := by omega
        have HT := Lib.hid (ht.trans (congrArg _ (EB.out.1 (BI.out.2 (.inl c1)))))
        have HY := Lib.hid (HX.out ss[j])
        clear ht BI EB HX
        go_wp2_with (at_builtin; refine wpList_app rfl (.tmp 28) (.tmp 29) rfl rfl HOA.out rfl (SN _).out (by have := HLN.out; simp only [List.length_cons, List.length_nil]; omega) HBA.out.size ?_; intro v6 w6 ho6 hg6 _; have HO6 := Lib.hid ho6; have HB6 := Lib.hid (below_grownB HBA.out hg6 HOA.out); clear ho6 hg6 HOA HBA)
        refine (HY.out w6 v6 _ HO6.out (by have := HLN.out; rw [List.length_append]; simp only [List.length_cons, List.length_nil]; omega) HB6.out.size).mono ?_
        rintro e wq ⟨v', rfl, ho, hg⟩
        rw [List.append_assoc, ← HT.out] at ho
        have HB2 := Lib.hid (below_grownB HB6.out hg HO6.out)
        have HO2 := Lib.hid ho
        clear HB6 HO6 ho hg HY
        go_wp2_with fail
        go_roundw
        case rel => exact ⟨j + 1, _, by omega, rfl, by go_num, HO2, HB2⟩
        case measure =>
          unfold leftN
          simp [RowKit.intOf]
          omega
      have d1 : ¬ ((ss[j].toNat : Nat) : Int) < 32 := by omega
      by_cases c2 : 126 < ss[j].toNat
      · have d2 : 126 < ((ss[j].toNat : Nat) : Int) := by omega
        have f2 : decide (126 < ((ss[j].toNat : Nat) : Int)) = true := decide_eq_true d2
        have HT := Lib.hid (ht.trans (congrArg _ (EB.out.1 (BI.out.2 (.inr (.inl c2))))))
        have HY := Lib.hid (HX.out ss[j])
        clear ht BI EB HX
        go_wp2_with (at_builtin; refine wpList_app rfl (.tmp 28) (.tmp 29) rfl rfl HOA.out rfl (SN _).out (by have := HLN.out; simp only [List.length_cons, List.length_nil]; omega) HBA.out.size ?_; intro v6 w6 ho6 hg6 _; have HO6 := Lib.hid ho6; have HB6 := Lib.hid (below_grownB HBA.out hg6 HOA.out); clear ho6 hg6 HOA HBA)
        refine (HY.out w6 v6 _ HO6.out (by have := HLN.out; rw [List.length_append]; simp only [List.length_cons, List.length_nil]; omega) HB6.out.size).mono ?_
        rintro e wq ⟨v', rfl, ho, hg⟩
        rw [List.append_assoc, ← HT.out] at ho
        have HB2 := Lib.hid (below_grownB HB6.out hg HO6.out)
        have HO2 := Lib.hid ho
        clear HB6 HO6 ho hg HY
        go_wp2_with fail
        go_roundw
        case rel => exact ⟨j + 1, _, by omega, rfl, by go_num, HO2, HB2⟩
        case measure =>
          unfold leftN
          simp [RowKit.intOf]
          omega
      have d2 : ¬ 126 < ((ss[j].toNat : Nat) : Int) := by omega
      have f2 : decide (126 < ((ss[j].toNat : Nat) : Int)) = false := decide_eq_false d2
      by_cases c3 : ss[j].toNat = 34
      · have d3 : (((ss[j].toNat : Nat) : Int) == 34) = true := by rw [c3]; rfl
        have HT := Lib.hid (ht.trans (congrArg _ (EB.out.1 (BI.out.2 (.inr (.inr (.inl c3)))))))
        have HY := Lib.hid (HX.out ss[j])
        rw [c3] at HY
        clear ht BI EB HX
        go_wp2_with (at_builtin; refine wpList_app rfl (.tmp 28) (.tmp 29) rfl rfl HOA.out rfl (SN _).out (by have := HLN.out; simp only [List.length_cons, List.length_nil]; omega) HBA.out.size ?_; intro v6 w6 ho6 hg6 _; have HO6 := Lib.hid ho6; have HB6 := Lib.hid (below_grownB HBA.out hg6 HOA.out); clear ho6 hg6 HOA HBA)
        refine (HY.out w6 v6 _ HO6.out (by have := HLN.out; rw [List.length_append]; simp only [List.length_cons, List.length_nil]; omega) HB6.out.size).mono ?_
        rintro e wq ⟨v', rfl, ho, hg⟩
        rw [List.append_assoc, ← HT.out] at ho
        have HB2 := Lib.hid (below_grownB HB6.out hg HO6.out)
        have HO2 := Lib.hid ho
        clear HB6 HO6 ho hg HY
        go_wp2_with fail
        go_roundw
        case rel => exact ⟨j + 1, _, by omega, rfl, by go_num, HO2, HB2⟩
        case measure =>
          unfold leftN
          simp [RowKit.intOf]
          omega
      have d3 : (((ss[j].toNat : Nat) : Int) == 34) = false := beq_eq_false_iff_ne.2 (by omega)
      by_cases c4 : ss[j].toNat = 92
      · have d4 : (((ss[j].toNat : Nat) : Int) == 92) = true := by rw [c4]; rfl
        have HT := Lib.hid (ht.trans (congrArg _ (EB.out.1 (BI.out.2 (.inr (.inr (.inr c4)))))))
        have HY := Lib.hid (HX.out ss[j])
        rw [c4] at HY
        clear ht BI EB HX
        go_wp2_with (at_builtin; refine wpList_app rfl (.tmp 28) (.tmp 29) rfl rfl HOA.out rfl (SN _).out (by have := HLN.out; simp only [List.length_cons, List.length_nil]; omega) HBA.out.size ?_; intro v6 w6 ho6 hg6 _; have HO6 := Lib.hid ho6; have HB6 := Lib.hid (below_grownB HBA.out hg6 HOA.out); clear ho6 hg6 HOA HBA)
        refine (HY.out w6 v6 _ HO6.out (by have := HLN.out; rw [List.length_append]; simp only [List.length_cons, List.length_nil]; omega) HB6.out.size).mono ?_
        rintro e wq ⟨v', rfl, ho, hg⟩
        rw [List.append_assoc, ← HT.out] at ho
        have HB2 := Lib.hid (below_grownB HB6.out hg HO6.out)
        have HO2 := Lib.hid ho
        clear HB6 HO6 ho hg HY
        go_wp2_with fail
        go_roundw
        case rel => exact ⟨j + 1, _, by omega, rfl, by go_num, HO2, HB2⟩
        case measure =>
          unfold leftN
          simp [RowKit.intOf]
          omega
      have d4 : (((ss[j].toNat : Nat) : Int) == 92) = false := beq_eq_false_iff_ne.2 (by omega)
      have hg2 : badB ss[j] = false := by
        rw [← Bool.not_eq_true, BI.out]
        omega
      have HT := Lib.hid (ht.trans (congrArg _ (EB.out.2 hg2)))
      have SN1 := fun (W : World) => Lib.hid (sees_new W #[.int .u8 ((ss[j].toNat : Nat) : Int)] (t := 5) [ss[j]] 1 rfl rfl (by simp [maxLen]))
      have HOA1 := Lib.hid (HO.out.alloc (.cells #[.int .u8 ((ss[j].toNat : Nat) : Int)] 5))
      have HBA1 := Lib.hid (HB.out.alloc HB.out.size (.cells #[.int .u8 ((ss[j].toNat : Nat) : Int)] 5))
      clear ht BI EB HX hg2 SN HOA HBA HO HB
      go_wp2_with (at_builtin; refine wpList_app rfl (.tmp 34) (.tmp 36) rfl rfl HOA1.out rfl (SN1 _).out (by have := HLN.out; simp only [List.length_cons, List.length_nil]; omega) HBA1.out.size ?_; intro v6 w6 ho6 hg6 _; rw [← HT.out] at ho6; have HO6 := Lib.hid ho6; have HB6 := Lib.hid (below_grownB HBA1.out hg6 HOA1.out); clear ho6 hg6 HOA1 HBA1)
      go_roundw
      case rel => exact ⟨j + 1, _, by omega, rfl, by go_num, HO6, HB6⟩
      case measure =>
        unfold leftN
        simp [RowKit.intOf]
        omega
    · obtain rfl : ss.size = j := by omega
      have ho := HO.out
      rw [List.take_of_length_le (by rw [sl_len]; exact Nat.le_refl _)] at ho
      obtain ⟨A1, c1, rfl, -, -⟩ := ho.sees.shape
      have t1 := run_text (P := Tryd.prog) Tryd.underlying28 Tryd.underlying5 Tryd.underlying9 ho.sees
      generalize ((sl ss).flatMap escB).length = m at *
      clear HO ho HX
      obtain ⟨T, hT⟩ : ∃ T : ByteArray, ⟨((sl ss).flatMap escB).toArray⟩ = T := ⟨_, rfl⟩
      rw [hT] at t1
      have HTT := Lib.hid hT
      clear hT
      go_wp2_with fail
      go_ret
      exact ⟨congrArg (fun s => Ending.returned (.string s)) HTT.out.symm, HB.out⟩

end Go.Proofs.YtmpkjjmgfakomaaDoor

namespace Go.Proofs.YtmpkjjmgfakomaaDoor
open Go.RowKit Mem Wire Go.Lib

theorem join_two (a b : List UInt8) : Lib.join [a, b] [] = a ++ b := by simp [Lib.join_cons, Lib.joinTail]
theorem join_three (a b c : List UInt8) : Lib.join [a, b, c] [] = a ++ (b ++ c) := by simp [Lib.join_cons, Lib.joinTail]
theorem cells_new (W : World) (xs : List ByteArray) (t : TypeId) {cs : Array Value} (hc : cs = (xs.map Value.string).toArray) : ∀ (j : Nat) x, xs[j]? = some x → (W.alloc (.cells cs t)).cell? ⟨W.heap.size, 0 + j, none⟩ = some (.string x) := by
  intro j x hx
  subst hc
  rw [Nat.zero_add, World.cell?_alloc_at _ _ _ _ rfl]
  simp [hx]
theorem p_join_two (W : World) (x y : ByteArray) (hx : x.size ≤ 1000000) (hy : y.size ≤ 1000000) : Calls Tryd.prog 43 #[.string ⟨#[]⟩, .slice (some ⟨W.heap.size, 0, none⟩) 2 2] (W.alloc (.cells #[.string x, .string y] 9)) (Tells (sl x ++ sl y) (W.alloc (.cells #[.string x, .string y] 9))) := by
  have h := p_join_any (w := W.alloc (.cells #[.string x, .string y] 9)) (bk := W.heap.size) (o := 0) (c := 2) [x, y] ⟨#[]⟩ (cells_new W [x, y] 9 rfl) (by simp) (by simp) (by simp) (by
    simp only [List.map_cons, List.map_nil, show sl ⟨#[]⟩ = [] from rfl]
    rw [join_two, List.length_append, sl_len, sl_len]
    omega)
  simp only [List.map_cons, List.map_nil, show sl ⟨#[]⟩ = [] from rfl, join_two, List.length_cons, List.length_nil] at h
  exact h
theorem p_join_three (W : World) (x y z : ByteArray) (hx : x.size ≤ 1000000) (hy : y.size ≤ 1000000) (hz : z.size ≤ 1000000) : Calls Tryd.prog 43 #[.string ⟨#[]⟩, .slice (some ⟨W.heap.size, 0, none⟩) 3 3] (W.alloc (.cells #[.string x, .string y, .string z] 9)) (Tells (sl x ++ (sl y ++ sl z)) (W.alloc (.cells #[.string x, .string y, .string z] 9))) := by
  have h := p_join_any (w := W.alloc (.cells #[.string x, .string y, .string z] 9)) (bk := W.heap.size) (o := 0) (c := 3) [x, y, z] ⟨#[]⟩ (cells_new W [x, y, z] 9 rfl) (by simp) (by simp) (by simp) (by
    simp only [List.map_cons, List.map_nil, show sl ⟨#[]⟩ = [] from rfl]
    rw [join_three, List.length_append, List.length_append, sl_len, sl_len, sl_len]
    omega)
  simp only [List.map_cons, List.map_nil, show sl ⟨#[]⟩ = [] from rfl, join_three, List.length_cons, List.length_nil] at h
  exact h

set_option maxRecDepth 100000 in
set_option maxHeartbeats 8000000 in
theorem p_arg_any {w : World} (a : AgV) (ha : AgOk w a) (hn : In64 a.1.nn) (hs : a.1.ss.size ≤ 4000 ∧ a.1.bb.length ≤ 4000) (htab : Tbp w) :
    Calls Tryd.prog 41 #[agVal a] w (Tells (txtG a.1) w) := by
  have hab := ha.1
  obtain ⟨A, cap, hv, hc, hm⟩ := ha.shape
  obtain ⟨⟨kd, nn, ss, bb⟩, v⟩ := a
  dsimp only at hv hc hm hn hs hab ⊢
  subst hv
  have J := Lib.hid ((Held.nil w).alloc [.int .i64 kd, .int .i64 nn, .string ss, .slice A bb.length cap] 43)
  have F := Lib.hid (fint_any nn hn.1 hn.2 _ (htab.below J.out.below))
  have hN20 := itoa_len hn
  have X4 := fun (W : World) => Lib.hid (p_esc_any (w := W) ss hs.1)
  have X7 := fun (W : World) (hb : Below w.heap.size w W) => Lib.hid (p_hexs_any (hab.below hb) hs.2)
  have hesc := escs_len (sl ss)
  have hhex := hexs_len bb
  rw [sl_len] at hesc
  obtain ⟨X, hX⟩ : ∃ X, txtG ⟨kd, nn, ss, bb⟩ = X := ⟨_, rfl⟩
  rw [hX]
  unfold txtG at hX
  dsimp only at hX
  obtain ⟨L, hL⟩ : ∃ L, itoa nn = L := ⟨_, rfl⟩
  rw [hL] at F hN20 hX
  obtain ⟨N, hNN⟩ : ∃ N : ByteArray, (⟨L.toArray⟩ : ByteArray) = N := ⟨_, rfl⟩
  have hsl : sl N = L := by rw [← hNN, sl_mk]
  have hsz : N.size ≤ 1000000 := by rw [← sl_len, hsl]; omega
  obtain ⟨E4, hE4⟩ : ∃ E, (sl ss).flatMap escB = E := ⟨_, rfl⟩
  obtain ⟨E7, hE7⟩ : ∃ E, bb.flatMap hexB = E := ⟨_, rfl⟩
  rw [hE4] at X4 hesc hX
  rw [hE7] at X7 hhex hX
  obtain ⟨S4, hS4⟩ : ∃ N : ByteArray, (⟨E4.toArray⟩ : ByteArray) = N := ⟨_, rfl⟩
  obtain ⟨S7, hS7⟩ : ∃ N : ByteArray, (⟨E7.toArray⟩ : ByteArray) = N := ⟨_, rfl⟩
  have sl4 : sl S4 = E4 := by rw [← hS4, sl_mk]
  have sl7 : sl S7 = E7 := by rw [← hS7, sl_mk]
  have sz4 : S4.size ≤ 1000000 := by rw [← sl_len, sl4]; omega
  have sz7 : S7.size ≤ 1000000 := by rw [← sl_len, sl7]; omega
  have B117 := fun (W : World) => Lib.hid (p_join_two W N ⟨#[117]⟩ hsz (by decide))
  have B102 := fun (W : World) => Lib.hid (p_join_two W N ⟨#[102]⟩ hsz (by decide))
  have B35 := fun (W : World) => Lib.hid (p_join_two W ⟨#[35]⟩ N (by decide) hsz)
  have B43 := fun (W : World) => Lib.hid (p_join_two W ⟨#[43]⟩ N (by decide) hsz)
  have B34 := fun (W : World) => Lib.hid (p_join_three W ⟨#[34]⟩ S4 ⟨#[34]⟩ (by decide) sz4 (by decide))
  have B91 := fun (W : World) => Lib.hid (p_join_three W ⟨#[91]⟩ S7 ⟨#[93]⟩ (by decide) sz7 (by decide))
  rw [hsl, show sl ⟨#[117]⟩ = [117] from rfl] at B117
  rw [hsl, show sl ⟨#[102]⟩ = [102] from rfl] at B102
  rw [hsl, show sl ⟨#[35]⟩ = [35] from rfl] at B35
  rw [hsl, show sl ⟨#[43]⟩ = [43] from rfl] at B43
  rw [sl4, show sl ⟨#[34]⟩ = [34] from rfl] at B34
  rw [sl7, show sl ⟨#[91]⟩ = [91] from rfl, show sl ⟨#[93]⟩ = [93] from rfl] at B91
  unfold Tells at X4 X7
  rw [hNN] at F
  rw [hS4] at X4
  rw [hS7] at X7
  have HN := Lib.hid hNN
  have HX := Lib.hid hX
  obtain ⟨y0, y1, y2, y3, -, -⟩ := (show Held w _ ([] ++ (w.heap.size, _) :: []) from J.out).four
  clear hX ha hab hc hm htab hn hs hL hNN hsl hE4 hE7 hS4 hS7 sl4 sl7 hesc hhex hN20
  generalize bb.length = bl at *
  go_enter Tryd.func41, Tryd.ntmps41
  go_wp2_with fail
  refine F.out.mono ?_
  rintro e w1 ⟨rfl, hb⟩
  replace J := Lib.hid (J.out.step hb)
  clear hb F y0 y1 y2 y3
  obtain ⟨y0, y1, y2, y3, -, -⟩ := (show Held w _ ([] ++ (w.heap.size, _) :: []) from J.out).four
  by_cases k1 : kd = 1
  · have hx := HX.out
    rw [if_pos k1] at hx
    subst hx k1
    clear HX
    clear X4 X7 B117 B102 B35 B43 B34 B91
    go_wp2_with fail
    go_ret
    exact ⟨congrArg (fun s => Ending.returned (.string s)) HN.out.symm, J.out.below⟩
  replace HX := Lib.hid (by have hx := HX.out; rw [if_neg k1] at hx; exact hx)
  have d1 : (kd == 1) = false := beq_eq_false_iff_ne.2 k1
  by_cases k2 : kd = 2
  · have hx := HX.out
    rw [if_pos k2] at hx
    subst hx k2
    clear HX
    replace J := Lib.hid (J.out.made (.cells #[.string N, .string ⟨#[117]⟩] 9))
    clear X4 X7 B102 B35 B43 B34 B91 d1
    go_wp2_with fail
    refine (B117 _).out.mono ?_
    rintro e w2 ⟨rfl, hb⟩
    replace J := Lib.hid (J.out.step hb)
    clear hb B117
    go_wp2_with fail
    go_ret
    exact ⟨rfl, J.out.below⟩
  replace HX := Lib.hid (by have hx := HX.out; rw [if_neg k2] at hx; exact hx)
  have d2 : (kd == 2) = false := beq_eq_false_iff_ne.2 k2
  by_cases k3 : kd = 3
  · have hx := HX.out
    rw [if_pos k3] at hx
    subst hx k3
    clear HX
    replace J := Lib.hid (J.out.made (.cells #[.string N, .string ⟨#[102]⟩] 9))
    clear X4 X7 B117 B35 B43 B34 B91 d1
    go_wp2_with fail
    refine (B102 _).out.mono ?_
    rintro e w2 ⟨rfl, hb⟩
    replace J := Lib.hid (J.out.step hb)
    clear hb B102
    go_wp2_with fail
    go_ret
    exact ⟨rfl, J.out.below⟩
  replace HX := Lib.hid (by have hx := HX.out; rw [if_neg k3] at hx; exact hx)
  have d3 : (kd == 3) = false := beq_eq_false_iff_ne.2 k3
  by_cases k5 : kd = 5
  · have hx := HX.out
    rw [if_pos k5] at hx
    subst hx k5
    clear HX
    replace J := Lib.hid (J.out.made (.cells #[.string ⟨#[35]⟩, .string N] 9))
    clear X4 X7 B117 B102 B43 B34 B91 d1
    go_wp2_with fail
    refine (B35 _).out.mono ?_
    rintro e w2 ⟨rfl, hb⟩
    replace J := Lib.hid (J.out.step hb)
    clear hb B35
    go_wp2_with fail
    go_ret
    exact ⟨rfl, J.out.below⟩
  replace HX := Lib.hid (by have hx := HX.out; rw [if_neg k5] at hx; exact hx)
  have d5 : (kd == 5) = false := beq_eq_false_iff_ne.2 k5
  by_cases k6 : kd = 6
  · have hx := HX.out
    rw [if_pos k6] at hx
    subst hx k6
    clear HX
    replace J := Lib.hid (J.out.made (.cells #[.string ⟨#[43]⟩, .string N] 9))
    clear X4 X7 B117 B102 B35 B34 B91 d1
    go_wp2_with fail
    refine (B43 _).out.mono ?_
    rintro e w2 ⟨rfl, hb⟩
    replace J := Lib.hid (J.out.step hb)
    clear hb B43
    go_wp2_with fail
    go_ret
    exact ⟨rfl, J.out.below⟩
  replace HX := Lib.hid (by have hx := HX.out; rw [if_neg k6] at hx; exact hx)
  have d6 : (kd == 6) = false := beq_eq_false_iff_ne.2 k6
  by_cases k4 : kd = 4
  · have hx := HX.out
    rw [if_pos k4] at hx
    subst hx k4
    clear HX
    clear B117 B102 B35 B43 B91 X7 d1
    go_wp2_with fail
    refine (X4 _).out.mono ?_
    rintro e w2 ⟨rfl, hb⟩
    replace J := Lib.hid ((J.out.step hb).made (.cells #[.string ⟨#[34]⟩, .string S4, .string ⟨#[34]⟩] 9))
    clear hb X4
    go_wp2_with fail
    refine (B34 _).out.mono ?_
    rintro e w3 ⟨rfl, hb⟩
    replace J := Lib.hid (J.out.step hb)
    clear hb B34
    go_wp2_with fail
    go_ret
    exact ⟨rfl, J.out.below⟩
  replace HX := Lib.hid (by have hx := HX.out; rw [if_neg k4] at hx; exact hx)
  have d4 : (kd == 4) = false := beq_eq_false_iff_ne.2 k4
  by_cases k7 : kd = 7
  · have hx := HX.out
    rw [if_pos k7] at hx
    subst hx k7
    clear HX
    clear B117 B102 B35 B43 B34 X4 d1
    go_wp2_with fail
    refine (X7 _ J.out.below).out.mono ?_
    rintro e w2 ⟨rfl, hb⟩
    replace J := Lib.hid ((J.out.step hb).made (.cells #[.string ⟨#[91]⟩, .string S7, .string ⟨#[93]⟩] 9))
    clear hb X7
    go_wp2_with fail
    refine (B91 _).out.mono ?_
    rintro e w3 ⟨rfl, hb⟩
    replace J := Lib.hid (J.out.step hb)
    clear hb B91
    go_wp2_with fail
    go_ret
    exact ⟨rfl, J.out.below⟩
  replace HX := Lib.hid (by have hx := HX.out; rw [if_neg k7] at hx; exact hx)
  have d7 : (kd == 7) = false := beq_eq_false_iff_ne.2 k7
  have hx := HX.out
  subst hx
  clear X4 X7 B117 B102 B35 B43 B34 B91 HX
  go_wp2_with fail
  go_ret
  exact ⟨rfl, J.out.below⟩

end Go.Proofs.YtmpkjjmgfakomaaDoor
