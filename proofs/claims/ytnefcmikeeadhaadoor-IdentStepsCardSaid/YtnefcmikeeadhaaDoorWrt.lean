/-
  The stores into maps, for the walk; smallestFree and use.
-/
import Derived.Test.YtnefcmikeeadhaaDoorMth
namespace Go.Proofs.YtnefcmikeeadhaaDoor
open Go.RowKit

theorem wpList_putU {w : World} {ops : Array Oper} {rest : List Oper} {o : Oper} {a : Act} {Q : Exit → Act → World → Prop} (hg : o.guard = none) (m x v : Operand) (hop : o.op = Op.mapUpdate 49 m x v) {b n : Nat} {l : List Nat}
    (hm : a.eval m = .map (some b)) (h : MapU w b l) (hx : a.eval x = .int .u32 (n : Int)) (hv : a.eval v = .bool true) (hn : n < 4294967296) (hno : n ∉ l) (hl : l.length ≤ 100000)
    (hK : ∀ w', MapU w' b (l ++ [n]) → w.grownBy w' (some b) → wpList Tryd.prog ops Q rest (a.put o.dst undef) w') : wpList Tryd.prog ops Q (o :: rest) a w := by
  refine wpList_plain hg fun K' hK' => ?_
  obtain ⟨w', hrun, r1, r2⟩ := h.put hn hno hl
  unfold Oper.wp
  simp [execOp, hop, hm, hx, hv, hrun, Result.andThen]
  exact hK' _ _ (hK w' r1 r2)

theorem wpList_delU {w : World} {ops : Array Oper} {rest : List Oper} {o : Oper} {a : Act} {Q : Exit → Act → World → Prop} (hg : o.guard = none) (m x : Operand) (hop : o.op = Op.call { callee := Callee.builtin Builtin.delete, args := #[m, x], argTypes := #[49, 23] }) {b n : Nat} {l : List Nat}
    (hm : a.eval m = .map (some b)) (h : MapU w b l) (hx : a.eval x = .int .u32 (n : Int)) (hn : n < 4294967296)
    (hK : ∀ w', MapU w' b (wouN l n) → w.grownBy w' (some b) → wpList Tryd.prog ops Q rest (a.put o.dst (.tuple #[])) w') : wpList Tryd.prog ops Q (o :: rest) a w := by
  refine wpList_plain hg fun K' hK' => ?_
  obtain ⟨w', hrun, r1, r2⟩ := h.del hn o.type
  unfold Oper.wp
  simp [execOp, hop, resolve, invoke, builtin, hm, hx, hrun, Result.andThen]
  exact hK' _ _ (hK w' r1 r2)

section
variable {base : Nat} {w : World} {k bl br : Nat} {V : Nat → Value} {L : Nat → List Nat} {g : Nat}

set_option maxRecDepth 40000 in
set_option maxHeartbeats 1000000 in
theorem sfree_any {t : Tb} {c : Nat} (h : TabM base w k bl br V L (fstN t.sv) (lstN t.sv) g t.lv t.rl) (hg : (g : Int) = t.lg) (hL : Levs (freeT t) L) (hG : GoodT t c) (hc : c ≤ 1500) :
    Calls Tryd.prog 31 #[.pointer (some ⟨k, 0, none⟩)] w fun e w' => e = .returned (.tuple #[.int .u32 (frsT t : Int), .bool true]) ∧ Below w.heap.size w w' := by
  have hf1 := fst_pos t.sv
  have hf2 := fst_lst t.sv
  have hfew := hG.few
  have hfl := (frs_spec t).2.2.1
  by_cases hlt : (frsT t : Int) ≤ t.lg
  · have C := Lib.hid (small_hit h.set h.tab hL (free_least hlt) (by omega))
    have H := fun W (hb : Below w.heap.size w W) => Lib.hid (h.below hb).c0
    have e1 : IntKind.u32.wrap ((fstN t.sv : Int) + ((frsT t - fstN t.sv : Nat) : Int)) = (frsT t : Int) := by
      rw [IntKind.wrap_u32]
      omega
    generalize frsT t = fr at *
    generalize fstN t.sv = f at *
    generalize fr - f = d at *
    clear h hL hG hfew hfl hf1 hf2 hlt
    go_enter Tryd.func31, Tryd.ntmps31
    go_wp2_with fail
    refine C.out.mono ?_
    rintro e w1 ⟨rfl, hb⟩
    have c0 := (H _ hb).out
    go_wp2_with fail
    exact bodyPost_ret (v := .tuple #[.int .u32 (fr : Int), .bool true]) (by simp [results, Tryd.results31, go_sem]) rfl ⟨rfl, hb⟩
  · have hle := frs_le hG
    have C := Lib.hid (small_miss h.set hL (free_none (by omega)))
    have e1 : IntKind.u32.wrap ((g : Int) + 1) = (frsT t : Int) := by
      rw [IntKind.wrap_u32]
      omega
    have e2 : (g : Int) < (lstN t.sv : Int) := by omega
    have c1 := h.c1
    have c2 := h.c2
    have hk := h.set.ty.lt
    generalize frsT t = fr at *
    generalize lstN t.sv = l at *
    clear h hL hG hfew hfl hf1 hf2 hlt hg hle
    go_enter Tryd.func31, Tryd.ntmps31
    go_wp2_with fail
    refine C.out.mono ?_
    rintro e w1 ⟨rfl, rfl⟩
    go_wp2_with fail
    go_quiet (fail)
    go_wp2_with fail
    exact bodyPost_ret (v := .tuple #[.int .u32 (fr : Int), .bool true]) (by simp [results, Tryd.results31, go_sem]) rfl ⟨rfl, below_draws (Below.refl _ _) _⟩

set_option maxRecDepth 40000 in
set_option maxHeartbeats 1000000 in
theorem use_new {f l n : Nat} {lv rl : List Nat} (h : TabM base w k bl br V L f l g lv rl) (hn : g < n) (hn2 : n < 4294967296) (hno : n ∉ lv) (hl : lv.length ≤ 2000) :
    Calls Tryd.prog 30 #[.pointer (some ⟨k, 0, none⟩), .int .u32 (n : Int)] w fun e w' => (∃ v, e = .returned v) ∧ TabM base w' k bl br V L f l n (lv ++ [n]) rl ∧ Turn base w w' := by
  obtain ⟨h2, t2⟩ := h.larg n
  have c2 := h.c2
  have c3 := h2.c3
  have q : (g : Int) < n := by omega
  have fz := h.set.free 2
  have HM := Lib.hid h2.ml
  have HH := Lib.hid (And.intro h2 t2)
  clear h h2 t2
  go_enter Tryd.func30, Tryd.ntmps30
  go_wp2_with (at_mapUpdate; refine wpList_putU rfl _ _ _ rfl rfl HM.out rfl rfl hn2 hno (by omega) ?_; intro w2 hm2 hg2; go_frame)
  go_end0
  obtain ⟨h3, t3⟩ := HH.out.1.live hg2 hm2
  exact ⟨⟨_, rfl⟩, h3, HH.out.2.trans t3⟩

set_option maxRecDepth 40000 in
set_option maxHeartbeats 1000000 in
theorem use_old {f l n : Nat} {lv rl : List Nat} {S : Nat → Prop} (h : TabM base w k bl br V L f l g lv rl) (hS : S (n - f)) (hL : Levs S L) (hf : f ≤ n) (hn : n ≤ g) (hd : n < f + 100000) (hn2 : n < 4294967296) (hno : n ∉ lv) (hl : lv.length ≤ 2000) :
    Calls Tryd.prog 30 #[.pointer (some ⟨k, 0, none⟩), .int .u32 (n : Int)] w fun e w' => (∃ v, e = .returned v) ∧ ∃ L', TabM base w' k bl br V L' f l g (lv ++ [n]) rl ∧ Levs (fun m => S m ∧ m ≠ n - f) L' ∧ Turn base w w' := by
  have c0 := h.c0
  have c2 := h.c2
  have q : ¬ (g : Int) < n := by omega
  have e1 : IntKind.u32.wrap ((n : Int) - (f : Int)) = ((n - f : Nat) : Int) := by
    rw [IntKind.wrap_u32]
    omega
  have hB := Below.refl w.heap.size w
  have hz := h.set.ty.lt
  have C := fun W (hb : Below w.heap.size w W) => Lib.hid (rem_any (n := n - f) (h.below hb).set hL hS (by omega))
  have HH := fun W (hb : Below w.heap.size w W) => Lib.hid (And.intro (h.below hb) (Turn.of_below hb h.bs))
  generalize n - f = d at *
  clear h hL hS
  go_enter Tryd.func30, Tryd.ntmps30
  go_wp2_with fail
  go_region_with (go_at_call 36; refine (C _ (by first | exact hB | exact hB.drew)).out.mono ?_; rintro e w1 ⟨⟨v, rfl⟩, L', hs1, hl1, ht1⟩)
  all_goals
    obtain ⟨h1, t1⟩ := (HH _ hB.drew).out
    obtain ⟨h2, t2⟩ := h1.setm hs1 ht1
    have c3 := h2.c3
    have HM := Lib.hid h2.ml
    have HZ := Lib.hid (And.intro h2 (And.intro (t1.trans t2) hl1))
    clear h1 t1 h2 t2 hs1 ht1 hl1 C HH hB c0 c2
    go_wp2_with (at_mapUpdate; refine wpList_putU rfl _ _ _ rfl rfl HM.out rfl rfl hn2 hno (by omega) ?_; intro w2 hm2 hg2; go_frame)
    go_end0
    obtain ⟨h3, t3⟩ := HZ.out.1.live hg2 hm2
    exact ⟨⟨_, rfl⟩, L', h3, HZ.out.2.2, HZ.out.2.1.trans t3⟩

end

end Go.Proofs.YtnefcmikeeadhaaDoor
