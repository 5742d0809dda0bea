/-
  The reference's Equal.
-/
import Derived.Test.YtmpkjjmgfakomaaDoorMaz
import Derived.Test.YtmpkjjmgfakomaaDoorDcq
namespace Go.Proofs.YtmpkjjmgfakomaaDoor
open Go.RowKit Mem Wire

def eop10 : Oper := { dst := some 6, op := Go.Op.alloc 43, type := 0, pos := "ref.go:242", after := #[], guard := none }
def eop11 : Oper := { dst := some 7, op := Go.Op.alloc 43, type := 0, pos := "ref.go:242", after := #[], guard := none }
def eop12 : Oper := { dst := none, op := Go.Op.store 43 (Go.Operand.tmp 6) (Go.Operand.tmp 40), type := 0, pos := "ref.go:242", after := #[{ on := 10, ground := Go.Ground.data }, { on := 4, ground := Go.Ground.data }, { on := 0, ground := Go.Ground.phase }, { on := 1, ground := Go.Ground.phase }, { on := 2, ground := Go.Ground.phase }, { on := 3, ground := Go.Ground.phase }, { on := 4, ground := Go.Ground.phase }, { on := 5, ground := Go.Ground.textOnly Go.Departure.lateStores }, { on := 6, ground := Go.Ground.textOnly Go.Departure.lateStores }, { on := 7, ground := Go.Ground.textOnly Go.Departure.lateStores }, { on := 8, ground := Go.Ground.textOnly Go.Departure.lateStores }, { on := 9, ground := Go.Ground.textOnly Go.Departure.lateStores }, { on := 10, ground := Go.Ground.phase }, { on := 11, ground := Go.Ground.phase }], guard := none }
def eop13 : Oper := { dst := none, op := Go.Op.store 43 (Go.Operand.tmp 7) (Go.Operand.tmp 45), type := 0, pos := "ref.go:242", after := #[{ on := 11, ground := Go.Ground.data }, { on := 9, ground := Go.Ground.data }, { on := 12, ground := Go.Ground.chain }, { on := 0, ground := Go.Ground.phase }, { on := 1, ground := Go.Ground.phase }, { on := 2, ground := Go.Ground.phase }, { on := 3, ground := Go.Ground.phase }, { on := 4, ground := Go.Ground.phase }, { on := 5, ground := Go.Ground.phase }, { on := 6, ground := Go.Ground.phase }, { on := 7, ground := Go.Ground.phase }, { on := 8, ground := Go.Ground.phase }, { on := 9, ground := Go.Ground.phase }, { on := 10, ground := Go.Ground.phase }, { on := 11, ground := Go.Ground.phase }, { on := 12, ground := Go.Ground.phase }], guard := none }

def eqA (a b : Ag) : Bool := decide (a.kd = b.kd) && (decide (a.nn = b.nn) && (decide (a.ss = b.ss) && decide (a.bb = b.bb)))
def eqL : List Ag → List Ag → Bool
  | [], [] => true
  | a :: l, b :: m => eqA a b && eqL l m
  | _, _ => false
def eqM (x y : Ms) : Bool := decide (x.ob = y.ob) && (decide (x.oc = y.oc) && (decide (x.ags.length = y.ags.length) && eqL x.ags y.ags))

theorem eqA_iff (a b : Ag) : eqA a b = true ↔ a = b := by
  obtain ⟨k, n, s, bb⟩ := a
  obtain ⟨k2, n2, s2, bb2⟩ := b
  simp [eqA]
theorem eqL_iff : ∀ (l m : List Ag), eqL l m = true ↔ l = m
  | [], [] => by simp [eqL]
  | [], b :: m => by simp [eqL]
  | a :: l, [] => by simp [eqL]
  | a :: l, b :: m => by simp [eqL, eqA_iff, eqL_iff l m]
theorem eqM_iff (x y : Ms) : eqM x y = true ↔ x = y := by
  obtain ⟨ob, oc, l⟩ := x
  obtain ⟨ob2, oc2, l2⟩ := y
  simp only [eqM, Bool.and_eq_true, decide_eq_true_eq, eqL_iff, Ms.mk.injEq]
  exact ⟨fun h => ⟨h.1, h.2.1, h.2.2.2⟩, fun h => ⟨h.1, h.2.1, by rw [h.2.2], h.2.2⟩⟩

theorem dq0 {w W : World} {bx : List (Nat × List Value)} (h : Held w W bx) : DQ w W none none bx [] (.slice none 0 0) [] :=
  ⟨h, (fun q hq => by cases hq), ownA_nil _ _, noB_nil _ _ _, fun q _ g hg => by cases hg⟩
section
variable {w W W' : World} {x y : Option (Nat × List Value)} {bx : List (Nat × List Value)} {ss : List (Value × List UInt8)} {v : Value} {l : List AgV}
theorem DQ.setX4 {N : Nat} {a0 a1 a2 a3 : Value} (h : DQ w W (some (N, [a0, a1, a2, a3])) y bx ss v l) (h0 : nbC a0) (h1 : nbC a1) (h2 : nbC a2) (h3 : nbC a3) (y0 y1 y2 y3 : Value) :
    DQ w ((((W.setCell ⟨N, 0, none⟩ y0).setCell ⟨N, 1, none⟩ y1).setCell ⟨N, 2, none⟩ y2).setCell ⟨N, 3, none⟩ y3) (some (N, [y0, y1, y2, y3])) y bx ss v l :=
  ((((show DS w W ([] ++ (N, [a0, a1, a2, a3]) :: (y.toList ++ bx)) ss v l from h).cell (i := 0) rfl h0 y0).cell (i := 1) rfl h1 y1).cell (i := 2) rfl h2 y2).cell (i := 3) rfl h3 y3
theorem DQ.cX4 {N : Nat} {a0 a1 a2 a3 : Value} (h : DQ w W (some (N, [a0, a1, a2, a3])) y bx ss v l) : W.cell? ⟨N, 0, none⟩ = some a0 ∧ W.cell? ⟨N, 1, none⟩ = some a1 ∧ W.cell? ⟨N, 2, none⟩ = some a2 ∧ W.cell? ⟨N, 3, none⟩ = some a3 ∧ (∀ i, W.frozen? ⟨N, i, none⟩ = false) ∧ N < W.heap.size :=
  (show Held w W ([] ++ (N, [a0, a1, a2, a3]) :: (y.toList ++ bx)) from DS.held h).four
end
/-- the boxes of Equal -/
abbrev eqB (w : World) (ob ob2 : Nat) (oc oc2 : Int) (v v2 : Value) : List (Nat × List Value) :=
  [(w.heap.size + 1, [.int .u32 (ob2 : Int), .int .i64 oc2, v2]), (w.heap.size, [.int .u32 (ob : Int), .int .i64 oc, v])]
theorem eq_boxes (w : World) (ob ob2 : Nat) (oc oc2 : Int) (v v2 : Value) :
    Held w ((w.alloc (.cells #[.int .u32 (ob : Int), .int .i64 oc, v] 25)).alloc (.cells #[.int .u32 (ob2 : Int), .int .i64 oc2, v2] 25)) (eqB w ob ob2 oc oc2 v v2) := by
  have h := ((Held.nil w).alloc [.int .u32 (ob : Int), .int .i64 oc, v] 25).alloc [.int .u32 (ob2 : Int), .int .i64 oc2, v2] 25
  simp only [World.size_alloc] at h
  exact h
theorem eq_sk {w W : World} {ob ob2 : Nat} {oc oc2 : Int} {v v2 : Value} (h : Held w W (eqB w ob ob2 oc oc2 v v2)) :
    W.cell? ⟨w.heap.size, 2, none⟩ = some v ∧ W.cell? ⟨w.heap.size + 1, 2, none⟩ = some v2 :=
  ⟨(show Held w W ([_] ++ (w.heap.size, [.int .u32 (ob : Int), .int .i64 oc, v]) :: []) from h).tri.2.2.1, (show Held w W ([] ++ (w.heap.size + 1, [.int .u32 (ob2 : Int), .int .i64 oc2, v2]) :: [_]) from h).tri.2.2.1⟩

set_option maxRecDepth 100000 in
set_option maxHeartbeats 8000000 in
theorem equal_any {w : World} {v v2 : Value} {l l2 : List AgV} (h : Ags w v l) (h2 : Ags w v2 l2) (ob ob2 : Nat) (oc oc2 : Int) :
    Calls Tryd.prog 16 #[msVal ob oc v, msVal ob2 oc2 v2] w (Says (eqM ⟨ob, oc, agL l⟩ ⟨ob2, oc2, agL l2⟩) w) := by
  have HA := Lib.hid h
  have HA2 := Lib.hid h2
  obtain ⟨A, cap, rfl, hcap, hm⟩ := h.shape
  obtain ⟨A2, cap2, rfl, hcap2, hm2⟩ := h2.shape
  simp only [maxLen] at hm hm2
  obtain ⟨n, hn⟩ : ∃ n, l.length = n := ⟨_, rfl⟩
  obtain ⟨n2, hn2⟩ : ∃ n, l2.length = n := ⟨_, rfl⟩
  have HN := Lib.hid hn
  have HN2 := Lib.hid hn2
  obtain ⟨r, hr⟩ : ∃ r, eqM ⟨ob, oc, agL l⟩ ⟨ob2, oc2, agL l2⟩ = r := ⟨_, rfl⟩
  rw [hr]
  unfold eqM at hr
  dsimp only at hr
  rw [show (agL l).length = n by rw [← hn]; simp [agL], show (agL l2).length = n2 by rw [← hn2]; simp [agL]] at hr
  have HR := Lib.hid hr
  rw [hn] at hcap HA ⊢
  rw [hn2] at hcap2 HA2 ⊢
  have J0 := Lib.hid (eq_boxes w ob ob2 oc oc2 (.slice A n cap) (.slice A2 n2 cap2))
  clear h h2 hn hn2 hr
  obtain ⟨x0, x1, x2, -, -⟩ := (show Held w _ ([_] ++ (w.heap.size, [.int .u32 (ob : Int), .int .i64 oc, .slice A n cap]) :: []) from J0.out).tri
  obtain ⟨y0, y1, y2, -, -⟩ := (show Held w _ ([] ++ (w.heap.size + 1, [.int .u32 (ob2 : Int), .int .i64 oc2, .slice A2 n2 cap2]) :: [_]) from J0.out).tri
  by_cases e1 : ob = ob2
  · subst e1
    by_cases e2 : oc = oc2
    · subst e2
      by_cases e3 : n = n2
      · subst e3
        have hr := HR.out
        simp only [decide_true, Bool.true_and] at hr
        have HT0 : Hid (eqL ((agL l).drop 0) ((agL l2).drop 0) = r) := Lib.hid hr
        clear HR hr
        go_enter Tryd.func16, Tryd.ntmps16
        go_wp2_with fail
        clear x0 x1 x2 y0 y1 y2
        go_loopw [5] (fun s5 wr => ∃ i : Nat, i ≤ n ∧ s5 = .int .i64 (i : Int) ∧ Hid (eqL ((agL l).drop i) ((agL l2).drop i) = r) ∧ Hid (DQ w wr none none (eqB w ob ob oc oc (.slice A n cap) (.slice A2 n cap2)) [] (.slice none 0 0) [])) (fun s5 _ => leftN n s5)
        case atStart => exact ⟨0, Nat.zero_le _, rfl, HT0, Lib.hid (dq0 J0.out)⟩
        case round =>
          clear J0 HT0
          obtain ⟨i, hi, rfl, HT, J⟩ := hrel
          obtain ⟨g0, g1⟩ := eq_sk J.out.rest.held
          by_cases hlt : i < n
          · have q0 : (0 : Int) ≤ i := by omega
            have q1 : (i : Int) < n := by omega
            obtain ⟨p, hp⟩ : ∃ p, l[i]? = some p := ⟨_, List.getElem?_eq_getElem (by rw [HN.out]; exact hlt)⟩
            obtain ⟨p2, hp2⟩ : ∃ p, l2[i]? = some p := ⟨_, List.getElem?_eq_getElem (by rw [HN2.out]; exact hlt)⟩
            have hx := HT.out
            rw [drop_cons (agL_at hp), drop_cons (agL_at hp2)] at hx
            unfold eqL at hx
            obtain ⟨b, off, rfl, hb, -, -⟩ := ags_at HA.out J.out.rest.held.below hp
            obtain ⟨b2, off2, rfl, hb2, -, -⟩ := ags_at HA2.out J.out.rest.held.below hp2
            have AC := Lib.hid (fun (W : World) (hb : Below w.heap.size w W) => arg_cells HA.out hp (W := W) hb)
            have AC2 := Lib.hid (fun (W : World) (hb : Below w.heap.size w W) => arg_cells HA2.out hp2 (W := W) hb)
            have OK := Lib.hid (fun (W : World) (hb : Below w.heap.size w W) => arg_ok HA.out hp (W := W) hb)
            have OK2 := Lib.hid (fun (W : World) (hb : Below w.heap.size w W) => arg_ok HA2.out hp2 (W := W) hb)
            obtain ⟨A5, c5, hv5, -, -⟩ := (OK.out wr J.out.rest.held.below).shape
            obtain ⟨A6, c6, hv6, -, -⟩ := (OK2.out wr J.out.rest.held.below).shape
            clear hp hp2
            obtain ⟨⟨kd, nn, ss, bb⟩, pv⟩ := p
            obtain ⟨⟨kd2, nn2, ss2, bb2⟩, pv2⟩ := p2
            dsimp only at hv5 hv6 AC AC2 OK OK2 hx
            subst hv5 hv6
            obtain ⟨bl, hbl⟩ : ∃ n, bb.length = n := ⟨_, rfl⟩
            obtain ⟨bl2, hbl2⟩ : ∃ n, bb2.length = n := ⟨_, rfl⟩
            rw [hbl] at AC OK
            rw [hbl2] at AC2 OK2
            have HX := Lib.hid hx
            clear hx hbl hbl2 HT
            go_upto_region 6 with (fail)
            go_cut [6, 7] from 36 to 45 (fun s6 s7 wx => ∃ M N, s6 = .pointer (some ⟨M, 0, none⟩) ∧ s7 = .pointer (some ⟨N, 0, none⟩) ∧ Hid (DQ w wx (some (M, [.int .i64 kd, .int .i64 nn, .string ss, .slice A5 bl c5])) (some (N, [.int .i64 kd2, .int .i64 nn2, .string ss2, .slice A6 bl2 c6])) (eqB w ob ob oc oc (.slice (some ⟨b, off, none⟩) n cap) (.slice (some ⟨b2, off2, none⟩) n cap2)) [] (.slice none 0 0) []))
            case first =>
              replace J : Hid (DQ w wr.drew none none (eqB w ob ob oc oc (.slice (some ⟨b, off, none⟩) n cap) (.slice (some ⟨b2, off2, none⟩) n cap2)) [] (.slice none 0 0) []) := Lib.hid J.out.drew
              have sk := And.intro (eq_sk J.out.rest.held) (And.intro (AC.out _ J.out.rest.held.below) (AC2.out _ J.out.rest.held.below))
              refine wp_region_held_drew (S := (fun W => (W.cell? ⟨w.heap.size, 2, none⟩ = some (.slice (some ⟨b, off, none⟩) n cap) ∧ W.cell? ⟨w.heap.size + 1, 2, none⟩ = some (.slice (some ⟨b2, off2, none⟩) n cap2)) ∧ (W.cell? ⟨b, off + i * 4, none⟩ = some (.int .i64 kd) ∧ W.cell? ⟨b, off + i * 4 + 1, none⟩ = some (.int .i64 nn) ∧ W.cell? ⟨b, off + i * 4 + 2, none⟩ = some (.string ss) ∧ W.cell? ⟨b, off + i * 4 + 3, none⟩ = some (.slice A5 bl c5)) ∧ (W.cell? ⟨b2, off2 + i * 4, none⟩ = some (.int .i64 kd2) ∧ W.cell? ⟨b2, off2 + i * 4 + 1, none⟩ = some (.int .i64 nn2) ∧ W.cell? ⟨b2, off2 + i * 4 + 2, none⟩ = some (.string ss2) ∧ W.cell? ⟨b2, off2 + i * 4 + 3, none⟩ = some (.slice A6 bl2 c6)))) (by kernel_rfl) sk (fun hHeld => ?_)
              generalize wr.drew = u0 at *
              refine wpAnyH_take (i := 0) (oi := ({ dst := some 36, op := Go.Op.fieldAddr 25 (Go.Operand.tmp 2) 2, type := 0, pos := "ref.go:242", after := #[], guard := none } : Oper)) (v := ?_) rfl (by kernel_rfl) (by kernel_rfl) (by kernel_rfl) (fun _ _ _ h => h) (Or.inl ⟨by kernel_rfl, ?_⟩) hHeld ?_
              rotate_left 1
              · (intro W hSw; (try dsimp only at hSw); go_simp; try with_reducible rfl)
              try simp only [Act.put, List.setIfInBounds_toArray, List.set_cons_zero, List.set_cons_succ]
              refine wpAnyH_take (i := 1) (oi := ({ dst := some 37, op := Go.Op.load 23 (Go.Operand.tmp 36), type := 23, pos := "ref.go:242", after := #[{ on := 0, ground := Go.Ground.data }], guard := none } : Oper)) (v := ?_) rfl (by kernel_rfl) (by kernel_rfl) (by kernel_rfl) (fun _ _ _ h => h) (Or.inl ⟨by kernel_rfl, ?_⟩) hHeld ?_
              rotate_left 1
              · (intro W hSw; (try dsimp only at hSw); go_simp; try with_reducible rfl)
              try simp only [Act.put, List.setIfInBounds_toArray, List.set_cons_zero, List.set_cons_succ]
              refine wpAnyH_take (i := 2) (oi := ({ dst := some 38, op := Go.Op.move (Go.Operand.tmp 5), type := 3, pos := "ref.go:242", after := #[], guard := none } : Oper)) (v := ?_) rfl (by kernel_rfl) (by kernel_rfl) (by kernel_rfl) (fun _ _ _ h => h) (Or.inl ⟨by kernel_rfl, ?_⟩) hHeld ?_
              rotate_left 1
              · (intro W hSw; (try dsimp only at hSw); go_simp; try with_reducible rfl)
              try simp only [Act.put, List.setIfInBounds_toArray, List.set_cons_zero, List.set_cons_succ]
              refine wpAnyH_take (i := 3) (oi := ({ dst := some 39, op := Go.Op.indexAddr 23 (Go.Operand.tmp 37) (Go.Operand.tmp 38), type := 0, pos := "ref.go:242", after := #[{ on := 1, ground := Go.Ground.data }, { on := 2, ground := Go.Ground.data }], guard := none } : Oper)) (v := ?_) rfl (by kernel_rfl) (by kernel_rfl) (by kernel_rfl) (fun _ _ _ h => h) (Or.inl ⟨by kernel_rfl, ?_⟩) hHeld ?_
              rotate_left 1
              · (intro W hSw; (try dsimp only at hSw); go_simp; try with_reducible rfl)
              try simp only [Act.put, List.setIfInBounds_toArray, List.set_cons_zero, List.set_cons_succ]
              refine wpAnyH_take (i := 4) (oi := ({ dst := some 40, op := Go.Op.load 43 (Go.Operand.tmp 39), type := 43, pos := "ref.go:242", after := #[{ on := 3, ground := Go.Ground.data }], guard := none } : Oper)) (v := ?_) rfl (by kernel_rfl) (by kernel_rfl) (by kernel_rfl) (fun _ _ _ h => h) (Or.inl ⟨by kernel_rfl, ?_⟩) hHeld ?_
              rotate_left 1
              · (intro W hSw; (try dsimp only at hSw); go_simp; try with_reducible rfl)
              try simp only [Act.put, List.setIfInBounds_toArray, List.set_cons_zero, List.set_cons_succ]
              refine wpAnyH_take (i := 5) (oi := ({ dst := some 41, op := Go.Op.fieldAddr 25 (Go.Operand.tmp 3) 2, type := 0, pos := "ref.go:242", after := #[{ on := 12, ground := Go.Ground.gcOnly Go.Departure.lateStores }], guard := none } : Oper)) (v := ?_) rfl (by kernel_rfl) (by kernel_rfl) (by kernel_rfl) (fun _ _ _ h => h) (Or.inl ⟨by kernel_rfl, ?_⟩) hHeld ?_
              rotate_left 1
              · (intro W hSw; (try dsimp only at hSw); go_simp; try with_reducible rfl)
              try simp only [Act.put, List.setIfInBounds_toArray, List.set_cons_zero, List.set_cons_succ]
              refine wpAnyH_take (i := 6) (oi := ({ dst := some 42, op := Go.Op.load 23 (Go.Operand.tmp 41), type := 23, pos := "ref.go:242", after := #[{ on := 5, ground := Go.Ground.data }, { on := 12, ground := Go.Ground.gcOnly Go.Departure.lateStores }], guard := none } : Oper)) (v := ?_) rfl (by kernel_rfl) (by kernel_rfl) (by kernel_rfl) (fun _ _ _ h => h) (Or.inl ⟨by kernel_rfl, ?_⟩) hHeld ?_
              rotate_left 1
              · (intro W hSw; (try dsimp only at hSw); go_simp; try with_reducible rfl)
              try simp only [Act.put, List.setIfInBounds_toArray, List.set_cons_zero, List.set_cons_succ]
              refine wpAnyH_take (i := 7) (oi := ({ dst := some 43, op := Go.Op.move (Go.Operand.tmp 5), type := 3, pos := "ref.go:242", after := #[{ on := 12, ground := Go.Ground.gcOnly Go.Departure.lateStores }], guard := none } : Oper)) (v := ?_) rfl (by kernel_rfl) (by kernel_rfl) (by kernel_rfl) (fun _ _ _ h => h) (Or.inl ⟨by kernel_rfl, ?_⟩) hHeld ?_
              rotate_left 1
              · (intro W hSw; (try dsimp only at hSw); go_simp; try with_reducible rfl)
              try simp only [Act.put, List.setIfInBounds_toArray, List.set_cons_zero, List.set_cons_succ]
              refine wpAnyH_take (i := 8) (oi := ({ dst := some 44, op := Go.Op.indexAddr 23 (Go.Operand.tmp 42) (Go.Operand.tmp 43), type := 0, pos := "ref.go:242", after := #[{ on := 6, ground := Go.Ground.data }, { on := 7, ground := Go.Ground.data }, { on := 12, ground := Go.Ground.gcOnly Go.Departure.lateStores }], guard := none } : Oper)) (v := ?_) rfl (by kernel_rfl) (by kernel_rfl) (by kernel_rfl) (fun _ _ _ h => h) (Or.inl ⟨by kernel_rfl, ?_⟩) hHeld ?_
              rotate_left 1
              · (intro W hSw; (try dsimp only at hSw); go_simp; try with_reducible rfl)
              try simp only [Act.put, List.setIfInBounds_toArray, List.set_cons_zero, List.set_cons_succ]
              refine wpAnyH_take (i := 9) (oi := ({ dst := some 45, op := Go.Op.load 43 (Go.Operand.tmp 44), type := 43, pos := "ref.go:242", after := #[{ on := 8, ground := Go.Ground.data }, { on := 12, ground := Go.Ground.gcOnly Go.Departure.lateStores }], guard := none } : Oper)) (v := ?_) rfl (by kernel_rfl) (by kernel_rfl) (by kernel_rfl) (fun _ _ _ h => h) (Or.inl ⟨by kernel_rfl, ?_⟩) hHeld ?_
              rotate_left 1
              · (intro W hSw; (try dsimp only at hSw); go_simp; try with_reducible rfl)
              try simp only [Act.put, List.setIfInBounds_toArray, List.set_cons_zero, List.set_cons_succ]
              refine wpAnyH_ready (rs := [10, 11]) (by kernel_rfl) (by simp) (AllReadyH.cons (o := eop10) rfl (fun K hK => ?_) (AllReadyH.cons (o := eop11) rfl (fun K hK => ?_) AllReadyH.nil))
              · unfold eop10
                go_simp
                replace J := Lib.hid (J.out.newX [.int .i64 0, .int .i64 0, .string ⟨#[]⟩, .slice none 0 0] 43)
                generalize u0.alloc (.cells #[.int .i64 0, .int .i64 0, .string ⟨#[]⟩, .slice none 0 0] 43) = u1 at *
                generalize u0.heap.size = M at *
                (try clear sk)
                have sk := And.intro (eq_sk J.out.rest.held) (And.intro (AC.out _ J.out.rest.held.below) (AC2.out _ J.out.rest.held.below))
                refine hK.out _ _ sk (fun hHeld2 => ?_)
                clear hK K hHeld
                have hHeld := hHeld2
                clear hHeld2
                try simp only [Act.put, List.setIfInBounds_toArray, List.set_cons_zero, List.set_cons_succ]
                refine wpAnyH_ready (rs := [11]) (by kernel_rfl) (by simp) (AllReadyH.cons (o := eop11) rfl (fun K hK => ?_) AllReadyH.nil)
                unfold eop11
                go_simp
                replace J := Lib.hid (J.out.newY [.int .i64 0, .int .i64 0, .string ⟨#[]⟩, .slice none 0 0] 43)
                generalize u1.alloc (.cells #[.int .i64 0, .int .i64 0, .string ⟨#[]⟩, .slice none 0 0] 43) = u2 at *
                generalize u1.heap.size = N at *
                (try clear sk)
                have sk := And.intro (eq_sk J.out.rest.held) (And.intro (AC.out _ J.out.rest.held.below) (AC2.out _ J.out.rest.held.below))
                refine hK.out _ _ sk (fun hHeld2 => ?_)
                clear hK K hHeld
                have hHeld := hHeld2
                clear hHeld2
                try simp only [Act.put, List.setIfInBounds_toArray, List.set_cons_zero, List.set_cons_succ]
                refine wpAnyH_ready (rs := [12]) (by kernel_rfl) (by simp) (AllReadyH.cons (o := eop12) rfl (fun K hK => ?_) AllReadyH.nil)
                unfold eop12
                obtain ⟨z0, z1, z2, z3, zf, _⟩ := J.out.cX4
                go_simp
                show K _ ((((u2.setCell ⟨M, 0, none⟩ (.int .i64 kd)).setCell ⟨M, 1, none⟩ (.int .i64 nn)).setCell ⟨M, 2, none⟩ (.string ss)).setCell ⟨M, 3, none⟩ (.slice A5 bl c5))
                replace J := Lib.hid (J.out.setX4 (int_nb _) (int_nb _) (str_nb _) (sli_nb _ _ _) (.int .i64 kd) (.int .i64 nn) (.string ss) (.slice A5 bl c5))
                clear z0 z1 z2 z3 zf
                generalize ((((u2.setCell ⟨M, 0, none⟩ (.int .i64 kd)).setCell ⟨M, 1, none⟩ (.int .i64 nn)).setCell ⟨M, 2, none⟩ (.string ss)).setCell ⟨M, 3, none⟩ (.slice A5 bl c5)) = u3 at *
                (try clear sk)
                have sk := And.intro (eq_sk J.out.rest.held) (And.intro (AC.out _ J.out.rest.held.below) (AC2.out _ J.out.rest.held.below))
                refine hK.out _ _ sk (fun hHeld2 => ?_)
                clear hK K hHeld
                have hHeld := hHeld2
                clear hHeld2
                try simp only [Act.put, List.setIfInBounds_toArray, List.set_cons_zero, List.set_cons_succ]
                refine wpAnyH_ready (rs := [13]) (by kernel_rfl) (by simp) (AllReadyH.cons (o := eop13) rfl (fun K hK => ?_) AllReadyH.nil)
                unfold eop13
                obtain ⟨z0, z1, z2, z3, zf, _⟩ := J.out.cY
                go_simp
                show K _ ((((u3.setCell ⟨N, 0, none⟩ (.int .i64 kd2)).setCell ⟨N, 1, none⟩ (.int .i64 nn2)).setCell ⟨N, 2, none⟩ (.string ss2)).setCell ⟨N, 3, none⟩ (.slice A6 bl2 c6))
                replace J := Lib.hid (J.out.setY (int_nb _) (int_nb _) (str_nb _) (sli_nb _ _ _) (.int .i64 kd2) (.int .i64 nn2) (.string ss2) (.slice A6 bl2 c6))
                clear z0 z1 z2 z3 zf
                generalize ((((u3.setCell ⟨N, 0, none⟩ (.int .i64 kd2)).setCell ⟨N, 1, none⟩ (.int .i64 nn2)).setCell ⟨N, 2, none⟩ (.string ss2)).setCell ⟨N, 3, none⟩ (.slice A6 bl2 c6)) = u4 at *
                (try clear sk)
                have sk := And.intro (eq_sk J.out.rest.held) (And.intro (AC.out _ J.out.rest.held.below) (AC2.out _ J.out.rest.held.below))
                refine hK.out _ _ sk (fun hHeld2 => ?_)
                clear hK K hHeld
                have hHeld := hHeld2
                clear hHeld2
                try simp only [Act.put, List.setIfInBounds_toArray, List.set_cons_zero, List.set_cons_succ]
                refine wpAnyH_done (by kernel_rfl) ?_ _
                go_wp2_with fail
                go_meet
                exact ⟨M, N, rfl, rfl, J⟩
              · unfold eop11
                go_simp
                replace J := Lib.hid (J.out.newY [.int .i64 0, .int .i64 0, .string ⟨#[]⟩, .slice none 0 0] 43)
                generalize u0.alloc (.cells #[.int .i64 0, .int .i64 0, .string ⟨#[]⟩, .slice none 0 0] 43) = u1 at *
                generalize u0.heap.size = N at *
                (try clear sk)
                have sk := And.intro (eq_sk J.out.rest.held) (And.intro (AC.out _ J.out.rest.held.below) (AC2.out _ J.out.rest.held.below))
                refine hK.out _ _ sk (fun hHeld2 => ?_)
                clear hK K hHeld
                have hHeld := hHeld2
                clear hHeld2
                try simp only [Act.put, List.setIfInBounds_toArray, List.set_cons_zero, List.set_cons_succ]
                refine wpAnyH_ready (rs := [10]) (by kernel_rfl) (by simp) (AllReadyH.cons (o := eop10) rfl (fun K hK => ?_) AllReadyH.nil)
                unfold eop10
                go_simp
                replace J := Lib.hid (J.out.newX [.int .i64 0, .int .i64 0, .string ⟨#[]⟩, .slice none 0 0] 43)
                generalize u1.alloc (.cells #[.int .i64 0, .int .i64 0, .string ⟨#[]⟩, .slice none 0 0] 43) = u2 at *
                generalize u1.heap.size = M at *
                (try clear sk)
                have sk := And.intro (eq_sk J.out.rest.held) (And.intro (AC.out _ J.out.rest.held.below) (AC2.out _ J.out.rest.held.below))
                refine hK.out _ _ sk (fun hHeld2 => ?_)
                clear hK K hHeld
                have hHeld := hHeld2
                clear hHeld2
                try simp only [Act.put, List.setIfInBounds_toArray, List.set_cons_zero, List.set_cons_succ]
                refine wpAnyH_ready (rs := [12]) (by kernel_rfl) (by simp) (AllReadyH.cons (o := eop12) rfl (fun K hK => ?_) AllReadyH.nil)
                unfold eop12
                obtain ⟨z0, z1, z2, z3, zf, _⟩ := J.out.cX4
                go_simp
                show K _ ((((u2.setCell ⟨M, 0, none⟩ (.int .i64 kd)).setCell ⟨M, 1, none⟩ (.int .i64 nn)).setCell ⟨M, 2, none⟩ (.string ss)).setCell ⟨M, 3, none⟩ (.slice A5 bl c5))
                replace J := Lib.hid (J.out.setX4 (int_nb _) (int_nb _) (str_nb _) (sli_nb _ _ _) (.int .i64 kd) (.int .i64 nn) (.string ss) (.slice A5 bl c5))
                clear z0 z1 z2 z3 zf
                generalize ((((u2.setCell ⟨M, 0, none⟩ (.int .i64 kd)).setCell ⟨M, 1, none⟩ (.int .i64 nn)).setCell ⟨M, 2, none⟩ (.string ss)).setCell ⟨M, 3, none⟩ (.slice A5 bl c5)) = u3 at *
                (try clear sk)
                have sk := And.intro (eq_sk J.out.rest.held) (And.intro (AC.out _ J.out.rest.held.below) (AC2.out _ J.out.rest.held.below))
                refine hK.out _ _ sk (fun hHeld2 => ?_)
                clear hK K hHeld
                have hHeld := hHeld2
                clear hHeld2
                try simp only [Act.put, List.setIfInBounds_toArray, List.set_cons_zero, List.set_cons_succ]
                refine wpAnyH_ready (rs := [13]) (by kernel_rfl) (by simp) (AllReadyH.cons (o := eop13) rfl (fun K hK => ?_) AllReadyH.nil)
                unfold eop13
                obtain ⟨z0, z1, z2, z3, zf, _⟩ := J.out.cY
                go_simp
                show K _ ((((u3.setCell ⟨N, 0, none⟩ (.int .i64 kd2)).setCell ⟨N, 1, none⟩ (.int .i64 nn2)).setCell ⟨N, 2, none⟩ (.string ss2)).setCell ⟨N, 3, none⟩ (.slice A6 bl2 c6))
                replace J := Lib.hid (J.out.setY (int_nb _) (int_nb _) (str_nb _) (sli_nb _ _ _) (.int .i64 kd2) (.int .i64 nn2) (.string ss2) (.slice A6 bl2 c6))
                clear z0 z1 z2 z3 zf
                generalize ((((u3.setCell ⟨N, 0, none⟩ (.int .i64 kd2)).setCell ⟨N, 1, none⟩ (.int .i64 nn2)).setCell ⟨N, 2, none⟩ (.string ss2)).setCell ⟨N, 3, none⟩ (.slice A6 bl2 c6)) = u4 at *
                (try clear sk)
                have sk := And.intro (eq_sk J.out.rest.held) (And.intro (AC.out _ J.out.rest.held.below) (AC2.out _ J.out.rest.held.below))
                refine hK.out _ _ sk (fun hHeld2 => ?_)
                clear hK K hHeld
                have hHeld := hHeld2
                clear hHeld2
                try simp only [Act.put, List.setIfInBounds_toArray, List.set_cons_zero, List.set_cons_succ]
                refine wpAnyH_done (by kernel_rfl) ?_ _
                go_wp2_with fail
                go_meet
                exact ⟨M, N, rfl, rfl, J⟩

            case rest =>
              obtain ⟨M, N, rfl, rfl, J9⟩ := hcut
              clear J AC AC2 g0 g1
              obtain ⟨z0, z1, z2, z3, -, -⟩ := J9.out.cX4
              obtain ⟨v0, v1, v2, v3, -, -⟩ := J9.out.cY
              by_cases f0 : kd = kd2
              · subst f0
                by_cases f1 : nn = nn2
                · subst f1
                  by_cases f2 : ss = ss2
                  · subst f2
                    have t1 := run_text Tryd.underlying28 Tryd.underlying5 Tryd.underlying9 (OK.out _ J9.out.rest.held.below).1
                    have t2 := run_text Tryd.underlying28 Tryd.underlying5 Tryd.underlying9 (OK2.out _ J9.out.rest.held.below).1
                    dsimp only at t1 t2
                    by_cases f3 : bb = bb2
                    · subst f3
                      have hx := HX.out
                      rw [show eqA ⟨kd, nn, ss, bb⟩ ⟨kd, nn, ss, bb⟩ = true from (eqA_iff _ _).2 rfl, Bool.true_and] at hx
                      have HT2 := Lib.hid hx
                      generalize (⟨bb.toArray⟩ : ByteArray) = str at *
                      have q2 : (str.toList == str.toList) = true := by simp
                      clear hx HX OK OK2
                      go_wp2_with fail
                      go_roundw
                      case rel => exact ⟨i + 1, by omega, by go_num, HT2, Lib.hid J9.out.rest⟩
                      case measure =>
                        unfold leftN
                        simp [intOf]
                        omega
                    · have q2 : ((⟨bb.toArray⟩ : ByteArray).toList == (⟨bb2.toArray⟩ : ByteArray).toList) = false := str_ne (fun h => f3 (by
                        have := congrArg (fun s : ByteArray => s.data.toList) h
                        simpa using this))
                      have e : r = false := by
                        rw [← HX.out]
                        unfold eqA
                        dsimp only
                        rw [decide_eq_false f3]
                        simp
                      subst e
                      generalize (⟨bb.toArray⟩ : ByteArray) = str at *
                      generalize (⟨bb2.toArray⟩ : ByteArray) = str2 at *
                      clear HX OK OK2
                      go_wp2_with fail
                      go_ret
                      exact ⟨rfl, J9.out.rest.held.below⟩
                  · have q2 := str_ne f2
                    have e : r = false := by
                      rw [← HX.out]
                      unfold eqA
                      dsimp only
                      rw [decide_eq_false f2]
                      simp
                    subst e
                    clear HX OK OK2
                    go_wp2_with fail
                    go_ret
                    exact ⟨rfl, J9.out.rest.held.below⟩
                · have q2 : (nn != nn2) = true := by simp; omega
                  have e : r = false := by
                    rw [← HX.out]
                    unfold eqA
                    dsimp only
                    rw [decide_eq_false f1]
                    simp
                  subst e
                  clear HX OK OK2
                  go_wp2_with fail
                  go_ret
                  exact ⟨rfl, J9.out.rest.held.below⟩
              · have q2 : (kd != kd2) = true := by simp; omega
                have e : r = false := by
                  rw [← HX.out]
                  unfold eqA
                  dsimp only
                  rw [decide_eq_false f0]
                  simp
                subst e
                clear HX OK OK2
                go_wp2_with fail
                go_ret
                exact ⟨rfl, J9.out.rest.held.below⟩
          · obtain rfl : n = i := by omega
            have hx := HT.out
            rw [List.drop_of_length_le (by show (l.map Prod.fst).length ≤ _; rw [List.length_map, HN.out]; omega), List.drop_of_length_le (by show (l2.map Prod.fst).length ≤ _; rw [List.length_map, HN2.out]; omega)] at hx
            clear HT
            have e : r = true := hx.symm
            subst e
            clear hx
            go_wp2_with fail
            go_ret
            exact ⟨rfl, J.out.rest.held.below⟩
      · have e : r = false := by rw [← HR.out, decide_eq_false e3]; simp
        subst e
        have q1 : ((n : Int) != (n2 : Int)) = true := by simp; omega
        clear HR HA HA2 HN HN2
        go_enter Tryd.func16, Tryd.ntmps16
        go_wp2_with fail
        go_ret
        exact ⟨rfl, J0.out.below⟩
    · have e : r = false := by rw [← HR.out, decide_eq_false e2]; simp
      subst e
      have q1 : (oc != oc2) = true := by simp; omega
      clear HR HA HA2 HN HN2
      go_enter Tryd.func16, Tryd.ntmps16
      go_wp2_with fail
      go_ret
      exact ⟨rfl, J0.out.below⟩
  · have e : r = false := by rw [← HR.out, decide_eq_false e1]; simp
    subst e
    have q1 : ((ob : Int) != (ob2 : Int)) = true := by simp; omega
    clear HR HA HA2 HN HN2
    go_enter Tryd.func16, Tryd.ntmps16
    go_wp2_with fail
    go_ret
    exact ⟨rfl, J0.out.below⟩

end Go.Proofs.YtmpkjjmgfakomaaDoor
