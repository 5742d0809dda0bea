/-
  exampleHolds of the laws of package scale.
-/
import Derived.Test.YtnkbejbpkjkgeaaBth
import Derived.Test.YtnkbejbpkjkgeaaRow
namespace Go.Proofs.Ytnkbejbpkjkgeaa
open Go.RowKit Mem

/-- a block of bytes, seen -/
theorem sees_made (W : World) (bs : List UInt8) (h0 : 0 < bs.length) (hm : bs.length ≤ 1000) : Sees (W.alloc (.cells (bs.map byte).toArray 5)) (.slice (some ⟨W.heap.size, 0, none⟩) bs.length bs.length) bs := by
  refine ⟨_, bs.length, rfl, Nat.le_refl _, by simp only [maxLen]; omega, fun _ => ⟨W.heap.size, 0, rfl, by rw [World.size_alloc]; exact Nat.lt_succ_self _, fun j hj => ?_⟩⟩
  rw [Nat.zero_add]
  simp [go_sem, List.getD, hj]

/-- a buffer of one row, its pixels seen -/
def OutRow (n : Nat) (l : List Px) (w : World) (e : Ending) (w' : World) : Prop := ∃ A c, e = .returned (.agg #[.int .i64 (n : Int), .int .i64 1, .slice A n c]) ∧ Pxs w' (.slice A n c) l ∧ Below w.heap.size w w'

theorem row_lit {bs : List UInt8} {v : Value} {w : World} (h : Sees w v bs) (h0 : 0 < bs.length) (hm : bs.length ≤ 1000) : Calls Try.prog 31 #[v] w (OutRow bs.length (alpL bs) w) := by
  refine (row_any h h0 hm).mono ?_
  rintro e w' ⟨v, rfl, hp, hb⟩
  obtain ⟨A, c, rfl, _⟩ := hp.shape
  rw [alp_len] at hp ⊢
  exact ⟨A, c, rfl, hp, hb⟩

theorem x_row1 (W : World) {k : Nat} (hk : W.heap.size = k) : Calls Try.prog 31 #[.slice (some ⟨k, 0, none⟩) 4 4] (W.alloc (.cells #[.int .u8 10, .int .u8 20, .int .u8 30, .int .u8 40] 5)) (OutRow 4 (alpL [10, 20, 30, 40]) (W.alloc (.cells #[.int .u8 10, .int .u8 20, .int .u8 30, .int .u8 40] 5))) := by
  subst hk
  exact row_lit (sees_made W [10, 20, 30, 40] (by decide) (by decide)) (by decide) (by decide)
theorem x_row1' (W : World) {k : Nat} (hk : W.heap.size = k) : Calls Try.prog 31 #[.slice (some ⟨k, 0, none⟩) 4 4] (W.alloc (.cells #[.int .u8 10, .int .u8 20, .int .u8 30, .int .u8 40] 5)).drew (OutRow 4 (alpL [10, 20, 30, 40]) (W.alloc (.cells #[.int .u8 10, .int .u8 20, .int .u8 30, .int .u8 40] 5)).drew) := by
  subst hk
  exact row_lit (w := (W.alloc (.cells #[.int .u8 10, .int .u8 20, .int .u8 30, .int .u8 40] 5)).drew) (show Sees (W.alloc (.cells #[.int .u8 10, .int .u8 20, .int .u8 30, .int .u8 40] 5)).drew _ _ from (sees_made W [10, 20, 30, 40] (by decide) (by decide)).drew) (by decide) (by decide)
theorem x_row2 (W : World) {k : Nat} (hk : W.heap.size = k) : Calls Try.prog 31 #[.slice (some ⟨k, 0, none⟩) 2 2] (W.alloc (.cells #[.int .u8 10, .int .u8 21] 5)) (OutRow 2 (alpL [10, 21]) (W.alloc (.cells #[.int .u8 10, .int .u8 21] 5))) := by
  subst hk
  exact row_lit (sees_made W [10, 21] (by decide) (by decide)) (by decide) (by decide)
theorem x_row2' (W : World) {k : Nat} (hk : W.heap.size = k) : Calls Try.prog 31 #[.slice (some ⟨k, 0, none⟩) 2 2] (W.alloc (.cells #[.int .u8 10, .int .u8 21] 5)).drew (OutRow 2 (alpL [10, 21]) (W.alloc (.cells #[.int .u8 10, .int .u8 21] 5)).drew) := by
  subst hk
  exact row_lit (w := (W.alloc (.cells #[.int .u8 10, .int .u8 21] 5)).drew) (show Sees (W.alloc (.cells #[.int .u8 10, .int .u8 21] 5)).drew _ _ from (sees_made W [10, 21] (by decide) (by decide)).drew) (by decide) (by decide)
theorem x_row3 (W : World) {k : Nat} (hk : W.heap.size = k) : Calls Try.prog 31 #[.slice (some ⟨k, 0, none⟩) 2 2] (W.alloc (.cells #[.int .u8 1, .int .u8 2] 5)) (OutRow 2 (alpL [1, 2]) (W.alloc (.cells #[.int .u8 1, .int .u8 2] 5))) := by
  subst hk
  exact row_lit (sees_made W [1, 2] (by decide) (by decide)) (by decide) (by decide)
theorem x_row3' (W : World) {k : Nat} (hk : W.heap.size = k) : Calls Try.prog 31 #[.slice (some ⟨k, 0, none⟩) 2 2] (W.alloc (.cells #[.int .u8 1, .int .u8 2] 5)).drew (OutRow 2 (alpL [1, 2]) (W.alloc (.cells #[.int .u8 1, .int .u8 2] 5)).drew) := by
  subst hk
  exact row_lit (w := (W.alloc (.cells #[.int .u8 1, .int .u8 2] 5)).drew) (show Sees (W.alloc (.cells #[.int .u8 1, .int .u8 2] 5)).drew _ _ from (sees_made W [1, 2] (by decide) (by decide)).drew) (by decide) (by decide)
theorem x_row4 (W : World) {k : Nat} (hk : W.heap.size = k) : Calls Try.prog 31 #[.slice (some ⟨k, 0, none⟩) 3 3] (W.alloc (.cells #[.int .u8 10, .int .u8 30, .int .u8 40] 5)) (OutRow 3 (alpL [10, 30, 40]) (W.alloc (.cells #[.int .u8 10, .int .u8 30, .int .u8 40] 5))) := by
  subst hk
  exact row_lit (sees_made W [10, 30, 40] (by decide) (by decide)) (by decide) (by decide)
theorem x_row4' (W : World) {k : Nat} (hk : W.heap.size = k) : Calls Try.prog 31 #[.slice (some ⟨k, 0, none⟩) 3 3] (W.alloc (.cells #[.int .u8 10, .int .u8 30, .int .u8 40] 5)).drew (OutRow 3 (alpL [10, 30, 40]) (W.alloc (.cells #[.int .u8 10, .int .u8 30, .int .u8 40] 5)).drew) := by
  subst hk
  exact row_lit (w := (W.alloc (.cells #[.int .u8 10, .int .u8 30, .int .u8 40] 5)).drew) (show Sees (W.alloc (.cells #[.int .u8 10, .int .u8 30, .int .u8 40] 5)).drew _ _ from (sees_made W [10, 30, 40] (by decide) (by decide)).drew) (by decide) (by decide)
theorem x_row5 (W : World) {k : Nat} (hk : W.heap.size = k) : Calls Try.prog 31 #[.slice (some ⟨k, 0, none⟩) 3 3] (W.alloc (.cells #[.int .u8 13, .int .u8 25, .int .u8 38] 5)) (OutRow 3 (alpL [13, 25, 38]) (W.alloc (.cells #[.int .u8 13, .int .u8 25, .int .u8 38] 5))) := by
  subst hk
  exact row_lit (sees_made W [13, 25, 38] (by decide) (by decide)) (by decide) (by decide)
theorem x_row5' (W : World) {k : Nat} (hk : W.heap.size = k) : Calls Try.prog 31 #[.slice (some ⟨k, 0, none⟩) 3 3] (W.alloc (.cells #[.int .u8 13, .int .u8 25, .int .u8 38] 5)).drew (OutRow 3 (alpL [13, 25, 38]) (W.alloc (.cells #[.int .u8 13, .int .u8 25, .int .u8 38] 5)).drew) := by
  subst hk
  exact row_lit (w := (W.alloc (.cells #[.int .u8 13, .int .u8 25, .int .u8 38] 5)).drew) (show Sees (W.alloc (.cells #[.int .u8 13, .int .u8 25, .int .u8 38] 5)).drew _ _ from (sees_made W [13, 25, 38] (by decide) (by decide)).drew) (by decide) (by decide)

theorem x_nearL : nearL 4 1 (alpL [10, 20, 30, 40]) 3 1 = alpL [10, 30, 40] := by rfl
theorem x_boxL : boxL 4 1 (alpL [10, 20, 30, 40]) 3 1 = alpL [13, 25, 38] := by rfl
theorem x_vld4 : Vld 4 1 (alpL [10, 20, 30, 40]) := ⟨by omega, by omega, by omega, by omega, rfl, by decide⟩
theorem x_vld2 : Vld 2 1 (alpL [10, 21]) := ⟨by omega, by omega, by omega, by omega, rfl, by decide⟩
theorem x_vld3 : Vld 2 1 (alpL [1, 2]) := ⟨by omega, by omega, by omega, by omega, rfl, by decide⟩
theorem alp_byt (bs : List UInt8) : ∀ p ∈ alpL bs, Byt p := fun p hp => by
  unfold alpL at hp
  obtain ⟨b, _, rfl⟩ := List.mem_map.1 hp
  exact ⟨show (0 : Nat) < 256 by decide, show (0 : Nat) < 256 by decide, show (0 : Nat) < 256 by decide, b.toNat_lt⟩

/-- a buffer and an error, as many pixels as the buffer has -/
def OutN (a b : Int) (n : Nat) (l : List Px) (er : Int) (w : World) (e : Ending) (w' : World) : Prop := ∃ A c, e = .returned (.tuple #[.agg #[.int .i64 a, .int .i64 b, .slice A n c], .int .i64 er]) ∧ Pxs w' (.slice A n c) l ∧ Below w.heap.size w w'
theorem outN {a b er : Int} {l : List Px} {n : Nat} {w w' : World} {e : Ending} (h : Outs a b l er w e w') (hn : l.length = n) : OutN a b n l er w e w' := by
  obtain ⟨v, rfl, hr, hb⟩ := h
  have hp := hr.pxs
  obtain ⟨A, c, rfl, _⟩ := hp.shape
  rw [hn] at hp ⊢
  exact ⟨A, c, rfl, hp, hb⟩

theorem x_near {W : World} {v : Value} (h : Pxs W v (alpL [10, 20, 30, 40])) : Calls Try.prog 13 #[.agg #[.int .i64 4, .int .i64 1, v], .int .i64 3, .int .i64 1] W (OutN 3 1 3 (alpL [10, 30, 40]) 0 W) := by
  have := near_good (p := 3) (q := 1) h x_vld4 (alp_byt _) (by omega) (by omega)
  rw [x_nearL] at this
  exact this.mono fun _ _ h => outN h rfl
theorem x_box {W : World} {v : Value} (h : Pxs W v (alpL [10, 20, 30, 40])) : Calls Try.prog 16 #[.agg #[.int .i64 4, .int .i64 1, v], .int .i64 3, .int .i64 1] W (OutN 3 1 3 (alpL [13, 25, 38]) 0 W) := by
  have := box_good (p := 3) (q := 1) h x_vld4 (alp_byt _) (by omega) (by omega)
  rw [x_boxL] at this
  exact this.mono fun _ _ h => outN h rfl
theorem x_shr {W : World} {v : Value} (h : Pxs W v (alpL [10, 21])) : Calls Try.prog 18 #[.agg #[.int .i64 2, .int .i64 1, v], .int .i64 2] W (OutN 0 0 0 [] 2 W) :=
  (shrink_arg (k := 2) h x_vld2 (.inr ⟨2, rfl, by omega, .inr (by decide)⟩)).mono fun _ _ h => outN h rfl
theorem x_enl {W : World} {v : Value} (h : Pxs W v (alpL [1, 2])) : Calls Try.prog 20 #[.agg #[.int .i64 2, .int .i64 1, v], .int .i64 2] W (OutN 4 2 8 (enlL 2 1 (alpL [1, 2]) 2) 0 W) :=
  (enl_good (k := 2) (p := 4) (q := 2) h x_vld3 (alp_byt _) (by omega) rfl rfl (by omega) (by omega)).mono fun _ _ h => outN h (by rw [enl_len])
theorem x_map (W : World) : Calls Try.prog 22 #[.agg #[.int .i64 1, .int .i64 0, .int .i64 2, .int .i64 1], .int .i64 4, .int .i64 4, .int .i64 2, .int .i64 8] W fun e w' => e = .returned (.agg #[.int .i64 0, .int .i64 0, .int .i64 1, .int .i64 2]) ∧ Below W.heap.size W w' := by
  have h := map_any ⟨1, 0, 2, 1⟩ 4 4 2 8 W
  rw [show mapR ⟨1, 0, 2, 1⟩ 4 4 2 8 = ⟨0, 0, 1, 2⟩ from rfl] at h
  exact h

set_option maxHeartbeats 2000000 in
theorem x_eqr (W : World) : (binOp .eql 34 (.agg #[.int .i64 0, .int .i64 0, .int .i64 1, .int .i64 2]) (.agg #[.int .i64 0, .int .i64 0, .int .i64 1, .int .i64 2])).run Try.prog W = .ok (.bool true) W := by
  have h : ∀ d : Nat, (Op.equalIn (d + 3) 34 (.agg #[.int .i64 0, .int .i64 0, .int .i64 1, .int .i64 2]) (.agg #[.int .i64 0, .int .i64 0, .int .i64 1, .int .i64 2])).run Try.prog W = .ok true W := fun d => by
    simp [Op.equalIn, run_underlying Try.underlying34, run_underlying Try.underlying3, go_sem]
  simp only [binOp]
  simp [Op.equal, Op.maxDepth, h 9997]

set_option maxRecDepth 100000 in
set_option maxHeartbeats 8000000 in
theorem example_any (w : World) : Calls Try.prog 12 #[] w (Says true w) := by
  have J := Lib.hid (Held.nil w).toX
  have R1 := fun W k hk => Lib.hid (x_row1 W (k := k) hk)
  have R2 := fun W k hk => Lib.hid (x_row2 W (k := k) hk)
  have R3 := fun W k hk => Lib.hid (x_row3 W (k := k) hk)
  have R4 := fun W k hk => Lib.hid (x_row4' W (k := k) hk)
  have R5 := fun W k hk => Lib.hid (x_row5 W (k := k) hk)
  have N1 := fun W v h => Lib.hid (x_near (W := W) (v := v) h)
  have N2 := fun W v h => Lib.hid (x_box (W := W) (v := v) h)
  have N3 := fun W v h => Lib.hid (x_shr (W := W) (v := v) h)
  have N4 := fun W v h => Lib.hid (x_enl (W := W) (v := v) h)
  have M1 := fun W => Lib.hid (x_map W)
  have E1 := fun W => x_eqr W
  generalize hI : alpL [10, 20, 30, 40] = I at *
  generalize hIa : alpL [10, 30, 40] = Ia at *
  generalize hIb : alpL [13, 25, 38] = Ib at *
  generalize hIc : alpL [10, 21] = Ic at *
  generalize enlL 2 1 (alpL [1, 2]) 2 = Ie at *
  generalize hId : alpL [1, 2] = Id at *
  clear hI hIa hIb hIc hId
  unfold OutRow at R1 R2 R3 R4 R5
  unfold OutN at N1 N2 N3 N4
  go_enter Try.func12, Try.ntmps12
  go_wp2_with fail
  with_reducible refine (R1 w _ rfl).out.mono ?_
  rintro e w1 ⟨A1, c1, rfl, hp, hb⟩
  replace J := Lib.hid ((J.out.made _).step hb)
  clear hb
  go_wp2_with fail
  refine (N1 _ _ hp).out.mono ?_
  rintro e w2 ⟨A2, c2, rfl, hp2, hb⟩
  replace J := Lib.hid ((J.out.step hb).addP hp2)
  clear hb hp hp2
  go_wp2_with fail
  replace J := Lib.hid (J.out.alloc [.int .i64 3, .int .i64 1, .slice A2 3 c2] 24)
  have hs2 : (w2.alloc (.cells #[.int .i64 3, .int .i64 1, .slice A2 3 c2] 24)).heap.size = w2.heap.size + 1 := by rw [World.size_alloc]
  generalize w2.alloc (.cells #[.int .i64 3, .int .i64 1, .slice A2 3 c2] 24) = u2 at *
  generalize w2.heap.size = k2 at *
  with_reducible refine (R1 u2 _ hs2).out.mono ?_
  clear hs2
  rintro e w3 ⟨A3, c3, rfl, hp, hb⟩
  replace J := Lib.hid ((J.out.made _).step hb)
  clear hb
  go_wp2_with fail
  refine (N2 _ _ hp).out.mono ?_
  rintro e w4 ⟨A4, c4, rfl, hp2, hb⟩
  replace J := Lib.hid ((J.out.step hb).addP hp2)
  clear hb hp hp2
  go_wp2_with fail
  replace J := Lib.hid (J.out.alloc [.int .i64 3, .int .i64 1, .slice A4 3 c4] 24)
  have hs4 : (w4.alloc (.cells #[.int .i64 3, .int .i64 1, .slice A4 3 c4] 24)).heap.size = w4.heap.size + 1 := by rw [World.size_alloc]
  generalize w4.alloc (.cells #[.int .i64 3, .int .i64 1, .slice A4 3 c4] 24) = u4 at *
  generalize w4.heap.size = k4 at *
  with_reducible refine (R2 u4 _ hs4).out.mono ?_
  clear hs4
  rintro e w5 ⟨A5, c5, rfl, hp, hb⟩
  replace J := Lib.hid ((J.out.made _).step hb)
  clear hb
  go_wp2_with fail
  refine (N3 _ _ hp).out.mono ?_
  rintro e w6 ⟨A6, c6, rfl, _, hb⟩
  replace J := Lib.hid (J.out.step hb)
  clear hb hp
  go_wp2_with fail
  replace J := Lib.hid (J.out.made (.cells #[.int .i64 0, .int .i64 0, .slice A6 0 c6] 24))
  have hs6 : (w6.alloc (.cells #[.int .i64 0, .int .i64 0, .slice A6 0 c6] 24)).heap.size = w6.heap.size + 1 := by rw [World.size_alloc]
  generalize w6.alloc (.cells #[.int .i64 0, .int .i64 0, .slice A6 0 c6] 24) = u6 at *
  generalize w6.heap.size = k6 at *
  with_reducible refine (R3 u6 _ hs6).out.mono ?_
  clear hs6
  rintro e w7 ⟨A7, c7, rfl, hp, hb⟩
  replace J := Lib.hid ((J.out.made _).step hb)
  clear hb
  go_wp2_with fail
  refine (N4 _ _ hp).out.mono ?_
  rintro e w8 ⟨A8, c8, rfl, _, hb⟩
  replace J := Lib.hid (J.out.step hb)
  clear hb hp R1 R2 R3 N1 N2 N3 N4
  go_wp2_with fail
  replace J := Lib.hid (J.out.alloc [.int .i64 4, .int .i64 2, .slice A8 8 c8] 24)
  generalize w8.alloc (.cells #[.int .i64 4, .int .i64 2, .slice A8 8 c8] 24) = u8 at *
  generalize w8.heap.size = k8 at *
  have sk := And.intro (J.out.drew.held.three (l1 := [_, _])) (And.intro (J.out.drew.held.three (l1 := [_])) (J.out.drew.held.three (l1 := [])))
  have sj := fun o => And.intro ((J.out.made o).drew.held.three (l1 := [_, _])) (And.intro ((J.out.made o).drew.held.three (l1 := [_])) ((J.out.made o).drew.held.three (l1 := [])))
  go_region_held3 (fun W => (W.cell? ⟨k2, 0, none⟩ = some (.int .i64 3) ∧ W.cell? ⟨k2, 1, none⟩ = some (.int .i64 1) ∧ W.cell? ⟨k2, 2, none⟩ = some (.slice A2 3 c2)) ∧ (W.cell? ⟨k4, 0, none⟩ = some (.int .i64 3) ∧ W.cell? ⟨k4, 1, none⟩ = some (.int .i64 1) ∧ W.cell? ⟨k4, 2, none⟩ = some (.slice A4 3 c4)) ∧ (W.cell? ⟨k8, 0, none⟩ = some (.int .i64 4) ∧ W.cell? ⟨k8, 1, none⟩ = some (.int .i64 2) ∧ W.cell? ⟨k8, 2, none⟩ = some (.slice A8 8 c8)))
    (first
      | exact sk
      | exact sj _
      | go_keep)
    (first
      | (go_at_call 31; (with_reducible refine (R4 u8 _ rfl).out.mono ?_); rintro e x1 ⟨B1, d1, rfl, hp, hb⟩; replace J := Lib.hid ((((J.out.made _).drew).step hb).addP hp); clear hb hp sk sj; have sk := And.intro (J.out.held.three (l1 := [_, _])) (And.intro (J.out.held.three (l1 := [_])) (J.out.held.three (l1 := []))))
      | (go_at_call 15; (with_reducible refine (Lib.hid (lsame_self J.out.fact.2.2.1 J.out.fact.1)).out.mono ?_); rintro e x2 ⟨rfl, hb⟩; replace J := Lib.hid (J.out.step hb); clear hb sk; have sk := And.intro (J.out.held.three (l1 := [_, _])) (And.intro (J.out.held.three (l1 := [_])) (J.out.held.three (l1 := []))); have sj := fun o => And.intro ((J.out.made o).held.three (l1 := [_, _])) (And.intro ((J.out.made o).held.three (l1 := [_])) ((J.out.made o).held.three (l1 := []))))
      | (go_at_call 31; (with_reducible refine (R5 x2 _ rfl).out.mono ?_); rintro e x3 ⟨B3, d3, rfl, hp, hb⟩; replace J := Lib.hid (((J.out.made _).step hb).addP hp); clear hb hp sk sj; have sk := And.intro (J.out.held.three (l1 := [_, _])) (And.intro (J.out.held.three (l1 := [_])) (J.out.held.three (l1 := []))))
      | (go_at_call 15; (with_reducible refine (Lib.hid (lsame_self J.out.fact.2.2.1 J.out.fact.1)).out.mono ?_); rintro e x4 ⟨rfl, hb⟩; replace J := Lib.hid (J.out.step hb); clear hb sk; have sk := And.intro (J.out.held.three (l1 := [_, _])) (And.intro (J.out.held.three (l1 := [_])) (J.out.held.three (l1 := []))))
      | (go_at_call 22; (with_reducible refine (M1 _).out.mono ?_); rintro e x5 ⟨rfl, hb⟩; replace J := Lib.hid (J.out.step hb); clear hb sk; have sk := And.intro (J.out.held.three (l1 := [_, _])) (And.intro (J.out.held.three (l1 := [_])) (J.out.held.three (l1 := []))))
      | fail)
  all_goals
    go_wp2_with fail
    go_ret
    exact ⟨rfl, J.out.below⟩

end Go.Proofs.Ytnkbejbpkjkgeaa
