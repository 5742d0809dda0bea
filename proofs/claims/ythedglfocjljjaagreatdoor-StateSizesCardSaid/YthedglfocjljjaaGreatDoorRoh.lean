/-
  strips: the iterator over the strips of two lists.
-/
import Derived.Test.YthedglfocjljjaaGreatDoorRof
import Derived.Test.YthedglfocjljjaaGreatDoorRog
import Derived.Deep.RegionHeld3
import Derived.Test.YthedglfocjljjaaGreatDoorRoc
import Derived.Test.YthedglfocjljjaaGreatDoorRob
import Derived.Test.YthedglfocjljjaaGreatDoorRoe
namespace Go.Proofs.YthedglfocjljjaaGreatDoor.Rgn
open Go.RowKit Go.Maps Go.Shelf
attribute [local go_sem] Oper.semAt_some

theorem own_zero {w : World} {base : Nat} {e : TypeId} {size n c : Nat} {A : Option Addr} {xs : List Value} (h : w.ownsRow base e size (.slice A n c) n xs) : w.ownsRow base e size (.slice A 0 c) 0 [] := by
  rcases h.2 with ⟨hv, _⟩ | ⟨g, cap, cur, hv, _⟩
  · cases hv
    exact World.ownsRow_nil _ _ _ _
  · cases hv
    have h2 := own_cut h (m := 0) (Nat.zero_le _)
    simpa using h2

theorem GrownIn.is {X : Nat → Prop} {w w1 : World} (h : GrownIn X w w1) {v : Value} {l : List Int} (ho : Is w v l) (hX : ∀ k, blk v k → ¬ X k) : Is w1 v l := by
  obtain ⟨A, c, rfl, h1, h2, h3⟩ := ho
  refine ⟨A, c, rfl, h1, h2, fun h0 => ?_⟩
  obtain ⟨b, off, rfl, hb, hc⟩ := h3 h0
  exact ⟨b, off, rfl, Nat.lt_of_lt_of_le hb h.size, fun j x hj => (h.cell (a := ⟨b, off + j, none⟩) hb (hX b rfl)).trans (hc j x hj)⟩

structure Zone (b : Nat) (h : Option Obj) (V : Int → Value) (vz : Value) (f : Int → List E) (zs : List Int) (j : Nat) (w : World) : Prop where
  map : w.heap[b]? = h
  keys : Is w vz zs
  rows : ∀ i y, j ≤ i → zs[i]? = some y → OwnE w (b + 2) (V y) (f y)

theorem Zone.kept {P : Nat → Prop} {b : Nat} {h : Option Obj} {V : Int → Value} {vz : Value} {f : Int → List E} {zs : List Int} {j j' : Nat} {w w' : World} (hz : Zone b h V vz f zs j w) (hg : GrownIn P w w') (hbl : b < w.heap.size) (hb : ¬ P b) (hk : ∀ k, blk vz k → ¬ P k)
    (hr : ∀ i y, j' ≤ i → zs[i]? = some y → ∀ k, blk (V y) k → ¬ P k) (hj : j ≤ j') : Zone b h V vz f zs j' w' :=
  ⟨(hg.block b hbl hb).trans hz.map, hg.is hz.keys hk, fun i y hi hy => hg.own (hz.rows i y (Nat.le_trans hj hi) hy) (hr i y hi hy)⟩

def XS (Kb b B2 : Nat) (ve vs vt : Value) (k : Nat) : Prop := k = Kb ∨ (b ≤ k ∧ k < B2) ∨ blk ve k ∨ blk vs k ∨ blk vt k

theorem blk_cut {A : Option Addr} {n m c d k : Nat} (h : blk (.slice A n c) k) : blk (.slice A m d) k := by
  cases A
  · simp [blk, Value.ownBlock] at h
  · exact h

theorem blk_apart {u v : Value} (h : Apart u v) : ∀ k, blk u k → ¬ blk v k := fun k h1 h2 => by
  rcases h with h | h
  · unfold blk at h1
    rw [h] at h1
    cases h1
  · exact h (h1.trans h2.symm)

theorem rr_start {op : Op2} (h0 : op false false = false) (a b : List R) (zs : List Int) : rrP op a b (rowAt zs 0) = [] := by
  refine runs_unique (rrP_ok h0 a b _) (runs_nil fun x => ?_)
  cases e : setS op a b x (rowAt zs 0)
  · rfl
  · have := setS_inside h0 a b x _ e
    simp only [rowAt] at this
    omega

theorem key_wf {a b : List R} {y : Int} (h : y ∈ ysP a b) : (Lit.int .i64 y).wf = true := by
  rcases ysP_mem.1 h with ⟨r, _, he, h⟩ | ⟨r, _, he, h⟩ <;> (have := (emp_no r).1 he; exact wf_of (by omega) (by omega))

theorem abx {J : (Nat → Prop) → List Band → World → Prop} (hJ : AbX J) {X X' Y : Nat → Prop} {pre : List Band} {U V : World} (h : J X pre U) (hg : GrownIn Y U V) (hY : ∀ k, k < U.heap.size → Y k → X k) (hX : ∀ k, X' k → X k ∨ U.heap.size ≤ k) : J X' pre V :=
  hJ X X' pre U V h (hg.mono hY) hX

set_option maxRecDepth 100000 in
set_option maxHeartbeats 8000000 in
theorem strips1_in (n : Nat) (hn : 1 ≤ n) (l A B Kb k : Nat) {op : Op2} (hop : KeepsOp k op) (h00 : op false false = false) {va vb : Value} {a b : List R} (J : (Nat → Prop) → List Band → World → Prop) (Jx : List Band → World → Prop) (W : World)
    (hA : W.cell? ⟨A, 0, none⟩ = some va) (hB : W.cell? ⟨B, 0, none⟩ = some vb) (hK : W.cell? ⟨Kb, 0, none⟩ = some (.func (.func k) #[] #[])) (ha : Rs W va a) (hb : Rs W vb b) (hl : a.length + b.length ≤ 1000) (hJ : AbX J) (L : List Band) (hL : L = stripsL op a b)
    (hY : ∀ X pre b v U, J X pre U → pre ++ [b] <+: L → Rs U v (bandR b) → (∀ k, blk v k → X k) → (∀ k, X k → k < U.heap.size) → YieldAt Fence.wide (n - 1) Tryz.prog l #[v] U fun e U' =>
      (e = .returned (.bool true) ∧ J X (pre ++ [b]) U' ∧ GrownIn (fun k => ¬ X k) U U') ∨ (e = .returned (.bool false) ∧ Jx (pre ++ [b]) U'))
    (h0 : J (fun j => j = Kb) [] W) :
    CallsIn Fence.wide n Tryz.prog 114 #[.func (.yield l) #[] #[], .pointer (some ⟨A, 0, none⟩), .pointer (some ⟨B, 0, none⟩), .pointer (some ⟨Kb, 0, none⟩)] W fun e W' => (∃ v, e = .returned v) ∧
      ((∃ X, J X L W') ∨ (∃ pre, pre <+: L ∧ Jx pre W')) := by
  have C1 := Lib.hid (changes_any ha hb hl)
  have HKb : Kb < W.heap.size := World.block_lt_of_cell? W _ hK
  have HY := Lib.hid hY
  have HJ := Lib.hid hJ
  have H0 := Lib.hid h0
  have HL := Lib.hid hL
  have HKc := Lib.hid hK
  have HOP := Lib.hid hop
  have HLEN := Lib.hid hl
  have H00 := Lib.hid h00
  clear hY hJ h0 hL hK hop hl h00 ha hb
  refine callsIn_of_wp Tryz.func114 rfl trivial ?_ rfl
  simp only [Tryz.ntmps114, List.size_toArray, List.length_cons, List.length_nil, Nat.reduceAdd, Nat.reduceSub, Array.replicate_succ, Array.replicate_zero, List.push_toArray, List.append_toArray, List.nil_append, List.cons_append]
  gi_wp2
  refine ⟨trivial, ?_⟩
  refine (callsIn_wide.2 C1.out).mono ?_
  rintro e w1 ⟨rfl, D, m, hG, hC, hm, hb1⟩
  have HG := Lib.hid hG
  have HC := Lib.hid hC
  have HB1 := Lib.hid hb1
  have HM := Lib.hid hm
  clear C1 hA hB hG hC hb1 hm
  gi_wp2
  refine ⟨trivial, ?_⟩
  refine (callsIn_wide.2 (keys_calls _ _)).mono ?_
  rintro e w2 ⟨rfl, rfl⟩
  gi_wp2
  refine ⟨trivial, ?_⟩
  have HS := Lib.hid (sorted_calls HG.out HC.out (ysP_inc a b) (fun z => by rw [ysP_mem]; rfl) (by have := ys_len a b; have := HLEN.out; omega))
  refine (callsIn_wide.2 HS.out).mono ?_
  rintro e w2 ⟨vz, rfl, hz, hb2⟩
  have HZ0 := Lib.hid hz
  have HB2 := Lib.hid hb2
  obtain ⟨zs, hzs⟩ : ∃ zs, ysP a b = zs := ⟨_, rfl⟩
  have HZS := Lib.hid hzs
  rw [hzs] at HZ0
  clear hz hb2 HS hzs
  obtain ⟨b0, hb0⟩ : ∃ b0, W.heap.size = b0 := ⟨_, rfl⟩
  obtain ⟨V, hV, hap⟩ := grp_pick HG.out (by have := HM.out; have := HLEN.out; simp only [maxLen]; omega) HC.out
  rw [hb0] at hV HG
  have hw1 : b0 < w1.heap.size := HG.out.owns.lt
  have g12 : GrownIn (fun _ => False) w1 w2 := ((GrownIn.refl _ w1).alloc _).trans ⟨HB2.out.os, HB2.out.tape, HB2.out.output, HB2.out.size, fun k hk _ => HB2.out.block k (by simpa using hk)⟩
  have HZN0 : Hid (Zone b0 w1.heap[b0]? V vz (chg a b) zs 0 w2) := Lib.hid ⟨g12.block b0 hw1 (fun h => h), OwnI.is HZ0.out, fun i y _ hy => g12.own (hV y (key_wf (by rw [HZS.out]; exact List.mem_of_getElem? hy))).2 (fun _ _ h => h)⟩
  have HVB : Hid (∀ y ∈ zs, ∀ k, blk (V y) k → b0 + 2 ≤ k ∧ k < w1.heap.size) := Lib.hid (fun y hy k hk => own_blk (hV y (key_wf (by rw [HZS.out]; exact hy))).2 k hk)
  have HAP : Hid (∀ y ∈ zs, ∀ z ∈ zs, y ≠ z → ∀ k, blk (V y) k → ¬ blk (V z) k) := Lib.hid (fun y hy z hz => hap y z (key_wf (by rw [HZS.out]; exact hy)) (key_wf (by rw [HZS.out]; exact hz)))
  have HLK : Hid (∀ y ∈ zs, RowAtKey b0 w1.heap[b0]? y (V y)) := Lib.hid (fun y hy => (hV y (key_wf (by rw [HZS.out]; exact hy))).1)
  have HZB : Hid (∀ k, blk vz k → w1.heap.size + 1 ≤ k ∧ k < w2.heap.size) := Lib.hid (own_blk HZ0.out)
  have gW2 : GrownIn (fun _ => False) W w2 := (GrownIn.of_below HB1.out).trans g12
  have hW2 : b0 < w2.heap.size := Nat.lt_of_lt_of_le hw1 g12.size
  have hw12 : w1.heap.size + 1 ≤ w2.heap.size := by have := HB2.out.size; simpa using this
  obtain ⟨B2, hB2⟩ : ∃ B2, w2.heap.size = B2 := ⟨_, rfl⟩
  have HJ0 : Hid (J (XS Kb b0 B2 (.slice none 0 0) (.slice none 0 0) (.slice none 0 0)) [] w2) := Lib.hid (abx HJ.out H0.out gW2 (fun _ _ h => h.elim) (fun k hk => by
    rcases hk with h | h | h | h | h
    · exact .inl h
    · exact .inr (by omega)
    · simp [blk, Value.ownBlock] at h
    · simp [blk, Value.ownBlock] at h
    · simp [blk, Value.ownBlock] at h))
  have HK2 : Hid (w2.cell? ⟨Kb, 0, none⟩ = some (.func (.func k) #[] #[])) := Lib.hid ((gW2.cell (a := ⟨Kb, 0, none⟩) HKb (fun h => h)).trans HKc.out)
  obtain ⟨Az, cz, rfl, hcz, hmz, hcell⟩ := id HZN0.out.keys
  obtain ⟨nz, hnz⟩ : ∃ nz, zs.length = nz := ⟨_, rfl⟩
  have HNZ := Lib.hid hnz
  rw [hnz] at HZ0 HZN0 HZB hcz ⊢
  simp only [maxLen] at hmz
  have HNL : Hid (nz ≤ 2000) := Lib.hid (by rw [← hnz, ← HZS.out]; have := ys_len a b; have := HLEN.out; omega)
  have hnl := HNL.out
  have hKb0 : Kb < b0 := by omega
  clear hV hap g12 gW2 HB1 HB2 H0 HKc HG HC HM HZ0 hcell hnz
  gi_wp2
  gi_loopw [6, 7, 8, 9, 19] (fun ve vs vt top i wr => ∃ (j : Nat) (T : Int) (es ls : List E) (rs : List R) (pre : List Band), j ≤ nz ∧ i = .int .i64 (j : Int) ∧ top = .int .i64 T ∧ Hid (OwnE wr B2 ve es ∧ OwnE wr B2 vs ls ∧ OwnR wr B2 vt rs ∧ (∀ k, blk ve k → ¬ blk vs k) ∧ Zone b0 w1.heap[b0]? V (.slice Az nz cz) (chg a b) zs j wr ∧ wr.cell? ⟨Kb, 0, none⟩ = some (.func (.func k) #[] #[]) ∧ J (XS Kb b0 B2 ve vs vt) pre wr ∧ Est a b zs j es ∧ pre ++ restAt op a b j = L ∧ (0 < j → T = rowAt zs j) ∧ B2 ≤ wr.heap.size)) (fun _ _ _ _ i _ => nz - (RowKit.intOf i).toNat)
  case atStart => exact ⟨0, 0, [], [], [], [], by omega, rfl, rfl, ownE_nil _ _, ownE_nil _ _, ownR_nil _ _, fun k hk => by simp [blk, Value.ownBlock] at hk, HZN0.out, HK2.out, HJ0.out, by have h := est_start a b zs; exact h, by rw [HL.out]; rfl, fun h => by omega, by omega⟩
  case round =>
    obtain ⟨j, T, es, ls, rs, pre, hj, rfl, rfl, hrel⟩ := hrel
    by_cases hlt : j < nz
    · obtain ⟨y, hy⟩ : ∃ y, zs[j]? = some y := ⟨_, List.getElem?_eq_getElem (by rw [HNZ.out]; exact hlt)⟩
      have HVE := Lib.hid hrel.out.1
      have HVS := Lib.hid hrel.out.2.1
      have HVT := Lib.hid hrel.out.2.2.1
      have HAS := Lib.hid hrel.out.2.2.2.1
      have HZN := Lib.hid hrel.out.2.2.2.2.1
      have HKr := hrel.out.2.2.2.2.2.1
      have HJr := Lib.hid hrel.out.2.2.2.2.2.2.1
      have HE := Lib.hid hrel.out.2.2.2.2.2.2.2.1
      have HR := Lib.hid hrel.out.2.2.2.2.2.2.2.2.1
      have HT := Lib.hid hrel.out.2.2.2.2.2.2.2.2.2.1
      have hszr := hrel.out.2.2.2.2.2.2.2.2.2.2
      obtain ⟨Az', cz', ez, _, _, hcz2⟩ := id HZN.out.keys
      rw [HNZ.out] at ez hcz2
      injection ez with ez1 _ ez3
      subst ez1 ez3
      obtain ⟨bz, oz, rfl, hbz, hcz3⟩ := hcz2 (by omega)
      have x0 := hcz3 j y hy
      have HYM : Hid (y ∈ zs) := Lib.hid (List.mem_of_getElem? hy)
      have HYJ := Lib.hid hy
      obtain ⟨Ae, ce, rfl, hce, hme, jk1⟩ := id HVE.out.es
      obtain ⟨As, cs, rfl, hcs, hms, jk2⟩ := id HVS.out.es
      obtain ⟨At, ct, rfl, hct, hmt, jk3⟩ := id HVT.out.rs
      simp only [maxLen] at hme hms hmt
      clear jk1 jk2 jk3
      have q0 : (j : Int) < nz := by omega
      have q1 : (0 : Int) ≤ j := by omega
      clear hrel hcz2 hcz3 hy
      gi_wp2
      refine wpIn_wide.2 ?_
      have HEB : Hid (wt es ≤ 4000 ∧ es.length ≤ 4000) := Lib.hid (by
        have h := HE.out
        rw [← HZS.out] at h
        have := h.bound
        have := HLEN.out
        omega)
      have HRU : Hid (runsGo op es 0 0 none = rrP op a b (rowAt zs j)) := Lib.hid (HE.out.runs H00.out)
      obtain ⟨ru, hru⟩ : ∃ ru, runsGo op es 0 0 none = ru := ⟨_, rfl⟩
      have C7 := Lib.hid (appendRuns_any (w := wr.drew) (base := B2) HOP.out (vs := .slice At 0 ct) (ve := .slice Ae es.length ce) (es := es) (World.ownsRow.drew (own_zero HVT.out)) (show Es wr.drew _ _ from HVE.out.es)
        (fun k hk h => blk_apart (owns_types HVE.out HVT.out (by decide)) k hk (blk_cut h)) hszr T y (by have := HEB.out; omega))
      rw [hru] at C7 HRU
      clear hru
      obtain ⟨ne, hne⟩ : ∃ ne, es.length = ne := ⟨_, rfl⟩
      have HVEs : Hid (wr.ownsRow B2 129 3 (.slice Ae ne ce) ne (flatE es)) := Lib.hid (by rw [← hne]; exact HVE.out)
      have HNE := Lib.hid hne
      rw [hne] at hce C7 HAS HJr
      rw [hne]
      clear hne HVE
      obtain ⟨ns, hns⟩ : ∃ ns, ls.length = ns := ⟨_, rfl⟩
      have HVSs : Hid (wr.ownsRow B2 129 3 (.slice As ns cs) ns (flatE ls)) := Lib.hid (by rw [← hns]; exact HVS.out)
      rw [hns] at hcs HAS HJr
      rw [hns]
      clear hns HVS
      obtain ⟨nt, hnt⟩ : ∃ nt, rs.length = nt := ⟨_, rfl⟩
      have HVTs : Hid (wr.ownsRow B2 53 4 (.slice At nt ct) nt (flat rs)) := Lib.hid (by rw [← hnt]; exact HVT.out)
      rw [hnt] at hct HJr
      rw [hnt]
      clear hnt HVT
      go_region_held3 (fun W => W.cell? ⟨Kb, 0, none⟩ = some (.func (.func k) #[] #[]))
        (first
          | go_keep
          | exact s5)
        (first
          | (go_at_call 118; (with_reducible refine C7.out.mono ?_); rintro e w5 ⟨v5, rfl, ho5, hg5, hn5⟩; have s5 : w5.cell? ⟨Kb, 0, none⟩ = some (.func (.func k) #[] #[]) := (hg5.cell (a := ⟨Kb, 0, none⟩) (show Kb < wr.heap.size by omega) (fun h => by have : B2 ≤ Kb := (own_blk HVTs.out _ (blk_cut h)).1; omega)).trans HKr))
      have HO5 : Hid (OwnR w5 B2 v5 (bandR (T, y, ru))) := Lib.hid ho5
      have HG5 : Hid (GrownIn (blk (.slice At 0 ct)) wr w5) := Lib.hid (((GrownIn.refl _ wr).drew).trans hg5)
      have HN5 : Hid (NewOr wr (.slice At 0 ct) v5) := Lib.hid hn5
      have HBT : Hid (∀ k, blk (.slice At 0 ct) k → B2 ≤ k) := Lib.hid (fun k hk => (own_blk HVTs.out k (blk_cut hk)).1)
      have HVE5 : Hid (w5.ownsRow B2 129 3 (.slice Ae ne ce) ne (flatE es)) := Lib.hid (HG5.out.own HVEs.out (fun k hk h => blk_apart (owns_types HVEs.out HVTs.out (by decide)) k hk (blk_cut h)))
      have HVS5 : Hid (w5.ownsRow B2 129 3 (.slice As ns cs) ns (flatE ls)) := Lib.hid (HG5.out.own HVSs.out (fun k hk h => blk_apart (owns_types HVSs.out HVTs.out (by decide)) k hk (blk_cut h)))
      have HZN5 : Hid (Zone b0 w1.heap[b0]? V (.slice (some ⟨bz, oz, none⟩) nz cz) (chg a b) zs j w5) := Lib.hid (HZN.out.kept HG5.out (by omega) (fun h => by have := HBT.out _ h; omega) (fun k hk h => by have := HBT.out _ h; have := HZB.out k hk; omega) (fun i z _ hz k hk h => by have := HBT.out _ h; have := HVB.out z (List.mem_of_getElem? hz) k hk; omega) (Nat.le_refl _))
      have HJ5 : Hid (J (XS Kb b0 B2 (.slice Ae ne ce) (.slice As ns cs) v5) pre w5) := Lib.hid (abx HJ.out HJr.out HG5.out (fun k _ hk => .inr (.inr (.inr (.inr (blk_cut hk))))) (fun k hk => by
        rcases hk with h | h | h | h | h
        · exact .inl (.inl h)
        · exact .inl (.inr (.inl h))
        · exact .inl (.inr (.inr (.inl h)))
        · exact .inl (.inr (.inr (.inr (.inl h))))
        · by_cases hlt6 : k < wr.heap.size
          · exact .inl (.inr (.inr (.inr (.inr (blk_cut (NewOr.sub HN5.out k hlt6 h))))))
          · exact .inr (by omega)))
      have HK5 := s5
      have hs5 : B2 ≤ w5.heap.size := Nat.le_trans hszr HG5.out.size
      have HVE5 : Hid (OwnE w5 B2 (.slice Ae ne ce) es) := Lib.hid (by have h := HVE5.out; unfold OwnE; rw [HNE.out]; exact h)
      clear s5 ho5 hg5 hn5 C7 HKr HG5 HN5 HBT HVEs HVSs HVTs HZN HJr x0
      rcases hrc : ru with _ | ⟨pr, rt⟩
      · rw [hrc] at HO5 HRU
        have hn5 : (bandR (T, y, ([] : Runs))).length = 0 := by rw [bandR_len]; rfl
        obtain ⟨A5, c5, rfl, hc5, hm5, jk⟩ := id HO5.out.rs
        rw [hn5] at hc5 HJ5 ⊢
        have HO5b : Hid (OwnR w5 B2 (.slice A5 0 c5) (bandR (T, y, ([] : Runs)))) := Lib.hid (by have h := HO5.out; rw [hn5] at h; exact h)
        have HR7 : Hid (pre ++ restAt op a b (j + 1) = L) := Lib.hid (by
          have h1 := HYJ.out
          have h2 := HRU.out
          rw [← HZS.out] at h1 h2
          have h3 := rest_next H00.out h1
          rw [if_pos h2.symm] at h3
          rw [← h3]
          exact HR.out)
        simp only [maxLen] at hm5
        clear jk hn5 HO5 HRU HR HT
        gi_wp2
        repeat (refine ⟨fun _ h => (by cases h), ?_⟩; gi_wp2)
        have g56 : GrownIn (fun _ => False) w5 w5 := GrownIn.refl _ _
        have nx6 : ∀ k, (fun _ : Nat => False) k → XS Kb b0 B2 (.slice Ae ne ce) (.slice As ns cs) (.slice A5 0 c5) k → False := fun _ h _ => h
        have HJ6 := HJ5
        have HVE6 : Hid (OwnE w5 B2 (.slice Ae ne ce) es) := Lib.hid (g56.own HVE5.out (fun k hk h => nx6 k h (.inr (.inr (.inl hk)))))
        have HVS6 : Hid (w5.ownsRow B2 129 3 (.slice As ns cs) ns (flatE ls)) := Lib.hid (g56.own HVS5.out (fun k hk h => nx6 k h (.inr (.inr (.inr (.inl hk))))))
        have HVT6 : Hid (OwnR w5 B2 (.slice A5 0 c5) (bandR (T, y, ([] : Runs)))) := Lib.hid (g56.own HO5b.out (fun k hk h => nx6 k h (.inr (.inr (.inr (.inr hk))))))
        have HZN6 : Hid (Zone b0 w1.heap[b0]? V (.slice (some ⟨bz, oz, none⟩) nz cz) (chg a b) zs j w5) := Lib.hid (HZN5.out.kept g56 (by omega) (fun h => nx6 b0 h (.inr (.inl ⟨by omega, by omega⟩))) (fun k hk h => nx6 k h (.inr (.inl (by have := HZB.out k hk; omega)))) (fun i z _ hz k hk h => nx6 k h (.inr (.inl (by have := HVB.out z (List.mem_of_getElem? hz) k hk; omega)))) (Nat.le_refl _))
        have HK6 : w5.cell? ⟨Kb, 0, none⟩ = some (.func (.func k) #[] #[]) := (g56.cell (a := ⟨Kb, 0, none⟩) (show Kb < w5.heap.size by omega) (fun h => nx6 Kb h (.inl rfl))).trans HK5
        have hs6 : B2 ≤ w5.heap.size := Nat.le_trans hs5 g56.size
        clear HJ5 g56 nx6 HVE5 HVS5 HO5b HZN5 HK5 hs5
        have hL1 : (Instr.lookup 114 (.map (some b0)) (.int .i64 y) false).run Tryz.prog w5.drew = .ok (V y) w5.drew := HLK.out y HYM.out w5.drew HZN6.out.map
        have HOV : Hid (OwnE w5 (b0 + 2) (V y) (chg a b y)) := Lib.hid (HZN6.out.rows j y (Nat.le_refl _) HYJ.out)
        have HBV : Hid (∀ k, blk (V y) k → b0 + 2 ≤ k ∧ k < w1.heap.size) := Lib.hid (HVB.out y HYM.out)
        have HBE : Hid (∀ k, blk (.slice Ae ne ce) k → B2 ≤ k ∧ k < w5.heap.size) := Lib.hid (own_blk HVE6.out)
        have HBS : Hid (∀ k, blk (.slice As 0 cs) k → B2 ≤ k) := Lib.hid (fun k hk => (own_blk HVS6.out k (blk_cut hk)).1)
        have C9 := Lib.hid (appendSum_any (w := w5.drew) (base := B2) (bs := B2) (bc := b0 + 2) (vs := .slice As 0 cs) (ve := .slice Ae ne ce) (vc := V y) (es := es) (ch := chg a b y) (World.ownsRow.drew (own_zero HVS6.out)) (World.ownsRow.drew HVE6.out) (World.ownsRow.drew HOV.out)
          (fun k hk h => HAS.out k hk (blk_cut h)) (fun k hk h => by have := HBV.out k hk; have := HBS.out k h; omega) (fun k hk h => by have := HBV.out k h; have := HBE.out k hk; omega) hs6 (by have := HEB.out; have := chg_wt a b y; have := HLEN.out; omega))
        refine wpIn_wide.2 ?_
        go_region_held3 (fun _ => True) (trivial)
          (first
            | (go_at_call 119; (with_reducible refine C9.out.mono ?_); rintro e w7 ⟨v7, ch7, rfl, hp7, hs7, ho7, hg7, hn7⟩))
        have HP7 := Lib.hid hp7
        have HSS7 := Lib.hid hs7
        have HO7 := Lib.hid ho7
        have HG7 : Hid (GrownIn (fun k => blk (.slice As 0 cs) k ∨ blk (V y) k) w5 w7) := Lib.hid (((GrownIn.refl _ w5).drew).trans hg7)
        have HN7 : Hid (NewOr w5 (.slice As 0 cs) v7) := Lib.hid hn7
        have HVE7 : Hid (OwnE w7 B2 (.slice Ae ne ce) es) := Lib.hid (HG7.out.own HVE6.out (fun k hk h => by
          rcases h with h | h
          · exact HAS.out k hk (blk_cut h)
          · have := HBV.out k h; have := HBE.out k hk; omega))
        have HVT7 : Hid (OwnR w7 B2 (.slice A5 0 c5) (bandR (T, y, ([] : Runs)))) := Lib.hid (HG7.out.own HVT6.out (fun k hk h => by
          rcases h with h | h
          · exact blk_apart (owns_types HVT6.out HVS6.out (by decide)) k hk (blk_cut h)
          · exact blk_apart (owns_types HVT6.out HOV.out (by decide)) k hk h))
        have HZN7 : Hid (Zone b0 w1.heap[b0]? V (.slice (some ⟨bz, oz, none⟩) nz cz) (chg a b) zs (j + 1) w7) := Lib.hid (HZN6.out.kept HG7.out (by omega) (fun h => by
            rcases h with h | h
            · have := HBS.out _ h; omega
            · have := HBV.out _ h; omega) (fun k hk h => by
            have hk' := HZB.out k hk
            rcases h with h | h
            · have := HBS.out _ h; omega
            · have := HBV.out _ h; omega) (fun i z hi hz k hk h => by
            have hzm := List.mem_of_getElem? hz
            have hne : z ≠ y := fun e => by
              subst e
              have h1 := (List.getElem?_eq_some_iff.1 hz).2
              have h2 := (List.getElem?_eq_some_iff.1 HYJ.out).2
              have h3 := List.pairwise_iff_getElem.1 (ysP_inc a b)
              rw [HZS.out] at h3
              have := h3 j i (List.getElem?_eq_some_iff.1 HYJ.out).1 (List.getElem?_eq_some_iff.1 hz).1 (by omega)
              rw [h1, h2] at this
              omega
            rcases h with h | h
            · have := HBS.out _ h; have := HVB.out z hzm k hk; omega
            · exact HAP.out z hzm y HYM.out hne k hk h) (by omega))
        have HK7 : Hid (w7.cell? ⟨Kb, 0, none⟩ = some (.func (.func k) #[] #[])) := Lib.hid ((HG7.out.cell (a := ⟨Kb, 0, none⟩) (show Kb < w5.heap.size by omega) (fun h => by
            rcases h with h | h
            · have : B2 ≤ Kb := HBS.out _ h
              omega
            · have : b0 + 2 ≤ Kb := (HBV.out _ h).1
              omega)).trans HK6)
        have HAS7 : Hid (∀ k, blk v7 k → ¬ blk (.slice Ae ne ce) k) := Lib.hid (fun k h1 h2 => NewOr.apart HN7.out (fun k hk h => HAS.out k hk (blk_cut h)) (fun k hk => (HBE.out k hk).2) k h2 h1)
        have HJ7 : Hid (J (XS Kb b0 B2 v7 (.slice Ae ne ce) (.slice A5 0 c5)) pre w7) := Lib.hid (abx HJ.out HJ6.out HG7.out (fun k _ hk => by
            rcases hk with h | h
            · exact .inr (.inr (.inr (.inl (blk_cut h))))
            · exact .inr (.inl (by have := HBV.out _ h; omega))) (fun k hk => by
            rcases hk with h | h | h | h | h
            · exact .inl (.inl h)
            · exact .inl (.inr (.inl h))
            · by_cases hlt6 : k < w5.heap.size
              · exact .inl (.inr (.inr (.inr (.inl (blk_cut (NewOr.sub HN7.out k hlt6 h))))))
              · exact .inr (by omega)
            · exact .inl (.inr (.inr (.inl h)))
            · exact .inl (.inr (.inr (.inr (.inr h))))))
        have HE7 : Hid (Est a b zs (j + 1) (addAll [] es ch7)) := Lib.hid (by
          have h1 := HE.out
          have h2 := HYJ.out
          rw [← HZS.out] at h1 h2 ⊢
          exact h1.next h2 HP7.out HSS7.out)
        have HT7 : Hid (y = rowAt zs (j + 1)) := Lib.hid (rowAt_next HYJ.out).symm
        have hs7z : B2 ≤ w7.heap.size := Nat.le_trans hs6 HG7.out.size
        clear hp7 hs7 ho7 hg7 hn7 C9 hL1 HVE6 HVS6 HVT6 HZN6 HK6 HOV HBV HBE HBS HJ6 HE HP7 HSS7 HN7 HG7
        gi_wp2
        go_roundw
        case rel => exact ⟨j + 1, y, addAll [] es ch7, es, bandR (T, y, ([] : Runs)), pre, by omega, by go_num, rfl, HO7.out, (by have h := HVE7.out; exact h), HVT7.out, HAS7.out, HZN7.out, HK7.out, HJ7.out, HE7.out, HR7.out, fun _ => HT7.out, hs7z⟩
        case measure => simp [RowKit.intOf]; omega
      · rw [hrc] at HO5 HRU
        obtain ⟨n5, hn5⟩ : ∃ n5, (bandR (T, y, pr :: rt)).length = n5 := ⟨_, rfl⟩
        have hpos : 0 < n5 := by rw [← hn5, bandR_len]; simp
        obtain ⟨A5, c5, rfl, hc5, hm5, jk⟩ := id HO5.out.rs
        have HRS5 : Hid (Rs w5 (.slice A5 n5 c5) (bandR (T, y, pr :: rt))) := Lib.hid (by have h := HO5.out.rs; rw [hn5] at h; exact h)
        rw [hn5] at hc5 HJ5 ⊢
        have HO5b : Hid (OwnR w5 B2 (.slice A5 n5 c5) (bandR (T, y, pr :: rt))) := Lib.hid (by have h := HO5.out; rw [hn5] at h; exact h)
        have HR7 : Hid ((pre ++ [(T, y, pr :: rt)]) ++ restAt op a b (j + 1) = L) := Lib.hid (by
          have h1 := HYJ.out
          have h2 := HRU.out
          have h4 : T = rowAt zs j := by
            refine HT.out ?_
            rcases Nat.eq_zero_or_pos j with h0 | h0
            · rw [h0, rr_start H00.out] at h2
              cases h2
            · exact h0
          rw [← HZS.out] at h1 h2 h4
          have h3 := rest_next H00.out h1
          rw [if_neg (by rw [← h2]; simp), ← h2, ← h4] at h3
          rw [← HR.out, h3, List.append_assoc]
          rfl)
        have hpre : pre ++ [(T, y, pr :: rt)] <+: L := ⟨_, HR7.out⟩
        obtain ⟨fn, tmps, assign, body, hy5, hRn⟩ := HY.out (XS Kb b0 B2 (.slice Ae ne ce) (.slice As ns cs) (.slice A5 n5 c5)) pre (T, y, pr :: rt) (.slice A5 n5 c5) w5 HJ5.out hpre HRS5.out (fun k hk => .inr (.inr (.inr (.inr hk)))) (fun k hk => by
          rcases hk with h | h | h | h | h
          · omega
          · omega
          · exact (own_blk HVE5.out k h).2
          · exact (own_blk HVS5.out k h).2
          · exact (own_blk HO5b.out k h).2)
        simp only [maxLen] at hm5
        have hp5 : (0 : Int) < n5 := by omega
        have hd5 : decide ((0 : Int) < n5) = true := decide_eq_true hp5
        clear jk hn5 HO5 HRU HR HT hpre
        gi_wp2
        refine hRn.mono ?_
        rintro e w6 (⟨rfl, hJ6, hg6⟩ | ⟨rfl, hx6⟩)
        rotate_left 1
        · gi_wp2
          refine bodyPost_ret (results_none rfl _ _ _) rfl ?_
          exact ⟨⟨_, rfl⟩, .inr ⟨_, ⟨_, HR7.out⟩, hx6⟩⟩
        have g56 : GrownIn (fun k => ¬ XS Kb b0 B2 (.slice Ae ne ce) (.slice As ns cs) (.slice A5 n5 c5) k) w5 w6 := hg6
        have nx6 : ∀ k, ¬ XS Kb b0 B2 (.slice Ae ne ce) (.slice As ns cs) (.slice A5 n5 c5) k → XS Kb b0 B2 (.slice Ae ne ce) (.slice As ns cs) (.slice A5 n5 c5) k → False := fun _ h h' => h h'
        have HJ6 := Lib.hid hJ6
        clear hJ6 hg6 hy5 hRn HJ5
        have HVE6 : Hid (OwnE w6 B2 (.slice Ae ne ce) es) := Lib.hid (g56.own HVE5.out (fun k hk h => nx6 k h (.inr (.inr (.inl hk)))))
        have HVS6 : Hid (w6.ownsRow B2 129 3 (.slice As ns cs) ns (flatE ls)) := Lib.hid (g56.own HVS5.out (fun k hk h => nx6 k h (.inr (.inr (.inr (.inl hk))))))
        have HVT6 : Hid (OwnR w6 B2 (.slice A5 n5 c5) (bandR (T, y, pr :: rt))) := Lib.hid (g56.own HO5b.out (fun k hk h => nx6 k h (.inr (.inr (.inr (.inr hk))))))
        have HZN6 : Hid (Zone b0 w1.heap[b0]? V (.slice (some ⟨bz, oz, none⟩) nz cz) (chg a b) zs j w6) := Lib.hid (HZN5.out.kept g56 (by omega) (fun h => nx6 b0 h (.inr (.inl ⟨by omega, by omega⟩))) (fun k hk h => nx6 k h (.inr (.inl (by have := HZB.out k hk; omega)))) (fun i z _ hz k hk h => nx6 k h (.inr (.inl (by have := HVB.out z (List.mem_of_getElem? hz) k hk; omega)))) (Nat.le_refl _))
        have HK6 : w6.cell? ⟨Kb, 0, none⟩ = some (.func (.func k) #[] #[]) := (g56.cell (a := ⟨Kb, 0, none⟩) (show Kb < w5.heap.size by omega) (fun h => nx6 Kb h (.inl rfl))).trans HK5
        have hs6 : B2 ≤ w6.heap.size := Nat.le_trans hs5 g56.size
        clear g56 nx6 HVE5 HVS5 HO5b HZN5 HK5 hs5
        gi_wp2
        have hL1 : (Instr.lookup 114 (.map (some b0)) (.int .i64 y) false).run Tryz.prog w6.drew = .ok (V y) w6.drew := HLK.out y HYM.out w6.drew HZN6.out.map
        have HOV : Hid (OwnE w6 (b0 + 2) (V y) (chg a b y)) := Lib.hid (HZN6.out.rows j y (Nat.le_refl _) HYJ.out)
        have HBV : Hid (∀ k, blk (V y) k → b0 + 2 ≤ k ∧ k < w1.heap.size) := Lib.hid (HVB.out y HYM.out)
        have HBE : Hid (∀ k, blk (.slice Ae ne ce) k → B2 ≤ k ∧ k < w6.heap.size) := Lib.hid (own_blk HVE6.out)
        have HBS : Hid (∀ k, blk (.slice As 0 cs) k → B2 ≤ k) := Lib.hid (fun k hk => (own_blk HVS6.out k (blk_cut hk)).1)
        have C9 := Lib.hid (appendSum_any (w := w6.drew) (base := B2) (bs := B2) (bc := b0 + 2) (vs := .slice As 0 cs) (ve := .slice Ae ne ce) (vc := V y) (es := es) (ch := chg a b y) (World.ownsRow.drew (own_zero HVS6.out)) (World.ownsRow.drew HVE6.out) (World.ownsRow.drew HOV.out)
          (fun k hk h => HAS.out k hk (blk_cut h)) (fun k hk h => by have := HBV.out k hk; have := HBS.out k h; omega) (fun k hk h => by have := HBV.out k h; have := HBE.out k hk; omega) hs6 (by have := HEB.out; have := chg_wt a b y; have := HLEN.out; omega))
        refine wpIn_wide.2 ?_
        go_region_held3 (fun _ => True) (trivial)
          (first
            | (go_at_call 119; (with_reducible refine C9.out.mono ?_); rintro e w7 ⟨v7, ch7, rfl, hp7, hs7, ho7, hg7, hn7⟩))
        have HP7 := Lib.hid hp7
        have HSS7 := Lib.hid hs7
        have HO7 := Lib.hid ho7
        have HG7 : Hid (GrownIn (fun k => blk (.slice As 0 cs) k ∨ blk (V y) k) w6 w7) := Lib.hid (((GrownIn.refl _ w6).drew).trans hg7)
        have HN7 : Hid (NewOr w6 (.slice As 0 cs) v7) := Lib.hid hn7
        have HVE7 : Hid (OwnE w7 B2 (.slice Ae ne ce) es) := Lib.hid (HG7.out.own HVE6.out (fun k hk h => by
          rcases h with h | h
          · exact HAS.out k hk (blk_cut h)
          · have := HBV.out k h; have := HBE.out k hk; omega))
        have HVT7 : Hid (OwnR w7 B2 (.slice A5 n5 c5) (bandR (T, y, pr :: rt))) := Lib.hid (HG7.out.own HVT6.out (fun k hk h => by
          rcases h with h | h
          · exact blk_apart (owns_types HVT6.out HVS6.out (by decide)) k hk (blk_cut h)
          · exact blk_apart (owns_types HVT6.out HOV.out (by decide)) k hk h))
        have HZN7 : Hid (Zone b0 w1.heap[b0]? V (.slice (some ⟨bz, oz, none⟩) nz cz) (chg a b) zs (j + 1) w7) := Lib.hid (HZN6.out.kept HG7.out (by omega) (fun h => by
            rcases h with h | h
            · have := HBS.out _ h; omega
            · have := HBV.out _ h; omega) (fun k hk h => by
            have hk' := HZB.out k hk
            rcases h with h | h
            · have := HBS.out _ h; omega
            · have := HBV.out _ h; omega) (fun i z hi hz k hk h => by
            have hzm := List.mem_of_getElem? hz
            have hne : z ≠ y := fun e => by
              subst e
              have h1 := (List.getElem?_eq_some_iff.1 hz).2
              have h2 := (List.getElem?_eq_some_iff.1 HYJ.out).2
              have h3 := List.pairwise_iff_getElem.1 (ysP_inc a b)
              rw [HZS.out] at h3
              have := h3 j i (List.getElem?_eq_some_iff.1 HYJ.out).1 (List.getElem?_eq_some_iff.1 hz).1 (by omega)
              rw [h1, h2] at this
              omega
            rcases h with h | h
            · have := HBS.out _ h; have := HVB.out z hzm k hk; omega
            · exact HAP.out z hzm y HYM.out hne k hk h) (by omega))
        have HK7 : Hid (w7.cell? ⟨Kb, 0, none⟩ = some (.func (.func k) #[] #[])) := Lib.hid ((HG7.out.cell (a := ⟨Kb, 0, none⟩) (show Kb < w6.heap.size by omega) (fun h => by
            rcases h with h | h
            · have : B2 ≤ Kb := HBS.out _ h
              omega
            · have : b0 + 2 ≤ Kb := (HBV.out _ h).1
              omega)).trans HK6)
        have HAS7 : Hid (∀ k, blk v7 k → ¬ blk (.slice Ae ne ce) k) := Lib.hid (fun k h1 h2 => NewOr.apart HN7.out (fun k hk h => HAS.out k hk (blk_cut h)) (fun k hk => (HBE.out k hk).2) k h2 h1)
        have HJ7 : Hid (J (XS Kb b0 B2 v7 (.slice Ae ne ce) (.slice A5 n5 c5)) (pre ++ [(T, y, pr :: rt)]) w7) := Lib.hid (abx HJ.out HJ6.out HG7.out (fun k _ hk => by
            rcases hk with h | h
            · exact .inr (.inr (.inr (.inl (blk_cut h))))
            · exact .inr (.inl (by have := HBV.out _ h; omega))) (fun k hk => by
            rcases hk with h | h | h | h | h
            · exact .inl (.inl h)
            · exact .inl (.inr (.inl h))
            · by_cases hlt6 : k < w6.heap.size
              · exact .inl (.inr (.inr (.inr (.inl (blk_cut (NewOr.sub HN7.out k hlt6 h))))))
              · exact .inr (by omega)
            · exact .inl (.inr (.inr (.inl h)))
            · exact .inl (.inr (.inr (.inr (.inr h))))))
        have HE7 : Hid (Est a b zs (j + 1) (addAll [] es ch7)) := Lib.hid (by
          have h1 := HE.out
          have h2 := HYJ.out
          rw [← HZS.out] at h1 h2 ⊢
          exact h1.next h2 HP7.out HSS7.out)
        have HT7 : Hid (y = rowAt zs (j + 1)) := Lib.hid (rowAt_next HYJ.out).symm
        have hs7z : B2 ≤ w7.heap.size := Nat.le_trans hs6 HG7.out.size
        clear hp7 hs7 ho7 hg7 hn7 C9 hL1 HVE6 HVS6 HVT6 HZN6 HK6 HOV HBV HBE HBS HJ6 HE HP7 HSS7 HN7 HG7
        gi_wp2
        go_roundw
        case rel => exact ⟨j + 1, y, addAll [] es ch7, es, bandR (T, y, pr :: rt), (pre ++ [(T, y, pr :: rt)]), by omega, by go_num, rfl, HO7.out, (by have h := HVE7.out; exact h), HVT7.out, HAS7.out, HZN7.out, HK7.out, HJ7.out, HE7.out, HR7.out, fun _ => HT7.out, hs7z⟩
        case measure => simp [RowKit.intOf]; omega
    · have q0 : (nz : Int) ≤ (j : Int) := by omega
      have hR : pre = L := by
        have h1 := hrel.out.2.2.2.2.2.2.2.2.1
        rw [rest_end (by rw [HZS.out, HNZ.out]; omega), List.append_nil] at h1
        exact h1
      have HF := Lib.hid hrel.out.2.2.2.2.2.2.1
      clear hrel
      gi_wp2
      go_end0
      exact ⟨⟨_, rfl⟩, .inl ⟨_, hR ▸ HF.out⟩⟩

def Stripped (w : World) (va vb : Value) (k : Nat) (e : Ending) (w' : World) : Prop :=
  e = .returned (.func (.func 114) #[] #[.pointer (some ⟨w.heap.size, 0, none⟩), .pointer (some ⟨w.heap.size + 1, 0, none⟩), .pointer (some ⟨w.heap.size + 2, 0, none⟩)]) ∧ Below w.heap.size w w' ∧ w'.heap.size = w.heap.size + 3 ∧
    w'.cell? ⟨w.heap.size, 0, none⟩ = some va ∧ w'.cell? ⟨w.heap.size + 1, 0, none⟩ = some vb ∧ w'.cell? ⟨w.heap.size + 2, 0, none⟩ = some (.func (.func k) #[] #[])

set_option maxRecDepth 100000 in
theorem strips_any (w : World) {va vb : Value} {la lb : Nat} {Aa Ab : Option Addr} {ca cb : Nat} (ha : va = .slice Aa la ca) (hb : vb = .slice Ab lb cb) (k : Nat) : Calls Tryz.prog 107 #[va, vb, .func (.func k) #[] #[]] w (Stripped w va vb k) := by
  subst ha hb
  go_enter Tryz.func107, Tryz.ntmps107
  go_wp2_with fail
  go_ret
  refine ⟨rfl, (((Below.refl w.heap.size w).alloc (Nat.le_refl _) _).alloc (by simp) _).alloc (by simp; omega) _, by simp, ?_, ?_, ?_⟩
  · simp [go_sem]
  · simp [go_sem]
  · simp [go_sem]

theorem strips_seq (n : Nat) (hn : 1 ≤ n) (A B Kb k : Nat) {op : Op2} (hop : KeepsOp k op) (h00 : op false false = false) {va vb : Value} {a b : List R} (w : World) (hA : w.cell? ⟨A, 0, none⟩ = some va) (hB : w.cell? ⟨B, 0, none⟩ = some vb) (hK : w.cell? ⟨Kb, 0, none⟩ = some (.func (.func k) #[] #[]))
    (ha : Rs w va a) (hb : Rs w vb b) (hl : a.length + b.length ≤ 1000) : SeqX n 114 #[.pointer (some ⟨A, 0, none⟩), .pointer (some ⟨B, 0, none⟩), .pointer (some ⟨Kb, 0, none⟩)] (stripsL op a b) (fun j => j = Kb) w := fun l J Jx W hW hJ hY h0 =>
  strips1_in n hn l A B Kb k hop h00 J Jx W ((hW.cell (p := ⟨A, 0, none⟩) (World.block_lt_of_cell? w _ hA)).trans hA) ((hW.cell (p := ⟨B, 0, none⟩) (World.block_lt_of_cell? w _ hB)).trans hB) ((hW.cell (p := ⟨Kb, 0, none⟩) (World.block_lt_of_cell? w _ hK)).trans hK) (ha.below hW) (hb.below hW) hl hJ _ rfl hY h0

end Go.Proofs.YthedglfocjljjaaGreatDoor.Rgn
namespace Go.Proofs.YthedglfocjljjaaGreatDoor.Rgn
open Go.RowKit

theorem same_iff (a b : R) : sameR a b = true ↔ a = b := by
  constructor
  · intro h
    simp [sameR] at h
    exact R.same h.1.1.1 h.1.1.2 h.1.2 h.2
  · rintro rfl
    simp [sameR]

def sameL : List R → List R → Bool
  | [], [] => true
  | x :: l, y :: m => sameR x y && sameL l m
  | _, _ => false

theorem sameL_iff : ∀ {l m : List R}, sameL l m = true ↔ l = m
  | [], [] => by simp [sameL]
  | [], _ :: _ => by simp [sameL]
  | _ :: _, [] => by simp [sameL]
  | x :: l, y :: m => by
    simp only [sameL, Bool.and_eq_true, same_iff, List.cons.injEq, sameL_iff (l := l) (m := m)]

set_option maxRecDepth 100000 in
set_option maxHeartbeats 4000000 in
theorem neq_rect (r s : R) (w : World) : (binOp .neq 53 (.agg #[.int .i64 r.x0, .int .i64 r.y0, .int .i64 r.x1, .int .i64 r.y1]) (.agg #[.int .i64 s.x0, .int .i64 s.y0, .int .i64 s.x1, .int .i64 s.y1])).run Tryz.prog w = .ok (.bool (!sameR r s)) w := by
  have h : ∀ d : Nat, (Op.equalIn (d + 3) 53 (.agg #[.int .i64 r.x0, .int .i64 r.y0, .int .i64 r.x1, .int .i64 r.y1]) (.agg #[.int .i64 s.x0, .int .i64 s.y0, .int .i64 s.x1, .int .i64 s.y1])).run Tryz.prog w = .ok (sameR r s) w := fun d => by
    simp [Op.equalIn, run_underlying Tryz.underlying53, run_underlying Tryz.underlying3, go_sem]
    unfold sameR
    by_cases h0 : r.x0 = s.x0 <;> by_cases h1 : r.y0 = s.y0 <;> by_cases h2 : r.x1 = s.x1 <;> by_cases h3 : r.y1 = s.y1 <;> simp [h0, h1, h2, h3]
  simp only [binOp]
  simp [Op.equal, Op.maxDepth, h 9997]

set_option maxRecDepth 100000 in
set_option maxHeartbeats 4000000 in
theorem same_any {w : World} {v u : Value} {l m : List R} (h : Rs w v l) (hu : Rs w u m) :
    Calls Tryz.prog 29 #[v, u] w fun e w' => e = .returned (.bool (sameL l m)) ∧ Below w.heap.size w w' := by
  obtain ⟨A, c, rfl, hc, hm, hcell⟩ := h
  obtain ⟨A', c', rfl, hc', hm', hcell'⟩ := hu
  simp only [maxLen] at hm hm'
  by_cases he : l.length = m.length
  · have HC := Lib.hid hcell
    have HC' := Lib.hid hcell'
    obtain ⟨len, hn⟩ : ∃ len, l.length = len := ⟨_, rfl⟩
    rw [← he, hn] at hc'
    rw [← he, hn]
    rw [hn] at hc
    have HN := Lib.hid hn
    have HN' := Lib.hid (he.symm.trans hn)
    obtain ⟨res, hres⟩ : ∃ res, sameL l m = res := ⟨_, rfl⟩
    have HRES := Lib.hid hres
    rw [hres]
    clear hcell hcell' hn he hres
    go_enter Tryz.func29, Tryz.ntmps29
    go_wp2_with fail
    go_loopw [5] (fun k wr => ∃ (j : Nat), j ≤ len ∧ k = .int .i64 (j : Int) ∧ Hid (Below w.heap.size w wr ∧ l.take j = m.take j)) (fun k _ => len - (RowKit.intOf k).toNat)
    case atStart => exact ⟨0, by omega, rfl, Below.refl _ _, by simp⟩
    case round =>
      obtain ⟨j, hj, rfl, hrel⟩ := hrel
      have HB := Lib.hid hrel.out.1
      by_cases hlt : j < len
      · obtain ⟨x, hx⟩ : ∃ x, l[j]? = some x := ⟨_, List.getElem?_eq_getElem (by rw [HN.out]; exact hlt)⟩
        obtain ⟨y, hy⟩ : ∃ y, m[j]? = some y := ⟨_, List.getElem?_eq_getElem (by rw [HN'.out]; exact hlt)⟩
        obtain ⟨b, off, rfl, hb, hcs⟩ := HC.out (by rw [HN.out]; omega)
        obtain ⟨b', off', rfl, hb', hcs'⟩ := HC'.out (by rw [HN'.out]; omega)
        obtain ⟨t0, t1, t2, t3⟩ := hcs j x hx
        obtain ⟨s0, s1, s2, s3⟩ := hcs' j y hy
        rw [← HB.out.cell (p := ⟨b, off + j * 4, none⟩) hb] at t0
        rw [← HB.out.cell (p := ⟨b, off + j * 4 + 1, none⟩) hb] at t1
        rw [← HB.out.cell (p := ⟨b, off + j * 4 + 2, none⟩) hb] at t2
        rw [← HB.out.cell (p := ⟨b, off + j * 4 + 3, none⟩) hb] at t3
        rw [← HB.out.cell (p := ⟨b', off' + j * 4, none⟩) hb'] at s0
        rw [← HB.out.cell (p := ⟨b', off' + j * 4 + 1, none⟩) hb'] at s1
        rw [← HB.out.cell (p := ⟨b', off' + j * 4 + 2, none⟩) hb'] at s2
        rw [← HB.out.cell (p := ⟨b', off' + j * 4 + 3, none⟩) hb'] at s3
        have q0 : (j : Int) < len := by omega
        have q1 : (0 : Int) ≤ j := by omega
        have HX := Lib.hid hx
        have HY := Lib.hid hy
        clear hx hy hcs hcs'
        have E1 := fun W => neq_rect x y W
        cases h1 : sameR x y
        · rw [h1] at E1
          have HNE : Hid (l ≠ m) := Lib.hid (fun e => by
            have h2 := HX.out
            rw [e, HY.out] at h2
            have h3 := (same_iff x y).2 (Option.some.inj h2).symm
            rw [h1] at h3
            cases h3)
          have e : res = false := by
            rw [← HRES.out]
            cases h4 : sameL l m
            · rfl
            · exact absurd (sameL_iff.1 h4) HNE.out
          subst e
          clear h1
          simp only [Bool.not_false] at E1
          go_wp2_with fail
          go_quiet (fail)
          go_wp2_with fail
          go_ret
          exact ⟨rfl, below_draws HB.out _⟩
        · rw [h1] at E1
          have hxy := (same_iff x y).1 h1
          have HT := Lib.hid (show l.take (j + 1) = m.take (j + 1) by rw [List.take_add_one, List.take_add_one, hrel.out.2, HX.out, HY.out, hxy])
          clear h1 hxy
          simp only [Bool.not_true] at E1
          go_wp2_with fail
          go_quiet (fail)
          go_wp2_with fail
          go_roundw
          case rel => exact ⟨j + 1, by omega, by go_num, Lib.hid ⟨below_draws HB.out _, HT.out⟩⟩
          case measure => simp [RowKit.intOf]; omega
      · have q0 : (len : Int) ≤ (j : Int) := by omega
        have HE := hrel.out.2
        rw [List.take_of_length_le (by rw [HN.out]; omega), List.take_of_length_le (by rw [HN'.out]; omega)] at HE
        have e : res = true := by rw [← HRES.out]; exact sameL_iff.2 HE
        clear HE hrel
        subst e
        go_wp2_with fail
        go_ret
        exact ⟨rfl, HB.out⟩
  · have e : sameL l m = false := by
      cases h4 : sameL l m
      · rfl
      · exact absurd (by rw [sameL_iff.1 h4]) he
    rw [e]
    obtain ⟨n1, h1⟩ : ∃ n, l.length = n := ⟨_, rfl⟩
    obtain ⟨n2, h2⟩ : ∃ n, m.length = n := ⟨_, rfl⟩
    rw [h1] at hc he ⊢
    rw [h2] at hc' he ⊢
    have q : ¬ (n1 : Int) = n2 := by omega
    clear h1 h2 hcell hcell' he e
    go_enter Tryz.func29, Tryz.ntmps29
    go_wp2_with fail
    go_ret
    exact ⟨rfl, Below.refl _ _⟩

def contR (p q : R) : Bool := decide (p.y1 = q.y0) && decide (p.x0 = q.x0) && decide (p.x1 = q.x1)

theorem contR_iff (p q : R) : contR p q = true ↔ p.y1 = q.y0 ∧ p.x0 = q.x0 ∧ p.x1 = q.x1 := by
  simp [contR, and_assoc]

def contL : List R → List R → Bool
  | [], [] => true
  | p :: l, q :: m => contR p q && contL l m
  | _, _ => false

theorem contL_iff : ∀ {l m : List R}, contL l m = true ↔ l.length = m.length ∧ ∀ (j : Nat) (p q : R), l[j]? = some p → m[j]? = some q → contR p q = true
  | [], [] => by simp [contL]
  | [], q :: m => by simp [contL]
  | p :: l, [] => by simp [contL]
  | p :: l, q :: m => by
    simp only [contL, Bool.and_eq_true, contL_iff (l := l) (m := m), List.length_cons, Nat.add_right_cancel_iff]
    constructor
    · rintro ⟨h1, h2, h3⟩
      refine ⟨h2, fun j => ?_⟩
      cases j with
      | zero => intro p' q' e1 e2; simp only [List.getElem?_cons_zero, Option.some.injEq] at e1 e2; subst e1 e2; exact h1
      | succ j => intro p' q' e1 e2; simp only [List.getElem?_cons_succ] at e1 e2; exact h3 j p' q' e1 e2
    · rintro ⟨h2, h3⟩
      exact ⟨h3 0 p q rfl rfl, h2, fun j p' q' e1 e2 => h3 (j + 1) p' q' e1 e2⟩

set_option maxRecDepth 100000 in
set_option maxHeartbeats 1000000 in
theorem cont1_any (p q : R) (w : World) : Calls Tryz.prog 121 #[.agg #[.int .i64 p.x0, .int .i64 p.y0, .int .i64 p.x1, .int .i64 p.y1], .agg #[.int .i64 q.x0, .int .i64 q.y0, .int .i64 q.x1, .int .i64 q.y1]] w fun e w' => e = .returned (.bool (contR p q)) ∧ Below w.heap.size w w' := by
  obtain ⟨v, hv⟩ : ∃ v, contR p q = v := ⟨_, rfl⟩
  rw [hv]
  unfold contR at hv
  by_cases h1 : p.y1 = q.y0 <;> by_cases h2 : p.x0 = q.x0 <;> by_cases h3 : p.x1 = q.x1 <;> (simp [h1, h2, h3] at hv; subst hv)
  all_goals
    go_enter Tryz.func121, Tryz.ntmps121
    go_wp2_with fail
    go_ret
    exact ⟨ret_bool (by simp [*]), ((Below.refl _ _).alloc (Nat.le_refl _) _).alloc (by simp) _⟩

theorem below_box {w wr : World} (h : Below w.heap.size w wr) (o : Obj) : Below w.heap.size w (wr.alloc o) := h.alloc h.size o

set_option maxRecDepth 100000 in
set_option maxHeartbeats 4000000 in
theorem eqf_any {w : World} {v u : Value} {l m : List R} (h : Rs w v l) (hu : Rs w u m) :
    Calls Tryz.prog 120 #[v, u, .func (.func 121) #[] #[]] w fun e w' => e = .returned (.bool (contL l m)) ∧ Below w.heap.size w w' := by
  obtain ⟨A, c, rfl, hc, hm, hcell⟩ := h
  obtain ⟨A', c', rfl, hc', hm', hcell'⟩ := hu
  simp only [maxLen] at hm hm'
  by_cases he : l.length = m.length
  · have HC := Lib.hid hcell
    have HC' := Lib.hid hcell'
    obtain ⟨len, hn⟩ : ∃ len, l.length = len := ⟨_, rfl⟩
    rw [← he, hn] at hc'
    rw [← he, hn]
    rw [hn] at hc
    have HN := Lib.hid hn
    have HN' := Lib.hid (he.symm.trans hn)
    obtain ⟨res, hres⟩ : ∃ res, contL l m = res := ⟨_, rfl⟩
    have HRES := Lib.hid hres
    rw [hres]
    clear hcell hcell' hn he hres
    go_enter Tryz.func120, Tryz.ntmps120
    go_wp2_with fail
    go_loopw [17] (fun k wr => ∃ (j : Nat), j ≤ len ∧ k = .int .i64 (j : Int) ∧ Hid (Below w.heap.size w wr ∧ ∀ (i : Nat) (p q : R), i < j → l[i]? = some p → m[i]? = some q → contR p q = true)) (fun k _ => len - (RowKit.intOf k).toNat)
    case atStart => exact ⟨0, by omega, rfl, Below.refl _ _, fun i p q h => by omega⟩
    case round =>
      obtain ⟨j, hj, rfl, hrel⟩ := hrel
      have HB := Lib.hid hrel.out.1
      by_cases hlt : j < len
      · obtain ⟨x, hx⟩ : ∃ x, l[j]? = some x := ⟨_, List.getElem?_eq_getElem (by rw [HN.out]; exact hlt)⟩
        obtain ⟨y, hy⟩ : ∃ y, m[j]? = some y := ⟨_, List.getElem?_eq_getElem (by rw [HN'.out]; exact hlt)⟩
        obtain ⟨b, off, rfl, hb, hcs⟩ := HC.out (by rw [HN.out]; omega)
        obtain ⟨b', off', rfl, hb', hcs'⟩ := HC'.out (by rw [HN'.out]; omega)
        obtain ⟨t0, t1, t2, t3⟩ := hcs j x hx
        obtain ⟨s0, s1, s2, s3⟩ := hcs' j y hy
        rw [← HB.out.cell (p := ⟨b, off + j * 4, none⟩) hb] at t0
        rw [← HB.out.cell (p := ⟨b, off + j * 4 + 1, none⟩) hb] at t1
        rw [← HB.out.cell (p := ⟨b, off + j * 4 + 2, none⟩) hb] at t2
        rw [← HB.out.cell (p := ⟨b, off + j * 4 + 3, none⟩) hb] at t3
        rw [← HB.out.cell (p := ⟨b', off' + j * 4, none⟩) hb'] at s0
        rw [← HB.out.cell (p := ⟨b', off' + j * 4 + 1, none⟩) hb'] at s1
        rw [← HB.out.cell (p := ⟨b', off' + j * 4 + 2, none⟩) hb'] at s2
        rw [← HB.out.cell (p := ⟨b', off' + j * 4 + 3, none⟩) hb'] at s3
        have q0 : (j : Int) < len := by omega
        have q1 : (0 : Int) ≤ j := by omega
        have HX := Lib.hid hx
        have HY := Lib.hid hy
        have C1 := fun W => Lib.hid (cont1_any x y W)
        have hbr : b < wr.heap.size := Nat.lt_of_lt_of_le hb HB.out.size
        have hbr' : b' < wr.heap.size := Nat.lt_of_lt_of_le hb' HB.out.size
        clear hx hy hcs hcs'
        go_wp2_with fail
        refine (C1 _).out.mono ?_
        rintro e w5 ⟨rfl, hb5⟩
        have HB5 : Hid (Below w.heap.size w w5) := Lib.hid ((below_box (below_box HB.out _) _).trans (hb5.mono (by have := HB.out.size; simp; omega)))
        clear hb5 C1 t0 t1 t2 t3 s0 s1 s2 s3
        cases h1 : contR x y
        · have e : res = false := by
            rw [← HRES.out]
            cases h4 : contL l m
            · rfl
            · have h5 := (contL_iff.1 h4).2 j x y HX.out HY.out
              rw [h1] at h5
              cases h5
          subst e
          go_wp2_with fail
          go_ret
          exact ⟨rfl, HB5.out⟩
        · have HT : Hid (∀ (i : Nat) (p q : R), i < j + 1 → l[i]? = some p → m[i]? = some q → contR p q = true) := Lib.hid (fun i p q hi hp hq => by
            by_cases e : i = j
            · subst e
              rw [HX.out] at hp
              rw [HY.out] at hq
              cases hp
              cases hq
              exact h1
            · exact hrel.out.2 i p q (by omega) hp hq)
          clear hrel h1
          go_wp2_with fail
          go_roundw
          case rel => exact ⟨j + 1, by omega, by go_num, HB5.out, HT.out⟩
          case measure => simp [RowKit.intOf]; omega
      · have q0 : (len : Int) ≤ (j : Int) := by omega
        have e : res = true := by
          rw [← HRES.out]
          refine contL_iff.2 ⟨by rw [HN.out, HN'.out], fun i p q hp hq => hrel.out.2 i p q ?_ hp hq⟩
          have := (List.getElem?_eq_some_iff.1 hp).1
          rw [HN.out] at this
          omega
        clear hrel
        subst e
        go_wp2_with fail
        go_ret
        exact ⟨rfl, HB.out⟩
  · have e : contL l m = false := by
      cases h4 : contL l m
      · rfl
      · exact absurd (contL_iff.1 h4).1 he
    rw [e]
    obtain ⟨n1, h1⟩ : ∃ n, l.length = n := ⟨_, rfl⟩
    obtain ⟨n2, h2⟩ : ∃ n, m.length = n := ⟨_, rfl⟩
    rw [h1] at hc he ⊢
    rw [h2] at hc' he ⊢
    have q : ¬ (n1 : Int) = n2 := by omega
    clear h1 h2 hcell hcell' he e
    go_enter Tryz.func120, Tryz.ntmps120
    go_wp2_with fail
    go_ret
    exact ⟨rfl, Below.refl _ _⟩

set_option maxRecDepth 100000 in
theorem continues_any {w : World} {v u : Value} {l m : List R} (h : Rs w v l) (hu : Rs w u m) :
    Calls Tryz.prog 108 #[v, u] w fun e w' => e = .returned (.bool (contL l m)) ∧ Below w.heap.size w w' := by
  have C := Lib.hid (eqf_any h hu)
  obtain ⟨A, c, rfl, hc, hm, hcell⟩ := h
  obtain ⟨A', c', rfl, hc', hm', hcell'⟩ := hu
  clear hcell hcell'
  generalize contL l m = r at *
  go_enter Tryz.func108, Tryz.ntmps108
  go_wp2_with fail
  refine C.out.mono ?_
  rintro e w1 ⟨rfl, hb⟩
  have HB := Lib.hid hb
  clear C hb
  go_wp2_with fail
  go_ret
  exact ⟨rfl, HB.out⟩

theorem stripsY_ne {rr : Int → Runs} : ∀ (ys : List Int) (t : Int), ∀ p ∈ stripsY rr t ys, p.2.2 ≠ []
  | [], _, p, h => by simp [stripsY] at h
  | y :: ys, t, p, h => by
    unfold stripsY at h
    split at h
    · exact stripsY_ne ys y p h
    · rename_i h0
      rcases List.mem_cons.1 h with rfl | h
      · exact h0
      · exact stripsY_ne ys y p h

theorem stripsL_ne {op : Op2} {a b : List R} : ∀ p ∈ stripsL op a b, p.2.2 ≠ [] := by
  intro p h
  unfold stripsL stripsAt at h
  split at h
  · cases h
  · exact stripsY_ne _ _ p h

theorem stripsY_len {rr : Int → Runs} {m : Nat} (h : ∀ y, (rr y).length ≤ m) : ∀ (ys : List Int) (t : Int), ∀ p ∈ stripsY rr t ys, p.2.2.length ≤ m
  | [], _, p, hp => by simp [stripsY] at hp
  | y :: ys, t, p, hp => by
    unfold stripsY at hp
    split at hp
    · exact stripsY_len h ys y p hp
    · rcases List.mem_cons.1 hp with rfl | hp
      · exact h t
      · exact stripsY_len h ys y p hp

theorem stripsL_len {op : Op2} {a b : List R} : ∀ p ∈ stripsL op a b, p.2.2.length ≤ 2 * a.length + 2 * b.length := by
  intro p h
  unfold stripsL stripsAt at h
  split at h
  · cases h
  · exact stripsY_len (rrP_len op a b) _ _ p h

theorem Bx.frozen {W : World} {k : Nat} {cs : Array Value} {t : TypeId} (h : Bx W k cs t) (i : Nat) : W.frozen? ⟨k, i, none⟩ = false := by
  have h' : W.heap[k]? = some (.cells cs t (0, 0)) := h
  simp [World.frozen?, h']

theorem Bx.set {W : World} {k : Nat} {v : Value} {t : TypeId} (h : Bx W k #[v] t) (u : Value) : Bx (W.setCell ⟨k, 0, none⟩ u) k #[u] t :=
  Boxed.set u h

theorem Bx.other {W : World} {k j : Nat} {cs : Array Value} {t : TypeId} (h : Bx W k cs t) (hne : j ≠ k) (u : Value) : Bx (W.setCell ⟨j, 0, none⟩ u) k cs t :=
  h.kept (GrownIn.of_grown (grown_set W j 0 u)) (fun e => hne (Option.some.inj e))

theorem own_cells {W : World} {base : Nat} {e : TypeId} {size n : Nat} {v : Value} {xs : List Value} (h : W.ownsRow base e size v n xs) {B k : Nat} (hk : blk v k) : ¬ Own' B W k := by
  rintro ⟨_, o, ho, hc⟩
  rcases h.2 with ⟨rfl, _⟩ | ⟨g, cap, cur, rfl, _, hh, _⟩
  · simp [blk, Value.ownBlock] at hk
  · simp only [blk, Value.ownBlock, Option.some.injEq] at hk
    subst hk
    rw [hh] at ho
    cases ho
    cases hc

theorem keeps_grown {B : Nat} {W W' : World} {base : Nat} {e : TypeId} {size n : Nat} {v : Value} {xs : List Value} (ho : W.ownsRow base e size v n xs) (hg : GrownIn (Go.Proofs.YthedglfocjljjaaGreatDoor.Rgn.blk v) W W') : KeepsFrom B W W' :=
  ⟨hg.size, fun k o hB hk hc => (hg.block k (Array.getElem?_eq_some_iff.1 hk).1 (fun h => own_cells ho h ⟨hB, o, hk, hc⟩)).trans hk⟩

theorem keeps_same {B : Nat} {W W' : World} (hg : GrownIn (fun _ => False) W W') : KeepsFrom B W W' :=
  ⟨hg.size, fun k _ _ hk _ => (hg.block k (Array.getElem?_eq_some_iff.1 hk).1 (fun h => h)).trans hk⟩

theorem contL_band : ∀ {u v : Runs} {lo hi y y' : Int}, v ≠ [] → (contL (bandR (lo, hi, u)) (bandR (y, y', v)) = true ↔ hi = y ∧ u = v)
  | [], [], _, _, _, _, h => absurd rfl h
  | [], q :: v, lo, hi, y, y', _ => by simp [bandR, contL]
  | p :: u, [], lo, hi, y, y', h => absurd rfl h
  | p :: u, q :: v, lo, hi, y, y', _ => by
    have e1 : bandR (lo, hi, p :: u) = ⟨p.1, lo, p.2, hi⟩ :: bandR (lo, hi, u) := rfl
    have e2 : bandR (y, y', q :: v) = ⟨q.1, y, q.2, y'⟩ :: bandR (y, y', v) := rfl
    rw [e1, e2]
    simp only [contL, Bool.and_eq_true, contR_iff]
    cases v with
    | nil =>
      cases u with
      | nil =>
        constructor
        · rintro ⟨⟨h1, h2, h3⟩, _⟩
          exact ⟨h1, by cases p; cases q; simp only at h2 h3; rw [h2, h3]⟩
        · rintro ⟨h1, h2⟩
          cases h2
          exact ⟨⟨h1, rfl, rfl⟩, rfl⟩
      | cons p' u =>
        constructor
        · rintro ⟨_, h⟩
          simp [bandR, contL] at h
        · rintro ⟨_, h⟩
          cases h
    | cons q' v =>
      rw [contL_band (u := u) (v := q' :: v) (by simp)]
      constructor
      · rintro ⟨⟨h1, h2, h3⟩, _, h5⟩
        exact ⟨h1, by cases p; cases q; simp only at h2 h3; rw [h2, h3, h5]⟩
      · rintro ⟨h1, h2⟩
        cases h2
        exact ⟨⟨h1, rfl, rfl⟩, h1, rfl⟩

theorem comp_len {v : Runs} : ∀ {L : List Band} {lo hi : Int}, v.length ≤ (flatB (comp (lo, hi, v) L)).length
  | [], lo, hi => by rw [show comp (lo, hi, v) [] = [(lo, hi, v)] from rfl, flatB_cons, List.length_append, bandR_len]; exact Nat.le_add_right _ _
  | (lo', hi', v') :: L, lo, hi => by
    unfold comp
    split
    · exact comp_len
    · rw [flatB_cons, List.length_append, bandR_len]; exact Nat.le_add_right _ _

theorem tailC_len {v : Runs} (hv : v ≠ []) (lo hi : Int) (L : List Band) : v.length ≤ (flatB (tailC (lo, hi, v) L)).length := by
  unfold tailC
  rw [if_neg hv]
  exact comp_len

def BandV (vo vb : Value) (d : Nat) (v : Runs) : Prop :=
  (v = [] ∧ vb = .slice none 0 0) ∨ (v ≠ [] ∧ ∃ g c, vo = .slice (some ⟨g, 0, none⟩) (d + v.length) c ∧ d + v.length ≤ c ∧ vb = .slice (some ⟨g, d * 4, none⟩) v.length (c - d))

theorem BandV.rs {W : World} {base : Nat} {vo vb : Value} {D : List R} {lo hi : Int} {v : Runs} (h : BandV vo vb D.length v) (ho : OwnR W base vo (D ++ bandR (lo, hi, v))) : Rs W vb (bandR (lo, hi, v)) := by
  rcases h with ⟨rfl, rfl⟩ | ⟨hv, g, c, rfl, hc, rfl⟩
  · exact rs_nil W
  · obtain ⟨A', c', hv', h1, h2, h3⟩ := ho.rs
    injection hv' with e1 e2 e3
    subst e1 e3
    refine ⟨_, c - D.length, by rw [bandR_len], by rw [bandR_len]; simp only; omega, by omega, fun h0 => ?_⟩
    obtain ⟨b, off, e, hb, hcs⟩ := h3 (by rw [List.length_append]; omega)
    cases e
    refine ⟨g, D.length * 4, rfl, hb, fun j r hj => ?_⟩
    have h4 := hcs (D.length + j) r (by rw [List.getElem?_append_right (by omega)]; rw [← hj]; congr 1; omega)
    rw [show D.length * 4 + j * 4 = 0 + (D.length + j) * 4 by omega]
    exact h4

structure CanW (w : World) (B : Nat) (D : List R) (cur : Band) (vo vb : Value) (W : World) : Prop where
  res : Bx W B #[.slice none 0 0] 23
  err : Bx W (B + 1) #[.int .i64 0] 31
  out : Bx W (B + 2) #[vo] 23
  band : Bx W (B + 3) #[vb] 23
  own : OwnR W w.heap.size vo (D ++ bandR cur)
  val : BandV vo vb D.length cur.2.2
  below : Below w.heap.size w W

theorem CanW.kept {X : Nat → Prop} {w : World} {B : Nat} {D : List R} {cur : Band} {vo vb : Value} {W W' : World} (h : CanW w B D cur vo vb W) (hg : GrownIn X W W') (hB : ∀ k, B ≤ k → k < B + 4 → ¬ X k) (hv : ∀ k, blk vo k → ¬ X k) (hX : ∀ k, X k → w.heap.size ≤ k) : CanW w B D cur vo vb W' :=
  ⟨h.res.kept hg (hB _ (by omega) (by omega)), h.err.kept hg (hB _ (by omega) (by omega)), h.out.kept hg (hB _ (by omega) (by omega)), h.band.kept hg (hB _ (by omega) (by omega)), hg.own h.own (fun k hk => hv k hk), h.val,
    h.below.trans (hg.below h.below.size hX)⟩

def CanI (w : World) (B : Nat) (C : List R) (L : List Band) (X : Nat → Prop) (pre : List Band) (W : World) : Prop :=
  ∃ D cur rest vo vb, L = pre ++ rest ∧ D ++ flatB (tailC cur rest) = C ∧ (D ++ bandR cur).length ≤ 256 ∧ CanW w B D cur vo vb W ∧ (∀ k, blk vo k → ¬ X k) ∧ (∀ k, X k → B + 4 ≤ k)

def CanX (w : World) (B : Nat) (C : List R) (_ : List Band) (W : World) : Prop :=
  256 < C.length ∧ Bx W B #[.slice none 0 0] 23 ∧ Bx W (B + 1) #[.int .i64 5] 31 ∧ Below w.heap.size w W

theorem bx_own {W : World} {B k : Nat} {cs : Array Value} {t : TypeId} (h : Bx W k cs t) : ¬ Own' B W k := by
  rintro ⟨_, o, ho, hc⟩
  have h' : W.heap[k]? = some (.cells cs t (0, 0)) := h
  rw [h'] at ho
  cases ho
  cases hc

theorem canI_own {w : World} {B n : Nat} {C : List R} {L : List Band} (_ : w.heap.size ≤ B) (_ : w.heap.size ≤ n) (X X' : Nat → Prop) (pre : List Band) (U V : World) (h : CanI w B C L X pre U) (hg : GrownIn (fun k => X k ∨ Own' n U k) U V) (hX : ∀ k, X' k → X k ∨ U.heap.size ≤ k) : CanI w B C L X' pre V := by
  obtain ⟨D, cur, rest, vo, vb, h1, h2, h3, h4, h5, h6⟩ := h
  have hlt : B + 3 < U.heap.size := h4.band.lt
  refine ⟨D, cur, rest, vo, vb, h1, h2, h3, h4.kept hg (fun k hk1 hk2 hk => ?_) (fun k hk hk' => ?_) (fun k hk => ?_), fun k hk hk' => ?_, fun k hk => ?_⟩
  · rcases hk with hk | hk
    · have := h6 k hk; omega
    · have hc : k = B ∨ k = B + 1 ∨ k = B + 2 ∨ k = B + 3 := by omega
      rcases hc with rfl | rfl | rfl | rfl
      · exact bx_own h4.res hk
      · exact bx_own h4.err hk
      · exact bx_own h4.out hk
      · exact bx_own h4.band hk
  · rcases hk' with hk' | hk'
    · exact h5 k hk hk'
    · exact own_cells h4.own hk hk'
  · rcases hk with hk | hk
    · have := h6 k hk; omega
    · have := hk.1; omega
  · rcases hX k hk' with h | h
    · exact h5 k hk h
    · have := (own_blk h4.own k hk).2; omega
  · rcases hX k hk with h | h
    · exact h6 k h
    · omega

theorem canX_own {w : World} {B n : Nat} {C : List R} (_ : w.heap.size ≤ n) (pre : List Band) (U V : World) (h : CanX w B C pre U) (hg : GrownIn (Own' n U) U V) : CanX w B C pre V :=
  ⟨h.1, h.2.1.kept hg (bx_own h.2.1), h.2.2.1.kept hg (bx_own h.2.2.1), h.2.2.2.trans (hg.below h.2.2.2.size (fun k hk => by have := hk.1; omega))⟩

end Go.Proofs.YthedglfocjljjaaGreatDoor.Rgn
