/-
  RegistryNames over the contracts of the registry's functions.
-/
import Derived.Test.YtcecicmihdcjgaaDoorHrn
namespace Go.Proofs.YtcecicmihdcjgaaDoor
open Go.RowKit

def hitL (L : List Gl) (q : Nat) : List Gl := (L.filter (fun r => decide (r.nm = q))).map (fun r => ⟨q, r.it, 0⟩)
def keepL (L : List Gl) (q : Nat) : List Gl := L.filter (fun r => !(decide (r.nm = q)))
theorem hit_take {L : List Gl} {j : Nat} {x : Gl} (h : L[j]? = some x) (q : Nat) : hitL (L.take (j + 1)) q = hitL (L.take j) q ++ if x.nm = q then [⟨q, x.it, 0⟩] else [] := by
  unfold hitL
  rw [List.take_add_one, h, List.filter_append, List.map_append]
  by_cases hq : x.nm = q <;> simp [hq]
theorem keep_take {L : List Gl} {j : Nat} {x : Gl} (h : L[j]? = some x) (q : Nat) : keepL (L.take (j + 1)) q = keepL (L.take j) q ++ if x.nm = q then [] else [x] := by
  unfold keepL
  rw [List.take_add_one, h, List.filter_append]
  by_cases hq : x.nm = q <;> simp [hq]
theorem hit_len (L : List Gl) (q : Nat) : (hitL L q).length ≤ L.length := by
  unfold hitL
  rw [List.length_map]
  exact List.length_filter_le _ _
theorem keep_len (L : List Gl) (q : Nat) : (keepL L q).length ≤ L.length := List.length_filter_le _ _
theorem list_len (l : List Gl) : (listF l).length ≤ l.length := List.length_filter_le _ _
theorem OwnG.len {w : World} {base : Nat} {A : Option Addr} {k c : Nat} {l : List Gl} (h : OwnG w base (.slice A k c) l) : l.length = k := by
  obtain ⟨_, _, e, _, _⟩ := h.gs.shape
  injection e with _ e _
  exact e.symm

theorem gs_box {w W : World} {l1 l2 : List (Nat × List Value)} {k : Nat} {vs : List Value} (h : Held w W (l1 ++ (k, vs) :: l2)) (r : Gl) (hr : vs = glC r) : Gs W (.slice (some ⟨k, 0, none⟩) 1 1) [r] := by
  subst hr
  refine ⟨_, 1, rfl, Nat.le_refl _, by simp [maxLen], fun _ => ⟨k, 0, rfl, h.at.2.2.1, fun j q hj => ?_⟩⟩
  match j, hj with
  | 0, hj =>
    simp only [List.getElem?_cons_zero, Option.some.injEq] at hj
    subst hj
    exact ⟨h.at.1 0 _ rfl, h.at.1 1 _ rfl, h.at.1 2 _ rfl⟩

section
variable {T : World → Prop} {R : World → World → Value → List Gl → (Nat → Prop) → Prop}
set_option maxRecDepth 100000 in
set_option maxHeartbeats 16000000 in
theorem names_walk (K : PR T R) {w : World} (hT : T w) {A : Option Addr} {n c : Nat} {l : List Op4} (h : Opl w (.slice A n c) l) (hn : l.length = n) :
    Calls Tryd.prog 4 #[.slice A n c] w (SaysB true w) := by
  have HT := Lib.hid hT
  have HO := Lib.hid h
  have EX := fun (W : World) (hb : Below w.heap.size w W) => Lib.hid (ex_any K (K.below HT.out hb))
  have NW := fun (W : World) (hb : Below w.heap.size w W) => Lib.hid (K.new (w0 := w) (K.below HT.out hb) hb)
  by_cases h1 : 150 < n
  · have q1 : (150 : Int) < n := by omega
    clear h hT
    go_enter Tryd.func4, Tryd.ntmps4
    go_wp2_with fail
    refine (EX _ (Below.refl _ _)).out.mono ?_
    rintro e w2 ⟨rfl, hb⟩
    go_wp2_with fail
    go_ret
    exact ⟨rfl, hb⟩
  have q1 : ¬ (150 : Int) < n := by omega
  clear h hT
  go_enter Tryd.func4, Tryd.ntmps4
  go_wp2_with fail
  refine (NW _ (Below.refl _ _)).out.mono ?_
  rintro e w1 ⟨rv, S, rfl, hr, -, hb⟩
  obtain ⟨pa, rfl⟩ := K.some hr
  have H := Lib.hid ((⟨(Held.nil w).step hb, hr, by simp⟩ : HR R w w1 [] (.pointer (some pa)) [] S).hn.nil.nil)
  clear hb hr NW
  go_wp2_with fail
  go_loopw [4, 5, 6, 20] (fun s4 s5 s6 s20 wr => ∃ (i k1 c1 k2 c2 q : Nat) (A1 A2 : Option Addr) (lg : List Gl) (S' : Nat → Prop), i ≤ n ∧ s20 = .int .i64 (i : Int) ∧ s4 = .slice A1 k1 c1 ∧ s5 = .slice A2 k2 c2 ∧ s6 = .int .u32 (q : Int) ∧ lg.length ≤ i ∧ q ≤ i ∧ Hid (WF lg ∧ addedF lg = q) ∧ Hid (HN R w wr [] [(.slice A1 k1 c1, lg), (.slice A2 k2 c2, listF lg)] (.pointer (some pa)) lg S')) (fun _ _ _ s20 _ => leftN n s20)
  case atStart => exact ⟨0, 0, 0, 0, 0, 0, none, none, [], S, Nat.zero_le _, rfl, rfl, rfl, rfl, Nat.le_refl _, Nat.le_refl _, Lib.hid ⟨wf_nil, rfl⟩, H⟩
  case round =>
    clear H
    obtain ⟨i, k1, c1, k2, c2, q, A1, A2, lg, S', hi, rfl, rfl, rfl, rfl, hlg, hqi, HW, H⟩ := hrel
    by_cases hlt : i < n
    · have q0 : (0 : Int) ≤ i := by omega
      have q2 : (i : Int) < n := by omega
      obtain ⟨x, hx⟩ : ∃ x, l[i]? = some x := ⟨_, List.getElem?_eq_getElem (by omega)⟩
      have HX := Lib.hid hx
      have GA := fun (W : World) (hb : Below w.heap.size w W) => os_at HO.out hb hx
      obtain ⟨hnm, b1, o1, rfl, y0, y1, y2, y3⟩ := os_at HO.out H.out.hr.held.below hx
      have DO := do_any K (K.below HT.out H.out.hr.held.below) H.out.hr (by omega) x hnm
      obtain ⟨⟨l2, q2, er⟩, hd⟩ : ∃ a, doF lg x = a := ⟨_, rfl⟩
      rw [hd] at DO
      replace DO := Lib.hid DO
      obtain ⟨kd, nm, it, vr⟩ := x
      dsimp only at hnm y0 y1 y2 y3 DO
      replace GA : ∀ W, Below w.heap.size w W → W.cell? ⟨b1, o1 + i * 4, none⟩ = some (.int .i64 kd) ∧ W.cell? ⟨b1, o1 + i * 4 + 1, none⟩ = some (.int .u32 (nm : Int)) ∧ W.cell? ⟨b1, o1 + i * 4 + 2, none⟩ = some (.string it) ∧ W.cell? ⟨b1, o1 + i * 4 + 3, none⟩ = some (.int .i64 vr) := fun W hb => by
        obtain ⟨_, b2, o2, e, g⟩ := GA W hb
        simp only [Option.some.injEq, Addr.mk.injEq] at e
        obtain ⟨rfl, rfl, -⟩ := e
        exact g
      clear hx
      have HD := Lib.hid hd
      clear hd
      go_wp2_with fail
      refine DO.out.mono ?_
      rintro e w4 ⟨S4, rfl, hr, hs, ht⟩
      replace H := Lib.hid (H.out.turn K hr hs ht)
      clear hr hs ht DO y0 y1 y2 y3
      obtain ⟨y0, y1, y2, y3⟩ := GA _ H.out.hr.held.below
      by_cases he : er = 0
      · subst he
        by_cases h0 : kd = 0
        · subst h0
          obtain ⟨hv, hl2, hq2⟩ : 0 < vr ∧ l2 = lg ++ [⟨q + 1, it, vr⟩] ∧ q2 = q + 1 := by
            have hd := HD.out
            simp only [doF, if_pos] at hd
            have ha := add_ok (l := lg) (s := it) (v := vr) (by rw [hd])
            rw [hd, HW.out.2] at ha
            simp only [Prod.mk.injEq] at ha
            exact ⟨ha.1, ha.2.1, ha.2.2.1⟩
          subst hq2
          clear HD
          have qw : ((q : Int) + 1) % 4294967296 = q + 1 := by omega
          go_wp2_with fail
          have sk := And.intro y2 y3
          go_region_held3 (fun W => W.cell? ⟨b1, o1 + i * 4 + 2, none⟩ = some (.string it) ∧ W.cell? ⟨b1, o1 + i * 4 + 3, none⟩ = some (.int .i64 vr))
            (first
              | exact sk
              | go_keep)
            (first
              | fail)
          have H3 := Lib.hid ((H.out.alloc K [.int .u32 ((q : Int) + 1), .string it, .int .i64 vr] 49).step K (Below.refl _ _).drew)
          generalize (w4.alloc (.cells #[.int .u32 ((q : Int) + 1), .string it, .int .i64 vr] 49)).drew = w7 at *
          generalize w4.heap.size = kg at *
          clear H sk y0 y1 y2 y3
          obtain ⟨z0, z1, z2, -, -⟩ := (show Held w _ ([] ++ (kg, _) :: []) from H3.out.hr.held).tri
          go_wp2_with fail
          have hls : listF l2 = listF lg ++ [⟨q + 1, it, vr⟩] := by
            rw [hl2, ← HW.out.2]
            exact list_add HW.out.1 it hv
          have hll := list_len lg
          have hl2n : l2.length = lg.length + 1 := by rw [hl2]; simp
          have HW2 : Hid (WF l2 ∧ addedF l2 = q + 1) := Lib.hid (by
            rw [hl2, ← HW.out.2]
            exact ⟨wf_add HW.out.1 it hv, by rw [addedF_append]; simp [hv]⟩)
          have H := Lib.hid (H3.out.step K (Below.refl _ _).drew)
          clear z0 z1 z2 HW
          have sk := (let z := (show Held w _ ([] ++ (kg, _) :: []) from H.out.hr.held).tri; And.intro z.1 (And.intro z.2.1 z.2.2.1))
          have X2 := Lib.hid (show HN R w ((w7.alloc (.cells #[.int .u32 ((q : Int) + 1), .string it, .int .i64 vr] 49)).alloc (.cells #[.int .u32 ((q : Int) + 1), .string it, .int .i64 vr] 49)).drew [(w7.heap.size + 1, [.int .u32 ((q : Int) + 1), .string it, .int .i64 vr]), (w7.heap.size, [.int .u32 ((q : Int) + 1), .string it, .int .i64 vr]), (kg, [.int .u32 ((q : Int) + 1), .string it, .int .i64 vr])] [(.slice A1 k1 c1, lg), (.slice A2 k2 c2, listF lg)] (.pointer (some pa)) l2 S4 from by
            have h := (((H3.out.alloc K [.int .u32 ((q : Int) + 1), .string it, .int .i64 vr] 49).alloc K [.int .u32 ((q : Int) + 1), .string it, .int .i64 vr] 49).step K (Below.refl _ _).drew)
            rw [World.size_alloc] at h
            exact h)
          have skA := (let z := (show Held w _ ([_] ++ (kg, _) :: []) from ((H3.out.alloc K [.int .u32 ((q : Int) + 1), .string it, .int .i64 vr] 49).step K (Below.refl _ _).drew).hr.held).tri; And.intro z.1 (And.intro z.2.1 z.2.2.1))
          have skB := (let z := (show Held w _ ([_, _] ++ (kg, _) :: []) from X2.out.hr.held).tri; And.intro z.1 (And.intro z.2.1 z.2.2.1))
          go_region_held3 (fun W => W.cell? ⟨kg, 0, none⟩ = some (.int .u32 ((q : Int) + 1)) ∧ W.cell? ⟨kg, 1, none⟩ = some (.string it) ∧ W.cell? ⟨kg, 2, none⟩ = some (.int .i64 vr))
            (first
              | exact sk
              | exact skA
              | exact skB
              | go_keep)
            (first
              | (refine step_appG rfl _ _ rfl (base := w.heap.size) (l := lg) (m := [⟨q + 1, it, vr⟩]) rfl (((H3.out.alloc K [.int .u32 ((q : Int) + 1), .string it, .int .i64 vr] 49).step K (Below.refl _ _).drew).own _ (List.mem_cons_self ..)) rfl (gs_box (l1 := []) ((H3.out.alloc K [.int .u32 ((q : Int) + 1), .string it, .int .i64 vr] 49).step K (Below.refl _ _).drew).hr.held ⟨q + 1, it, vr⟩ rfl) (by simp only [List.length_cons, List.length_nil]; omega) ((H3.out.alloc K [.int .u32 ((q : Int) + 1), .string it, .int .i64 vr] 49).step K (Below.refl _ _).drew).hr.held.below.size ?_; intro v5 w6 ho5 hg5 hw5; have JN := ((H3.out.alloc K [.int .u32 ((q : Int) + 1), .string it, .int .i64 vr] 49).step K (Below.refl _ _).drew).app K ho5 hg5 hw5; rw [← hl2] at JN ho5; obtain ⟨A5, c5, hv5, _, _⟩ := ho5.gs.shape; generalize l2.length = k5 at hv5; subst hv5; have JN2 := JN.sub (List.sublist_cons_self _ _); clear H sk ho5 hg5 hw5 JN; have H := Lib.hid JN2; clear JN2; have sk := (let z := (show Held w _ ([] ++ (kg, _) :: []) from H.out.hr.held).tri; And.intro z.1 (And.intro z.2.1 z.2.2.1)))
              | (refine step_appG rfl _ _ rfl (base := w.heap.size) (l := lg) (m := [⟨q + 1, it, vr⟩]) rfl (X2.out.own _ (List.mem_cons_self ..)) rfl (gs_box (l1 := []) X2.out.hr.held ⟨q + 1, it, vr⟩ rfl) (by simp only [List.length_cons, List.length_nil]; omega) X2.out.hr.held.below.size ?_; intro v5 w6 ho5 hg5 hw5; have JN := X2.out.app K ho5 hg5 hw5; rw [← hl2] at JN ho5; obtain ⟨A5, c5, hv5, _, _⟩ := ho5.gs.shape; generalize l2.length = k5 at hv5; subst hv5; have JN2 := JN; clear H sk ho5 hg5 hw5 JN; have H := Lib.hid JN2; clear JN2; have sk := (let z := (show Held w _ ([_, _] ++ (kg, _) :: []) from H.out.hr.held).tri; And.intro z.1 (And.intro z.2.1 z.2.2.1)))
              | (refine step_appG rfl _ _ rfl (base := w.heap.size) (l := lg) (m := [⟨q + 1, it, vr⟩]) rfl (X2.out.own _ (List.mem_cons_self ..)) rfl (gs_box (l1 := [_]) X2.out.hr.held ⟨q + 1, it, vr⟩ rfl) (by simp only [List.length_cons, List.length_nil]; omega) X2.out.hr.held.below.size ?_; intro v5 w6 ho5 hg5 hw5; have JN := X2.out.app K ho5 hg5 hw5; rw [← hl2] at JN ho5; obtain ⟨A5, c5, hv5, _, _⟩ := ho5.gs.shape; generalize l2.length = k5 at hv5; subst hv5; have JN2 := JN; clear H sk ho5 hg5 hw5 JN; have H := Lib.hid JN2; clear JN2; have sk := (let z := (show Held w _ ([_, _] ++ (kg, _) :: []) from H.out.hr.held).tri; And.intro z.1 (And.intro z.2.1 z.2.2.1)))
              | (refine step_appG rfl _ _ rfl (base := w.heap.size) (l := listF lg) (m := [⟨q + 1, it, vr⟩]) rfl ((H.out.swap.alloc K [.int .u32 ((q : Int) + 1), .string it, .int .i64 vr] 49).own _ (List.mem_cons_self ..)) rfl (gs_box (l1 := []) (H.out.swap.alloc K [.int .u32 ((q : Int) + 1), .string it, .int .i64 vr] 49).hr.held ⟨q + 1, it, vr⟩ rfl) (by simp only [List.length_cons, List.length_nil]; omega) (H.out.swap.alloc K [.int .u32 ((q : Int) + 1), .string it, .int .i64 vr] 49).hr.held.below.size ?_; intro v8 w8 ho8 hg8 hw8; have JN := (H.out.swap.alloc K [.int .u32 ((q : Int) + 1), .string it, .int .i64 vr] 49).app K ho8 hg8 hw8; rw [← hls] at JN ho8; obtain ⟨A8, c8, hv8, _, _⟩ := ho8.gs.shape; generalize (listF l2).length = k8 at hv8; subst hv8; have HF := Lib.hid (JN.sub (List.nil_sublist _)).swap; clear sk; have sk := (let z := (show Held w _ ([_] ++ (kg, _) :: []) from JN.hr.held).tri; And.intro z.1 (And.intro z.2.1 z.2.2.1)); clear ho8 hg8 hw8 JN)
              | (refine step_appG rfl _ _ rfl (base := w.heap.size) (l := listF lg) (m := [⟨q + 1, it, vr⟩]) rfl (H.out.swap.own _ (List.mem_cons_self ..)) rfl (gs_box (l1 := []) H.out.swap.hr.held ⟨q + 1, it, vr⟩ rfl) (by simp only [List.length_cons, List.length_nil]; omega) H.out.swap.hr.held.below.size ?_; intro v8 w8 ho8 hg8 hw8; have JN := H.out.swap.app K ho8 hg8 hw8; rw [← hls] at JN ho8; obtain ⟨A8, c8, hv8, _, _⟩ := ho8.gs.shape; generalize (listF l2).length = k8 at hv8; subst hv8; have HF := Lib.hid (JN.sub (List.nil_sublist _)).swap; clear sk; have sk := (let z := (show Held w _ ([_, _] ++ (kg, _) :: []) from JN.hr.held).tri; And.intro z.1 (And.intro z.2.1 z.2.2.1)); clear ho8 hg8 hw8 JN)
              | (refine step_appG rfl _ _ rfl (base := w.heap.size) (l := listF lg) (m := [⟨q + 1, it, vr⟩]) rfl (H.out.swap.own _ (List.mem_cons_self ..)) rfl (gs_box (l1 := [_]) H.out.swap.hr.held ⟨q + 1, it, vr⟩ rfl) (by simp only [List.length_cons, List.length_nil]; omega) H.out.swap.hr.held.below.size ?_; intro v8 w8 ho8 hg8 hw8; have JN := H.out.swap.app K ho8 hg8 hw8; rw [← hls] at JN ho8; obtain ⟨A8, c8, hv8, _, _⟩ := ho8.gs.shape; generalize (listF l2).length = k8 at hv8; subst hv8; have HF := Lib.hid (JN.sub (List.nil_sublist _)).swap; clear sk; have sk := (let z := (show Held w _ ([_, _] ++ (kg, _) :: []) from JN.hr.held).tri; And.intro z.1 (And.intro z.2.1 z.2.2.1)); clear ho8 hg8 hw8 JN)
              | fail)
          all_goals
            clear sk skA skB X2 H H3
            go_wp2_with fail
            go_roundw
            case rel => exact ⟨i + 1, k5, c5, k8, c8, q + 1, A5, A8, l2, S4, by omega, by go_num, rfl, rfl, by go_num, by omega, by omega, HW2, HF⟩
            case measure =>
              unfold leftN
              simp [intOf]
              omega
        have h0' : (kd == 0) = false := beq_eq_false_iff_ne.2 h0
        by_cases h1 : kd = 1
        · subst h1
          obtain ⟨hq, hl2⟩ : (annF lg nm).2 = true ∧ remF lg nm = (l2, 0) ∧ q2 = nm := by
            have hd := HD.out
            simp only [doF] at hd
            obtain ⟨e1, e2, e3⟩ : (remF lg nm).1 = l2 ∧ nm = q2 ∧ (remF lg nm).2 = 0 := by simpa using hd
            exact ⟨(rem_ok e3).1, Prod.ext e1 e3, e2.symm⟩
          obtain ⟨hl2, rfl⟩ := hl2
          have hl3 := (rem_ok (l := lg) (q := q2) (by rw [hl2])).2
          rw [hl2] at hl3
          simp only [Prod.mk.injEq, and_true] at hl3
          clear HD hl2
          obtain ⟨L, hL⟩ : ∃ L, listF lg = L := ⟨_, rfl⟩
          have hLl := list_len lg
          have h1w := list_one HW.out.1 hq
          have hrl := rem_len HW.out.1 hq
          rw [hL] at H hLl h1w hrl
          have hk2 := (H.out.own (.slice A2 k2 c2, L) (by simp)).len
          replace H := Lib.hid (show HN R w w4 [] [(.slice A1 k1 c1, lg ++ hitL (L.take 0) q2), (.slice none 0 0, keepL (L.take 0) q2), (.slice A2 k2 c2, L)] (.pointer (some pa)) l2 S4 from by
            simpa [hitL, keepL] using H.out.nil.swap)
          go_wp2_with fail
          go_loopw [4, 11, 70] (fun s4 s11 s70 wv => ∃ (j ka ca kb cb : Nat) (Aa Ab : Option Addr), j ≤ k2 ∧ s70 = .int .i64 (j : Int) ∧ s4 = .slice Aa ka ca ∧ s11 = .slice Ab kb cb ∧ Hid (HN R w wv [] [(.slice Aa ka ca, lg ++ hitL (L.take j) q2), (.slice Ab kb cb, keepL (L.take j) q2), (.slice A2 k2 c2, L)] (.pointer (some pa)) l2 S4)) (fun _ _ s70 _ => leftN k2 s70)
          case atStart => exact ⟨0, k1, c1, 0, 0, A1, none, Nat.zero_le _, rfl, rfl, rfl, H⟩
          case round =>
            clear H y0 y1 y2 y3
            obtain ⟨j, ka, ca, kb, cb, Aa, Ab, hj, rfl, rfl, rfl, H⟩ := hrel
            by_cases hjl : j < k2
            · have p0 : (0 : Int) ≤ j := by omega
              have p1 : (j : Int) < k2 := by omega
              obtain ⟨z, hz⟩ : ∃ z, L[j]? = some z := ⟨_, List.getElem?_eq_getElem (by omega)⟩
              have e1 := hit_take hz q2
              have e2 := keep_take hz q2
              have m1 := hit_len (L.take j) q2
              have m2 := keep_len (L.take j) q2
              rw [List.length_take] at m1 m2
              obtain ⟨b2, o2, rfl, _, z0, z1, z2⟩ := gs_at (H.out.own (.slice A2 k2 c2, L) (by simp)).gs (Below.refl _ _) hz
              by_cases hzq : z.nm = q2
              · rw [if_pos hzq] at e1 e2
                rw [List.append_nil] at e2
                rw [← e2] at H
                have hb0 := H.out.hr.held.below.size
                clear hz e2 m2
                obtain ⟨zn, zi, zv⟩ := z
                dsimp only at hzq e1 z0 z1 z2
                subst hzq
                have E1 := Lib.hid e1
                clear e1
                go_wp2_with (at_builtin; refine wpList_appG rfl _ _ rfl (base := w.heap.size) (l := lg ++ hitL (L.take j) zn) (m := [⟨zn, zi, 0⟩]) rfl ((H.out.step K ((Below.refl _ _).alloc (Nat.le_refl _) _)).own _ (List.mem_cons_self ..)) rfl (gs_one _ ⟨zn, zi, 0⟩) (by simp only [List.length_append, List.length_cons, List.length_nil]; omega) (H.out.step K ((Below.refl _ _).alloc (Nat.le_refl _) _)).hr.held.below.size ?_; intro v5 w5 ho5 hg5 hw5; have JN := (H.out.step K ((Below.refl _ _).alloc (Nat.le_refl _) _)).app K ho5 hg5 hw5; rw [List.append_assoc, ← E1.out] at JN; obtain ⟨A5, c5, hv5, _, _⟩ := ho5.gs.shape; generalize (lg ++ hitL (L.take j) zn ++ ([⟨zn, zi, 0⟩] : List Gl)).length = k5 at hv5; subst hv5; clear H ho5 hg5 hw5; replace JN := Lib.hid JN)
                go_roundw
                case rel => exact ⟨j + 1, k5, c5, kb, cb, A5, Ab, by omega, by go_num, rfl, rfl, JN⟩
                case measure =>
                  unfold leftN
                  simp [intOf]
                  omega
              · rw [if_neg hzq] at e1 e2
                rw [List.append_nil] at e1
                rw [← e1] at H
                have hb0 := H.out.hr.held.below.size
                clear hz e1 m1
                obtain ⟨zn, zi, zv⟩ := z
                dsimp only at hzq e2 z0 z1 z2
                have hzq' : ((zn : Int) == (q2 : Int)) = false := beq_eq_false_iff_ne.2 (by omega)
                have E1 := Lib.hid e2
                clear e2
                go_wp2_with (at_builtin; refine wpList_appG rfl _ _ rfl (base := w.heap.size) (l := keepL (L.take j) q2) (m := [⟨zn, zi, zv⟩]) rfl ((H.out.swap.step K ((Below.refl _ _).alloc (Nat.le_refl _) _)).own _ (List.mem_cons_self ..)) rfl (gs_one _ ⟨zn, zi, zv⟩) (by simp only [List.length_cons, List.length_nil]; omega) (H.out.step K ((Below.refl _ _).alloc (Nat.le_refl _) _)).hr.held.below.size ?_; intro v5 w5 ho5 hg5 hw5; have JN := (H.out.swap.step K ((Below.refl _ _).alloc (Nat.le_refl _) _)).app K ho5 hg5 hw5; rw [← E1.out] at JN; obtain ⟨A5, c5, hv5, _, _⟩ := ho5.gs.shape; generalize (keepL (L.take j) q2 ++ ([⟨zn, zi, zv⟩] : List Gl)).length = k5 at hv5; subst hv5; clear H ho5 hg5 hw5; replace JN := Lib.hid JN.swap)
                go_roundw
                case rel => exact ⟨j + 1, ka, ca, k5, c5, Aa, A5, by omega, by go_num, rfl, rfl, JN⟩
                case measure =>
                  unfold leftN
                  simp [intOf]
                  omega
            · obtain rfl : k2 = j := by omega
              rw [List.take_of_length_le (by omega)] at H
              have hkb := (H.out.own (.slice Ab kb cb, keepL L q2) (by simp)).len
              have hkk : kb + 1 = k2 := by
                rw [← hkb, ← hk2]
                exact hrl
              have pk : (kb : Int) + 1 = k2 := by omega
              have eh : lg ++ hitL L q2 = l2 := by
                rw [hl3]
                unfold hitL
                rw [h1w]
                rfl
              have ek : keepL L q2 = listF l2 := by
                rw [hl3, list_rem, hL]
                rfl
              have ew : WF l2 ∧ addedF l2 = q := by
                rw [hl3]
                exact ⟨rem_wf HW.out.1 hq _, by rw [addedF_append]; simpa using HW.out.2⟩
              have el : l2.length = lg.length + 1 := by rw [hl3]; simp
              have hqk : kb ≤ 1000 := by omega
              rw [eh, ek] at H
              have H2 := Lib.hid (H.out.drop (List.Sublist.cons_cons _ (List.Sublist.cons_cons _ (List.nil_sublist _))))
              have HW2 := Lib.hid ew
              clear H hkb hrl h1w hl3 eh ek ew HW hL hk2
              go_wp2_with fail
              go_roundw
              case rel => exact ⟨i + 1, ka, ca, kb, cb, q, Aa, Ab, l2, S4, by omega, by go_num, rfl, rfl, rfl, by omega, by omega, HW2, H2⟩
              case measure =>
                unfold leftN
                simp [intOf]
                omega
        · have h1' : (kd == 1) = false := beq_eq_false_iff_ne.2 h1
          have hl2 : l2 = lg := by
            have hd := HD.out
            simp only [doF, if_neg h0, if_neg h1, Prod.mk.injEq] at hd
            exact hd.1.symm
          subst hl2
          clear HD
          go_wp2_with fail
          go_roundw
          case rel => exact ⟨i + 1, k1, c1, k2, c2, q, A1, A2, l2, S4, by omega, by go_num, rfl, rfl, rfl, by omega, by omega, HW, H⟩
          case measure =>
            unfold leftN
            simp [intOf]
            omega
      · have he' : (er != 0) = true := bne_iff_ne.2 he
        have hl2 : l2 = lg := by
          have hd := HD.out
          unfold doF at hd
          dsimp only at hd
          split at hd
          · have := add_bad (l := lg) (s := it) (v := vr) (by rw [hd]; exact he)
            rw [hd] at this
            exact this
          · split at hd
            · simp only [Prod.mk.injEq] at hd
              have := rem_bad (l := lg) (q := nm) (by rw [hd.2.2]; exact he)
              exact hd.1.symm.trans this
            · simp only [Prod.mk.injEq] at hd
              exact hd.1.symm
        subst hl2
        clear HD
        go_wp2_with fail
        go_roundw
        case rel => exact ⟨i + 1, k1, c1, k2, c2, q, A1, A2, l2, S4, by omega, by go_num, rfl, rfl, rfl, by omega, by omega, HW, H⟩
        case measure =>
          unfold leftN
          simp [intOf]
          omega
    · obtain rfl : n = i := by omega
      have LG := fun (W : World) (hb : Below w.heap.size w W) S (hr : R w W (.pointer (some pa)) lg S) => Lib.hid (K.log (K.below HT.out hb) hr (by omega))
      have LS := fun (W : World) (hb : Below w.heap.size w W) S (hr : R w W (.pointer (some pa)) lg S) => Lib.hid (K.list (K.below HT.out hb) hr (by omega))
      have sl : sameF lg lg = true := (sameF_iff _ _).2 rfl
      have sl2 : sameF (listF lg) (listF lg) = true := (sameF_iff _ _).2 rfl
      clear HO
      go_wp2_with fail
      refine (LG _ H.out.hr.held.below _ H.out.hr.reg).out.mono ?_
      rintro e w2 ⟨u, rfl, hg, hb⟩
      replace H := Lib.hid (H.out.step K hb)
      clear hb
      have SM := same_any hg (H.out.own (.slice A1 k1 c1, lg) (by simp)).gs
      rw [sl] at SM
      replace SM := Lib.hid SM
      clear hg LG
      go_wp2_with fail
      refine SM.out.mono ?_
      rintro e w3 ⟨rfl, hb⟩
      replace H := Lib.hid (H.out.step K hb)
      clear hb SM
      go_wp2_with fail
      refine (LS _ H.out.hr.held.below _ H.out.hr.reg).out.mono ?_
      rintro e w4 ⟨u2, rfl, hg, hb⟩
      replace H := Lib.hid (H.out.step K hb)
      clear hb
      have SM := same_any hg (H.out.own (.slice A2 k2 c2, listF lg) (by simp)).gs
      rw [sl2] at SM
      replace SM := Lib.hid SM
      clear hg LS
      go_wp2_with fail
      refine SM.out.mono ?_
      rintro e w5 ⟨rfl, hb⟩
      replace H := Lib.hid (H.out.step K hb)
      clear hb SM
      go_wp2_with fail
      refine (EX _ H.out.hr.held.below).out.mono ?_
      rintro e w6 ⟨rfl, hb⟩
      replace H := Lib.hid (H.out.step K hb)
      clear hb
      go_wp2_with fail
      go_ret
      exact ⟨rfl, H.out.hr.held.below⟩
end
end Go.Proofs.YtcecicmihdcjgaaDoor
