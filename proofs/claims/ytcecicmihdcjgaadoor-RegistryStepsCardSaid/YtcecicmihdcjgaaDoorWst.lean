/-
  RegistrySteps over the contracts of the registry's functions.
-/
import Derived.Test.YtcecicmihdcjgaaDoorRex
namespace Go.Proofs.YtcecicmihdcjgaaDoor
open Go.RowKit

/-- the blocks of a registry and a box -/
def Pb (k : Nat) (S : Nat → Prop) : Nat → Prop := fun j => S j ∨ j = k
theorem gsP_turn {S S' : Nat → Prop} {k : Nat} {w w' : World} {v : Value} {l : List Gl} (h : GsN (Pb k S) w v l) (ht : Turns S w w') (hs : ∀ k, S' k → S k ∨ w.heap.size ≤ k) : GsN (Pb k S') w' v l :=
  h.turn ⟨ht.os, ht.tape, ht.output, ht.size, fun j hj hn => ht.block j hj (fun h => hn (.inl h))⟩ (fun j hj => by
    rcases hj with hj | hj
    · rcases hs j hj with h | h
      · exact .inl (.inl h)
      · exact .inr h
    · exact .inl (.inr hj))
theorem gsP_set {S : Nat → Prop} {k : Nat} {W : World} {v : Value} {l : List Gl} (h : GsN (Pb k S) W v l) (i : Nat) (u : Value) : GsN (Pb k S) (W.setCell ⟨k, i, none⟩ u) v l :=
  h.turn ⟨rfl, rfl, rfl, by simp [World.setCell], fun j _ hn => Below.heap_setCell W ⟨k, i, none⟩ u j (fun e => hn (.inr e))⟩ (fun _ hj => .inl hj)
theorem HR.lt {T : World → Prop} {R : World → World → Value → List Gl → (Nat → Prop) → Prop} {w W : World} {bx : List (Nat × List Value)} {rv : Value} {l : List Gl} {S : Nat → Prop} {k : Nat}
    (h : HR R w W bx rv l S) (K : PR T R) (hk : k < W.heap.size) : ∀ j, Pb k S j → j < W.heap.size := by
  intro j hj
  rcases hj with hj | rfl
  · exact (K.lt h.reg j hj).2
  · exact hk

section
variable {T : World → Prop} {R : World → World → Value → List Gl → (Nat → Prop) → Prop}
set_option maxRecDepth 100000 in
set_option maxHeartbeats 16000000 in
theorem steps_walk (K : PR T R) {w : World} (hT : T w) {A : Option Addr} {n c : Nat} {l : List Op4} (h : Opl w (.slice A n c) l) (hn : l.length = n) :
    Calls Tryd.prog 3 #[.slice A n c] w (SaysB true w) := by
  have HT := Lib.hid hT
  have HO := Lib.hid h
  have EX := fun (W : World) (hb : Below w.heap.size w W) => Lib.hid (ex_any K (K.below HT.out hb))
  have R0 := fun W => Lib.hid (new14_any W)
  have NW := fun (W : World) (hb : Below w.heap.size w W) => Lib.hid (K.new (w0 := w) (K.below HT.out hb) hb)
  by_cases h1 : 150 < n
  · have q1 : (150 : Int) < n := by omega
    clear h hT
    go_enter Tryd.func3, Tryd.ntmps3
    go_wp2_with fail
    refine (EX _ (Below.refl _ _)).out.mono ?_
    rintro e w2 ⟨rfl, hb⟩
    go_wp2_with fail
    go_ret
    exact ⟨rfl, hb⟩
  have q1 : ¬ (150 : Int) < n := by omega
  clear h hT
  go_enter Tryd.func3, Tryd.ntmps3
  go_wp2_with fail
  refine (NW _ (Below.refl _ _)).out.mono ?_
  rintro e w1 ⟨rv, S, rfl, hr, -, hb⟩
  obtain ⟨pa, rfl⟩ := K.some hr
  have H := Lib.hid (⟨(Held.nil w).step hb, hr, by simp⟩ : HR R w w1 [] (.pointer (some pa)) [] S)
  clear hb hr NW
  go_wp2_with fail
  refine (R0 _).out.mono ?_
  rintro e w2 ⟨rfl, hb⟩
  replace H := Lib.hid (H.out.step K hb)
  clear hb R0
  obtain ⟨k, hk⟩ : ∃ k, w2.heap.size = k := ⟨_, rfl⟩
  replace H := Lib.hid (show HR R w (w2.alloc (.cells #[.slice none 0 0] 28)) [(k, [.slice none 0 0])] (.pointer (some pa)) [] S from by rw [← hk]; exact H.out.alloc K [.slice none 0 0] 28)
  go_wp2_with fail
  generalize w2.alloc (.cells #[.slice none 0 0] 28) = w3 at *
  clear hk
  go_loopw [19] (fun s19 wr => ∃ (i m c' : Nat) (A' : Option Addr) (lg : List Gl) (S' : Nat → Prop), i ≤ n ∧ s19 = .int .i64 (i : Int) ∧ lg.length ≤ i ∧ Hid (HR R w wr [(k, [.slice A' m c'])] (.pointer (some pa)) lg S') ∧ Hid (GsN (Pb k S') wr (.slice A' m c') lg)) (fun s19 _ => leftN n s19)
  case atStart => exact ⟨0, 0, 0, none, [], S, Nat.zero_le _, rfl, Nat.le_refl _, H, Lib.hid (gsN_nil _ _)⟩
  case round =>
    clear H
    obtain ⟨i, m, c', A', lg, S', hi, rfl, hlg, H, G⟩ := hrel
    by_cases hlt : i < n
    · have q0 : (0 : Int) ≤ i := by omega
      have q2 : (i : Int) < n := by omega
      obtain ⟨x, hx⟩ : ∃ x, l[i]? = some x := ⟨_, List.getElem?_eq_getElem (by omega)⟩
      obtain ⟨hnm, b1, o1, rfl, c0, c1, c2, c3⟩ := os_at HO.out H.out.held.below hx
      obtain ⟨kd, nm, it, vr⟩ := x
      dsimp only at hnm c0 c1 c2 c3
      have H2 := Lib.hid (H.out.alloc K [.int .i64 kd, .int .u32 (nm : Int), .string it, .int .i64 vr] 32)
      have G2 := Lib.hid (G.out.below ((Below.refl wr.heap.size wr).alloc (Nat.le_refl _) (.cells #[.int .i64 kd, .int .u32 (nm : Int), .string it, .int .i64 vr] 32)))
      obtain ⟨y0, y1, y2, y3, -, -⟩ := (show Held w _ ([] ++ (wr.heap.size, _) :: [_]) from H2.out.held).four
      clear hx G H
      by_cases h0 : kd = 0
      · subst h0
        obtain ⟨⟨l2, q, er⟩, ha⟩ : ∃ a, addF lg it vr = a := ⟨_, rfl⟩
        have hl2 := addF_len lg it vr
        have AD := K.add (K.below HT.out H2.out.held.below) H2.out.reg (by omega) it vr
        have RA := fun (W : World) (v : Value) (hg : Gs W v lg) => Lib.hid (add_any hg (by omega) it vr)
        rw [ha] at AD RA hl2
        replace AD := Lib.hid AD
        clear ha
        go_wp2_with fail
        refine AD.out.mono ?_
        rintro e w4 ⟨S4, rfl, hr, hs, ht⟩
        replace G2 := Lib.hid (gsP_turn G2.out ht hs)
        replace H2 := Lib.hid (H2.out.turn K hr hs ht)
        clear hr hs ht AD y0 y1 y2 y3
        obtain ⟨y0, y1, y2, y3, -, -⟩ := (show Held w _ ([] ++ (wr.heap.size, _) :: [_]) from H2.out.held).four
        obtain ⟨x0, xf, xt⟩ := (show Held w _ ([_] ++ (k, _) :: []) from H2.out.held).one
        go_wp2_with fail
        refine (RA _ _ G2.out.gs).out.mono ?_
        rintro e w5 ⟨u, rfl, hg, ho, hb⟩
        have g5 := gsN_next G2.out (HR.lt H2.out K xt) hg ho
        obtain ⟨A2, c2, rfl, -, -⟩ := hg.shape
        obtain ⟨m2, hm⟩ : ∃ m, l2.length = m := ⟨_, rfl⟩
        rw [hm] at g5 ⊢
        have hl3 : l2.length ≤ 151 := by omega
        clear hm
        have H3 := Lib.hid ((show HR R w w5 ([_] ++ (k, [.slice A' m c']) :: []) (.pointer (some pa)) l2 S4 from H2.out.step K hb).cell K (i := 0) (by simp) (.slice A2 m2 c2))
        have G3 := Lib.hid (gsP_set g5 0 (.slice A2 m2 c2))
        replace H2 := Lib.hid (H2.out.step K hb)
        clear hg ho g5 RA y0 y1 y2 y3 x0 xf xt hb
        obtain ⟨x0, xf, xt⟩ := (show Held w _ ([_] ++ (k, _) :: []) from H2.out.held).one
        go_wp2_with fail
        clear x0 xf xt
        replace H3 := Lib.hid (H3.out.step K (Below.refl _ _).drew)
        replace G3 := Lib.hid (G3.out.below (Below.refl _ _).drew)
        have hS : sameF (listF l2) (listF l2) = true := (sameF_iff _ _).2 rfl
        have sk := (show Held w _ ([_] ++ (k, _) :: []) from H3.out.held).one.1
        go_region_held3 (fun W => W.cell? ⟨k, 0, none⟩ = some (.slice A2 m2 c2))
          (first
            | exact sk
            | go_keep)
          (first
            | (go_at_call 19; (with_reducible refine (K.list (K.below HT.out H3.out.held.below) H3.out.reg (by omega)).mono ?_); rintro e wq ⟨v1, rfl, hv1, hb2⟩; replace H3 := Lib.hid (H3.out.step K hb2); replace G3 := Lib.hid (G3.out.below hb2); clear sk hb2; have sk := (show Held w _ ([_] ++ (k, _) :: []) from H3.out.held).one.1)
            | (go_at_call 20; (with_reducible refine (list_any G3.out.gs (by omega)).mono ?_); rintro e wq ⟨v2, rfl, hv2, hb2⟩; replace H3 := Lib.hid (H3.out.step K hb2); replace G3 := Lib.hid (G3.out.below hb2); replace hv1 := hv1.below hb2; clear sk hb2; have sk := (show Held w _ ([_] ++ (k, _) :: []) from H3.out.held).one.1)
            | (go_at_call 18; (with_reducible refine (same_any hv1 hv2.gs).mono ?_); rw [hS]; rintro e wq ⟨rfl, hb2⟩; replace H3 := Lib.hid (H3.out.step K hb2); replace G3 := Lib.hid (G3.out.below hb2); clear sk hb2; have sk := (show Held w _ ([_] ++ (k, _) :: []) from H3.out.held).one.1)
            | fail)
        all_goals
          clear hv1 hv2
          go_wp2_with fail
          go_roundw
          case rel => exact ⟨i + 1, m2, c2, A2, l2, S4, by omega, by go_num, by omega, Lib.hid (H3.out.sub (List.sublist_cons_self _ _)), G3⟩
          case measure =>
            unfold leftN
            simp [intOf]
            omega
      by_cases h1 : kd = 1
      · subst h1
        obtain ⟨⟨l2, er⟩, ha⟩ : ∃ a, remF lg nm = a := ⟨_, rfl⟩
        have hl2 := remF_len lg nm
        have AD := K.rem (K.below HT.out H2.out.held.below) H2.out.reg (by omega) nm hnm
        have RA := fun (W : World) (v : Value) (hg : Gs W v lg) => Lib.hid (remove_any hg (by omega) nm)
        rw [ha] at AD RA hl2
        replace AD := Lib.hid AD
        clear ha
        go_wp2_with fail
        refine AD.out.mono ?_
        rintro e w4 ⟨S4, rfl, hr, hs, ht⟩
        replace G2 := Lib.hid (gsP_turn G2.out ht hs)
        replace H2 := Lib.hid (H2.out.turn K hr hs ht)
        clear hr hs ht AD y0 y1 y2 y3
        obtain ⟨y0, y1, y2, y3, -, -⟩ := (show Held w _ ([] ++ (wr.heap.size, _) :: [_]) from H2.out.held).four
        obtain ⟨x0, xf, xt⟩ := (show Held w _ ([_] ++ (k, _) :: []) from H2.out.held).one
        go_wp2_with fail
        refine (RA _ _ G2.out.gs).out.mono ?_
        rintro e w5 ⟨u, rfl, hg, ho, hb⟩
        have g5 := gsN_next G2.out (HR.lt H2.out K xt) hg ho
        obtain ⟨A2, c2, rfl, -, -⟩ := hg.shape
        obtain ⟨m2, hm⟩ : ∃ m, l2.length = m := ⟨_, rfl⟩
        rw [hm] at g5 ⊢
        have hl3 : l2.length ≤ 151 := by omega
        clear hm
        have H3 := Lib.hid ((show HR R w w5 ([_] ++ (k, [.slice A' m c']) :: []) (.pointer (some pa)) l2 S4 from H2.out.step K hb).cell K (i := 0) (by simp) (.slice A2 m2 c2))
        have G3 := Lib.hid (gsP_set g5 0 (.slice A2 m2 c2))
        replace H2 := Lib.hid (H2.out.step K hb)
        clear hg ho g5 RA y0 y1 y2 y3 x0 xf xt hb
        obtain ⟨x0, xf, xt⟩ := (show Held w _ ([_] ++ (k, _) :: []) from H2.out.held).one
        go_wp2_with fail
        clear x0 xf xt
        replace H3 := Lib.hid (H3.out.step K (Below.refl _ _).drew)
        replace G3 := Lib.hid (G3.out.below (Below.refl _ _).drew)
        have hS : sameF (listF l2) (listF l2) = true := (sameF_iff _ _).2 rfl
        have sk := (show Held w _ ([_] ++ (k, _) :: []) from H3.out.held).one.1
        go_region_held3 (fun W => W.cell? ⟨k, 0, none⟩ = some (.slice A2 m2 c2))
          (first
            | exact sk
            | go_keep)
          (first
            | (go_at_call 19; (with_reducible refine (K.list (K.below HT.out H3.out.held.below) H3.out.reg (by omega)).mono ?_); rintro e wq ⟨v1, rfl, hv1, hb2⟩; replace H3 := Lib.hid (H3.out.step K hb2); replace G3 := Lib.hid (G3.out.below hb2); clear sk hb2; have sk := (show Held w _ ([_] ++ (k, _) :: []) from H3.out.held).one.1)
            | (go_at_call 20; (with_reducible refine (list_any G3.out.gs (by omega)).mono ?_); rintro e wq ⟨v2, rfl, hv2, hb2⟩; replace H3 := Lib.hid (H3.out.step K hb2); replace G3 := Lib.hid (G3.out.below hb2); replace hv1 := hv1.below hb2; clear sk hb2; have sk := (show Held w _ ([_] ++ (k, _) :: []) from H3.out.held).one.1)
            | (go_at_call 18; (with_reducible refine (same_any hv1 hv2.gs).mono ?_); rw [hS]; rintro e wq ⟨rfl, hb2⟩; replace H3 := Lib.hid (H3.out.step K hb2); replace G3 := Lib.hid (G3.out.below hb2); clear sk hb2; have sk := (show Held w _ ([_] ++ (k, _) :: []) from H3.out.held).one.1)
            | fail)
        all_goals
          clear hv1 hv2
          go_wp2_with fail
          go_roundw
          case rel => exact ⟨i + 1, m2, c2, A2, l2, S4, by omega, by go_num, by omega, Lib.hid (H3.out.sub (List.sublist_cons_self _ _)), G3⟩
          case measure =>
            unfold leftN
            simp [intOf]
            omega
      · have h0' : (kd == 0) = false := beq_eq_false_iff_ne.2 h0
        have h1' : (kd == 1) = false := beq_eq_false_iff_ne.2 h1
        obtain ⟨er, ha⟩ : ∃ a, bindF lg nm it vr = a := ⟨_, rfl⟩
        have AD := K.bind (K.below HT.out H2.out.held.below) H2.out.reg (by omega) nm hnm it vr
        have RA := fun (W : World) (v : Value) (hg : Gs W v lg) => Lib.hid (bind_any hg (by omega) nm it vr)
        rw [ha] at AD RA
        replace AD := Lib.hid AD
        clear ha
        go_wp2_with fail
        refine AD.out.mono ?_
        rintro e w4 ⟨rfl, hb⟩
        replace G2 := Lib.hid (G2.out.below hb)
        replace H2 := Lib.hid (H2.out.step K hb)
        clear hb AD y0 y1 y2 y3
        obtain ⟨y0, y1, y2, y3, -, -⟩ := (show Held w _ ([] ++ (wr.heap.size, _) :: [_]) from H2.out.held).four
        obtain ⟨x0, xf, xt⟩ := (show Held w _ ([_] ++ (k, _) :: []) from H2.out.held).one
        go_wp2_with fail
        refine (RA _ _ G2.out.gs).out.mono ?_
        rintro e w5 ⟨rfl, hb⟩
        have H3 := Lib.hid (H2.out.step K hb)
        have G3 := Lib.hid (G2.out.below hb)
        clear RA y0 y1 y2 y3 x0 xf xt hb G2 H2
        obtain ⟨x0, xf, xt⟩ := (show Held w _ ([_] ++ (k, _) :: []) from H3.out.held).one
        go_wp2_with fail
        have hl3 : lg.length ≤ 151 := by omega
        clear x0 xf xt
        replace H3 := Lib.hid (H3.out.step K (Below.refl _ _).drew)
        replace G3 := Lib.hid (G3.out.below (Below.refl _ _).drew)
        have hS : sameF (listF lg) (listF lg) = true := (sameF_iff _ _).2 rfl
        have sk := (show Held w _ ([_] ++ (k, _) :: []) from H3.out.held).one.1
        go_region_held3 (fun W => W.cell? ⟨k, 0, none⟩ = some (.slice A' m c'))
          (first
            | exact sk
            | go_keep)
          (first
            | (go_at_call 19; (with_reducible refine (K.list (K.below HT.out H3.out.held.below) H3.out.reg (by omega)).mono ?_); rintro e wq ⟨v1, rfl, hv1, hb2⟩; replace H3 := Lib.hid (H3.out.step K hb2); replace G3 := Lib.hid (G3.out.below hb2); clear sk hb2; have sk := (show Held w _ ([_] ++ (k, _) :: []) from H3.out.held).one.1)
            | (go_at_call 20; (with_reducible refine (list_any G3.out.gs (by omega)).mono ?_); rintro e wq ⟨v2, rfl, hv2, hb2⟩; replace H3 := Lib.hid (H3.out.step K hb2); replace G3 := Lib.hid (G3.out.below hb2); replace hv1 := hv1.below hb2; clear sk hb2; have sk := (show Held w _ ([_] ++ (k, _) :: []) from H3.out.held).one.1)
            | (go_at_call 18; (with_reducible refine (same_any hv1 hv2.gs).mono ?_); rw [hS]; rintro e wq ⟨rfl, hb2⟩; replace H3 := Lib.hid (H3.out.step K hb2); replace G3 := Lib.hid (G3.out.below hb2); clear sk hb2; have sk := (show Held w _ ([_] ++ (k, _) :: []) from H3.out.held).one.1)
            | fail)
        all_goals
          clear hv1 hv2
          go_wp2_with fail
          go_roundw
          case rel => exact ⟨i + 1, m, c', A', lg, S', by omega, by go_num, by omega, Lib.hid (H3.out.sub (List.sublist_cons_self _ _)), G3⟩
          case measure =>
            unfold leftN
            simp [intOf]
            omega
    · obtain rfl : n = i := by omega
      have hl3 : lg.length ≤ 151 := by omega
      obtain ⟨x0, xf, xt⟩ := (show Held w _ ([] ++ (k, _) :: []) from H.out.held).one
      go_wp2_with fail
      clear x0 xf xt
      replace H := Lib.hid (H.out.step K (Below.refl _ _).drew)
      replace G := Lib.hid (G.out.below (Below.refl _ _).drew)
      have hS : sameF lg lg = true := (sameF_iff _ _).2 rfl
      obtain ⟨m2, hm⟩ : ∃ x, lg.length = x := ⟨_, rfl⟩
      have sk := (show Held w _ ([] ++ (k, _) :: []) from H.out.held).one.1
      go_region_held3 (fun W => W.cell? ⟨k, 0, none⟩ = some (.slice A' m c'))
        (first
          | exact sk
          | go_keep)
        (first
          | (go_at_call 21; (with_reducible refine (K.log (K.below HT.out H.out.held.below) H.out.reg (by omega)).mono ?_); rintro e wq ⟨v1, rfl, hv1, hb2⟩; replace H := Lib.hid (H.out.step K hb2); replace G := Lib.hid (G.out.below hb2); clear sk hb2; have sk := (show Held w _ ([] ++ (k, _) :: []) from H.out.held).one.1)
          | (go_at_call 22; (with_reducible refine (log_any).mono ?_); rintro e wq ⟨rfl, hb2⟩; replace H := Lib.hid (H.out.step K hb2); replace G := Lib.hid (G.out.below hb2); replace hv1 := hv1.below hb2; clear sk hb2; have sk := (show Held w _ ([] ++ (k, _) :: []) from H.out.held).one.1)
          | (go_at_call 18; (with_reducible refine (same_any hv1 G.out.gs).mono ?_); rw [hS]; rintro e wq ⟨rfl, hb2⟩; replace H := Lib.hid (H.out.step K hb2); replace G := Lib.hid (G.out.below hb2); clear sk hb2; have sk := (show Held w _ ([] ++ (k, _) :: []) from H.out.held).one.1)
          | (go_at_call 9; (with_reducible refine (EX _ H.out.held.below).out.mono ?_); rintro e wq ⟨rfl, hb2⟩; replace H := Lib.hid (H.out.step K hb2); replace G := Lib.hid (G.out.below hb2); clear sk hb2; have sk := (show Held w _ ([] ++ (k, _) :: []) from H.out.held).one.1)
          | fail)
      all_goals
        clear hv1
        go_wp2_with fail
        go_ret
        exact ⟨rfl, H.out.held.below⟩
end
end Go.Proofs.YtcecicmihdcjgaaDoor
