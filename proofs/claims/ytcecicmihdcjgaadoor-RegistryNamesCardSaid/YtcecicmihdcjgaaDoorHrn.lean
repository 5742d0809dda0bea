/-
  A registry, boxes, and rows of globals of one's own, all apart.
-/
import Derived.Test.YtcecicmihdcjgaaDoorRnw
import Derived.Test.YtcecicmihdcjgaaDoorRex
namespace Go.Proofs.YtcecicmihdcjgaaDoor
open Go.RowKit

structure HN (R : World → World → Value → List Gl → (Nat → Prop) → Prop) (w W : World) (bx : List (Nat × List Value)) (rs : List (Value × List Gl)) (rv : Value) (l : List Gl) (S : Nat → Prop) : Prop where
  hr : HR R w W bx rv l S
  own : ∀ r ∈ rs, OwnG W w.heap.size r.1 r.2
  ne : ∀ r ∈ rs, ∀ k, r.1.ownBlock = some k → ¬ S k ∧ ∀ q ∈ bx, q.1 ≠ k
  pw : rs.Pairwise (fun a b => ∀ k, a.1.ownBlock = some k → b.1.ownBlock ≠ some k)
section
variable {T : World → Prop} {R : World → World → Value → List Gl → (Nat → Prop) → Prop} {w W W' : World} {bx : List (Nat × List Value)} {rs : List (Value × List Gl)} {rv : Value} {l : List Gl} {S : Nat → Prop}
theorem HR.hn (h : HR R w W bx rv l S) : HN R w W bx [] rv l S := ⟨h, fun _ h => by simp at h, fun _ h => by simp at h, List.Pairwise.nil⟩
theorem HN.step (h : HN R w W bx rs rv l S) (K : PR T R) (hb : Below W.heap.size W W') : HN R w W' bx rs rv l S :=
  ⟨h.hr.step K hb, fun r hr => (h.own r hr).below hb, h.ne, h.pw⟩
theorem HN.alloc (h : HN R w W bx rs rv l S) (K : PR T R) (vs : List Value) (t : TypeId) : HN R w (W.alloc (.cells vs.toArray t)) ((W.heap.size, vs) :: bx) rs rv l S := by
  refine ⟨h.hr.alloc K vs t, fun r hr => (h.own r hr).below ((Below.refl _ _).alloc (Nat.le_refl _) _), fun r hr k hk => ⟨(h.ne r hr k hk).1, fun q hq e => ?_⟩, h.pw⟩
  rcases List.mem_cons.1 hq with rfl | hq
  · have := ((h.own r hr).block k hk).2
    dsimp only at e
    omega
  · exact (h.ne r hr k hk).2 q hq e
theorem HN.sub (h : HN R w W bx rs rv l S) {by' : List (Nat × List Value)} (hs : by'.Sublist bx) : HN R w W by' rs rv l S :=
  ⟨h.hr.sub hs, h.own, fun r hr k hk => ⟨(h.ne r hr k hk).1, fun q hq => (h.ne r hr k hk).2 q (hs.subset hq)⟩, h.pw⟩
theorem HN.drop (h : HN R w W bx rs rv l S) {ss : List (Value × List Gl)} (hs : ss.Sublist rs) : HN R w W bx ss rv l S :=
  ⟨h.hr, fun r hr => h.own r (hs.subset hr), fun r hr => h.ne r (hs.subset hr), h.pw.sublist hs⟩
theorem HN.turn (h : HN R w W bx rs rv l S) (K : PR T R) {l' : List Gl} {S' : Nat → Prop} (hr : R w W' rv l' S') (hs : ∀ k, S' k → S k ∨ W.heap.size ≤ k) (ht : Turns S W W') : HN R w W' bx rs rv l' S' := by
  refine ⟨h.hr.turn K hr hs ht, fun r hr => ?_, fun r hr k hk => ⟨fun hS => ?_, (h.ne r hr k hk).2⟩, h.pw⟩
  · have ho := h.own r hr
    refine ⟨ho.1, ?_⟩
    rcases ho.2 with hn | ⟨g, cap, cur, e, hb, hgg, rest⟩
    · exact .inl hn
    · have hv : r.1.ownBlock = some g := by rw [e]; rfl
      exact .inr ⟨g, cap, cur, e, hb, (ht.block g (ho.block g hv).2 (h.ne r hr g hv).1).trans hgg, rest⟩
  · rcases hs k hS with h2 | h2
    · exact (h.ne r hr k hk).1 h2
    · have := ((h.own r hr).block k hk).2
      omega
theorem HN.nil (h : HN R w W bx rs rv l S) : HN R w W bx ((.slice none 0 0, []) :: rs) rv l S := by
  refine ⟨h.hr, fun r hr => ?_, fun r hr k hk => ?_, List.pairwise_cons.2 ⟨fun _ _ k hk => (by cases hk), h.pw⟩⟩
  · rcases List.mem_cons.1 hr with rfl | hr
    · exact ownG_nil _ _
    · exact h.own r hr
  · rcases List.mem_cons.1 hr with rfl | hr
    · cases hk
    · exact h.ne r hr k hk
/-- globals were appended to the first row -/
theorem HN.app {v v' : Value} {m m' : List Gl} (h : HN R w W bx ((v, m) :: rs) rv l S) (K : PR T R) (ho : OwnG W' w.heap.size v' m') (hg : W.grownBy W' v.ownBlock) (hw : v'.ownBlock = v.ownBlock ∨ v'.ownBlock = some W.heap.size) :
    HN R w W' bx ((v', m') :: rs) rv l S := by
  have hp := List.pairwise_cons.1 h.pw
  refine ⟨⟨?_, K.keep h.hr.reg hg.size (fun k hk => hg.block k (K.lt h.hr.reg k hk).2 (fun e => (h.ne _ (List.mem_cons_self ..) k e.symm).1 hk)), h.hr.ne⟩, fun r hr => ?_, fun r hr k hk => ?_, List.pairwise_cons.2 ⟨fun r hr k hk => ?_, hp.2⟩⟩
  · cases hv : v.ownBlock with
    | none =>
      rw [hv] at hg
      exact h.hr.held.step ⟨hg.os, hg.tape, hg.output, hg.size, fun k hk => hg.block k hk (by simp)⟩
    | some g =>
      rw [hv] at hg
      exact h.hr.held.grown hg ((h.own _ (List.mem_cons_self ..)).block g hv).1 (fun q hq => (h.ne _ (List.mem_cons_self ..) g hv).2 q hq)
  · rcases List.mem_cons.1 hr with rfl | hr
    · exact ho
    · refine World.ownsRow.kept (h.own r (List.mem_cons_of_mem _ hr)) hg ?_
      cases hv : v.ownBlock with
      | none =>
        cases hr2 : r.1.ownBlock with
        | none => exact .inl rfl
        | some k => exact .inr (by simp)
      | some k => exact .inr (hp.1 r hr k hv)
  · rcases List.mem_cons.1 hr with rfl | hr
    · dsimp only at hk
      rcases hw with e | e
      · rw [e] at hk
        exact h.ne _ (List.mem_cons_self ..) k hk
      · rw [e] at hk
        injection hk with hk
        subst hk
        exact ⟨fun hS => Nat.lt_irrefl _ (K.lt h.hr.reg _ hS).2, fun q hq e2 => by have := h.hr.held.there q hq; omega⟩
    · exact h.ne r (List.mem_cons_of_mem _ hr) k hk
  · dsimp only at hk
    rcases hw with e | e
    · rw [e] at hk
      exact hp.1 r hr k hk
    · rw [e] at hk
      injection hk with hk
      subst hk
      intro e2
      have := ((h.own r (List.mem_cons_of_mem _ hr)).block _ e2).2
      omega
theorem HN.swap {a b : Value × List Gl} (h : HN R w W bx (a :: b :: rs) rv l S) : HN R w W bx (b :: a :: rs) rv l S := by
  have hp := List.pairwise_cons.1 h.pw
  have hq := List.pairwise_cons.1 hp.2
  refine ⟨h.hr, fun r hr => h.own r (by simp only [List.mem_cons] at hr ⊢; rcases hr with h | h | h <;> simp [h]), fun r hr => h.ne r (by simp only [List.mem_cons] at hr ⊢; rcases hr with h | h | h <;> simp [h]), ?_⟩
  refine List.pairwise_cons.2 ⟨fun r hr k hk => ?_, List.pairwise_cons.2 ⟨fun r hr => hp.1 r (by simp [hr]), hq.2⟩⟩
  rcases List.mem_cons.1 hr with rfl | hr
  · exact fun e => hp.1 b (by simp) k e hk
  · exact hq.1 r hr k hk
theorem turns_trans {S : Nat → Prop} {a b c : World} (h : Turns S a b) (h2 : Turns S b c) : Turns S a c :=
  ⟨h2.os.trans h.os, h2.tape.trans h.tape, h2.output.trans h.output, Nat.le_trans h.size h2.size, fun k hk hn => (h2.block k (Nat.lt_of_lt_of_le hk h.size) hn).trans (h.block k hk hn)⟩
end

section
variable {T : World → Prop} {R : World → World → Value → List Gl → (Nat → Prop) → Prop}
set_option maxRecDepth 100000 in
set_option maxHeartbeats 4000000 in
theorem do_any (K : PR T R) {w W : World} {rv : Value} {l : List Gl} {S : Nat → Prop} (hT : T W) (h : HR R w W [] rv l S) (hl : l.length ≤ 1000) (o : Op4) (hq : o.nm < 4294967296) :
    Calls Tryd.prog 23 #[rv, .agg #[.int .i64 o.kd, .int .u32 (o.nm : Int), .string o.it, .int .i64 o.vr]] W fun e w' => ∃ S', e = .returned (.tuple #[.int .u32 ((doF l o).2.1 : Int), .int .i64 (doF l o).2.2]) ∧ R w w' rv (doF l o).1 S' ∧ (∀ k, S' k → S k ∨ W.heap.size ≤ k) ∧ Turns S W w' := by
  obtain ⟨kd, nm, it, vr⟩ := o
  dsimp only at hq ⊢
  have H := Lib.hid (h.alloc K [.int .i64 kd, .int .u32 (nm : Int), .string it, .int .i64 vr] 32)
  have hb0 : Below W.heap.size W (W.alloc (.cells #[.int .i64 kd, .int .u32 (nm : Int), .string it, .int .i64 vr] 32)) := (Below.refl _ _).alloc (Nat.le_refl _) _
  have HB := Lib.hid hb0
  obtain ⟨y0, y1, y2, y3, -, -⟩ := (show Held w _ ([] ++ (W.heap.size, _) :: []) from H.out.held).four
  by_cases h0 : kd = 0
  · subst h0
    have AD := K.add (K.below hT hb0) H.out.reg hl it vr
    obtain ⟨⟨l2, q, er⟩, ha⟩ : ∃ a, doF l ⟨0, nm, it, vr⟩ = a := ⟨_, rfl⟩
    rw [ha]
    simp only [doF, if_pos] at ha
    rw [ha] at AD
    replace AD := Lib.hid AD
    clear ha hT h hb0
    go_enter Tryd.func23, Tryd.ntmps23
    go_wp2_with fail
    refine AD.out.mono ?_
    rintro e w4 ⟨S4, rfl, hr, hs, ht⟩
    have P := Lib.hid (show R w w4 rv l2 S4 ∧ (∀ k, S4 k → S k ∨ W.heap.size ≤ k) ∧ Turns S W w4 from ⟨hr, fun k hk => (hs k hk).imp id (fun h => Nat.le_trans HB.out.size h), turns_trans (turns_below HB.out) ht⟩)
    clear hr hs ht AD y0 y1 y2 y3
    go_wp2_with fail
    exact bodyPost_ret (v := .tuple #[.int .u32 (q : Int), .int .i64 er]) (by simp [results, Tryd.results23, go_sem]) rfl ⟨S4, rfl, P.out⟩
  by_cases h1 : kd = 1
  · subst h1
    have AD := fun (W1 : World) (h1 : HR R w W1 [(W.heap.size, [.int .i64 1, .int .u32 (nm : Int), .string it, .int .i64 vr])] rv l S) (hb : Below W.heap.size W W1) => Lib.hid (K.rem (K.below hT hb) h1.reg hl nm hq)
    obtain ⟨⟨l2, er⟩, ha⟩ : ∃ a, remF l nm = a := ⟨_, rfl⟩
    have hd : doF l ⟨1, nm, it, vr⟩ = (l2, nm, er) := by simp [doF, ha]
    rw [hd]
    rw [ha] at AD
    clear ha hd h hb0
    go_enter Tryd.func23, Tryd.ntmps23
    go_wp2_with fail
    have H1 := Lib.hid (H.out.step K (Below.refl _ _).drew)
    have HB1 := Lib.hid (Below.next HB.out ((Below.refl _ _).drew))
    obtain ⟨y0, y1, y2, y3, -, -⟩ := (show Held w _ ([] ++ (W.heap.size, _) :: []) from H1.out.held).four
    have sk := And.intro y1 (And.intro y2 y3)
    clear y0 y1 y2 y3
    go_region_held3 (fun U => U.cell? ⟨W.heap.size, 1, none⟩ = some (.int .u32 (nm : Int)) ∧ U.cell? ⟨W.heap.size, 2, none⟩ = some (.string it) ∧ U.cell? ⟨W.heap.size, 3, none⟩ = some (.int .i64 vr))
      (first
        | exact sk
        | go_keep)
      (first
        | (go_at_call 14; (with_reducible refine (AD _ H1.out HB1.out).out.mono ?_); rintro e w4 ⟨S4, rfl, hr, hs, ht⟩; have P := Lib.hid (show R w w4 rv l2 S4 ∧ (∀ k, S4 k → S k ∨ W.heap.size ≤ k) ∧ Turns S W w4 from ⟨hr, fun k hk => (hs k hk).imp id (fun h => Nat.le_trans HB1.out.size h), turns_trans (turns_below HB1.out) ht⟩); replace H1 := Lib.hid (H1.out.turn K hr hs ht); clear hr hs ht; obtain ⟨y0, y1, y2, y3, -, -⟩ := (show Held w _ ([] ++ (W.heap.size, _) :: []) from H1.out.held).four; clear sk; have sk := And.intro y1 (And.intro y2 y3); clear y0 y1 y2 y3)
        | fail)
    all_goals
      go_wp2_with fail
      exact bodyPost_ret (v := .tuple #[.int .u32 (nm : Int), .int .i64 er]) (by simp [results, Tryd.results23, go_sem]) rfl ⟨_, rfl, P.out⟩
  · have h0' : (kd == 0) = false := beq_eq_false_iff_ne.2 h0
    have h1' : (kd == 1) = false := beq_eq_false_iff_ne.2 h1
    have AD := fun (W1 : World) (h1 : HR R w W1 [(W.heap.size, [.int .i64 kd, .int .u32 (nm : Int), .string it, .int .i64 vr])] rv l S) (hb : Below W.heap.size W W1) => Lib.hid (K.bind (K.below hT hb) h1.reg hl nm hq it vr)
    obtain ⟨er, ha⟩ : ∃ a, bindF l nm it vr = a := ⟨_, rfl⟩
    have hd : doF l ⟨kd, nm, it, vr⟩ = (l, nm, er) := by simp [doF, ha, h0, h1]
    rw [hd]
    rw [ha] at AD
    clear ha hd h hb0
    go_enter Tryd.func23, Tryd.ntmps23
    go_wp2_with fail
    have H1 := Lib.hid (H.out.step K (Below.refl _ _).drew)
    have HB1 := Lib.hid (Below.next HB.out ((Below.refl _ _).drew))
    obtain ⟨y0, y1, y2, y3, -, -⟩ := (show Held w _ ([] ++ (W.heap.size, _) :: []) from H1.out.held).four
    have sk := And.intro y1 (And.intro y2 y3)
    clear y0 y1 y2 y3
    go_region_held3 (fun U => U.cell? ⟨W.heap.size, 1, none⟩ = some (.int .u32 (nm : Int)) ∧ U.cell? ⟨W.heap.size, 2, none⟩ = some (.string it) ∧ U.cell? ⟨W.heap.size, 3, none⟩ = some (.int .i64 vr))
      (first
        | exact sk
        | go_keep)
      (first
        | (go_at_call 16; (with_reducible refine (AD _ H1.out HB1.out).out.mono ?_); rintro e w4 ⟨rfl, hb⟩; replace H1 := Lib.hid (H1.out.step K hb); have P := Lib.hid (show R w w4 rv l S ∧ (∀ k, S k → S k ∨ W.heap.size ≤ k) ∧ Turns S W w4 from ⟨H1.out.reg, fun k hk => .inl hk, turns_below (Below.next HB1.out hb)⟩); clear hb; obtain ⟨y0, y1, y2, y3, -, -⟩ := (show Held w _ ([] ++ (W.heap.size, _) :: []) from H1.out.held).four; clear sk; have sk := And.intro y1 (And.intro y2 y3); clear y0 y1 y2 y3)
        | fail)
    all_goals
      go_wp2_with fail
      exact bodyPost_ret (v := .tuple #[.int .u32 (nm : Int), .int .i64 er]) (by simp [results, Tryd.results23, go_sem]) rfl ⟨_, rfl, P.out⟩
end

end Go.Proofs.YtcecicmihdcjgaaDoor
