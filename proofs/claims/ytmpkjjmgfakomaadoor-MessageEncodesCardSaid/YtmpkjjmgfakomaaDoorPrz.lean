/-
  Package message: read and Decode.
-/
import Derived.Test.YtmpkjjmgfakomaaDoorPen
import Derived.Test.YtmpkjjmgfakomaaDoorDcq
import Derived.Test.YtmpkjjmgfakomaaDoorMrk
namespace Go.Proofs.YtmpkjjmgfakomaaDoor
open Go.RowKit Mem Wire

/-- boxes, bytes that are seen, a row of one's own, and a reader apart from them -/
structure DR (w0 W : World) (g : Nat) (s : St) (bx : List (Nat × List Value)) (ss : List (Value × List UInt8)) (v : Value) (l : List AgV) : Prop where
  ds : DS w0 W bx ss v l
  rd : Rdr W g s
  gw : w0.heap.size ≤ g
  gb : ∀ q ∈ bx, q.1 ≠ g
  gv : v.ownBlock ≠ some g

section
variable {w0 W W' : World} {g : Nat} {s : St} {bx : List (Nat × List Value)} {ss : List (Value × List UInt8)} {v : Value} {l : List AgV}
theorem DR.step (h : DR w0 W g s bx ss v l) (hb : Below W.heap.size W W') : DR w0 W' g s bx ss v l := ⟨h.ds.step hb, h.rd.below hb, h.gw, h.gb, h.gv⟩
theorem DR.drew (h : DR w0 W g s bx ss v l) : DR w0 W.drew g s bx ss v l := h.step (Below.refl _ _).drew
theorem DR.alloc (h : DR w0 W g s bx ss v l) (vs : List Value) (t : TypeId) : DR w0 (W.alloc (.cells vs.toArray t)) g s ((W.heap.size, vs) :: bx) ss v l := by
  have h2 := h.step (W' := W.alloc (.cells vs.toArray t)) ((Below.refl _ _).alloc (Nat.le_refl _) _)
  refine ⟨h.ds.alloc vs t, h2.rd, h.gw, fun q hq => ?_, h.gv⟩
  rcases List.mem_cons.1 hq with rfl | hq
  · have := h.rd.lt
    dsimp only
    omega
  · exact h.gb q hq
theorem DR.sub (h : DR w0 W g s bx ss v l) {by' : List (Nat × List Value)} (hs : by'.Sublist bx) : DR w0 W g s by' ss v l := ⟨h.ds.sub hs, h.rd, h.gw, fun q hq => h.gb q (hs.subset hq), h.gv⟩
theorem DR.seen (h : DR w0 W g s bx ss v l) {s2 : List (Value × List UInt8)} (hs : ∀ q ∈ s2, Sees W q.1 q.2) : DR w0 W g s bx s2 v l := ⟨h.ds.seen hs, h.rd, h.gw, h.gb, h.gv⟩
theorem Rdr.setBox (h : Rdr W g s) {k i : Nat} {y : Value} (hk : k ≠ g) (hc : W.cell? ⟨k, i, none⟩ = some y) (hy : nbC y) (u : Value) : Rdr (W.setCell ⟨k, i, none⟩ u) g s := by
  obtain ⟨v, hh, hs, hf⟩ := h
  exact ⟨v, (Below.heap_setCell W ⟨k, i, none⟩ u g (fun e => hk e.symm)).trans hh, sees_set hs u hc hy, hf⟩
theorem DR.cell {l1 l2 : List (Nat × List Value)} {k : Nat} {vs : List Value} (h : DR w0 W g s (l1 ++ (k, vs) :: l2) ss v l) {i : Nat} {y : Value} (hi : vs[i]? = some y) (hy : nbC y) (u : Value) :
    DR w0 (W.setCell ⟨k, i, none⟩ u) g s (l1 ++ (k, vs.set i u) :: l2) ss v l := by
  have hk : k ≠ g := h.gb (k, vs) (by simp)
  refine ⟨h.ds.cell hi hy u, h.rd.setBox hk (h.ds.held.at.1 i y hi) hy u, h.gw, fun q hq => ?_, h.gv⟩
  rcases List.mem_append.1 hq with hq | hq
  · exact h.gb q (by simp [hq])
  · rcases List.mem_cons.1 hq with rfl | hq
    · exact hk
    · exact h.gb q (by simp [hq])
/-- an argument was appended -/
theorem DR.app (h : DR w0 W g s bx ss v l) {v' : Value} {p : AgV} (ho : OwnA W' w0.heap.size v' (l ++ [p])) (hn : NoB W' v') (hg : W.grownBy W' v.ownBlock) (hw : v'.ownBlock = v.ownBlock ∨ v'.ownBlock = some W.heap.size) : DR w0 W' g s bx ss v' (l ++ [p]) := by
  have hl := h.rd.lt
  refine ⟨h.ds.app ho hn hg hw, ?_, h.gw, h.gb, fun e => ?_⟩
  · obtain ⟨u, hh, hs, hf⟩ := h.rd
    exact ⟨u, (hg.block g hl (fun e => h.gv e.symm)).trans hh, sees_grownV hs hg h.ds.nob, hf⟩
  · rcases hw with e2 | e2
    · exact h.gv (e2.symm.trans e)
    · rw [e2] at e
      injection e with e
      omega
/-- the reader has read -/
theorem DR.read (h : DR w0 W g s bx ss v l) {s' : St} (hr : Rdr W' g s') (hg : W.grownBy W' (some g)) : DR w0 W' g s' bx ss v l := by
  refine ⟨⟨h.ds.held.grown hg h.gw h.gb, fun q hq => (h.ds.see q hq).grown hg h.rd.noByte, World.ownsRow.kept h.ds.own hg ?_, h.ds.nob.block fun k hk => ?_, h.ds.ne⟩, hr, h.gw, h.gb, h.gv⟩
  · exact .inr h.gv
  · have hlt := (h.ds.own.block k hk).2
    exact hg.block k hlt (fun e => h.gv (by rw [hk]; exact e))
end

/-- a value came back, the reader has read -/
def BackR (w0 : World) (g : Nat) (s' : St) (bx : List (Nat × List Value)) (ss : List (Value × List UInt8)) (v : Value) (l : List AgV) (u : Value) (e : Ending) (w' : World) : Prop := e = .returned u ∧ DR w0 w' g s' bx ss v l

section
variable {w0 w : World} {g : Nat} {s : St} {bx : List (Nat × List Value)} {ss : List (Value × List UInt8)} {v : Value} {l : List AgV}

set_option maxRecDepth 100000 in
theorem p_num_int (H : DR w0 w g s bx ss v l) : Calls Tryd.prog 64 #[.pointer (some ⟨g, 0, none⟩), .func (.func 65) #[] #[]] w (BackR w0 g (numS s).1 bx ss v l (.int .i64 (wrap32 ((numS s).2 : Int)))) := by
  have C := Lib.hid (int_any H.rd)
  have HH := Lib.hid H
  have hx := wrap32_range ((numS s).2 : Int)
  have eg : ∀ args w, (callFunc 65 args).run Tryd.prog w = .ok (.enter 65 args) w := enters_of Tryd.func65 (by kernel_rfl) rfl
  generalize wrap32 ((numS s).2 : Int) = x at *
  generalize (numS s).1 = s1 at *
  obtain ⟨hx1, hx2⟩ := hx
  clear H
  go_enter Tryd.func64, Tryd.ntmps64
  go_wp2_with fail
  refine C.out.mono ?_
  rintro e w1 ⟨rfl, hr, hg⟩
  have H2 := Lib.hid (HH.out.read hr hg)
  clear hr hg C
  go_wp2_with fail
  go_ret
  exact ⟨rfl, H2.out⟩

set_option maxRecDepth 100000 in
theorem p_num_uint (H : DR w0 w g s bx ss v l) : Calls Tryd.prog 70 #[.pointer (some ⟨g, 0, none⟩), .func (.func 71) #[] #[]] w (BackR w0 g (numS s).1 bx ss v l (.int .i64 ((numS s).2 : Int))) := by
  have C := Lib.hid (uint_any H.rd)
  have HH := Lib.hid H
  have hx := numS_lt s
  have eg : ∀ args w, (callFunc 71 args).run Tryd.prog w = .ok (.enter 71 args) w := enters_of Tryd.func71 (by kernel_rfl) rfl
  generalize (numS s).2 = x at *
  generalize (numS s).1 = s1 at *
  have hx2 : (x : Int) < 4294967296 := by omega
  have hx1 : (0 : Int) ≤ x := by omega
  clear H
  go_enter Tryd.func70, Tryd.ntmps70
  go_wp2_with fail
  refine C.out.mono ?_
  rintro e w1 ⟨rfl, hr, hg⟩
  have H2 := Lib.hid (HH.out.read hr hg)
  clear hr hg C
  go_wp2_with fail
  go_ret
  exact ⟨rfl, H2.out⟩

set_option maxRecDepth 100000 in
theorem p_lim_str (H : DR w0 w g s bx ss v l) : Calls Tryd.prog 66 #[.pointer (some ⟨g, 0, none⟩), .func (.func 67) #[] #[]] w (BackR w0 g (strS s 1024).1 bx ss v l (.string ⟨(strS s 1024).2.toArray⟩)) := by
  have C := Lib.hid (string_any 1024 H.rd (by omega))
  have HH := Lib.hid H
  have eg : ∀ args w, (callFunc 67 args).run Tryd.prog w = .ok (.enter 67 args) w := enters_of Tryd.func67 (by kernel_rfl) rfl
  generalize (⟨(strS s 1024).2.toArray⟩ : ByteArray) = x at *
  generalize (strS s 1024).1 = s1 at *
  clear H
  go_enter Tryd.func66, Tryd.ntmps66
  go_wp2_with fail
  refine C.out.mono ?_
  rintro e w1 ⟨rfl, hr, hg⟩
  have H2 := Lib.hid (HH.out.read hr hg)
  clear hr hg C
  go_wp2_with fail
  go_ret
  exact ⟨rfl, H2.out⟩

/-- a slice of bytes came back, the reader has read -/
def BackB (w0 : World) (g : Nat) (s' : St) (bx : List (Nat × List Value)) (ss : List (Value × List UInt8)) (v : Value) (l : List AgV) (bs : List UInt8) (e : Ending) (w' : World) : Prop := ∃ u, e = .returned u ∧ DR w0 w' g s' bx ((u, bs) :: ss) v l

set_option maxRecDepth 100000 in
theorem p_lim_arr (H : DR w0 w g s bx ss v l) (hl : (countS s 1024).2.length ≤ 140737488355328) : Calls Tryd.prog 68 #[.pointer (some ⟨g, 0, none⟩), .func (.func 69) #[] #[]] w (BackB w0 g (countS s 1024).1 bx ss v l (countS s 1024).2) := by
  have C := Lib.hid (array_any 1024 H.rd (by omega) hl)
  have HH := Lib.hid H
  have eg : ∀ args w, (callFunc 69 args).run Tryd.prog w = .ok (.enter 69 args) w := enters_of Tryd.func69 (by kernel_rfl) rfl
  generalize (countS s 1024).2 = x at *
  generalize (countS s 1024).1 = s1 at *
  clear H hl
  go_enter Tryd.func68, Tryd.ntmps68
  go_wp2_with fail
  refine C.out.mono ?_
  rintro e w1 ⟨u, rfl, hu, hr, hg⟩
  have H1 := HH.out.read hr hg
  have H2 := Lib.hid (H1.seen (s2 := (u, x) :: ss) (fun q hq => by
    rcases List.mem_cons.1 hq with rfl | hq
    · exact hu
    · exact H1.ds.see q hq))
  obtain ⟨A2, c2, rfl, -, -⟩ := hu.shape
  clear hr hg C hu H1
  go_wp2_with fail
  go_ret
  exact ⟨_, rfl, H2.out⟩
end

end Go.Proofs.YtmpkjjmgfakomaaDoor

namespace Go.Proofs.YtmpkjjmgfakomaaDoor
open Go.RowKit Mem Wire

/-- an argument came back, the reader has read -/
def BackA (w0 : World) (g : Nat) (x : St × Ag) (bx : List (Nat × List Value)) (ss : List (Value × List UInt8)) (v : Value) (l : List AgV) (e : Ending) (w' : World) : Prop :=
  ∃ A c, e = .returned (agVal (x.2, .slice A x.2.bb.length c)) ∧ DR w0 w' g x.1 bx ((.slice A x.2.bb.length c, x.2.bb) :: ss) v l ∧ x.2.ss.size ≤ maxLen

section
variable {w0 w : World} {g : Nat} {s : St} {bx : List (Nat × List Value)} {ss : List (Value × List UInt8)} {v : Value} {l : List AgV}

theorem read_box {k1 : Nat} {c2 : Nat × List Value} (h : DR w0 w g s (c2 :: (k1, [.int .i64 0, .int .i64 0, .string ⟨#[]⟩, .slice none 0 0]) :: bx) ss v l) (y0 y1 y2 y3 : Value) :
    DR w0 ((((w.setCell ⟨k1, 0, none⟩ y0).setCell ⟨k1, 1, none⟩ y1).setCell ⟨k1, 2, none⟩ y2).setCell ⟨k1, 3, none⟩ y3) g s (c2 :: (k1, [y0, y1, y2, y3]) :: bx) ss v l :=
  ((((show DR w0 w g s ([c2] ++ (k1, [.int .i64 0, .int .i64 0, .string ⟨#[]⟩, .slice none 0 0]) :: bx) ss v l from h).cell (i := 0) rfl (int_nb _) y0).cell (i := 1) rfl (int_nb _) y1).cell (i := 2) rfl (str_nb _) y2).cell (i := 3) rfl (sli_nb _ _ _) y3
theorem DR.nil_seen (h : DR w0 w g s bx ss v l) : DR w0 w g s bx ((.slice none 0 0, []) :: ss) v l := h.seen fun q hq => by
  rcases List.mem_cons.1 hq with rfl | hq
  · exact sees_nil _
  · exact h.ds.see q hq
theorem read_boxes (h : DR w0 w g s bx ss v l) (k : Int) : DR w0 ((w.alloc (.cells #[.int .i64 0, .int .i64 0, .string ⟨#[]⟩, .slice none 0 0] 43)).alloc (.cells #[.int .i64 k, .int .i64 0, .string ⟨#[]⟩, .slice none 0 0] 43)) g s
    ((w.heap.size + 1, [.int .i64 k, .int .i64 0, .string ⟨#[]⟩, .slice none 0 0]) :: (w.heap.size, [.int .i64 0, .int .i64 0, .string ⟨#[]⟩, .slice none 0 0]) :: bx) ss v l := by
  have h2 := (h.alloc [.int .i64 0, .int .i64 0, .string ⟨#[]⟩, .slice none 0 0] 43).alloc [.int .i64 k, .int .i64 0, .string ⟨#[]⟩, .slice none 0 0] 43
  simp only [World.size_alloc] at h2
  exact h2

set_option maxRecDepth 100000 in
set_option maxHeartbeats 2000000 in
theorem p_read_int (H : DR w0 w g s bx ss v l) : Calls Tryd.prog 30 #[.pointer (some ⟨g, 0, none⟩), .int .i64 ((1 : Nat) : Int)] w (BackA w0 g (readG s 1) bx ss v l) := by
  have e0 : readG s 1 = ((numS s).1, ⟨(1 : Nat), wrap32 ((numS s).2 : Int), ⟨#[]⟩, []⟩) := by
    unfold readG
    rw [if_pos (by decide)]
  rw [e0]
  have HB := Lib.hid (read_boxes H  1)
  have C := Lib.hid (p_num_int HB.out)
  generalize wrap32 ((numS s).2 : Int) = x at *
  generalize (numS s).1 = s1 at *
  clear e0
  clear H
  go_enter Tryd.func30, Tryd.ntmps30
  go_wp2_with fail
  refine C.out.mono ?_
  rintro e w1 ⟨rfl, h2⟩
  have H2 := Lib.hid h2
  clear h2
  clear C HB
  obtain ⟨z0, z1, z2, z3, zf, zl⟩ := (show Held w0 _ ([] ++ (w.heap.size + 1, _) :: (_ :: bx)) from H2.out.ds.held).four
  obtain ⟨y0, y1, y2, y3, yf, yl⟩ := (show Held w0 _ ([_] ++ (w.heap.size, _) :: bx) from H2.out.ds.held).four
  go_wp2_with fail
  have H3 := (show DR w0 _ g s1 ([] ++ (w.heap.size + 1, _) :: (_ :: bx)) _ v l from H2.out).cell (i := 1) rfl (int_nb _) (.int .i64 x)
  have H4 := read_box H3 (.int .i64 1) (.int .i64 x) (.string ⟨#[]⟩) (.slice none 0 0)
  clear H2 H3 z0 z1 z2 z3 zf zl y0 y1 y2 y3 yf yl
  obtain ⟨y0, y1, y2, y3, yf, yl⟩ := (show Held w0 _ ([_] ++ (w.heap.size, _) :: bx) from H4.ds.held).four
  exact bodyPost_ret (v := .agg #[.int .i64 1, .int .i64 x, .string ⟨#[]⟩, .slice none 0 0]) (by simp [results, Tryd.results30, go_sem, y0, y1, y2, y3]) rfl ⟨_, _, rfl, (H4.sub ((List.sublist_cons_self _ _).trans (List.sublist_cons_self _ _))).nil_seen, Nat.zero_le _⟩

set_option maxRecDepth 100000 in
set_option maxHeartbeats 2000000 in
theorem p_read_fix (H : DR w0 w g s bx ss v l) : Calls Tryd.prog 30 #[.pointer (some ⟨g, 0, none⟩), .int .i64 ((3 : Nat) : Int)] w (BackA w0 g (readG s 3) bx ss v l) := by
  have e0 : readG s 3 = ((numS s).1, ⟨(3 : Nat), wrap32 ((numS s).2 : Int), ⟨#[]⟩, []⟩) := by
    unfold readG
    rw [if_pos (by decide)]
  rw [e0]
  have HB := Lib.hid (read_boxes H  3)
  have C := Lib.hid (p_num_int HB.out)
  generalize wrap32 ((numS s).2 : Int) = x at *
  generalize (numS s).1 = s1 at *
  clear e0
  clear H
  go_enter Tryd.func30, Tryd.ntmps30
  go_wp2_with fail
  refine C.out.mono ?_
  rintro e w1 ⟨rfl, h2⟩
  have H2 := Lib.hid h2
  clear h2
  clear C HB
  obtain ⟨z0, z1, z2, z3, zf, zl⟩ := (show Held w0 _ ([] ++ (w.heap.size + 1, _) :: (_ :: bx)) from H2.out.ds.held).four
  obtain ⟨y0, y1, y2, y3, yf, yl⟩ := (show Held w0 _ ([_] ++ (w.heap.size, _) :: bx) from H2.out.ds.held).four
  go_wp2_with fail
  have H3 := (show DR w0 _ g s1 ([] ++ (w.heap.size + 1, _) :: (_ :: bx)) _ v l from H2.out).cell (i := 1) rfl (int_nb _) (.int .i64 x)
  have H4 := read_box H3 (.int .i64 3) (.int .i64 x) (.string ⟨#[]⟩) (.slice none 0 0)
  clear H2 H3 z0 z1 z2 z3 zf zl y0 y1 y2 y3 yf yl
  obtain ⟨y0, y1, y2, y3, yf, yl⟩ := (show Held w0 _ ([_] ++ (w.heap.size, _) :: bx) from H4.ds.held).four
  exact bodyPost_ret (v := .agg #[.int .i64 3, .int .i64 x, .string ⟨#[]⟩, .slice none 0 0]) (by simp [results, Tryd.results30, go_sem, y0, y1, y2, y3]) rfl ⟨_, _, rfl, (H4.sub ((List.sublist_cons_self _ _).trans (List.sublist_cons_self _ _))).nil_seen, Nat.zero_le _⟩

set_option maxRecDepth 100000 in
set_option maxHeartbeats 2000000 in
theorem p_read_uint (H : DR w0 w g s bx ss v l) {k : Nat} (h1 : ¬ k = 1) (h3 : ¬ k = 3) (h4 : ¬ k = 4) (h7 : ¬ k = 7) : Calls Tryd.prog 30 #[.pointer (some ⟨g, 0, none⟩), .int .i64 (k : Int)] w (BackA w0 g (readG s k) bx ss v l) := by
  have e0 : readG s k = ((numS s).1, ⟨k, ((numS s).2 : Int), ⟨#[]⟩, []⟩) := by
    unfold readG
    rw [if_neg (by omega), if_neg h4, if_neg h7]
  rw [e0]
  have g1 : ¬ (k : Int) = 1 := by omega
  have g3 : ¬ (k : Int) = 3 := by omega
  have g4 : ¬ (k : Int) = 4 := by omega
  have g7 : ¬ (k : Int) = 7 := by omega
  have HB := Lib.hid (read_boxes H  (k : Int))
  have C := Lib.hid (p_num_uint HB.out)
  generalize ((numS s).2 : Int) = x at *
  generalize (numS s).1 = s1 at *
  clear e0
  clear H
  go_enter Tryd.func30, Tryd.ntmps30
  go_wp2_with fail
  refine C.out.mono ?_
  rintro e w1 ⟨rfl, h2⟩
  have H2 := Lib.hid h2
  clear h2
  clear C HB
  obtain ⟨z0, z1, z2, z3, zf, zl⟩ := (show Held w0 _ ([] ++ (w.heap.size + 1, _) :: (_ :: bx)) from H2.out.ds.held).four
  obtain ⟨y0, y1, y2, y3, yf, yl⟩ := (show Held w0 _ ([_] ++ (w.heap.size, _) :: bx) from H2.out.ds.held).four
  go_wp2_with fail
  have H3 := (show DR w0 _ g s1 ([] ++ (w.heap.size + 1, _) :: (_ :: bx)) _ v l from H2.out).cell (i := 1) rfl (int_nb _) (.int .i64 x)
  have H4 := read_box H3 (.int .i64 (k : Int)) (.int .i64 x) (.string ⟨#[]⟩) (.slice none 0 0)
  clear H2 H3 z0 z1 z2 z3 zf zl y0 y1 y2 y3 yf yl
  obtain ⟨y0, y1, y2, y3, yf, yl⟩ := (show Held w0 _ ([_] ++ (w.heap.size, _) :: bx) from H4.ds.held).four
  exact bodyPost_ret (v := .agg #[.int .i64 (k : Int), .int .i64 x, .string ⟨#[]⟩, .slice none 0 0]) (by simp [results, Tryd.results30, go_sem, y0, y1, y2, y3]) rfl ⟨_, _, rfl, (H4.sub ((List.sublist_cons_self _ _).trans (List.sublist_cons_self _ _))).nil_seen, Nat.zero_le _⟩

set_option maxRecDepth 100000 in
set_option maxHeartbeats 2000000 in
theorem p_read_str (H : DR w0 w g s bx ss v l) (hl : s.1.length ≤ 1000000) : Calls Tryd.prog 30 #[.pointer (some ⟨g, 0, none⟩), .int .i64 ((4 : Nat) : Int)] w (BackA w0 g (readG s 4) bx ss v l) := by
  have e0 : readG s 4 = ((strS s 1024).1, ⟨(4 : Nat), 0, ⟨(strS s 1024).2.toArray⟩, []⟩) := by
    unfold readG
    rw [if_neg (by decide), if_pos rfl]
  rw [e0]
  have hle := str_le s 1024 H.rd.fine
  have hxs : (⟨(strS s 1024).2.toArray⟩ : ByteArray).size ≤ maxLen := by
    have : (⟨(strS s 1024).2.toArray⟩ : ByteArray).size = (strS s 1024).2.length := by rw [← sl_len, sl_mk]
    rw [this]
    simp only [maxLen]
    omega
  have HB := Lib.hid (read_boxes H  4)
  have C := Lib.hid (p_lim_str HB.out)
  generalize (⟨(strS s 1024).2.toArray⟩ : ByteArray) = x at *
  generalize (strS s 1024).1 = s1 at *
  clear e0 hle hl
  clear H
  go_enter Tryd.func30, Tryd.ntmps30
  go_wp2_with fail
  refine C.out.mono ?_
  rintro e w1 ⟨rfl, h2⟩
  have H2 := Lib.hid h2
  clear h2
  clear C HB
  obtain ⟨z0, z1, z2, z3, zf, zl⟩ := (show Held w0 _ ([] ++ (w.heap.size + 1, _) :: (_ :: bx)) from H2.out.ds.held).four
  obtain ⟨y0, y1, y2, y3, yf, yl⟩ := (show Held w0 _ ([_] ++ (w.heap.size, _) :: bx) from H2.out.ds.held).four
  go_wp2_with fail
  have H3 := (show DR w0 _ g s1 ([] ++ (w.heap.size + 1, _) :: (_ :: bx)) _ v l from H2.out).cell (i := 2) rfl (str_nb _) (.string x)
  have H4 := read_box H3 (.int .i64 4) (.int .i64 0) (.string x) (.slice none 0 0)
  clear H2 H3 z0 z1 z2 z3 zf zl y0 y1 y2 y3 yf yl
  obtain ⟨y0, y1, y2, y3, yf, yl⟩ := (show Held w0 _ ([_] ++ (w.heap.size, _) :: bx) from H4.ds.held).four
  exact bodyPost_ret (v := .agg #[.int .i64 4, .int .i64 0, .string x, .slice none 0 0]) (by simp [results, Tryd.results30, go_sem, y0, y1, y2, y3]) rfl ⟨_, _, rfl, (H4.sub ((List.sublist_cons_self _ _).trans (List.sublist_cons_self _ _))).nil_seen, hxs⟩

set_option maxRecDepth 100000 in
set_option maxHeartbeats 2000000 in
theorem p_read_arr (H : DR w0 w g s bx ss v l) (hl : s.1.length ≤ 1000000) : Calls Tryd.prog 30 #[.pointer (some ⟨g, 0, none⟩), .int .i64 ((7 : Nat) : Int)] w (BackA w0 g (readG s 7) bx ss v l) := by
  have e0 : readG s 7 = ((countS s 1024).1, ⟨(7 : Nat), 0, ⟨#[]⟩, (countS s 1024).2⟩) := by
    unfold readG
    rw [if_neg (by decide), if_neg (by decide), if_pos rfl]
  rw [e0]
  have hle := count_le s 1024 H.rd.fine
  have HB := Lib.hid (read_boxes H  7)
  have C := Lib.hid (p_lim_arr HB.out (by omega))
  generalize (countS s 1024).2 = x at *
  generalize (countS s 1024).1 = s1 at *
  clear e0 hle hl
  clear H
  go_enter Tryd.func30, Tryd.ntmps30
  go_wp2_with fail
  refine C.out.mono ?_
  rintro e w1 ⟨u, rfl, h2⟩
  obtain ⟨A2, c2, hu, -, -⟩ := (h2.ds.see (u, x) (by simp)).shape
  dsimp only at hu
  subst hu
  have H2 := Lib.hid h2
  clear h2
  clear C HB
  obtain ⟨z0, z1, z2, z3, zf, zl⟩ := (show Held w0 _ ([] ++ (w.heap.size + 1, _) :: (_ :: bx)) from H2.out.ds.held).four
  obtain ⟨y0, y1, y2, y3, yf, yl⟩ := (show Held w0 _ ([_] ++ (w.heap.size, _) :: bx) from H2.out.ds.held).four
  go_wp2_with fail
  have H3 := (show DR w0 _ g s1 ([] ++ (w.heap.size + 1, _) :: (_ :: bx)) _ v l from H2.out).cell (i := 3) rfl (sli_nb _ _ _) (.slice A2 x.length c2)
  have H4 := read_box H3 (.int .i64 7) (.int .i64 0) (.string ⟨#[]⟩) (.slice A2 x.length c2)
  clear H2 H3 z0 z1 z2 z3 zf zl y0 y1 y2 y3 yf yl
  obtain ⟨y0, y1, y2, y3, yf, yl⟩ := (show Held w0 _ ([_] ++ (w.heap.size, _) :: bx) from H4.ds.held).four
  exact bodyPost_ret (v := .agg #[.int .i64 7, .int .i64 0, .string ⟨#[]⟩, .slice A2 x.length c2]) (by simp [results, Tryd.results30, go_sem, y0, y1, y2, y3]) rfl ⟨_, _, rfl, H4.sub ((List.sublist_cons_self _ _).trans (List.sublist_cons_self _ _)), Nat.zero_le _⟩

theorem p_read_any (H : DR w0 w g s bx ss v l) (hl : s.1.length ≤ 1000000) (k : Nat) : Calls Tryd.prog 30 #[.pointer (some ⟨g, 0, none⟩), .int .i64 (k : Int)] w (BackA w0 g (readG s k) bx ss v l) := by
  by_cases h1 : k = 1
  · subst h1
    exact p_read_int H
  by_cases h3 : k = 3
  · subst h3
    exact p_read_fix H
  by_cases h4 : k = 4
  · subst h4
    exact p_read_str H hl
  by_cases h7 : k = 7
  · subst h7
    exact p_read_arr H hl
  exact p_read_uint H h1 h3 h4 h7
end

end Go.Proofs.YtmpkjjmgfakomaaDoor

namespace Go.Proofs.YtmpkjjmgfakomaaDoor
open Go.RowKit Mem Wire

section
variable {w0 W W' : World} {g : Nat} {s : St} {bx : List (Nat × List Value)} {ss : List (Value × List UInt8)} {v : Value} {l : List AgV}
/-- a block that a callee has made, held from now on -/
theorem Held.more (h : Held w0 W bx) (hb : Below W.heap.size W W') {b : Nat} {vs : List Value} (hc : ∀ i u, vs[i]? = some u → W'.cell? ⟨b, i, none⟩ = some u) (hf : ∀ i, W'.frozen? ⟨b, i, none⟩ = false) (h1 : W.heap.size ≤ b) (h2 : b < W'.heap.size) : Held w0 W' ((b, vs) :: bx) := by
  have hs := h.step hb
  refine ⟨fun p hp i v hv => ?_, fun p hp i => ?_, fun p hp => ?_, fun p hp => ?_, ?_, hs.below⟩
  · rcases List.mem_cons.1 hp with rfl | hp
    · exact hc i v hv
    · exact hs.cells p hp i v hv
  · rcases List.mem_cons.1 hp with rfl | hp
    · exact hf i
    · exact hs.free p hp i
  · rcases List.mem_cons.1 hp with rfl | hp
    · exact h2
    · exact hs.there p hp
  · rcases List.mem_cons.1 hp with rfl | hp
    · exact Nat.le_trans h.below.size h1
    · exact hs.own p hp
  · rw [List.map_cons, List.nodup_cons]
    refine ⟨fun hm => ?_, h.nd⟩
    obtain ⟨p, hp, he⟩ := List.mem_map.1 hm
    have := h.there p hp
    dsimp only at he
    omega
theorem DR.more (h : DR w0 W g s bx ss v l) (hb : Below W.heap.size W W') {b : Nat} {vs : List Value} (hc : ∀ i u, vs[i]? = some u → W'.cell? ⟨b, i, none⟩ = some u) (hf : ∀ i, W'.frozen? ⟨b, i, none⟩ = false) (h1 : W.heap.size ≤ b) (h2 : b < W'.heap.size) : DR w0 W' g s ((b, vs) :: bx) ss v l := by
  have hs := h.step hb
  refine ⟨⟨h.ds.held.more hb hc hf h1 h2, hs.ds.see, hs.ds.own, hs.ds.nob, fun q hq k hk => ?_⟩, hs.rd, h.gw, fun q hq => ?_, h.gv⟩
  · rcases List.mem_cons.1 hq with rfl | hq
    · have := (h.ds.own.block k hk).2
      dsimp only
      omega
    · exact h.ds.ne q hq k hk
  · rcases List.mem_cons.1 hq with rfl | hq
    · have := h.rd.lt
      dsimp only
      omega
    · exact h.gb q hq
theorem DR.perm (h : DR w0 W g s bx ss v l) {by' : List (Nat × List Value)} (hp : by'.Perm bx) : DR w0 W g s by' ss v l := ⟨h.ds.perm hp, h.rd, h.gw, fun q hq => h.gb q (hp.mem_iff.1 hq), h.gv⟩
end

/-- the boxes of Decode: the message, the result, the frame, what the kinds lie in -/
abbrev decP (kM kR kF ob : Nat) (oc : Int) (v3 : Value) (AF : Option Addr) (nF cF : Nat) (kbx : List (Nat × List Value)) : List (Nat × List Value) :=
  (kM, [.int .u32 (ob : Int), .int .i64 oc, v3]) :: (kR, zero3) :: (kF, [.int .u32 (ob : Int), .int .i64 oc, .slice AF nF cF]) :: kbx
/-- the slice of kinds and the box that holds them, if there are any -/
def KinB (vk : Value) (ks : List Nat) (kbx : List (Nat × List Value)) : Prop := ∃ A c, vk = .slice A ks.length c ∧ ks.length ≤ c ∧ c ≤ maxLen ∧ ∀ (i k : Nat), ks[i]? = some k → ∃ b, A = some ⟨b, 0, none⟩ ∧ (b, ils ks) ∈ kbx

section
variable {w0 W W' : World} {g : Nat} {s : St} {ob : Nat} {oc : Int} {kM kR kF : Nat} {v3 : Value} {AF : Option Addr} {nF cF : Nat} {ss : List (Value × List UInt8)} {v : Value} {l : List AgV}
theorem kin_of (h : DR w0 W g s (decP kM kR kF ob oc v3 AF nF cF []) ss v l) {vk : Value} {ks : List Nat} (ho : OwnI W' W.heap.size vk ks) (hb : Below W.heap.size W W') : ∃ kbx, DR w0 W' g s (decP kM kR kF ob oc v3 AF nF cF kbx) ss v l ∧ KinB vk ks kbx := by
  have hall := ho
  obtain ⟨hl, hc⟩ := ho
  rcases hc with ⟨rfl, h0⟩ | ⟨b, cap, cur, rfl, hgb, hh, hn, hm, _⟩
  · obtain rfl : ks = [] := List.eq_nil_of_length_eq_zero h0
    exact ⟨[], h.step hb, none, 0, rfl, Nat.le_refl _, by simp [maxLen], fun i k hk => by simp at hk⟩
  · have hlt : b < W'.heap.size := by
      rcases Nat.lt_or_ge b W'.heap.size with hl | hl
      · exact hl
      · rw [Array.getElem?_eq_none hl] at hh; cases hh
    refine ⟨[(b, ils ks)], (h.more (b := b) (vs := ils ks) hb (fun i u hu => ?_) (fun i => hall.frozenAt i) hgb hlt).perm ?_, some ⟨b, 0, none⟩, cap, rfl, hn, hm, fun i k _ => ⟨b, rfl, by simp⟩⟩
    · have hi := (List.getElem?_eq_some_iff.1 hu).1
      rw [hall.cellAt i (by rw [ils_length] at hi; omega)]
      exact hu
    · exact List.perm_append_comm (l₁ := decP kM kR kF ob oc v3 AF nF cF []) (l₂ := [(b, ils ks)])
theorem kin_at {ks : List Nat} {kbx : List (Nat × List Value)} (h : DR w0 W g s (decP kM kR kF ob oc v3 AF nF cF kbx) ss v l) {A : Option Addr} {n c : Nat} (hk : KinB (.slice A n c) ks kbx) {i k : Nat} (hi : ks[i]? = some k) : ∃ b, A = some ⟨b, 0, none⟩ ∧ W.cell? ⟨b, i, none⟩ = some (.int .i64 (k : Int)) := by
  obtain ⟨A', c', e, _, _, h3⟩ := hk
  injection e with e1 e2 e3
  subst e1
  obtain ⟨b, rfl, hm⟩ := h3 i k hi
  refine ⟨b, rfl, ?_⟩
  exact h.ds.held.cells (b, ils ks) (by simp [hm]) i _ (by simp [ils, hi])

theorem p_dec_app {v' : Value} {kz kN : Nat} {vz vN : List Value} {p : AgV} {kbx : List (Nat × List Value)}
    (h : DR w0 W g s ((kz, vz) :: (kN, vN) :: decP kM kR kF ob oc v3 AF nF cF kbx) ((p.2, p.1.bb) :: ss) v3 l) (hs3 : nbC v3)
    (ho : OwnA W' w0.heap.size v' (l ++ [p])) (hn : NoB W' v') (hg : W.grownBy W' v3.ownBlock) (hw : v'.ownBlock = v3.ownBlock ∨ v'.ownBlock = some W.heap.size) :
    (W'.cell? ⟨kM, 2, none⟩ = some v3 ∧ W'.frozen? ⟨kM, 2, none⟩ = false) ∧ DR w0 (W'.setCell ⟨kM, 2, none⟩ v') g s (decP kM kR kF ob oc v' AF nF cF kbx) ((p.2, p.1.bb) :: ss) v' (l ++ [p]) := by
  have hD := h.app ho hn hg hw
  have hE : DR w0 W' g s ([] ++ (kM, [.int .u32 (ob : Int), .int .i64 oc, v3]) :: ((kR, zero3) :: (kF, [.int .u32 (ob : Int), .int .i64 oc, .slice AF nF cF]) :: kbx)) _ _ _ := hD.sub ((List.sublist_cons_self _ _).trans (List.sublist_cons_self _ _))
  obtain ⟨-, -, y2, yf, -⟩ := hE.ds.held.tri
  exact ⟨⟨y2, yf 2⟩, hE.cell (i := 2) rfl hs3 v'⟩
end

theorem decP_boxes (w : World) (ob : Nat) (oc : Int) (A : Option Addr) (n c : Nat) :
    Held w ((w.alloc (.cells #[.int .u32 (ob : Int), .int .i64 oc, .slice A n c] 33)).alloc (.cells #[.int .u32 0, .int .i64 0, .slice none 0 0] 25)) [(w.heap.size + 1, zero3), (w.heap.size, [.int .u32 (ob : Int), .int .i64 oc, .slice A n c])] := dec_boxes w ob oc A n c

/-- what the result of a refusal is -/
theorem p_refused {w W : World} (hb : Below w.heap.size w W) {x : Int} : GivesM (⟨0, 0, []⟩, x) w (.returned (.tuple #[.agg #[.int .u32 0, .int .i64 0, .slice none 0 0], .int .i64 x])) W := ⟨_, [], rfl, ags_nil _, rfl, hb⟩

set_option maxRecDepth 100000 in
set_option maxHeartbeats 2000000 in
theorem p_dec_nosig {w : World} (T : Tab w) {A : Option Addr} {n c : Nat} (sg : ByteArray) (hs : sigT sg = false) (oc : Int) (ob : Nat) :
    Calls Tryd.prog 14 #[.string sg, .agg #[.int .u32 (ob : Int), .int .i64 oc, .slice A n c]] w (GivesM (⟨0, 0, []⟩, 2) w) := by
  have S := fun (W : World) (hb : Below w.heap.size w W) => Lib.hid (p_valid_any (T.below hb) sg)
  rw [hs] at S
  have J := Lib.hid (dec_boxes w ob oc A n c)
  obtain ⟨y0, y1, y2, yf, yl⟩ := (show Held w _ ([] ++ (w.heap.size + 1, _) :: [_]) from J.out).tri
  clear hs T
  go_enter Tryd.func14, Tryd.ntmps14
  go_wp2_with fail
  refine (S _ J.out.below).out.mono ?_
  rintro e w1 ⟨rfl, rfl⟩
  clear S
  go_wp2_with fail
  exact bodyPost_ret (v := .tuple #[.agg #[.int .u32 0, .int .i64 0, .slice none 0 0], .int .i64 2]) (by simp [results, Tryd.results14, go_sem, y0, y1, y2]) rfl ⟨_, [], rfl, ags_nil _, rfl, J.out.below⟩

set_option maxRecDepth 100000 in
set_option maxHeartbeats 2000000 in
theorem p_dec_range {w : World} (T : Tab w) {A : Option Addr} {n c : Nat} (sg : ByteArray) (hs : sigT sg = true) {oc : Int} (h1 : ¬ (0 ≤ oc ∧ oc ≤ 65535)) (ob : Nat) :
    Calls Tryd.prog 14 #[.string sg, .agg #[.int .u32 (ob : Int), .int .i64 oc, .slice A n c]] w (GivesM (⟨0, 0, []⟩, 6) w) := by
  have S := fun (W : World) (hb : Below w.heap.size w W) => Lib.hid (p_valid_any (T.below hb) sg)
  have OC := fun (W : World) => Lib.hid (p_opc_any oc W)
  rw [hs] at S
  rw [decide_eq_false h1] at OC
  have J := Lib.hid (dec_boxes w ob oc A n c)
  obtain ⟨y0, y1, y2, yf, yl⟩ := (show Held w _ ([] ++ (w.heap.size + 1, _) :: [_]) from J.out).tri
  obtain ⟨x0, x1, x2, -, -⟩ := (show Held w _ ([_] ++ (w.heap.size, _) :: []) from J.out).tri
  clear hs T h1
  go_enter Tryd.func14, Tryd.ntmps14
  go_wp2_with fail
  refine (S _ J.out.below).out.mono ?_
  rintro e w1 ⟨rfl, rfl⟩
  clear S
  go_wp2_with fail
  refine (OC _).out.mono ?_
  rintro e w1 ⟨rfl, rfl⟩
  clear OC
  go_wp2_with fail
  exact bodyPost_ret (v := .tuple #[.agg #[.int .u32 0, .int .i64 0, .slice none 0 0], .int .i64 6]) (by simp [results, Tryd.results14, go_sem, y0, y1, y2]) rfl ⟨_, [], rfl, ags_nil _, rfl, J.out.below⟩

set_option maxRecDepth 100000 in
set_option maxHeartbeats 2000000 in
theorem p_dec_long {w : World} (T : Tab w) {A : Option Addr} {n c : Nat} (sg : ByteArray) (hs : sigT sg = true) {oc : Int} (h1 : 0 ≤ oc ∧ oc ≤ 65535) (hn : 4088 < n) (ob : Nat) :
    Calls Tryd.prog 14 #[.string sg, .agg #[.int .u32 (ob : Int), .int .i64 oc, .slice A n c]] w (GivesM (⟨0, 0, []⟩, 5) w) := by
  have S := fun (W : World) (hb : Below w.heap.size w W) => Lib.hid (p_valid_any (T.below hb) sg)
  have OC := fun (W : World) => Lib.hid (p_opc_any oc W)
  rw [hs] at S
  rw [decide_eq_true h1] at OC
  have J := Lib.hid (dec_boxes w ob oc A n c)
  obtain ⟨y0, y1, y2, yf, yl⟩ := (show Held w _ ([] ++ (w.heap.size + 1, _) :: [_]) from J.out).tri
  obtain ⟨x0, x1, x2, -, -⟩ := (show Held w _ ([_] ++ (w.heap.size, _) :: []) from J.out).tri
  have e1 : (4088 : Int) < (n : Int) := by omega
  clear hs T h1
  go_enter Tryd.func14, Tryd.ntmps14
  go_wp2_with fail
  refine (S _ J.out.below).out.mono ?_
  rintro e w1 ⟨rfl, rfl⟩
  clear S
  go_wp2_with fail
  refine (OC _).out.mono ?_
  rintro e w1 ⟨rfl, rfl⟩
  clear OC
  go_wp2_with fail
  exact bodyPost_ret (v := .tuple #[.agg #[.int .u32 0, .int .i64 0, .slice none 0 0], .int .i64 5]) (by simp [results, Tryd.results14, go_sem, y0, y1, y2]) rfl ⟨_, [], rfl, ags_nil _, rfl, J.out.below⟩

end Go.Proofs.YtmpkjjmgfakomaaDoor

namespace Go.Proofs.YtmpkjjmgfakomaaDoor
open Go.RowKit Mem Wire

set_option maxRecDepth 100000 in
set_option maxHeartbeats 8000000 in
theorem p_dec_go {w : World} (T : Tab w) {AF : Option Addr} {nF cF : Nat} {bs : List UInt8} (hB : Sees w (.slice AF nF cF) bs) (sg : ByteArray) (hs : sigT sg = true) (ob : Nat) {oc : Int} (h1 : 0 ≤ oc ∧ oc ≤ 65535) (hn : ¬ 4088 < nF) :
    Calls Tryd.prog 14 #[.string sg, .agg #[.int .u32 (ob : Int), .int .i64 oc, .slice AF nF cF]] w (GivesM (if (decF (bs, 0) [] (kdsT (sl sg))).2 ≠ 0 then (⟨0, 0, []⟩, (decF (bs, 0) [] (kdsT (sl sg))).2) else (⟨ob, oc, (decF (bs, 0) [] (kdsT (sl sg))).1⟩, 0)) w) := by
  have S := fun (W : World) (hb : Below w.heap.size w W) => Lib.hid (p_valid_any (T.below hb) sg)
  have OC := fun (W : World) => Lib.hid (p_opc_any oc W)
  have KD := fun (W : World) (hb : Below w.heap.size w W) => Lib.hid (p_kinds_any hs (T.below hb))
  rw [hs] at S
  rw [decide_eq_true h1] at OC
  rw [show sg.data.toList = sl sg from rfl] at KD
  obtain ⟨_, _, hv, hc1, hc2⟩ := hB.shape
  simp only [Value.slice.injEq] at hv
  obtain ⟨rfl, hlen, rfl⟩ := hv
  have F := fun (W : World) (hb : Below w.heap.size w W) => Lib.hid (from_any (hB.below hb) (by omega))
  obtain ⟨ks, hks⟩ : ∃ ks, kdsT (sl sg) = ks := ⟨_, rfl⟩
  rw [hks] at KD ⊢
  obtain ⟨R, hR⟩ : ∃ R, decF (bs, 0) [] ks = R := ⟨_, rfl⟩
  rw [hR]
  obtain ⟨X, hX⟩ : ∃ X, (if R.2 ≠ 0 then ((⟨0, 0, []⟩ : Ms), R.2) else (⟨ob, oc, R.1⟩, 0)) = X := ⟨_, rfl⟩
  rw [hX]
  have HX := Lib.hid hX
  have HI0 : Hid (decF (bs, 0) (agL []) (ks.drop 0) = R) := Lib.hid hR
  have HZ : Hid (ks.length ≤ 16) := Lib.hid (by
    rw [← hks, kds_len]
    unfold sigT at hs
    simp at hs
    exact hs.1)
  have HBS : Hid (bs.length ≤ 1000000) := Lib.hid (by omega)
  have J := Lib.hid (dec_boxes w ob oc AF nF cF)
  obtain ⟨y0, y1, y2, yf, yl⟩ := (show Held w _ ([] ++ (w.heap.size + 1, _) :: [_]) from J.out).tri
  obtain ⟨x0, x1, x2, -, -⟩ := (show Held w _ ([_] ++ (w.heap.size, _) :: []) from J.out).tri
  have e1 : ¬ (4088 : Int) < (nF : Int) := by omega
  clear hs hR hX hB h1 hks T hlen hc1 hc2
  go_enter Tryd.func14, Tryd.ntmps14
  go_wp2_with fail
  refine (S _ J.out.below).out.mono ?_
  rintro e w1 ⟨rfl, rfl⟩
  clear S
  go_wp2_with fail
  refine (OC _).out.mono ?_
  rintro e w1 ⟨rfl, rfl⟩
  clear OC
  replace J := Lib.hid (J.out.alloc [.int .u32 (ob : Int), .int .i64 oc, .slice none 0 0] 25)
  simp only [World.size_alloc] at J
  go_wp2_with fail
  refine (F _ J.out.below).out.mono ?_
  rintro e w1 ⟨g, rfl, hge, hr, hb⟩
  have H0 : DR w w1 g (bs, 0) (decP (w.heap.size + 1 + 1) (w.heap.size + 1) w.heap.size ob oc (.slice none 0 0) AF nF cF []) [] (.slice none 0 0) [] :=
    ⟨⟨J.out.step hb, fun q hq => (by cases hq), ownA_nil _ _, noB_nil _ _ _, fun q _ g hg => (by cases hg)⟩, hr, Nat.le_trans J.out.below.size hge, J.out.apart hge, fun h => by cases h⟩
  have H := Lib.hid H0
  clear H0 hr hb hge F J y0 y1 y2 yf yl x0 x1 x2 e1
  go_wp2_with fail
  refine (KD _ H.out.ds.held.below).out.mono ?_
  rintro e w2 ⟨vk, rfl, ho, hb⟩
  obtain ⟨kbx, H1, hkb⟩ := kin_of H.out ho hb
  replace H := Lib.hid H1
  obtain ⟨A, c, rfl, hkc, hkm⟩ : ∃ A c, vk = .slice A ks.length c ∧ ks.length ≤ c ∧ c ≤ maxLen := by
    obtain ⟨A, c, h1, h2, h3, _⟩ := hkb
    exact ⟨A, c, h1, h2, h3⟩
  have KB := Lib.hid hkb
  simp only [maxLen] at hkm
  obtain ⟨n, hn2⟩ : ∃ n, ks.length = n := ⟨_, rfl⟩
  have HN := Lib.hid hn2
  rw [hn2] at hkc KB ⊢
  clear KD ho hb H1 hkb hn2
  go_wp2_with fail
  generalize w.heap.size + 1 + 1 = kM at *
  go_loopw [40] (fun s40 wr => ∃ (i : Nat) (s : St) (v3 : Value) (l : List AgV) (ss : List (Value × List UInt8)), i ≤ n ∧ s40 = .int .i64 (i : Int) ∧ Hid (l.length ≤ i ∧ s.1.length ≤ 1000000 ∧ n ≤ 4000000 ∧ (∀ p ∈ l, p.1.ss.size ≤ maxLen ∧ (p.2, p.1.bb) ∈ ss)) ∧ Hid (decF s (agL l) (ks.drop i) = R) ∧ Hid (DR w wr g s (decP kM (w.heap.size + 1) w.heap.size ob oc v3 AF nF cF kbx) ss v3 l)) (fun s40 _ => leftN n s40)
  case atStart => exact ⟨0, (bs, 0), .slice none 0 0, [], [], Nat.zero_le _, rfl, Lib.hid ⟨Nat.le_refl _, HBS.out, by have := HZ.out; have := HN.out; omega, fun p hp => by cases hp⟩, HI0, H⟩
  case round =>
    clear H HI0 HBS
    obtain ⟨i, s, v3, l, ss, hi, rfl, HS, HI, H⟩ := hrel
    obtain ⟨A3, c3, rfl, -, -⟩ := H.out.ds.own.agk.shape
    by_cases hlt : i < n
    · have q0 : (0 : Int) ≤ i := by omega
      have q1 : (i : Int) < n := by omega
      obtain ⟨k, hk⟩ : ∃ k, ks[i]? = some k := ⟨_, List.getElem?_eq_getElem (by rw [HN.out]; exact hlt)⟩
      obtain ⟨b, rfl, kc⟩ := kin_at H.out KB.out hk
      have hst := HI.out
      rw [drop_cons hk] at hst
      have C := Lib.hid (p_read_any H.out HS.out.2.1 k)
      have hle := read_le H.out.rd.fine k
      obtain ⟨⟨⟨b9, e9⟩, a9⟩, hx⟩ : ∃ x, readG s k = x := ⟨_, rfl⟩
      have hst2 := Lib.hid (dec_step hst hx)
      rw [hx] at C hle
      have HLE := Lib.hid hle
      clear hst hx hle HI hk H
      obtain ⟨kd, nn, sS, bB⟩ := a9
      dsimp only at C HLE hst2
      go_wp2_with fail
      refine C.out.mono ?_
      rintro e w3 ⟨A8, c8, rfl, h2, hsz⟩
      have HSZ := Lib.hid hsz
      have H := Lib.hid (h2.alloc [.int .i64 kd, .int .i64 nn, .string sS, .slice A8 bB.length c8] 43)
      have HSE := Lib.hid (h2.ds.see (.slice A8 bB.length c8, bB) (by simp))
      clear C h2 hsz kc
      dsimp only at HSZ H HSE ⊢
      have ER := Lib.hid (err_any H.out.rd)
      obtain ⟨z0, z1, z2, z3, zf, zl⟩ := (show Held w _ ([] ++ (w3.heap.size, _) :: decP kM (w.heap.size + 1) w.heap.size ob oc (.slice A3 l.length c3) AF nF cF kbx) from H.out.ds.held).four
      obtain ⟨bl, hbl⟩ : ∃ bl, bB.length = bl := ⟨_, rfl⟩
      have HBL := Lib.hid hbl
      rw [hbl] at H HSE ER z0 z1 z2 z3 zf zl ⊢
      go_wp2_with fail
      refine ER.out.mono ?_
      rintro e w4 ⟨rfl, rfl⟩
      by_cases he : e9 = 0
      · subst he
        have PR := Lib.hid (p_range_any (⟨kd, nn, sS, bB⟩, .slice A8 bl c8) (w := w3.alloc (.cells #[.int .i64 kd, .int .i64 nn, .string sS, .slice A8 bl c8] 43)) ⟨HSE.out.alloc _, HSZ.out⟩)
        obtain ⟨rb, hrb⟩ : ∃ rb, rngB ⟨kd, nn, sS, bB⟩ = rb := ⟨_, rfl⟩
        dsimp only at PR
        rw [hrb] at PR hst2
        clear ER hrb
        go_wp2_with fail
        refine PR.out.mono ?_
        rintro e w5 ⟨rfl, hb5⟩
        replace H := Lib.hid (H.out.step hb5)
        clear hb5 PR z0 z1 z2 z3 zf zl
        cases rb with
        | false =>
          have hR := hst2.out.2.1 (by trivial) (by trivial)
          have hx := HX.out
          rw [hR, if_pos (by decide)] at hx
          subst hx
          obtain ⟨y0, y1, y2, yf, -⟩ := (show Held w w5 ([_, _] ++ (w.heap.size + 1, zero3) :: (_ :: kbx)) from H.out.ds.held).tri
          have K := Lib.hid ((show Held w w5 ([_, _] ++ (w.heap.size + 1, zero3) :: (_ :: kbx)) from H.out.ds.held).set3 (.int .u32 0) (.int .i64 0) (.slice none 0 0))
          clear H hst2 HX hR HSE
          go_wp2_with fail
          have hK := K.out
          unfold Go.Proofs.YtmpkjjmgfakomaaDoor.set3 at hK
          obtain ⟨y0, y1, y2, -, -⟩ := (show Held w _ ([_, _] ++ (w.heap.size + 1, _) :: (_ :: kbx)) from hK).tri
          exact bodyPost_ret (v := .tuple #[.agg #[.int .u32 0, .int .i64 0, .slice none 0 0], .int .i64 6]) (by simp [results, Tryd.results14, go_sem, y0, y1, y2]) rfl ⟨_, [], rfl, ags_nil _, rfl, hK.below⟩
        | true =>
          have HI2 : Hid (decF (b9, 0) (agL (l ++ [((⟨kd, nn, sS, bB⟩, .slice A8 bl c8) : AgV)])) (ks.drop (i + 1)) = R) := Lib.hid (by
            rw [agL_snoc]
            exact hst2.out.2.2 (by trivial) (by trivial))
          have HS2 : Hid ((l ++ [((⟨kd, nn, sS, bB⟩, .slice A8 bl c8) : AgV)]).length ≤ i + 1 ∧ b9.length ≤ 1000000 ∧ n ≤ 4000000 ∧ ∀ p ∈ l ++ [((⟨kd, nn, sS, bB⟩, .slice A8 bl c8) : AgV)], p.1.ss.size ≤ maxLen ∧ (p.2, p.1.bb) ∈ (.slice A8 bl c8, bB) :: ss) := Lib.hid (by
            have h := HS.out
            refine ⟨by simp; omega, Nat.le_trans HLE.out h.2.1, h.2.2.1, fun p hp => ?_⟩
            rcases List.mem_append.1 hp with hp | hp
            · exact ⟨(h.2.2.2 p hp).1, List.mem_cons_of_mem _ (h.2.2.2 p hp).2⟩
            · rw [List.mem_singleton.1 hp]
              exact ⟨HSZ.out, by simp⟩)
          have hl1 : l.length + 1 ≤ 4000000 := by have := HS.out; omega
          obtain ⟨-, -, y2, yf, -⟩ := (show Held w w5 ([_] ++ (kM, _) :: (_ :: _ :: kbx)) from H.out.ds.held).tri
          obtain ⟨z0, z1, z2, z3, zf, zl⟩ := (show Held w w5 ([] ++ (w3.heap.size, _) :: (_ :: _ :: _ :: kbx)) from H.out.ds.held).four
          have DB := Lib.hid (H.out.alloc [.int .i64 kd, .int .i64 nn, .string sS, .slice A8 bl c8] 43)
          clear H hst2 HX HS HLE HSZ HSE
          go_wp2_with (at_builtin; refine wpList_appN rfl _ _ rfl (base := w.heap.size) (l := l) (p := ((⟨kd, nn, sS, bB⟩, .slice A8 bl c8) : AgV)) rfl DB.out.ds.own DB.out.ds.nob rfl (agk_one w5 ((⟨kd, nn, sS, bB⟩, .slice A8 bl c8) : AgV)) (sli_nb _ _ _) rfl hl1 DB.out.ds.held.below.size ?_; intro v1 w6 ho1 hn1 hg1 hw1; have DN0 := p_dec_app (p := ((⟨kd, nn, sS, bB⟩, .slice A8 bl c8) : AgV)) DB.out (sli_nb _ _ _) ho1 hn1 hg1 hw1; obtain ⟨A7, c7, rfl, -, -⟩ := ho1.agk.shape; obtain ⟨⟨x2, xf⟩, DN1⟩ := DN0; have DN := Lib.hid DN1; clear DB DN1 ho1 hn1 hg1 hw1)
          all_goals
            rw [show (l ++ [((⟨kd, nn, sS, bB⟩, .slice A8 bl c8) : AgV)]).length = l.length + 1 by simp] at DN
            go_roundw
            case rel => exact ⟨i + 1, (b9, 0), _, _, _, by omega, by go_num, HS2, HI2, DN⟩
            case measure =>
              unfold leftN
              simp [intOf]
              omega
      · have hR := hst2.out.1 he
        have hx := HX.out
        rw [hR, if_pos he] at hx
        subst hx
        have en : (e9 != 0) = true := bne_iff_ne.2 he
        clear hst2 HX hR HSE
        go_wp2_with fail
        refine ER.out.mono ?_
        rintro e w5 ⟨rfl, rfl⟩
        clear ER
        obtain ⟨y0, y1, y2, yf, -⟩ := (show Held w _ ([_, _] ++ (w.heap.size + 1, zero3) :: (_ :: kbx)) from H.out.ds.held).tri
        have K := Lib.hid ((show Held w _ ([_, _] ++ (w.heap.size + 1, zero3) :: (_ :: kbx)) from H.out.ds.held).set3 (.int .u32 0) (.int .i64 0) (.slice none 0 0))
        clear H
        go_wp2_with fail
        have hK := K.out
        unfold Go.Proofs.YtmpkjjmgfakomaaDoor.set3 at hK
        obtain ⟨y0, y1, y2, -, -⟩ := (show Held w _ ([_, _] ++ (w.heap.size + 1, _) :: (_ :: kbx)) from hK).tri
        exact bodyPost_ret (v := .tuple #[.agg #[.int .u32 0, .int .i64 0, .slice none 0 0], .int .i64 e9]) (by simp [results, Tryd.results14, go_sem, y0, y1, y2]) rfl ⟨_, [], rfl, ags_nil _, rfl, hK.below⟩
    · obtain rfl : i = n := by omega
      have hst := HI.out
      rw [List.drop_eq_nil_of_le (Nat.le_of_eq HN.out)] at hst
      unfold decF at hst
      have RE := Lib.hid (end_any H.out.rd)
      obtain ⟨en, hen⟩ : ∃ en, endS s = en := ⟨_, rfl⟩
      rw [hen] at hst RE
      clear HI hen
      go_wp2_with fail
      refine RE.out.mono ?_
      rintro e wq ⟨rfl, rfl⟩
      clear RE
      by_cases he : en = 0
      · rw [if_neg (by simp [he])] at hst
        have hx := HX.out
        rw [← hst, if_neg (by simp)] at hx
        subst hx
        subst he
        clear hst HX
        obtain ⟨y0, y1, y2, -, -⟩ := (show Held w _ ([] ++ (kM, _) :: (_ :: _ :: kbx)) from H.out.ds.held).tri
        obtain ⟨x0, x1, x2, xf, -⟩ := (show Held w _ ([_] ++ (w.heap.size + 1, _) :: (_ :: kbx)) from H.out.ds.held).tri
        have K := Lib.hid ((((show DR w _ g s ([_] ++ (w.heap.size + 1, [.int .u32 0, .int .i64 0, .slice none 0 0]) :: (_ :: kbx)) _ _ _ from H.out).cell (i := 0) rfl (u32_nb _) (.int .u32 (ob : Int))).cell (i := 1) rfl (int_nb _) (.int .i64 oc)).cell (i := 2) rfl (sli_nb _ _ _) (.slice A3 l.length c3))
        clear H
        go_wp2_with fail
        obtain ⟨y0, y1, y2, -, -⟩ := (show Held w _ ([_] ++ (w.heap.size + 1, [.int .u32 (ob : Int), .int .i64 oc, .slice A3 l.length c3]) :: (_ :: kbx)) from K.out.ds.held).tri
        exact bodyPost_ret (v := .tuple #[.agg #[.int .u32 (ob : Int), .int .i64 oc, .slice A3 l.length c3], .int .i64 0]) (by simp [results, Tryd.results14, go_sem, y0, y1, y2]) rfl ⟨_, l, rfl, ⟨K.out.ds.own.agk, fun p hp => ⟨K.out.ds.see (p.2, p.1.bb) (HS.out.2.2.2 p hp).2, (HS.out.2.2.2 p hp).1⟩⟩, rfl, K.out.ds.held.below⟩
      · rw [if_pos he] at hst
        have hx := HX.out
        rw [← hst, if_pos he] at hx
        subst hx
        have en1 : (en != 0) = true := bne_iff_ne.2 he
        clear hst HX
        obtain ⟨y0, y1, y2, yf, -⟩ := (show Held w _ ([_] ++ (w.heap.size + 1, zero3) :: (_ :: kbx)) from H.out.ds.held).tri
        have K := Lib.hid ((show Held w _ ([_] ++ (w.heap.size + 1, zero3) :: (_ :: kbx)) from H.out.ds.held).set3 (.int .u32 0) (.int .i64 0) (.slice none 0 0))
        clear H
        go_wp2_with fail
        have hK := K.out
        unfold Go.Proofs.YtmpkjjmgfakomaaDoor.set3 at hK
        obtain ⟨y0, y1, y2, -, -⟩ := (show Held w _ ([_] ++ (w.heap.size + 1, _) :: (_ :: kbx)) from hK).tri
        exact bodyPost_ret (v := .tuple #[.agg #[.int .u32 0, .int .i64 0, .slice none 0 0], .int .i64 en]) (by simp [results, Tryd.results14, go_sem, y0, y1, y2]) rfl ⟨_, [], rfl, ags_nil _, rfl, hK.below⟩

set_option maxRecDepth 100000 in
theorem p_decode_any {w : World} (T : Tab w) {A : Option Addr} {n c : Nat} {bs : List UInt8} (hB : Sees w (.slice A n c) bs) (sg : ByteArray) (ob : Nat) (oc : Int) :
    Calls Tryd.prog 14 #[.string sg, .agg #[.int .u32 (ob : Int), .int .i64 oc, .slice A n c]] w (GivesM (decT (sigK sg) ob oc bs) w) := by
  obtain ⟨_, _, hv, _, _⟩ := hB.shape
  simp only [Value.slice.injEq] at hv
  obtain ⟨-, hlen, -⟩ := hv
  unfold sigK
  by_cases hs : sigT sg = true
  · rw [if_pos hs]
    unfold decT
    dsimp only
    by_cases h0 : oc < 0 ∨ 65535 < oc
    · rw [if_pos h0]
      exact p_dec_range T sg hs (by omega) ob
    · rw [if_neg h0, ← hlen]
      by_cases hn : 4088 < n
      · rw [if_pos hn]
        exact p_dec_long T sg hs (by omega) hn ob
      · rw [if_neg hn]
        exact p_dec_go T hB sg hs ob (by omega) hn
  · rw [if_neg hs]
    unfold decT
    exact p_dec_nosig T sg (by simpa using hs) oc ob

end Go.Proofs.YtmpkjjmgfakomaaDoor
