/-
  (*Decoder).Feed of a decoder that New returned.
-/
import Derived.Test.YtfmknjfhalkfhaaDeco
import Derived.Deep.CutBlock
import Derived.Deep.DeepCutAuto
namespace Go.Proofs.Ytfmknjfhalkfhaa
open Go.RowKit Mem Wire

/-- nothing but block g and the block of a row has turned -/
structure KeptBut (w w' : World) (g : Nat) (row : Option Nat) : Prop where
  os : w'.os = w.os
  tape : w'.tape = w.tape
  output : w'.output = w.output
  size : w.heap.size ≤ w'.heap.size
  block : ∀ k, k < w.heap.size → k ≠ g → some k ≠ row → w'.heap[k]? = w.heap[k]?

theorem KeptBut.grown {w w1 w2 : World} {g : Nat} {row r2 : Option Nat} (h : KeptBut w w1 g row) (hg : w1.grownBy w2 r2) (hr : r2 = row ∨ ∀ k, r2 = some k → w.heap.size ≤ k ∨ k = g) : KeptBut w w2 g row :=
  ⟨hg.os.trans h.os, hg.tape.trans h.tape, hg.output.trans h.output, Nat.le_trans h.size hg.size, fun k hk h1 h2 => (hg.block k (Nat.lt_of_lt_of_le hk h.size) (fun e => by
    rcases hr with hr | hr
    · exact h2 (e.trans hr)
    · rcases hr k e.symm with hr | hr
      · omega
      · exact h1 hr)).trans (h.block k hk h1 h2)⟩

theorem KeptBut.then_ {w w1 w2 : World} {g : Nat} {row : Option Nat} (h : KeptBut w w1 g row) (hb : Below w1.heap.size w1 w2) : KeptBut w w2 g row :=
  ⟨hb.os.trans h.os, hb.tape.trans h.tape, hb.output.trans h.output, Nat.le_trans h.size hb.size, fun k hk h1 h2 => (hb.block k (Nat.lt_of_lt_of_le hk h.size)).trans (h.block k hk h1 h2)⟩

/-- bodies of the call's own, no two in one block -/
def Sep (w : World) (lo : Nat) (l : List (Fr × Value)) : Prop :=
  (∀ p ∈ l, Owns w lo p.2 p.1.b) ∧ l.Pairwise (fun p q => p.2.ownBlock = none ∨ p.2.ownBlock ≠ q.2.ownBlock)

theorem sep_nil (w : World) (lo : Nat) : Sep w lo [] := ⟨by simp, .nil⟩

theorem Sep.snoc {w : World} {lo s : Nat} {l : List (Fr × Value)} {q : Fr × Value} (h : Sep w lo l) (hlt : ∀ p ∈ l, ∀ k, p.2.ownBlock = some k → k < s) (hq : Owns w lo q.2 q.1.b) (hqs : ∀ k, q.2.ownBlock = some k → s ≤ k) : Sep w lo (l ++ [q]) := by
  refine ⟨fun p hp => ?_, List.pairwise_append.2 ⟨h.2, List.pairwise_singleton _ _, fun p hp r hr => ?_⟩⟩
  · rcases List.mem_append.1 hp with hp | hp
    · exact h.1 p hp
    · rw [List.mem_singleton.1 hp]; exact hq
  · rw [List.mem_singleton.1 hr]
    cases hk : p.2.ownBlock with
    | none => exact .inl rfl
    | some k =>
      refine .inr fun e => ?_
      have h1 := hlt p hp k hk
      have h2 := hqs k e.symm
      omega

theorem Sep.below {w w' : World} {lo : Nat} {l : List (Fr × Value)} (h : Sep w lo l) (hb : Below w.heap.size w w') : Sep w' lo l := ⟨fun p hp => (h.1 p hp).below hb, h.2⟩

theorem Sep.grownElse {w w' : World} {lo : Nat} {l : List (Fr × Value)} {row : Option Nat} (h : Sep w lo l) (hg : w.grownBy w' row) (hr : Else w row) : Sep w' lo l := ⟨fun p hp => (h.1 p hp).grownElse hg hr, h.2⟩

theorem Sep.lt {w : World} {lo : Nat} {l : List (Fr × Value)} (h : Sep w lo l) : ∀ p ∈ l, ∀ k, p.2.ownBlock = some k → k < w.heap.size := fun p hp k hk => ((h.1 p hp).block k hk).2

theorem Sep.mono {w : World} {lo lo' : Nat} {l : List (Fr × Value)} (h : Sep w lo l) (hl : lo' ≤ lo) : Sep w lo' l := ⟨fun p hp => (h.1 p hp).mono hl, h.2⟩

/-- what Feed leaves -/
def FeedP (w : World) (base g : Nat) (bv : Value) (r : List Fr × Int × List UInt8 × Bool) (e : Ending) (w' : World) : Prop :=
  ∃ fv l bv', e = .returned (.tuple #[fv, .int .i64 r.2.1]) ∧ OwnF w' w.heap.size fv l ∧ Sep w' w.heap.size l ∧ fst l = r.1 ∧ Dec w' base g bv' r.2.2.1 r.2.2.2 ∧
    (∀ p ∈ l, p.2.ownBlock = none ∨ p.2.ownBlock ≠ bv'.ownBlock) ∧ (bv'.ownBlock = none ∨ bv'.ownBlock = bv.ownBlock ∨ ∃ k, bv'.ownBlock = some k ∧ w.heap.size ≤ k) ∧ KeptBut w w' g bv.ownBlock

theorem keptBut_refl (w : World) (g : Nat) (row : Option Nat) : KeptBut w w g row := ⟨rfl, rfl, rfl, Nat.le_refl _, fun _ _ _ _ => rfl⟩

theorem feed_closed {w : World} {base g : Nat} {bv v : Value} {buf p : List UInt8} (hd : Dec w base g bv buf true) :
    Calls Try.prog 19 #[.pointer (some ⟨g, 0, none⟩), v] w (FeedP w base g bv (feedS buf true p)) := by
  have c1 := block_cell hd.1 1
  have c2 := block_cell hd.1 2
  simp only [List.getElem?_toArray, List.getElem?_cons_zero, List.getElem?_cons_succ] at c1 c2
  have H := Lib.hid (created_yes c2)
  have HD := Lib.hid hd
  clear hd c2
  go_enter Try.func19, Try.ntmps19
  go_wp2_with fail
  go_step3
  go_wp2_with fail
  refine H.out.mono ?_
  rintro e w1 ⟨rfl, rfl⟩
  go_wp2_with fail
  rw [Exit.noGoto_ret]
  go_ret2
  exact ⟨_, [], bv, rfl, ownF_nil _ _, sep_nil _ _, rfl, HD.out, by simp, .inr (.inl rfl), keptBut_refl _ _ _⟩

def lenV : Value → Nat
  | .slice _ n _ => n
  | _ => 0

/-- the loop of Feed: the frames l so far, and the bytes R that are left -/
structure Feeding (w1 : World) (v1 : Value) (tot : List UInt8) (l : List (Fr × Value)) (s6 s8 : Value) (R : List UInt8) (wr : World) : Prop where
  own : OwnF wr w1.heap.size s6 l
  sep : Sep wr w1.heap.size l
  sees : Sees w1 s8 R
  below : Below w1.heap.size w1 wr
  split : splitS tot = (fst l ++ (splitS R).1, (splitS R).2)
  first : l = [] → s8 = v1 ∧ R = tot
  count : l.length * 8 + R.length ≤ tot.length

/-- the loop's end: the bytes that are left are none where there is an error -/
structure Fed (w1 : World) (g : Nat) (bv v1 : Value) (tot : List UInt8) (l : List (Fr × Value)) (s6 s8 : Value) (R : List UInt8) (wx : World) : Prop where
  own : OwnF wx w1.heap.size s6 l
  sep : Sep wx w1.heap.size l
  sees : Sees wx s8 R
  frames : fst l = (splitS tot).1
  rest : R = if (splitS tot).2.2 = 0 then (splitS tot).2.1 else []
  first : l = [] → (splitS tot).2.2 = 0 → s8 = v1 ∧ R = tot
  nope : (splitS tot).2.2 ≠ 0 → s8 = .slice none 0 0
  size : w1.heap.size ≤ wx.heap.size
  os : wx.os = w1.os
  tape : wx.tape = w1.tape
  output : wx.output = w1.output
  old : ∀ k, k < w1.heap.size → k ≠ g → wx.heap[k]? = w1.heap[k]?
  dec : wx.heap[g]? = some (.cells #[bv, .bool (decide ((splitS tot).2.2 ≠ 0)), .pointer (some ⟨g, 0, none⟩)] 54 (0, 0))

def FedP (w1 : World) (g : Nat) (bv v1 : Value) (tot : List UInt8) (s6 s7 s8 : Value) (wx : World) : Prop :=
  ∃ l R A2 c2 A3 c3, s6 = .slice A3 l.length c3 ∧ s7 = .int .i64 (splitS tot).2.2 ∧ s8 = .slice A2 R.length c2 ∧ R.length ≤ tot.length ∧ l.length ≤ tot.length ∧ Hid (Fed w1 g bv v1 tot l s6 s8 R wx)

theorem OwnF.of_sep {w : World} {lo : Nat} {v : Value} {l : List (Fr × Value)} (h : w.ownsRow lo 25 3 v l.length (flat l)) (hs : Sep w lo l) : OwnF w lo v l := ⟨h, fun p hp => .inl (hs.1 p hp)⟩

theorem Feeding.later {w1 wr wh : World} {v1 s6 s8 : Value} {tot R : List UInt8} {l : List (Fr × Value)} (h : Feeding w1 v1 tot l s6 s8 R wr) (hb : Below wr.heap.size wr wh) : Feeding w1 v1 tot l s6 s8 R wh :=
  ⟨h.own.below hb, h.sep.below hb, h.sees, h.below.trans (hb.mono h.below.size), h.split, h.first, h.count⟩

theorem fed_ok {w1 wr : World} {g : Nat} {bv v1 : Value} {tot R : List UInt8} {l : List (Fr × Value)} {A2 A3 : Option Addr} {c2 c3 : Nat} (h : Feeding w1 v1 tot l (.slice A3 l.length c3) (.slice A2 R.length c2) R wr)
    (hs : splitS R = ([], R, 0)) (hrow : w1.heap[g]? = some (.cells #[bv, .bool false, .pointer (some ⟨g, 0, none⟩)] 54 (0, 0))) (hlt : g < w1.heap.size) :
    FedP w1 g bv v1 tot (.slice A3 l.length c3) (.int .i64 0) (.slice A2 R.length c2) wr := by
  have hsp := h.split
  rw [hs] at hsp
  have e1 : (splitS tot).1 = fst l := by rw [hsp]; simp
  have e2 : (splitS tot).2.1 = R := by rw [hsp]
  have e3 : (splitS tot).2.2 = 0 := by rw [hsp]
  have hc := h.count
  refine ⟨l, R, A2, c2, A3, c3, rfl, by rw [e3], rfl, by omega, by omega, ⟨h.own, h.sep, h.sees.below h.below, e1.symm, by rw [if_pos e3, e2], fun hl _ => h.first hl, fun n => absurd e3 n, h.below.size, h.below.os, h.below.tape, h.below.output, fun k hk _ => h.below.block k hk, ?_⟩⟩
  rw [e3, h.below.block g hlt, hrow]
  rfl

theorem fed_bad {w1 wr : World} {g : Nat} {bv v1 s8 : Value} {tot R : List UInt8} {x : Int} {l : List (Fr × Value)} {A3 : Option Addr} {c3 : Nat} (h : Feeding w1 v1 tot l (.slice A3 l.length c3) s8 R wr)
    (hs : splitS R = ([], R, x)) (hx : x ≠ 0) (hrow : w1.heap[g]? = some (.cells #[bv, .bool false, .pointer (some ⟨g, 0, none⟩)] 54 (0, 0))) (hlt : g < w1.heap.size) :
    FedP w1 g bv v1 tot (.slice A3 l.length c3) (.int .i64 x) (.slice none 0 0) (wr.setCell ⟨g, 1, none⟩ (.bool true)) := by
  have hsp := h.split
  rw [hs] at hsp
  have e1 : (splitS tot).1 = fst l := by rw [hsp]; simp
  have e3 : (splitS tot).2.2 = x := by rw [hsp]
  have hc := h.count
  have hg := grown_set wr g 1 (.bool true)
  have hrow2 : wr.heap[g]? = some (.cells #[bv, .bool false, .pointer (some ⟨g, 0, none⟩)] 54 (0, 0)) := by rw [h.below.block g hlt, hrow]
  have hel : Else wr (some g) := fun k hk => by
    injection hk with hk
    subst hk
    exact ⟨_, 54, hrow2, by decide⟩
  have hsep := h.sep.grownElse hg hel
  have hrw := World.ownsRow.kept h.own.1 hg (.inr (fun e => by have := (h.own.block g e).1; omega))
  refine ⟨l, [], none, 0, A3, c3, rfl, by rw [e3], rfl, by simp, by omega, ⟨.of_sep hrw hsep, hsep, sees_nil _, e1.symm, by rw [if_neg (by rw [e3]; exact hx)], fun _ e => absurd (e3.symm.trans e) hx, fun _ => rfl, Nat.le_trans h.below.size hg.size, h.below.os, h.below.tape, h.below.output, fun k hk hk2 => ?_, ?_⟩⟩
  · exact (hg.block k (Nat.lt_of_lt_of_le hk h.below.size) (fun e => hk2 (by injection e))).trans (h.below.block k hk)
  · rw [block_set hrow2, e3, decide_eq_true hx]
    rfl

theorem feeding_step {w1 wr wh w2 w3 : World} {v1 s6 v2 v3 : Value} {tot R : List UInt8} {A2 : Option Addr} {n2 c2 sz : Nat} {f : Fr} {l : List (Fr × Value)} {o : Obj} (h : Feeding w1 v1 tot l s6 (.slice A2 n2 c2) R wr)
    (hs : splitS R = (f :: (splitS (R.drop sz)).1, (splitS (R.drop sz)).2)) (h8 : 8 ≤ sz) (hl : sz ≤ R.length)
    (hbh : Below wr.heap.size wr wh) (ho2 : Owns w2 wh.heap.size v2 f.b) (hb2 : Below wh.heap.size wh w2) (hown3 : OwnF w3 w1.heap.size v3 (l ++ [(f, v2)])) (hg3 : (w2.alloc o).grownBy w3 s6.ownBlock) :
    Feeding w1 v1 tot (l ++ [(f, v2)]) v3 (.slice (if c2 = sz then A2 else A2.map (·.add sz)) (n2 - sz) (c2 - sz)) (R.drop sz) w3 := by
  have hn2 : n2 = R.length := by
    obtain ⟨_, _, hv, _⟩ := h.sees.shape
    injection hv
  subst hn2
  have hh := h.later hbh
  have h2 := (hh.later hb2).later ((Below.refl _ _).alloc (Nat.le_refl _) o)
  have hba : Below w2.heap.size w2 (w2.alloc o) := (Below.refl _ _).alloc (Nat.le_refl _) o
  have hq : Owns w2 w1.heap.size v2 f.b := ho2.mono (hh.below.size)
  have hs2 : Sep w2 w1.heap.size (l ++ [(f, v2)]) := (hh.later hb2).sep.snoc (fun p hp k hk => hh.sep.lt p hp k hk) hq (fun k hk => (ho2.block k hk).1)
  refine ⟨hown3, (hs2.below hba).grownElse hg3 h2.own.else_, h.sees.drop hl, h2.below.grown hg3 h2.below.size (fun k hk => (h2.own.block k hk).1), ?_, fun e => by simp at e, ?_⟩
  · rw [h.split, hs, fst_append]
    simp [fst]
  · have := h.count
    simp only [List.length_append, List.length_singleton, List.length_drop]
    omega

theorem ownsRow_mono {w : World} {base base' : Nat} {e : TypeId} {size : Nat} {v : Value} {n : Nat} {xs : List Value} (h : w.ownsRow base e size v n xs) (hb : base' ≤ base) : w.ownsRow base' e size v n xs := by
  refine ⟨h.1, ?_⟩
  rcases h.2 with h2 | ⟨g, cap, cur, hv, hg, r⟩
  · exact .inl h2
  · exact .inr ⟨g, cap, cur, hv, Nat.le_trans hb hg, r⟩

theorem fed_done {w w1 wc w2 : World} {base g : Nat} {bv v1 v2 s6 s8 : Value} {buf p tot R : List UInt8} {l : List (Fr × Value)} (hd : Dec w base g bv buf false) (hT : tot = buf ++ p) (hg1 : w.grownBy w1 bv.ownBlock)
    (hF : Fed w1 g bv v1 tot l s6 s8 R wc) (hb2 : Below wc.heap.size wc w2) (hv : Owns w2 base v2 R) (hne : ∀ p ∈ l, p.2.ownBlock = none ∨ p.2.ownBlock ≠ v2.ownBlock)
    (hor : v2.ownBlock = none ∨ v2.ownBlock = bv.ownBlock ∨ ∃ k, v2.ownBlock = some k ∧ w.heap.size ≤ k) :
    FeedP w base g bv (feedS buf false p) (.returned (.tuple #[s6, .int .i64 (splitS tot).2.2])) (w2.setCell ⟨g, 0, none⟩ v2) := by
  have hrow2 := (hb2.block g (block_lt hF.dec)).trans hF.dec
  have hgs := grown_set w2 g 0 v2
  have hel : Else w2 (some g) := fun k hk => by
    injection hk with hk
    subst hk
    exact ⟨_, 54, hrow2, by decide⟩
  have hsep := (hF.sep.below hb2).grownElse hgs hel
  have hlo : w.heap.size ≤ w1.heap.size := hg1.size
  have hglt := hd.lt
  have hown2 := hF.own.below hb2
  have hrw := World.ownsRow.kept hown2.1 hgs (.inr (fun e => by have := (hown2.block g e).1; omega))
  have hdec := block_set hrow2 0 v2
  have hv2 := hv.grownElse hgs hel
  have hkept : KeptBut w (w2.setCell ⟨g, 0, none⟩ v2) g bv.ownBlock := by
    have h0 : KeptBut w w1 g bv.ownBlock := ⟨hg1.os, hg1.tape, hg1.output, hg1.size, fun k hk _ h2 => hg1.block k hk h2⟩
    have h1 : KeptBut w wc g bv.ownBlock := ⟨hF.os.trans h0.os, hF.tape.trans h0.tape, hF.output.trans h0.output, Nat.le_trans h0.size hF.size, fun k hk hk1 hk2 => (hF.old k (by omega) hk1).trans (h0.block k hk hk1 hk2)⟩
    exact (h1.then_ hb2).grown hgs (.inr fun k hk => .inr (by injection hk with hk; exact hk.symm))
  have hfs : feedS buf false p = ((splitS tot).1, (splitS tot).2.2, R, decide ((splitS tot).2.2 ≠ 0)) := by
    have hr := hF.rest
    subst hT
    unfold feedS
    rw [if_neg (by decide)]
    by_cases he : (splitS (buf ++ p)).2.2 = 0
    · rw [if_pos he, hr, if_pos he, he]; rfl
    · rw [if_neg he, hr, if_neg he, decide_eq_true he]
  rw [hfs]
  exact ⟨s6, l, v2, rfl, .of_sep (ownsRow_mono hrw hlo) (hsep.mono hlo), hsep.mono hlo, hF.frames, ⟨hdec, hd.2.1, hv2⟩, hne, hor, hkept⟩

theorem header_f {w : World} {A : Option Addr} {n c : Nat} {bs : List UInt8} (hs : Sees w (.slice A n c) bs) (hn : 8 ≤ n) :
    Calls Try.prog 27 #[.slice A n c] w fun e w' => e = .returned (.tuple #[.int .u32 ((frameAt bs).o : Int), .int .i64 (frameAt bs).c, .int .i64 (sizeAt bs : Int)]) ∧ Below w.heap.size w w' := header_any hs hn

/-- all that a round asks of the bytes that are left: the frame f, the size sz and its error x -/
structure HeadOf (R : List UInt8) (f : Fr) (sz : Nat) (x : Int) : Prop where
  head : ∀ (w : World) (A : Option Addr) (n c : Nat), Sees w (.slice A n c) R → 8 ≤ n → Calls Try.prog 27 #[.slice A n c] w fun e w' => e = .returned (.tuple #[.int .u32 (f.o : Int), .int .i64 f.c, .int .i64 (sz : Int)]) ∧ Below w.heap.size w w'
  check : ∀ W, Calls Try.prog 28 #[.int .i64 (sz : Int)] W fun e w' => e = .returned (.int .i64 x) ∧ W = w'
  small : sz < 65536
  bad : x ≠ 0 → splitS R = ([], R, x)
  cut : x = 0 → R.length < sz → splitS R = ([], R, 0)
  more : x = 0 → ¬ R.length < sz → splitS R = (f :: (splitS (R.drop sz)).1, (splitS (R.drop sz)).2)
  good : x = 0 → 8 ≤ sz ∧ sz ≤ 4096
  body : f.b = (R.take sz).drop 8

theorem sizeAt_lt (R : List UInt8) : sizeAt R < 65536 := Nat.div_lt_of_lt_mul (at4_lt (R.drop 4))

theorem headOf (R : List UInt8) (h8 : ¬ R.length < 8) : ∃ f sz x, HeadOf R f sz x :=
  ⟨frameAt R, sizeAt R, sizeErr (sizeAt R), fun _ _ _ _ hs hn => header_f hs hn, fun W => checkSize_any (sizeAt R) W (Nat.le_of_lt (Nat.lt_of_lt_of_le (sizeAt_lt R) (by decide))), sizeAt_lt R,
    split_bad h8, split_cut h8, split_more h8, fun h => ⟨(sizeErr_zero h).1, (sizeErr_zero h).2.2⟩, rfl⟩

set_option maxHeartbeats 1000000 in
theorem feed_open {w : World} {base g : Nat} {bv : Value} {A : Option Addr} {n c : Nat} {buf p : List UInt8} (hd : Dec w base g bv buf false) (hp : Sees w (.slice A n c) p) (hlen : buf.length + p.length ≤ 1000000) (hbase : base ≤ w.heap.size) :
    Calls Try.prog 19 #[.pointer (some ⟨g, 0, none⟩), .slice A n c] w (FeedP w base g bv (feedS buf false p)) := by
  have c0 := block_cell hd.1 0
  have c1 := block_cell hd.1 1
  have c2 := block_cell hd.1 2
  simp only [List.getElem?_toArray, List.getElem?_cons_zero, List.getElem?_cons_succ] at c0 c1 c2
  have H := Lib.hid (created_yes c2)
  have HD := Lib.hid hd
  have HP := Lib.hid hp
  obtain ⟨tot, htot⟩ : ∃ tot, tot = buf ++ p := ⟨_, rfl⟩
  have htl : tot.length ≤ 1000000 := by rw [htot, List.length_append]; exact hlen
  have HT := Lib.hid htot
  clear hd c2 hp htot
  go_enter Try.func19, Try.ntmps19
  go_wp2_with fail
  go_step3
  go_wp2_with fail
  refine H.out.mono ?_
  rintro e w1 ⟨rfl, rfl⟩
  go_wp2_with (at_builtin; refine wpList_app rfl (.tmp 22) (.tmp 23) rfl (v := bv) rfl HD.out.2.2 rfl HP.out (by omega) hbase ?_; intro v1 w1 ho1 hg1 hat1; rw [← HT.out] at ho1; have HO1 := Lib.hid ho1; have HG1 := Lib.hid hg1; obtain ⟨A1, k1, rfl, hk1, hm1⟩ := ho1.sees.shape; clear ho1 hg1)
  have hlt := HD.out.lt
  have hrow1 := Lib.hid ((HG1.out.block g hlt (fun e => HD.out.ne e.symm)).trans HD.out.1)
  have hz1 : w.heap.size ≤ w1.heap.size := HG1.out.size
  have hlt1 := Nat.lt_of_lt_of_le hlt hz1
  clear hlen hm1 c0 c1
  go_step3
  go_upto_block 0 with (fail)
  go_cut [6, 7, 8] (fun s6 s7 s8 wx => FedP w1 g bv (.slice A1 tot.length k1) tot s6 s7 s8 wx)
  case first =>
    go_wp2_with fail
    go_loopw [6, 7, 8] (fun s6 s7 s8 wr => ∃ l R A2 c2 A3 c3, s6 = .slice A3 (List.length l) c3 ∧ s7 = .int .i64 0 ∧ s8 = .slice A2 (List.length R) c2 ∧ Hid (Feeding w1 (.slice A1 tot.length k1) tot l s6 s8 R wr)) (fun _ _ s8 _ => lenV s8)
    case atStart => exact ⟨[], tot, A1, k1, none, 0, rfl, rfl, rfl, ⟨ownF_nil _ _, sep_nil _ _, HO1.out.sees, Below.refl _ _, by simp [fst], fun _ => ⟨rfl, rfl⟩, by simp⟩⟩
    case round =>
      obtain ⟨l, R, A2, c2, A3, c3, rfl, rfl, rfl, hf⟩ := hrel
      by_cases h8 : R.length < 8
      · have hout := Lib.hid (fed_ok hf.out (split_short h8) hrow1.out hlt1)
        generalize R.length = m at *
        generalize l.length = ln at *
        go_wp2_with fail
        go_meet
        exact hout.out
      · obtain ⟨f, sz, x, hd⟩ := headOf R h8
        have HH := Lib.hid (hd.head _ _ _ _ (hf.out.sees.below hf.out.below) (by omega))
        have hsz := hd.small
        have HK := Lib.hid hd.check
        have HDF := Lib.hid hd
        clear hd
        by_cases he : x = 0
        · have h88 := HDF.out.good he
          subst he
          by_cases hl : R.length < sz
          · have HB : Hid (∀ wh, Below wr.heap.size wr wh → FedP w1 g bv (.slice A1 tot.length k1) tot (.slice A3 l.length c3) (.int .i64 0) (.slice A2 R.length c2) wh) := fun wh hb => fed_ok (hf.out.later hb) (HDF.out.cut rfl hl) hrow1.out hlt1
            clear HDF
            generalize R.length = m at *
            generalize l.length = ln at *
            go_wp2_with fail
            refine HH.out.mono ?_
            rintro e wh ⟨rfl, hbh⟩
            go_wp2_with fail
            refine (HK.out _).mono ?_
            rintro e w3 ⟨rfl, rfl⟩
            go_wp2_with fail
            go_meet
            exact HB.out _ hbh
          · have HSP := Lib.hid (HDF.out.more rfl hl)
            have HFB := Lib.hid HDF.out.body
            have hse := Lib.hid hf.out.sees
            have hsh : R.length ≤ c2 := by
              obtain ⟨_, _, hv, h1, _⟩ := hf.out.sees.shape
              injection hv with _ _ e3
              omega
            have hcnt := hf.out.count
            have hs1 : Hid (∀ W, (Instr.sliceAt 23 (.slice A2 R.length c2) (some (.int .i64 8)) (some (.int .i64 (sz : Int))) none).run Try.prog W = .ok (.slice (if c2 = 8 then A2 else A2.map (·.add 8)) (sz - 8) (c2 - 8)) W) := fun W => slice_lh 8 (sz) (by omega) (by omega) W
            have hs2 : Hid (∀ W, (Instr.sliceAt 23 (.slice A2 R.length c2) (some (.int .i64 (sz : Int))) none none).run Try.prog W = .ok (.slice (if c2 = sz then A2 else A2.map (·.add (sz))) (R.length - sz) (c2 - sz)) W) := fun W => slice_l (sz) (by omega) W
            have HPC := Lib.hid (Sees.piece hf.out.sees 8 (sz) (by omega) (by omega))
            clear hsz HDF
            have HRL : Hid ((R.drop sz).length = R.length - sz) := List.length_drop
            have HLL : Hid (∀ q : Fr × Value, (l ++ [q]).length = l.length + 1) := fun q => by simp
            generalize hm : R.length = m at *
            have HM := Lib.hid hm
            generalize hln : l.length = ln at *
            have HL := Lib.hid hln
            clear hm hln
            have g1 := hs1.out
            have g2 := hs2.out
            generalize (if c2 = 8 then A2 else A2.map (·.add 8)) = A4 at *
            generalize hA5 : (if c2 = sz then A2 else A2.map (·.add sz)) = A5 at *
            have HA5 := Lib.hid hA5
            clear hA5
            go_wp2_with fail
            refine HH.out.mono ?_
            rintro e wh ⟨rfl, hbh⟩
            go_wp2_with fail
            refine (HK.out _).mono ?_
            rintro e w3 ⟨rfl, rfl⟩
            go_wp2_with fail
            have hf2 := Lib.hid (hf.out.later hbh)
            have hpl : ((R.take sz).drop 8).length ≤ 1000000 := by simp only [List.length_drop, List.length_take]; omega
            refine (clone_own (HPC.out.below hf2.out.below) (by omega)).mono ?_
            rintro e w2 ⟨v2, rfl, ho2, hb2⟩
            rw [← HFB.out] at ho2
            obtain ⟨A7, c7, rfl, _, _⟩ := ho2.sees.shape
            have hf3 := Lib.hid (hf2.out.later hb2)
            have HO2 := Lib.hid ho2
            have hz2 : w1.heap.size ≤ w2.heap.size := hf3.out.below.size
            have hbody : Hid (∀ o : Obj, ∀ q ∈ [(f, .slice A7 f.b.length c7)], Body (w2.alloc o) w1.heap.size q.2 q.1.b) := fun o q hq => by
              rw [List.mem_singleton.1 hq]
              exact .inl ((HO2.out.mono hf2.out.below.size).alloc o)
            clear ho2 hpl
            go_wp2_with (at_builtin; refine wpList_appF rfl (.tmp 47) (.tmp 55) rfl (v := .slice A3 ln c3) (l := l) (m := [(f, .slice A7 f.b.length c7)]) rfl (hf3.out.own.alloc _) rfl (frs_one (p := (f, .slice A7 f.b.length c7)) HO2.out.sees) (hbody.out _) (by rw [HL.out]; simp; omega) (by simp; omega) ?_; intro v3 w3 hown3 hg3 _; obtain ⟨l2, hl2⟩ : ∃ l2, l2 = l ++ [(f, .slice A7 f.b.length c7)] := ⟨_, rfl⟩; have hst := Lib.hid (feeding_step hf.out HSP.out (by omega) (by rw [HM.out]; omega) hbh HO2.out hb2 hown3 hg3); rw [← hl2] at hown3 hst; have HL2 := Lib.hid hl2; obtain ⟨A6, c6, hv6, _, _⟩ := hown3.frs.shape; clear hl2 hown3 hg3; subst hv6)
            go_roundw
            case rel =>
              have hst2 := hst.out
              rw [HA5.out] at hst2
              exact ⟨l2, R.drop sz, A5, c2 - sz, A6, c6, rfl, rfl, by rw [HRL.out], hst2⟩
            case measure => simp only [lenV]; omega
        · have HSP := Lib.hid (HDF.out.bad he)
          have HB : Hid (∀ wh, Below wr.heap.size wr wh → FedP w1 g bv (.slice A1 tot.length k1) tot (.slice A3 l.length c3) (.int .i64 x) (.slice none 0 0) (wh.setCell ⟨g, 1, none⟩ (.bool true))) := fun wh hb => fed_bad (hf.out.later hb) HSP.out he hrow1.out hlt1
          have hfb := Lib.hid (hf.out.below)
          clear hf HDF
          generalize R.length = m at *
          generalize l.length = ln at *
          have hxb : (x != 0) = true := by simp [he]
          clear hsz
          go_wp2_with fail
          refine HH.out.mono ?_
          rintro e wh ⟨rfl, hbh⟩
          have hroww := (hfb.out.trans (hbh.mono hfb.out.size)).block g hlt1
          rw [hrow1.out] at hroww
          have i1 := block_cell hroww 1
          have f1 := block_free hroww 1
          simp only [List.getElem?_toArray, List.getElem?_cons_zero, List.getElem?_cons_succ] at i1
          clear hroww
          go_wp2_with fail
          refine (HK.out _).mono ?_
          rintro e w3 ⟨rfl, rfl⟩
          go_wp2_with fail
          go_meet
          exact HB.out _ hbh
  case rest =>
    obtain ⟨l, R, A2, c2, A3, c3, rfl, rfl, rfl, hRl, hll, hF⟩ := hcut
    have hdec := hF.out.dec
    have i0 := block_cell hdec 0
    have f0 := block_free hdec 0
    simp only [List.getElem?_toArray, List.getElem?_cons_zero] at i0
    have hgx : Hid (w1.grownBy wc (some g)) := ⟨hF.out.os, hF.out.tape, hF.out.output, hF.out.size, fun k hk hne => hF.out.old k hk (fun e => hne (by rw [e]))⟩
    by_cases hl0 : l = []
    · have hown : Hid (Owns wc base (.slice A2 R.length c2) R ∧ ((Value.slice A2 R.length c2).ownBlock = none ∨ (Value.slice A2 R.length c2).ownBlock = bv.ownBlock ∨ ∃ k, (Value.slice A2 R.length c2).ownBlock = some k ∧ w.heap.size ≤ k)) := by
        by_cases he : (splitS tot).2.2 = 0
        · obtain ⟨e1, e2⟩ := hF.out.first hl0 he
          rw [e1]
          refine ⟨?_, ?_⟩
          · rw [e2]
            exact HO1.out.grownElse hgx.out (fun k hk => by
              injection hk with hk
              subst hk
              exact ⟨_, 54, hrow1.out, by decide⟩)
          · rcases hat1 with h | h
            · exact .inr (.inl h)
            · exact .inr (.inr ⟨_, h, Nat.le_refl _⟩)
        · have hr := hF.out.rest
          rw [if_neg he] at hr
          rw [hF.out.nope he, hr]
          exact ⟨own_nil _ _, .inl rfl⟩
      subst hl0
      have HFIN := Lib.hid (fed_done HD.out HT.out HG1.out hF.out (Below.refl _ _) hown.out.1 (by simp) hown.out.2)
      clear hF hown hdec hat1
      generalize (splitS tot).2.2 = x at *
      generalize R.length = m at *
      go_wp2_with fail
      rw [Exit.noGoto_ret]
      go_ret2
      exact HFIN.out
    · have hlp : 0 < l.length := List.length_pos_iff.2 hl0
      have HC := Lib.hid (clone_own hF.out.sees (by omega))
      have HFIN : Hid (∀ v2 w2, Owns w2 wc.heap.size v2 R → Below wc.heap.size wc w2 → FeedP w base g bv (feedS buf false p) (.returned (.tuple #[.slice A3 l.length c3, .int .i64 (splitS tot).2.2])) (w2.setCell ⟨g, 0, none⟩ v2)) := fun v2 w2 ho hb => by
        refine fed_done HD.out HT.out HG1.out hF.out hb (ho.mono (by have := hF.out.size; omega)) (fun q hq => ?_) ?_
        · cases hk : q.2.ownBlock with
          | none => exact .inl rfl
          | some k =>
            refine .inr fun e => ?_
            have h1 := hF.out.sep.lt q hq k hk
            have h2 := (ho.block k e.symm).1
            omega
        · cases hk : v2.ownBlock with
          | none => exact .inl rfl
          | some k =>
            have h2 := (ho.block k hk).1
            have h3 := hF.out.size
            exact .inr (.inr ⟨k, rfl, by omega⟩)
      have HDC := Lib.hid hdec
      clear hF hdec hat1
      generalize (splitS tot).2.2 = x at *
      generalize R.length = m at *
      generalize l.length = ln at *
      have hgt : (decide (0 < (ln : Int))) = true := by simp; omega
      go_wp2_with fail
      refine HC.out.mono ?_
      rintro e w2 ⟨v2, rfl, ho2, hb2⟩
      have hd2 := (hb2.block g (block_lt HDC.out)).trans HDC.out
      have j0 := block_cell hd2 0
      have j1 := block_free hd2 0
      simp only [List.getElem?_toArray, List.getElem?_cons_zero] at j0
      have HX := Lib.hid (HFIN.out v2 w2 ho2 hb2)
      obtain ⟨A7, c7, rfl, _, _⟩ := ho2.sees.shape
      clear hd2 ho2 i0 f0
      generalize R.length = m2 at *
      go_wp2_with fail
      rw [Exit.noGoto_ret]
      go_ret2
      exact HX.out

end Go.Proofs.Ytfmknjfhalkfhaa
