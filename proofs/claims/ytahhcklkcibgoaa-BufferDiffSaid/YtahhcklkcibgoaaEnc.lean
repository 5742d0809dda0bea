/-
  Encode of package buffer and of the reference.
-/
import Derived.Test.YtahhcklkcibgoaaOwn
import Derived.Test.YtahhcklkcibgoaaVali
import Derived.Laws.MakeOwn
namespace Go.Proofs.Ytahhcklkcibgoaa
open Go.RowKit Mem

/-- the four bytes of a pixel, the bytes of pixels -/
def encP (p : Px) : List UInt8 := [UInt8.ofNat p.b, UInt8.ofNat p.g, UInt8.ofNat p.r, UInt8.ofNat p.a]
def encL (l : List Px) : List UInt8 := l.flatMap encP
theorem enc_len (l : List Px) : (encL l).length = 4 * l.length := by
  induction l with
  | nil => rfl
  | cons p l ih => simp only [encL, List.flatMap_cons, List.length_append, List.length_cons] at ih ⊢; rw [ih]; simp [encP]; omega
theorem enc_next {l : List Px} {k : Nat} {p : Px} (h : l[k]? = some p) : encL (l.take (k + 1)) = encL (l.take k) ++ encP p := by
  rw [List.take_add_one, h]
  simp [encL]
theorem byte_nat {n : Nat} (h : n < 256) : byte (UInt8.ofNat n) = .int .u8 (n : Int) := by
  unfold byte
  congr 2
  simp
  omega

theorem sees_px (W : World) {p : Px} (hp : Byt p) : Sees (W.alloc (.cells #[.int .u8 (p.b : Int), .int .u8 (p.g : Int), .int .u8 (p.r : Int), .int .u8 (p.a : Int)] 5)) (.slice (some ⟨W.heap.size, 0, none⟩) 4 4) (encP p) := by
  refine ⟨_, 4, rfl, Nat.le_refl _, by simp [maxLen], fun _ => ⟨W.heap.size, 0, rfl, by rw [World.size_alloc]; exact Nat.lt_succ_self _, fun j hj => ?_⟩⟩
  have hj4 : j < 4 := hj
  match j with
  | 0 =>
    rw [show (encP p).getD 0 0 = UInt8.ofNat p.b from rfl, byte_nat hp.2.2.1]
    simp [go_sem]
  | 1 =>
    rw [show (encP p).getD 1 0 = UInt8.ofNat p.g from rfl, byte_nat hp.2.1]
    simp [go_sem]
  | 2 =>
    rw [show (encP p).getD 2 0 = UInt8.ofNat p.r from rfl, byte_nat hp.1]
    simp [go_sem]
  | 3 =>
    rw [show (encP p).getD 3 0 = UInt8.ofNat p.a from rfl, byte_nat hp.2.2.2]
    simp [go_sem]
  | j + 4 => omega

theorem sees_px2 (W : World) {p : Px} (hp : Byt p) {k : Nat} (hk : W.heap.size = k) : Sees (W.alloc (.cells #[.int .u8 (p.b : Int), .int .u8 (p.g : Int), .int .u8 (p.r : Int), .int .u8 (p.a : Int)] 5)) (.slice (some ⟨k, 0, none⟩) 4 4) (encP p) := by
  subst hk
  exact sees_px W hp

theorem make_bytes (n : Nat) (hn : n ≤ 1000000) (w : World) : (Instr.makeSlice 39 (.int .i64 0) (.int .i64 (n : Int))).run Try.prog w = .ok (.slice (some ⟨w.heap.size, 0, none⟩) 0 n) (w.alloc (.cells (madeCells #[.int .u8 0] n) 5)) := by
  obtain ⟨i, hi, hz, hsz, hby⟩ := info_parts byte_info
  have h := run_make (P := Try.prog) w 39 5 i (.int .u8 0) Try.underlying39 hi hz .i64 .i64 ((0 : Nat) : Int) (n : Int) (by omega) (by omega) (by rw [hby]; omega) (by omega)
  rw [hsz] at h
  simp only [Int.toNat_natCast, Nat.mul_one] at h
  exact h

theorem owns_made (w : World) (n : Nat) (hn : n ≤ 1000000) {base : Nat} (hb : base ≤ w.heap.size) : Owns (w.alloc (.cells (madeCells #[.int .u8 0] n) 5)) base (.slice (some ⟨w.heap.size, 0, none⟩) 0 n) [] :=
  World.ownsRow_made w (madeCells #[.int .u8 0] n) n hb (by simp only [maxLen]; omega) (by rw [size_madeCells, Nat.mul_one])

/-- bytes of one's own were appended to, their blocks lie above the boxes -/
theorem Held.grownS {w W W' : World} {l : List (Nat × List Value)} (h : Held w W l) {v : Value} {base : Nat} {L : List UInt8} (hg : W.grownBy W' v.ownBlock) (ho : Owns W base v L) (hw : w.heap.size ≤ base) (hl : ∀ p ∈ l, p.1 < base) : Held w W' l := by
  have hk := ho.block
  cases hv : v.ownBlock with
  | none =>
    rw [hv] at hg
    exact h.step ⟨hg.os, hg.tape, hg.output, hg.size, fun k hk => hg.block k hk (by simp)⟩
  | some g =>
    rw [hv] at hg hk
    have := (hk g rfl).1
    exact h.grown hg (by omega) (fun p hp => by have := hl p hp; omega)

/-- the answer is these bytes -/
def GivesS (bs : List UInt8) (w : World) (e : Ending) (w' : World) : Prop := ∃ u, e = .returned u ∧ Sees w' u bs ∧ Below w.heap.size w w'

theorem ebox (w : World) (vs : List Value) : ∀ q ∈ [(w.heap.size, vs)], q.1 < w.heap.size + 1 := fun q hq => by
  obtain rfl := List.mem_singleton.1 hq
  exact Nat.lt_succ_self _

theorem enc_wrap {x X : Nat} (h : 4 * x = X) (hb : X ≤ 1000000) : IntKind.i64.wrap (4 * (x : Int)) = (X : Int) := by
  rw [IntWalk.i64_in _ (by omega)]
  omega

set_option maxRecDepth 100000 in
set_option maxHeartbeats 4000000 in
theorem enc_inv {a b : Int} {v : Value} {l : List Px} {w : World} (h : Pxs w v l) (hbad : vBuf a b l = false) : Calls Try.prog 25 #[.agg #[.int .i64 a, .int .i64 b, v]] w (GivesS [] w) := by
  have H1 := Lib.hid h
  obtain ⟨A, n, rfl, _⟩ := h.shape
  have C1 := fun W (hb : Below w.heap.size w W) => Lib.hid (valid_any a b (H1.out.below hb))
  rw [hbad] at C1
  have J := Lib.hid ((Held.nil w).alloc [.int .i64 a, .int .i64 b, .slice A l.length n] 24)
  generalize l.length = n1 at *
  clear h hbad
  go_enter Try.func25, Try.ntmps25
  go_wp2_with fail
  refine (C1 _ J.out.below).out.mono ?_
  rintro e w1 ⟨rfl, hb⟩
  replace J := Lib.hid (J.out.step hb)
  clear hb
  go_wp2_with fail
  go_ret
  exact ⟨_, rfl, sees_nil _, J.out.below⟩

set_option maxRecDepth 100000 in
set_option maxHeartbeats 4000000 in
theorem renc_inv {a b : Int} {v : Value} {l : List Px} {w : World} (h : Pxs w v l) (hbad : vBuf a b l = false) : Calls Try.prog 26 #[.agg #[.int .i64 a, .int .i64 b, v]] w (GivesS [] w) := by
  have H1 := Lib.hid h
  obtain ⟨A, n, rfl, _⟩ := h.shape
  have C1 := fun W (hb : Below w.heap.size w W) => Lib.hid (rvalid_any a b (H1.out.below hb))
  rw [hbad] at C1
  have J := Lib.hid ((Held.nil w).alloc [.int .i64 a, .int .i64 b, .slice A l.length n] 24)
  generalize l.length = n1 at *
  clear h hbad
  go_enter Try.func26, Try.ntmps26
  go_wp2_with fail
  refine (C1 _ J.out.below).out.mono ?_
  rintro e w1 ⟨rfl, hb⟩
  replace J := Lib.hid (J.out.step hb)
  clear hb
  go_wp2_with fail
  go_ret
  exact ⟨_, rfl, sees_nil _, J.out.below⟩




set_option maxRecDepth 100000 in
set_option maxHeartbeats 4000000 in
theorem enc_good {a b : Nat} {v : Value} {l : List Px} {w : World} (h : Pxs w v l) (hv : Vld a b l) (hlb : ∀ p ∈ l, Byt p) : Calls Try.prog 25 #[.agg #[.int .i64 (a : Int), .int .i64 (b : Int), v]] w (GivesS (encL l) w) := by
  have H1 := Lib.hid h
  obtain ⟨h0, h6⟩ := hv.small
  have C1 := fun W (hb : Below w.heap.size w W) => Lib.hid (valid_any (a : Int) (b : Int) (H1.out.below hb))
  rw [hv.vBuf] at C1
  obtain ⟨A, c, rfl, hc, hm, hcell⟩ := h
  simp only [maxLen] at hm
  obtain ⟨bb, off, rfl, hbb, hcs⟩ := hcell h0
  have HCS := Lib.hid hcs
  have HB := Lib.hid hlb
  obtain ⟨n, hn⟩ : ∃ n, l.length = n := ⟨_, rfl⟩
  have HN := Lib.hid hn
  rw [hn] at hc h0 h6 C1 ⊢
  clear hcell hcs hlb hn hv H1
  have J := Lib.hid ((Held.nil w).alloc [.int .i64 (a : Int), .int .i64 (b : Int), .slice (some ⟨bb, off, none⟩) n c] 24)
  obtain ⟨M, hM⟩ : ∃ M, 4 * n = M := ⟨_, rfl⟩
  have HMW := Lib.hid (enc_wrap hM (by omega))
  have hmk := make_bytes M (by omega)
  have G0 := fun W hb => Lib.hid (owns_made W M (by omega) (base := w.heap.size + 1) hb)
  have q5 : M ≤ 262144 := by omega
  clear hM
  go_enter Try.func25, Try.ntmps25
  go_wp2_with fail
  refine (C1 _ J.out.below).out.mono ?_
  rintro e w1 ⟨rfl, hb⟩
  replace J := Lib.hid (J.out.step hb)
  clear hb
  obtain ⟨z0, z1, z2, _, zt⟩ := J.out.tri (l1 := [])
  have G := Lib.hid (And.intro (G0 w1 (by omega)).out (J.out.made (.cells (madeCells #[.int .u8 0] M) 5)))
  have hmw := HMW.out
  go_wp2_with fail
  clear hmw hmk z0 z1 z2 zt J C1 G0 HMW
  generalize w1.alloc (.cells (madeCells #[.int .u8 0] M) 5) = w3 at *
  generalize w1.heap.size = mm at *
  go_loopw [3, 17] (fun s3 s17 wr => ∃ k : Nat, k ≤ n ∧ s17 = .int .i64 (k : Int) ∧ Hid (Owns wr (w.heap.size + 1) s3 (encL (l.take k)) ∧ Held w wr [(w.heap.size, [.int .i64 (a : Int), .int .i64 (b : Int), .slice (some ⟨bb, off, none⟩) n c])])) (fun _ s17 _ => leftN n s17)
  case atStart => exact ⟨0, Nat.zero_le _, rfl, G⟩
  case round =>
    obtain ⟨k, hk, rfl, HR⟩ := hrel
    obtain ⟨m0, m1, m2, _, mt⟩ := HR.out.2.tri (l1 := [])
    by_cases hlt : k < n
    · have q1 : (k : Int) < n := by omega
      have q2 : (0 : Int) ≤ k := by omega
      obtain ⟨p, hp⟩ : ∃ p, l[k]? = some p := ⟨_, List.getElem?_eq_getElem (by rw [HN.out]; exact hlt)⟩
      have hby := Lib.hid (HB.out p (List.mem_of_getElem? hp))
      have hnx := Lib.hid (enc_next hp)
      obtain ⟨c0, c1, c2, c3⟩ := (HCS.out k p hp).keep HR.out.2.below hbb
      have hlen := Lib.hid (show (encL (l.take k)).length + (encP p).length ≤ 140737488355328 by rw [enc_len, List.length_take, HN.out]; simp [encP]; omega)
      have hbz := HR.out.2.below.size
      clear hp
      go_wp2_with ((at_builtin; refine wpList_app rfl _ _ rfl (base := w.heap.size + 1) (xs := encL (l.take k)) (bs := encP p) rfl ((HR.out.1.alloc _).alloc _) rfl (sees_px2 _ hby.out (World.size_alloc ..)) hlen.out (by rw [World.size_alloc, World.size_alloc]; omega) ?_; intro v6 w6 ho6 hg6 _; have J6 := Lib.hid (((HR.out.2.made _).made _).grownS hg6 ((HR.out.1.alloc _).alloc _) (by omega) (ebox w _)); rw [← hnx.out] at ho6; have O6 := Lib.hid ho6; clear ho6 hg6))
      have Z := Lib.hid (And.intro O6.out J6.out)
      clear m0 m1 m2 mt c0 c1 c2 c3 J6 O6
      go_roundw
      case rel => exact ⟨k + 1, by omega, by go_num, Z⟩
      case measure =>
        unfold leftN
        simp [intOf]
        omega
    · obtain rfl : n = k := by omega
      have q1 : ¬ (n : Int) < n := by omega
      have Q := Lib.hid HR.out.1.sees
      rw [List.take_of_length_le (by rw [HN.out]; exact Nat.le_refl _)] at Q
      go_wp2_with fail
      go_ret
      exact ⟨_, rfl, Q.out, HR.out.2.below⟩

set_option maxRecDepth 100000 in
set_option maxHeartbeats 4000000 in
theorem renc_good {a b : Nat} {v : Value} {l : List Px} {w : World} (h : Pxs w v l) (hv : Vld a b l) (hlb : ∀ p ∈ l, Byt p) : Calls Try.prog 26 #[.agg #[.int .i64 (a : Int), .int .i64 (b : Int), v]] w (GivesS (encL l) w) := by
  have H1 := Lib.hid h
  obtain ⟨h0, h6⟩ := hv.small
  have C1 := fun W (hb : Below w.heap.size w W) => Lib.hid (rvalid_any (a : Int) (b : Int) (H1.out.below hb))
  rw [hv.vBuf] at C1
  obtain ⟨A, c, rfl, hc, hm, hcell⟩ := h
  simp only [maxLen] at hm
  obtain ⟨bb, off, rfl, hbb, hcs⟩ := hcell h0
  have HCS := Lib.hid hcs
  have HB := Lib.hid hlb
  obtain ⟨n, hn⟩ : ∃ n, l.length = n := ⟨_, rfl⟩
  have HN := Lib.hid hn
  rw [hn] at hc h0 h6 C1 ⊢
  clear hcell hcs hlb hn hv H1
  have J := Lib.hid ((Held.nil w).alloc [.int .i64 (a : Int), .int .i64 (b : Int), .slice (some ⟨bb, off, none⟩) n c] 24)
  go_enter Try.func26, Try.ntmps26
  go_wp2_with fail
  refine (C1 _ J.out.below).out.mono ?_
  rintro e w1 ⟨rfl, hb⟩
  replace J := Lib.hid (J.out.step hb)
  clear hb
  have G : Hid (Owns w1 (w.heap.size + 1) (.slice none 0 0) (encL (l.take 0)) ∧ Held w w1 [(w.heap.size, [.int .i64 (a : Int), .int .i64 (b : Int), .slice (some ⟨bb, off, none⟩) n c])]) := Lib.hid ⟨World.ownsRow_nil w1 _ 5 1, J.out⟩
  clear J C1
  go_wp2_with fail
  go_loopw [3, 4] (fun s3 s4 wr => ∃ k : Nat, k ≤ n ∧ s4 = .int .i64 (k : Int) ∧ Hid (Owns wr (w.heap.size + 1) s3 (encL (l.take k)) ∧ Held w wr [(w.heap.size, [.int .i64 (a : Int), .int .i64 (b : Int), .slice (some ⟨bb, off, none⟩) n c])])) (fun _ s4 _ => leftN n s4)
  case atStart => exact ⟨0, Nat.zero_le _, rfl, G⟩
  case round =>
    obtain ⟨k, hk, rfl, HR⟩ := hrel
    obtain ⟨m0, m1, m2, _, mt⟩ := HR.out.2.tri (l1 := [])
    by_cases hlt : k < n
    · have q1 : (k : Int) < n := by omega
      have q2 : (0 : Int) ≤ k := by omega
      obtain ⟨p, hp⟩ : ∃ p, l[k]? = some p := ⟨_, List.getElem?_eq_getElem (by rw [HN.out]; exact hlt)⟩
      have hby := Lib.hid (HB.out p (List.mem_of_getElem? hp))
      have hnx := Lib.hid (enc_next hp)
      obtain ⟨c0, c1, c2, c3⟩ := (HCS.out k p hp).keep HR.out.2.below hbb
      have hlen := Lib.hid (show (encL (l.take k)).length + (encP p).length ≤ 140737488355328 by rw [enc_len, List.length_take, HN.out]; simp [encP]; omega)
      have hbz := HR.out.2.below.size
      clear hp
      go_wp2_with ((at_builtin; refine wpList_app rfl _ _ rfl (base := w.heap.size + 1) (xs := encL (l.take k)) (bs := encP p) rfl ((HR.out.1.alloc _).alloc _) rfl (sees_px2 _ hby.out (World.size_alloc ..)) hlen.out (by rw [World.size_alloc, World.size_alloc]; omega) ?_; intro v6 w6 ho6 hg6 _; have J6 := Lib.hid (((HR.out.2.made _).made _).grownS hg6 ((HR.out.1.alloc _).alloc _) (by omega) (ebox w _)); rw [← hnx.out] at ho6; have O6 := Lib.hid ho6; clear ho6 hg6))
      have Z := Lib.hid (And.intro O6.out J6.out)
      clear m0 m1 m2 mt c0 c1 c2 c3 J6 O6
      go_roundw
      case rel => exact ⟨k + 1, by omega, by go_num, Z⟩
      case measure =>
        unfold leftN
        simp [intOf]
        omega
    · obtain rfl : n = k := by omega
      have q1 : ¬ (n : Int) < n := by omega
      have Q := Lib.hid HR.out.1.sees
      rw [List.take_of_length_le (by rw [HN.out]; exact Nat.le_refl _)] at Q
      go_wp2_with fail
      go_ret
      exact ⟨_, rfl, Q.out, HR.out.2.below⟩

end Go.Proofs.Ytahhcklkcibgoaa
