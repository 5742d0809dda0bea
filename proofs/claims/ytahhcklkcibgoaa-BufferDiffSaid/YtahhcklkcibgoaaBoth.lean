/-
  What the package and the reference both answer: New, Decode, Crop, Paste, BlendOver, Diff, OpaqueRegion, Encode.
-/
import Derived.Test.YtahhcklkcibgoaaExaw
import Derived.Test.YtahhcklkcibgoaaEnc
import Derived.Test.YtahhcklkcibgoaaRdec
import Derived.Test.YtahhcklkcibgoaaRcrop
import Derived.Test.YtahhcklkcibgoaaRtop
import Derived.Test.YtahhcklkcibgoaaNew
import Derived.Test.YtahhcklkcibgoaaRdifh
namespace Go.Proofs.Ytahhcklkcibgoaa
open Go.RowKit Mem

/-- a buffer and an error, the pixels seen -/
def OutB (a b : Int) (l : List Px) (er : Int) (w : World) (e : Ending) (w' : World) : Prop := ∃ A n c, e = .returned (.tuple #[.agg #[.int .i64 a, .int .i64 b, .slice A n c], .int .i64 er]) ∧ Pxs w' (.slice A n c) l ∧ Below w.heap.size w w'
theorem outB {a b er : Int} {l : List Px} {w w' : World} {e : Ending} (h : Outs a b l er w e w') : OutB a b l er w e w' := by
  obtain ⟨v, rfl, hr, hb⟩ := h
  have hp := hr.pxs
  obtain ⟨A, c, rfl, _⟩ := hp.shape
  exact ⟨A, _, c, rfl, hp, hb⟩

/-- a list of rectangles and an error -/
def OutR (L : List R) (er : Int) (w : World) (e : Ending) (w' : World) : Prop := ∃ A n c, e = .returned (.tuple #[.slice A n c, .int .i64 er]) ∧ Rs w' (.slice A n c) L ∧ Below w.heap.size w w'
theorem outR_no {er : Int} {w w' : World} {e : Ending} (h : NoRuns er w e w') : OutR [] er w e w' := by
  obtain ⟨rfl, hb⟩ := h
  exact ⟨none, 0, 0, rfl, ⟨none, 0, rfl, Nat.le_refl _, by simp [maxLen], fun h => by simp at h⟩, hb⟩
theorem outR_ok {L : List R} (hl : L.length ≤ 256) {w w' : World} {e : Ending} (h : RunsO L w e w') : OutR L 0 w e w' := by
  rcases h with ⟨_, v, rfl, h3, h4⟩ | ⟨h0, _⟩
  · obtain ⟨A, c, rfl, _⟩ := h3.rs
    exact ⟨A, _, c, rfl, h3.rs, h4⟩
  · omega
theorem outR_many {L : List R} (hl : 256 < L.length) {w w' : World} {e : Ending} (h : RunsO L w e w') : OutR [] 5 w e w' := by
  rcases h with ⟨h0, _⟩ | ⟨_, rfl, h4⟩
  · omega
  · exact outR_no ⟨rfl, h4⟩

theorem both_new (a b : Int) (p : Px) : ∃ (oa ob er : Int) (O : List Px), (∀ W, Calls Try.prog 21 #[.int .i64 a, .int .i64 b, .agg #[.int .u8 (p.r : Int), .int .u8 (p.g : Int), .int .u8 (p.b : Int), .int .u8 (p.a : Int)]] W (OutB oa ob O er W)) ∧ (∀ W, Calls Try.prog 22 #[.int .i64 a, .int .i64 b, .agg #[.int .u8 (p.r : Int), .int .u8 (p.g : Int), .int .u8 (p.b : Int), .int .u8 (p.a : Int)]] W (OutB oa ob O er W)) := by
  cases h : sizB a b
  · exact ⟨0, 0, 6, [], fun W => (new_size p W h).mono fun _ _ => outB, fun W => (rnew_size p W h).mono fun _ _ => outB⟩
  · cases h2 : okPx p
    · exact ⟨0, 0, 15, [], fun W => (new_px p W h h2).mono fun _ _ => outB, fun W => (rnew_px p W h h2).mono fun _ _ => outB⟩
    · obtain ⟨A, B, rfl, rfl, h3, h4, h5, h6⟩ := siz_nat h
      exact ⟨A, B, 0, _, fun W => (new_good ⟨h3, h4⟩ ⟨h5, h6⟩ p W h2).mono fun _ _ => outB, fun W => (rnew_good ⟨h3, h4⟩ ⟨h5, h6⟩ p W h2).mono fun _ _ => outB⟩

theorem both_dec (f a b st : Int) {bs : List UInt8} (hn : bs.length ≤ 1000000) : ∃ (oa ob er : Int) (O : List Px), (∀ W v, Sees W v bs → Calls Try.prog 23 #[.int .i64 f, .int .i64 a, .int .i64 b, .int .i64 st, v] W (OutB oa ob O er W)) ∧ (∀ W v, Sees W v bs → Calls Try.prog 24 #[.int .i64 f, .int .i64 a, .int .i64 b, .int .i64 st, v] W (OutB oa ob O er W)) := by
  by_cases h1 : f = 1 ∨ f = 2
  · cases h : sizB a b
    · refine ⟨0, 0, 6, [], fun W v hv => ?_, fun W v hv => ?_⟩
      · obtain ⟨A, c, rfl, _⟩ := hv.shape
        exact (dec_size W h1 h).mono fun _ _ => outB
      · obtain ⟨A, c, rfl, _⟩ := hv.shape
        exact (rdec_size W h1 h).mono fun _ _ => outB
    · obtain ⟨A, B, rfl, rfl, h3, h4, h5, h6⟩ := siz_nat h
      by_cases h2 : st < 4 * (A : Int) ∨ (4 * (A : Int) ≤ st ∧ ¬ st % 4 = 0)
      · refine ⟨0, 0, 15, [], fun W v hv => ?_, fun W v hv => ?_⟩
        · obtain ⟨A, c, rfl, _⟩ := hv.shape
          exact (dec_stride W h1 ⟨h3, h4⟩ ⟨h5, h6⟩ h2).mono fun _ _ => outB
        · obtain ⟨A, c, rfl, _⟩ := hv.shape
          exact (rdec_stride W h1 ⟨h3, h4⟩ ⟨h5, h6⟩ h2).mono fun _ _ => outB
      · have g1 : 4 * (A : Int) ≤ st := by omega
        have g2 : st % 4 = 0 := by omega
        by_cases h7 : (bs.length : Int) / B < st
        · refine ⟨0, 0, 4, [], fun W v hv => ?_, fun W v hv => ?_⟩
          · obtain ⟨A, c, rfl, _⟩ := hv.shape
            exact (dec_short W h1 ⟨h3, h4⟩ ⟨h5, h6⟩ g1 g2 hn h7).mono fun _ _ => outB
          · obtain ⟨A, c, rfl, _⟩ := hv.shape
            exact (rdec_short W h1 ⟨h3, h4⟩ ⟨h5, h6⟩ g1 g2 hn h7).mono fun _ _ => outB
        · obtain ⟨s, rfl⟩ : ∃ s : Nat, st = (s : Int) := ⟨st.toNat, by omega⟩
          have g3 : B * s ≤ bs.length := by
            have h8 : (s : Int) ≤ (bs.length : Int) / B := by omega
            rw [Int.le_ediv_iff_mul_le (by omega)] at h8
            have : ((B * s : Nat) : Int) = (s : Int) * B := by rw [Int.natCast_mul, Int.mul_comm]
            omega
          exact ⟨A, B, 0, _, fun W v hv => (dec_good hv h1 ⟨h3, h4⟩ ⟨h5, h6⟩ (by omega) (by omega) g3 hn).mono fun _ _ => outB, fun W v hv => (rdec_good hv h1 ⟨h3, h4⟩ ⟨h5, h6⟩ (by omega) (by omega) g3 hn).mono fun _ _ => outB⟩
  · refine ⟨0, 0, 2, [], fun W v hv => ?_, fun W v hv => ?_⟩
    · obtain ⟨A, c, rfl, _⟩ := hv.shape
      exact (dec_fmt W (fun e => h1 (.inl e)) (fun e => h1 (.inr e))).mono fun _ _ => outB
    · obtain ⟨A, c, rfl, _⟩ := hv.shape
      exact (rdec_fmt W (fun e => h1 (.inl e)) (fun e => h1 (.inr e))).mono fun _ _ => outB

theorem both_enc (a b : Int) {l : List Px} (hlb : ∀ p ∈ l, Byt p) : ∃ bs : List UInt8, (∀ W v, Pxs W v l → Calls Try.prog 25 #[.agg #[.int .i64 a, .int .i64 b, v]] W (GivesS bs W)) ∧ (∀ W v, Pxs W v l → Calls Try.prog 26 #[.agg #[.int .i64 a, .int .i64 b, v]] W (GivesS bs W)) ∧ ((vBuf a b l = false ∧ bs = []) ∨ (vBuf a b l = true ∧ bs = encL l)) := by
  cases h : vBuf a b l
  · exact ⟨[], fun W v hv => enc_inv hv h, fun W v hv => renc_inv hv h, .inl ⟨rfl, rfl⟩⟩
  · obtain ⟨A, B, rfl, rfl, hV⟩ := vld_of h
    exact ⟨encL l, fun W v hv => enc_good hv hV hlb, fun W v hv => renc_good hv hV hlb, .inr ⟨rfl, rfl⟩⟩

theorem all_byt {l : List Px} (h : ∀ p ∈ l, Byt p) (k : Nat) : Byt (l.getD k zeroPx) := by
  rw [List.getD_eq_getElem?_getD]
  cases he : l[k]? with
  | none => exact ⟨by decide, by decide, by decide, by decide⟩
  | some p => exact h p (List.mem_of_getElem? he)
theorem all_ok {l : List Px} (h : ∀ p ∈ l, okPx p = true) (k : Nat) : okPx (l.getD k zeroPx) = true := by
  rw [List.getD_eq_getElem?_getD]
  cases he : l[k]? with
  | none => rfl
  | some p => exact h p (List.mem_of_getElem? he)
theorem mem_tab {α : Type} {n : Nat} {f : Nat → α} {x : α} (h : x ∈ tabL n f) : ∃ k, k < n ∧ x = f k := by
  unfold tabL at h
  obtain ⟨k, hk, rfl⟩ := List.mem_map.1 h
  exact ⟨k, List.mem_range.1 hk, rfl⟩

theorem crop_vld {a b x0 y0 w h : Nat} {l : List Px} (hv : Vld a b l) (hw : 1 ≤ w) (hh : 1 ≤ h) (hx : x0 + w ≤ a) (hy : y0 + h ≤ b) : Vld w h (cropL a l x0 y0 w h) := by
  have h1 := hv.a2
  have h2 := hv.b2
  refine ⟨hw, by omega, hh, by omega, crop_len _ _ _ _ _ _, fun p hp => ?_⟩
  obtain ⟨k, _, rfl⟩ := mem_tab hp
  exact all_ok hv.ok _
theorem crop_byt {a : Nat} {l : List Px} (hl : ∀ p ∈ l, Byt p) (x0 y0 w h : Nat) : ∀ p ∈ cropL a l x0 y0 w h, Byt p := fun p hp => by
  obtain ⟨k, _, rfl⟩ := mem_tab hp
  exact all_byt hl _

/-- a part put back at its place -/
theorem put_back {a x0 y0 w h : Nat} {l : List Px} : putL (fun p _ => p) a l w h (cropL a l x0 y0 w h) (x0 : Int) (y0 : Int) = l := by
  refine eq_of_getD (put_len _ _ _ _ _ _ _ _) fun k hk => ?_
  rw [put_len] at hk
  unfold putL
  rw [tab_getD _ _ hk]
  unfold newP
  split
  · rename_i hc
    rw [cov_iff] at hc
    obtain ⟨c0, c1, c2, c3⟩ := hc
    have e0 : ((((k % a : Nat) : Int) - (x0 : Int)).toNat) = k % a - x0 := by omega
    have e1 : ((((k / a : Nat) : Int) - (y0 : Int)).toNat) = k / a - y0 := by omega
    rw [e0, e1]
    have g0 : k % a - x0 < w := by omega
    have g1 : k / a - y0 < h := by omega
    unfold cropL
    rw [tab_getD _ _ (idx_lt g0 g1), idx_mod g0, idx_div g0, show y0 + (k / a - y0) = k / a by omega, show x0 + (k % a - x0) = k % a by omega, idx_of]
  · rfl

theorem both_crop (a b : Int) (r : R) {l : List Px} (hlb : ∀ p ∈ l, Byt p) : ∃ (oa ob er : Int) (O : List Px), (∀ W v, Pxs W v l → Calls Try.prog 27 #[.agg #[.int .i64 a, .int .i64 b, v], .agg #[.int .i64 r.x0, .int .i64 r.y0, .int .i64 r.x1, .int .i64 r.y1]] W (OutB oa ob O er W)) ∧ (∀ W v, Pxs W v l → Calls Try.prog 28 #[.agg #[.int .i64 a, .int .i64 b, v], .agg #[.int .i64 r.x0, .int .i64 r.y0, .int .i64 r.x1, .int .i64 r.y1]] W (OutB oa ob O er W)) ∧
    (er ≠ 0 ∨ (er = 0 ∧ ∃ A B C D : Nat, a = A ∧ b = B ∧ oa = C ∧ ob = D ∧ Vld A B l ∧ Vld C D O ∧ (∀ p ∈ O, Byt p) ∧ putL (fun p _ => p) A l C D O r.x0 r.y0 = l)) := by
  cases h : vBuf a b l
  · exact ⟨0, 0, 15, [], fun W v hv => (crop_inv r hv h).mono fun _ _ => outB, fun W v hv => (rcrop_inv r hv h).mono fun _ _ => outB, .inl (by decide)⟩
  · obtain ⟨A, B, rfl, rfl, hV⟩ := vld_of h
    cases h2 : cropB A B r
    · exact ⟨0, 0, 6, [], fun W v hv => (crop_range r hv hV h2).mono fun _ _ => outB, fun W v hv => (rcrop_range r hv hV h2).mono fun _ _ => outB, .inl (by decide)⟩
    · obtain ⟨x0, y0, x1, y1, cw, ch, rfl, e1, e2, g1, g2, g3, g4⟩ := crop_nat h2
      exact ⟨cw, ch, 0, _, fun W v hv => (crop_good hv hV hlb g1 g2 e1 e2 g3 g4).mono fun _ _ => outB, fun W v hv => (rcrop_good hv hV g1 g2 e1 e2 g3 g4).mono fun _ _ => outB,
        .inr ⟨rfl, A, B, cw, ch, rfl, rfl, rfl, rfl, hV, crop_vld hV g1 g2 (by omega) (by omega), crop_byt hlb _ _ _ _, put_back⟩⟩

theorem both_paste (a b c d x y : Int) {l m : List Px} (hlb : ∀ p ∈ l, Byt p) (hmb : ∀ p ∈ m, Byt p) : ∃ (oa ob er : Int) (O : List Px), (∀ W v u, Pxs W v l → Pxs W u m → Calls Try.prog 29 #[.agg #[.int .i64 a, .int .i64 b, v], .agg #[.int .i64 c, .int .i64 d, u], .int .i64 x, .int .i64 y] W (OutB oa ob O er W)) ∧ (∀ W v u, Pxs W v l → Pxs W u m → Calls Try.prog 31 #[.agg #[.int .i64 a, .int .i64 b, v], .agg #[.int .i64 c, .int .i64 d, u], .int .i64 x, .int .i64 y] W (OutB oa ob O er W)) := by
  cases h : (vBuf a b l && vBuf c d m)
  · exact ⟨0, 0, 15, [], fun W v u hv hu => (paste_bad x y hv hu h).mono fun _ _ => outB, fun W v u hv hu => (rpaste_bad x y hv hu h).mono fun _ _ => outB⟩
  · rw [Bool.and_eq_true] at h
    obtain ⟨A, B, rfl, rfl, hV⟩ := vld_of h.1
    obtain ⟨C, D, rfl, rfl, hU⟩ := vld_of h.2
    exact ⟨A, B, 0, _, fun W v u hv hu => (paste_good x y hv hu hV hU hlb hmb).mono fun _ _ => outB, fun W v u hv hu => (rpaste_good x y hv hu hV hU hlb hmb).mono fun _ _ => outB⟩

theorem both_over (a b c d x y : Int) {l m : List Px} (hlb : ∀ p ∈ l, Byt p) (hmb : ∀ p ∈ m, Byt p) : ∃ (oa ob er : Int) (O : List Px), (∀ W v u, Pxs W v l → Pxs W u m → Calls Try.prog 32 #[.agg #[.int .i64 a, .int .i64 b, v], .agg #[.int .i64 c, .int .i64 d, u], .int .i64 x, .int .i64 y] W (OutB oa ob O er W)) ∧ (∀ W v u, Pxs W v l → Pxs W u m → Calls Try.prog 33 #[.agg #[.int .i64 a, .int .i64 b, v], .agg #[.int .i64 c, .int .i64 d, u], .int .i64 x, .int .i64 y] W (OutB oa ob O er W)) := by
  cases h : (vBuf a b l && vBuf c d m)
  · exact ⟨0, 0, 15, [], fun W v u hv hu => (over_bad x y hv hu h).mono fun _ _ => outB, fun W v u hv hu => (rover2_bad x y hv hu h).mono fun _ _ => outB⟩
  · rw [Bool.and_eq_true] at h
    obtain ⟨A, B, rfl, rfl, hV⟩ := vld_of h.1
    obtain ⟨C, D, rfl, rfl, hU⟩ := vld_of h.2
    exact ⟨A, B, 0, _, fun W v u hv hu => (over_good x y hv hu hV hU hlb hmb).mono fun _ _ => outB, fun W v u hv hu => (rover2_good x y hv hu hV hU hlb hmb).mono fun _ _ => outB⟩


theorem both_diff (a b c d : Int) (l m : List Px) : ∃ (er : Int) (L : List R), (∀ W v u, Pxs W v l → Pxs W u m → Calls Try.prog 34 #[.agg #[.int .i64 a, .int .i64 b, v], .agg #[.int .i64 c, .int .i64 d, u]] W (OutR L er W)) ∧ (∀ W v u, Pxs W v l → Pxs W u m → Calls Try.prog 35 #[.agg #[.int .i64 a, .int .i64 b, v], .agg #[.int .i64 c, .int .i64 d, u]] W (OutR L er W)) ∧
    ((er ≠ 0 ∧ L = []) ∨ (er = 0 ∧ ∃ A B : Nat, a = A ∧ b = B ∧ c = A ∧ d = B ∧ Vld A B l ∧ Vld A B m ∧ L = runsP A (diffB l m) l.length ∧ L.length ≤ 256)) := by
  cases h : (vBuf a b l && vBuf c d m)
  · exact ⟨15, [], fun W v u hv hu => (diff_inv hv hu h).mono fun _ _ => outR_no, fun W v u hv hu => (rdiff_inv hv hu h).mono fun _ _ => outR_no, .inl ⟨by decide, rfl⟩⟩
  · rw [Bool.and_eq_true] at h
    by_cases hs : a = c ∧ b = d
    · obtain ⟨rfl, rfl⟩ := hs
      obtain ⟨A, B, rfl, rfl, hV⟩ := vld_of h.1
      obtain ⟨C, D, hc, hd, hU⟩ := vld_of h.2
      obtain rfl : A = C := by omega
      obtain rfl : B = D := by omega
      by_cases hl : (runsP A (diffB l m) l.length).length ≤ 256
      · exact ⟨0, _, fun W v u hv hu => (diff_good hv hu hV hU).mono fun _ _ => outR_ok hl, fun W v u hv hu => (rdiff_good hv hu hV hU).mono fun _ _ => outR_ok hl, .inr ⟨rfl, A, B, rfl, rfl, rfl, rfl, hV, hU, rfl, hl⟩⟩
      · have hl' : 256 < (runsP A (diffB l m) l.length).length := by omega
        exact ⟨5, [], fun W v u hv hu => (diff_good hv hu hV hU).mono fun _ _ => outR_many hl', fun W v u hv hu => (rdiff_good hv hu hV hU).mono fun _ _ => outR_many hl', .inl ⟨by decide, rfl⟩⟩
    · exact ⟨2, [], fun W v u hv hu => (diff_size hv hu h.1 h.2 hs).mono fun _ _ => outR_no, fun W v u hv hu => (rdiff_size hv hu h.1 h.2 hs).mono fun _ _ => outR_no, .inl ⟨by decide, rfl⟩⟩

theorem both_opq (a b : Int) (l : List Px) : ∃ (er : Int) (L : List R), (∀ W v, Pxs W v l → Calls Try.prog 37 #[.agg #[.int .i64 a, .int .i64 b, v]] W (OutR L er W)) ∧ (∀ W v, Pxs W v l → Calls Try.prog 38 #[.agg #[.int .i64 a, .int .i64 b, v]] W (OutR L er W)) := by
  cases h : vBuf a b l
  · exact ⟨15, [], fun W v hv => (opq_inv hv h).mono fun _ _ => outR_no, fun W v hv => (ropq_inv hv h).mono fun _ _ => outR_no⟩
  · obtain ⟨A, B, rfl, rfl, hV⟩ := vld_of h
    by_cases hl : (runsP A (opqB l) l.length).length ≤ 256
    · exact ⟨0, _, fun W v hv => (opq_good hv hV).mono fun _ _ => outR_ok hl, fun W v hv => (ropq_good hv hV).mono fun _ _ => outR_ok hl⟩
    · have hl' : 256 < (runsP A (opqB l) l.length).length := by omega
      exact ⟨5, [], fun W v hv => (opq_good hv hV).mono fun _ _ => outR_many hl', fun W v hv => (ropq_good hv hV).mono fun _ _ => outR_many hl'⟩

end Go.Proofs.Ytahhcklkcibgoaa
