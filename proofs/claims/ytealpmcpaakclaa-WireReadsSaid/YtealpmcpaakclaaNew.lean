/-
  New memory with known bytes: Clone, Array, From, and the Put functions of package wire.
-/
import Derived.Test.YtealpmcpaakclaaMeth
import Derived.Test.YtealpmcpaakclaaOwn
namespace Go.Proofs.Ytealpmcpaakclaa
open Go.RowKit Mem Wire

/-- what a call that hands new memory with the bytes bs on leaves; nothing that was there has turned -/
def Fresh (w : World) (bs : List UInt8) (e : Ending) (w' : World) : Prop :=
  ∃ v, e = .returned v ∧ Sees w' v bs ∧ Below w.heap.size w w'

theorem own_empty (w : World) : Owns (w.alloc (.cells #[] 5)) w.heap.size (.slice (some ⟨w.heap.size, 0, none⟩) 0 0) [] :=
  World.ownsRow_made w #[] 0 (Nat.le_refl _) (by simp [maxLen]) rfl

theorem clone_any {w : World} {A : Option Addr} {n c : Nat} {bs : List UInt8} (hs : Sees w (.slice A n c) bs) (hb : bs.length ≤ 140737488355328) :
    Calls Try.prog 43 #[.slice A n c] w (Fresh w bs) := by
  have q22 : ∀ (w : World) (a : Option Addr) (n c n' c' : Nat), (binOp .eql 22 (.slice a n c) (.slice none n' c')).run Try.prog w = .ok (.bool a.isNone) w := fun w a n c n' c' => Lib.run_eql_slice_nil w _ _ a n c n' c' Try.underlying22
  have HS := Lib.hid hs
  cases A with
  | none =>
    have h0 : bs = [] := by
      rcases hs.ways with ⟨_, _, _, h, _⟩ | ⟨b, off, n, c', hv, _⟩
      · exact h
      · injection hv with e; cases e
    subst h0
    clear hs
    go_enter Try.func43, Try.ntmps43
    go_wp2_with fail
    go_ret
    exact ⟨_, rfl, sees_nil _, Below.refl _ _⟩
  | some ad =>
    clear hs
    go_enter Try.func43, Try.ntmps43
    go_wp2_with (at_builtin; refine wpList_app rfl (.tmp 5) (.tmp 6) rfl rfl (own_empty w) rfl (HS.out.alloc _) (by simpa using hb) (by simp) ?_; intro v1 w1 hown1 hg1 _)
    go_ret
    exact ⟨v1, rfl, by simpa using hown1.sees, ((Below.refl _ _).alloc (Nat.le_refl _) _).grown hg1 (by simp) (fun k hk => by have e : some w.heap.size = some k := hk; injection e with e; omega)⟩

/-- the Array method of a reader that From returned -/
theorem array_any {g : Nat} {s : St} {w : World} (most : Int) (hr : Rdr w g s) (hM : most ≤ 9223372036854775807) (hl : (countS s most).2.length ≤ 140737488355328) :
    Calls Try.prog 24 #[.pointer (some ⟨g, 0, none⟩), .int .i64 most] w (Gives w g (countS s most).1 (countS s most).2) := by
  have H := Lib.hid hr
  have HC := Lib.hid (counted_any most hr hM)
  clear hr
  generalize countS s most = cs at *
  obtain ⟨s1, bs⟩ := cs
  dsimp only at HC hl ⊢
  go_enter Try.func24, Try.ntmps24
  go_wp2_with fail
  refine (created_yes H.out).mono ?_
  rintro e w1 ⟨rfl, rfl⟩
  go_wp2_with fail
  refine HC.out.mono ?_
  rintro e w1 ⟨v, rfl, h1, h2, h3⟩
  obtain ⟨A, c, rfl, _, _⟩ := h1.shape
  have HK := Lib.hid (clone_any h1 hl)
  have H2 := Lib.hid h2
  clear h1 h2
  go_wp2_with fail
  refine HK.out.mono ?_
  rintro e w2 ⟨v2, rfl, h4, h5⟩
  go_wp2_with fail
  go_ret
  exact ⟨v2, rfl, h4, H2.out.below h5, h3.trans ⟨h5.os, h5.tape, h5.output, h5.size, fun k hk _ => h5.block k hk⟩⟩

theorem array_none {p : Option Addr} {w : World} (most : Int) (h : Calls Try.prog 45 #[.pointer p] w fun e w' => e = .returned (.bool false) ∧ w = w') :
    Calls Try.prog 24 #[.pointer p, .int .i64 most] w fun e w' => e = .returned (.slice none 0 0) ∧ w = w' := by
  have H := Lib.hid h
  clear h
  go_enter Try.func24, Try.ntmps24
  go_wp2_with fail
  refine H.out.mono ?_
  rintro e w1 ⟨rfl, rfl⟩
  go_wp2_with fail
  go_ret
  exact ⟨rfl, rfl⟩

/-- what From leaves: a reader at a new block -/
def Made (w : World) (bs : List UInt8) (e : Ending) (w' : World) : Prop :=
  ∃ g, e = .returned (.pointer (some ⟨g, 0, none⟩)) ∧ w.heap.size ≤ g ∧ Rdr w' g (bs, 0) ∧ Below w.heap.size w w'

theorem from_any {w : World} {A : Option Addr} {n c : Nat} {bs : List UInt8} (hs : Sees w (.slice A n c) bs) (hb : bs.length ≤ 140737488355328) :
    Calls Try.prog 15 #[.slice A n c] w (Made w bs) := by
  have HK := Lib.hid (clone_any hs hb)
  clear hs
  go_enter Try.func15, Try.ntmps15
  go_wp2_with fail
  refine HK.out.mono ?_
  rintro e w2 ⟨v2, rfl, h4, h5⟩
  obtain ⟨A2, c2, rfl, _, _⟩ := h4.shape
  have H4 := Lib.hid h4
  clear h4
  generalize bs.length = n at *
  go_wp2_with fail
  go_ret
  have hb2 : Below w2.heap.size w2 (w2.alloc (.cells #[.slice A2 n c2, .int .i64 0, .pointer (some ⟨w2.heap.size, 0, none⟩)] 68)) := (Below.refl _ _).alloc (Nat.le_refl _) _
  exact ⟨w2.heap.size, rfl, h5.size, ⟨.slice A2 n c2, heap_alloc_new w2 _, H4.out.below hb2, fun h => absurd rfl h⟩, h5.trans (hb2.mono h5.size)⟩

/-- the four bytes of a number -/
def enc4 (n : Nat) : List UInt8 := [UInt8.ofNat n, UInt8.ofNat (n / 256), UInt8.ofNat (n / 65536), UInt8.ofNat (n / 16777216)]

/-- what a call that hands bytes of its own on leaves -/
def Puts (w : World) (bs : List UInt8) (e : Ending) (w' : World) : Prop :=
  ∃ v, e = .returned v ∧ Owns w' w.heap.size v bs ∧ Below w.heap.size w w'

/-- what a call that appends to bytes of the caller's own leaves -/
def Grows (w : World) (base : Nat) (v : Value) (bs : List UInt8) (e : Ending) (w' : World) : Prop :=
  ∃ v', e = .returned v' ∧ Owns w' base v' bs ∧ w.grownBy w' v.ownBlock

/-- a literal row of bytes, just made -/
theorem sees_new (w : World) (cs : Array Value) {t : TypeId} (bs : List UInt8) (n : Nat) (hn : n = bs.length) (h : cs = (bs.map byte).toArray) (hm : n ≤ maxLen) : Sees (w.alloc (.cells cs t)) (.slice (some ⟨w.heap.size, 0, none⟩) n n) bs := by
  subst h hn
  refine ⟨_, _, rfl, Nat.le_refl _, hm, fun _ => ⟨w.heap.size, 0, rfl, by simp, fun j hj => ?_⟩⟩
  rw [Nat.zero_add, World.cell?_alloc_at _ _ _ _ rfl]
  simp [List.getD, List.getElem?_eq_getElem hj]

theorem grown_alloc (w : World) (o : Obj) (row : Option Nat) : w.grownBy (w.alloc o) row := World.grownBy_alloc w o row

theorem enc4_cells (n : Nat) : (#[.int .u8 ((n : Int) % 256), .int .u8 ((n : Int) / 256 % 256), .int .u8 ((n : Int) / 65536 % 256), .int .u8 ((n : Int) / 16777216 % 256)] : Array Value) = ((enc4 n).map byte).toArray := by
  simp only [enc4, byte, List.map_cons, List.map_nil, UInt8.toNat_ofNat']
  rfl

theorem number_put {w : World} {base : Nat} {v : Value} {bs : List UInt8} (n : Nat) (hn : n < 4294967296) (hown : Owns w base v bs) (hb : bs.length + 4 ≤ 140737488355328) (hW : base ≤ w.heap.size) :
    Calls Try.prog 52 #[v, .int .u32 n] w (Grows w base v (bs ++ enc4 n)) := by
  have HO := Lib.hid hown
  have hl4 : (enc4 n).length = 4 := rfl
  have HC := Lib.hid (enc4_cells n)
  clear hown
  go_enter Try.func52, Try.ntmps52
  go_wp2_with (at_builtin; refine wpList_app rfl (.tmp 5) (.tmp 17) rfl rfl (HO.out.alloc _) rfl (sees_new w _ (enc4 n) 4 rfl (by rw [← HC.out]; simp; omega) (by simp [maxLen])) (by omega) (by simp; omega) ?_; intro v1 w1 hown1 hg1 _)
  go_ret
  exact ⟨v1, rfl, hown1, (grown_alloc w _ _).trans hg1⟩

theorem room_any {w : World} {A : Option Addr} {n c : Nat} {bs : List UInt8} (r : Nat) (hs : Sees w (.slice A n c) bs) (hb : n + r ≤ 140737488355328) :
    Calls Try.prog 53 #[.slice A n c, .int .i64 r] w (Puts w bs) := by
  have HS := Lib.hid hs
  have hnl : n = bs.length := by
    obtain ⟨_, _, hv, _⟩ := hs.shape
    injection hv
  obtain ⟨i, hi, hz, hsz, hby⟩ := info_parts byte_info
  have HL := Lib.hid hnl
  clear hs hnl
  go_enter Try.func53, Try.ntmps53
  go_wp2_with (first
    | (at_make; refine wpList_make_own _ rfl _ _ 22 rfl w.heap.size 5 i (.int .u8 0) 1 Try.underlying22 hi hz hsz .i64 .i64 _ (n + r) rfl rfl (by omega) (by rw [hby]; omega) (by unfold maxLen; omega) (Nat.le_refl _) ?_; intro w0 hown0 hg0; have hb0 : Below w.heap.size w w0 := (Below.refl _ _).grown hg0 (Nat.le_refl _) (fun k hk => by cases hk))
    | (at_builtin; refine wpList_app rfl (.tmp 9) (.tmp 10) rfl rfl (base := w.heap.size) (xs := []) hown0 rfl (HS.out.below hb0) (by have := HL.out; simp only [List.length_nil]; omega) hb0.size ?_; intro v1 w1 hown1 hg1 _))
  go_ret
  refine ⟨v1, rfl, hown1, hb0.grown hg1 hb0.size (fun k hk => ?_)⟩
  have e : some w.heap.size = some k := hk
  injection e with e
  omega

theorem uint_put {w : World} {A : Option Addr} {n c : Nat} {bs : List UInt8} (x : Nat) (hx : x < 4294967296) (hs : Sees w (.slice A n c) bs) (hb : n + 4 ≤ 140737488355328) :
    Calls Try.prog 37 #[.slice A n c, .int .u32 x] w (Puts w (bs ++ enc4 x)) := by
  have hnl : n = bs.length := by
    obtain ⟨_, _, hv, _⟩ := hs.shape
    injection hv
  have HL := Lib.hid hnl
  have HR := Lib.hid (room_any 4 hs hb)
  clear hs hnl
  go_enter Try.func37, Try.ntmps37
  go_wp2_with fail
  refine HR.out.mono ?_
  rintro e w1 ⟨v1, rfl, h1, h2⟩
  have HN := Lib.hid (number_put x hx h1 (by have := HL.out; omega) h2.size)
  have hbl := h1.block
  clear h1
  go_wp2_with fail
  refine HN.out.mono ?_
  rintro e w2 ⟨v2, rfl, h3, h4⟩
  go_wp2_with fail
  go_ret
  exact ⟨v2, rfl, h3, h2.grown h4 h2.size (fun k hk => (hbl k hk).1)⟩

theorem int_put {w : World} {A : Option Addr} {n c : Nat} {bs : List UInt8} (x : Int) (hs : Sees w (.slice A n c) bs) (hb : n + 4 ≤ 140737488355328) :
    Calls Try.prog 36 #[.slice A n c, .int .i32 x] w (Puts w (bs ++ enc4 (x % 4294967296).toNat)) := by
  have HR := Lib.hid (uint_put (x % 4294967296).toNat (by omega) hs hb)
  have hxx : (((x % 4294967296).toNat : Nat) : Int) = x % 4294967296 := by omega
  rw [hxx] at HR
  clear hs hxx
  go_enter Try.func36, Try.ntmps36
  go_wp2_with fail
  refine HR.out.mono ?_
  rintro e w1 ⟨v1, rfl, h1, h2⟩
  go_wp2_with fail
  go_ret
  exact ⟨v1, rfl, h1, h2⟩

def pad (n : Nat) : Nat := (4 - n % 4) % 4
/-- the encoding of an array -/
def encA (x : List UInt8) : List UInt8 := enc4 x.length ++ x ++ List.replicate (pad x.length) 0

theorem Owns.mono {w : World} {base base' : Nat} {v : Value} {bs : List UInt8} (h : Owns w base v bs) (hb : base' ≤ base) : Owns w base' v bs := by
  refine ⟨h.1, ?_⟩
  rcases h.2 with h2 | ⟨g, cap, cur, hv, hg, r⟩
  · exact .inl h2
  · exact .inr ⟨g, cap, cur, hv, Nat.le_trans hb hg, r⟩

set_option maxHeartbeats 400000 in
theorem array_put {w : World} {A A' : Option Addr} {n c m c' : Nat} {bs xs : List UInt8} (hs : Sees w (.slice A n c) bs) (hx : Sees w (.slice A' m c') xs) (hb : n ≤ 1000000) (hm : m ≤ 1000000) :
    Calls Try.prog 38 #[.slice A n c, .slice A' m c'] w (Puts w (bs ++ encA xs)) := by
  have hnl : n = bs.length := by
    obtain ⟨_, _, hv, _⟩ := hs.shape
    injection hv
  have hml : m = xs.length := by
    obtain ⟨_, _, hv, _⟩ := hx.shape
    injection hv
  have HL := Lib.hid hnl
  have HM := Lib.hid hml
  have HS := Lib.hid hs
  have HX := Lib.hid hx
  clear hs hx hnl hml
  have hal : Try.prog.arrayLen 83 = 4 := by kernel_rfl
  have hel : Try.prog.elem 83 = 5 := by kernel_rfl
  have hpad : (-((m : Int) % 4) % 4) = ((pad m : Nat) : Int) := by unfold pad; omega
  have hp4 : pad m ≤ 3 := by unfold pad; omega
  have hpl : Hid (pad m = pad xs.length) := by show _ = _; rw [← HM.out]
  have hsl : ∀ (a : Addr) (w : World), (Instr.sliceAt 83 (.pointer (some a)) none (some (.int .i64 (-((m : Int) % 4) % 4))) none).run Try.prog w = .ok (.slice (some a) (pad m) 4) w := fun a w => by
    rw [hpad]
    have h := run_sliceAt_array_h (P := Try.prog) w 83 a (by kernel_rfl) .i64 (pad m : Int) (by omega) (by rw [hal]; omega)
    rw [hal, hel] at h
    obtain ⟨i, hi, hz, hsz, hby⟩ := info_parts byte_info
    simpa [sizeOf, typeInfo, hi, slicedAt, Addr.add, Result.andThen] using h
  clear hpad hal hel
  generalize pad m = p at *
  obtain ⟨w0, hw0⟩ : ∃ w0, w0 = w.alloc (.cells #[.int .u8 0, .int .u8 0, .int .u8 0, .int .u8 0] 83) := ⟨_, rfl⟩
  have hb0 : Below w.heap.size w w0 := by rw [hw0]; exact (Below.refl _ _).alloc (Nat.le_refl _) _
  have hs0 : w.heap.size + 1 = w0.heap.size := by rw [hw0]; simp
  have HS0 := Lib.hid (show Sees w0 (.slice A n c) bs by rw [hw0]; exact HS.out.alloc _)
  have HX0 := Lib.hid (show Sees w0 (.slice A' m c') xs by rw [hw0]; exact HX.out.alloc _)
  have HP0 := Lib.hid (show Sees w0 (.slice (some ⟨w.heap.size, 0, none⟩) p 4) (List.replicate p 0) by
    have h : Sees w0 (.slice (some ⟨w.heap.size, 0, none⟩) 4 4) (List.replicate 4 0) := by rw [hw0]; exact sees_new w _ (List.replicate 4 0) 4 rfl rfl (by simp [maxLen])
    have h2 := h.take (k := p) (by omega)
    rw [List.take_replicate, Nat.min_eq_left (by omega)] at h2
    exact h2)
  have HW := Lib.hid hw0
  have HZ := Lib.hid hs0
  clear hw0 hs0
  go_enter Try.func38, Try.ntmps38
  go_wp2_with fail
  rw [← HW.out, show (4 + (m : Int) + (p : Int)) = ((4 + m + p : Nat) : Int) by omega]
  refine (room_any (4 + m + p) HS0.out (by omega)).mono ?_
  rintro e w1 ⟨v1, rfl, h1, h2⟩
  have HN := Lib.hid (number_put m (by omega) h1 (by have := HL.out; omega) h2.size)
  have hbl := h1.block
  clear h1
  go_wp2_with fail
  refine HN.out.mono ?_
  rintro e w2 ⟨v2, rfl, h3, h4⟩
  have h5 : Below w0.heap.size w0 w2 := h2.grown h4 h2.size (fun k hk => (hbl k hk).1)
  have hbl2 := h3.block
  have H3 := Lib.hid h3
  clear h3 h4 hbl
  go_wp2_with (first
    | (at_builtin; refine wpList_app rfl (.tmp 27) (.tmp 28) rfl rfl H3.out rfl (HX0.out.below h5) (by have := HL.out; have := HM.out; simp [enc4]; omega) h5.size ?_; intro v3 w3 hown3 hg3 _; have h6 : Below w0.heap.size w0 w3 := h5.grown hg3 h5.size (fun k hk => (hbl2 k hk).1); have H6 := Lib.hid hown3)
    | (at_builtin; refine wpList_app rfl (.tmp 30) (.tmp 31) rfl rfl H6.out rfl (HP0.out.below h6) (by have := HL.out; have := HM.out; simp [enc4]; omega) h6.size ?_; intro v4 w4 hown4 hg4 _; have h7 : Below w0.heap.size w0 w4 := h6.grown hg4 h6.size (fun k hk => (H6.out.block k hk).1)))
  go_ret
  have hz := HZ.out
  refine ⟨v4, rfl, ?_, hb0.trans (h7.mono (by omega))⟩
  have ho := hown4.mono (base' := w.heap.size) (by omega)
  have e1 : encA xs = enc4 m ++ xs ++ List.replicate p 0 := by unfold encA; rw [← hpl.out, ← HM.out]
  rw [e1]
  simpa [List.append_assoc] using ho

end Go.Proofs.Ytealpmcpaakclaa
