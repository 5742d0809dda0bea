/-
  New memory with known bytes: bytes.Clone, and the Put functions of package wire.
-/
import Derived.Test.YtfmknjfhalkfhaaOwn
import Derived.Test.YtfmknjfhalkfhaaPure
namespace Go.Proofs.Ytfmknjfhalkfhaa
open Go.RowKit Mem Wire

/-- what a call that hands new memory with the bytes bs on leaves; nothing that was there has turned -/
def Fresh (w : World) (bs : List UInt8) (e : Ending) (w' : World) : Prop :=
  ∃ v, e = .returned v ∧ Sees w' v bs ∧ Below w.heap.size w w'

theorem own_empty (w : World) : Owns (w.alloc (.cells #[] 5)) w.heap.size (.slice (some ⟨w.heap.size, 0, none⟩) 0 0) [] :=
  World.ownsRow_made w #[] 0 (Nat.le_refl _) (by simp [maxLen]) rfl

theorem clone_any {w : World} {A : Option Addr} {n c : Nat} {bs : List UInt8} (hs : Sees w (.slice A n c) bs) (hb : bs.length ≤ 140737488355328) :
    Calls Try.prog 29 #[.slice A n c] w (Fresh w bs) := by
  have q22 : ∀ (w : World) (a : Option Addr) (n c n' c' : Nat), (binOp .eql 23 (.slice a n c) (.slice none n' c')).run Try.prog w = .ok (.bool a.isNone) w := fun w a n c n' c' => Lib.run_eql_slice_nil w _ _ a n c n' c' Try.underlying23
  have HS := Lib.hid hs
  cases A with
  | none =>
    have h0 : bs = [] := by
      rcases hs.ways with ⟨_, _, _, h, _⟩ | ⟨b, off, n, c', hv, _⟩
      · exact h
      · injection hv with e; cases e
    subst h0
    clear hs
    go_enter Try.func29, Try.ntmps29
    go_wp2_with fail
    go_ret
    exact ⟨_, rfl, sees_nil _, Below.refl _ _⟩
  | some ad =>
    clear hs
    go_enter Try.func29, Try.ntmps29
    go_wp2_with (at_builtin; refine wpList_app rfl (.tmp 5) (.tmp 6) rfl rfl (own_empty w) rfl (HS.out.alloc _) (by simpa using hb) (by simp) ?_; intro v1 w1 hown1 hg1 _)
    go_ret
    exact ⟨v1, rfl, by simpa using hown1.sees, ((Below.refl _ _).alloc (Nat.le_refl _) _).grown hg1 (by simp) (fun k hk => by have e : some w.heap.size = some k := hk; injection e with e; omega)⟩

/-- what a call that hands bytes of its own on leaves -/
def Puts (w : World) (bs : List UInt8) (e : Ending) (w' : World) : Prop :=
  ∃ v, e = .returned v ∧ Owns w' w.heap.size v bs ∧ Below w.heap.size w w'

/-- what a call that appends to bytes of the caller's own leaves -/
def Grows (w : World) (base : Nat) (v : Value) (bs : List UInt8) (e : Ending) (w' : World) : Prop :=
  ∃ v', e = .returned v' ∧ Owns w' base v' bs ∧ w.grownBy w' v.ownBlock

/-- a literal row of bytes, just made -/
theorem sees_new (w : World) (cs : Array Value) {t : TypeId} (bs : List UInt8) (n : Nat) (hn : n = bs.length) (h : cs = (bs.map byte).toArray) (hm : n ≤ maxLen) : Sees (w.alloc (.cells cs t)) (.slice (some ⟨w.heap.size, 0, none⟩) n n) bs := by
  subst h hn
  refine ⟨_, _, rfl, Nat.le_refl _, hm, fun _ => ⟨w.heap.size, 0, rfl, by simp, fun j hj => ?_⟩⟩
  rw [Nat.zero_add, World.cell?_alloc_at _ _ _ _ rfl]
  simp [List.getD, List.getElem?_eq_getElem hj]

theorem grown_alloc (w : World) (o : Obj) (row : Option Nat) : w.grownBy (w.alloc o) row := World.grownBy_alloc w o row

theorem enc4_cells (n : Nat) : (#[.int .u8 ((n : Int) % 256), .int .u8 ((n : Int) / 256 % 256), .int .u8 ((n : Int) / 65536 % 256), .int .u8 ((n : Int) / 16777216 % 256)] : Array Value) = ((enc4 n).map byte).toArray := by
  simp only [enc4, byte, List.map_cons, List.map_nil, UInt8.toNat_ofNat']
  rfl

theorem number_put {w : World} {base : Nat} {v : Value} {bs : List UInt8} (n : Nat) (hn : n < 4294967296) (hown : Owns w base v bs) (hb : bs.length + 4 ≤ 140737488355328) (hW : base ≤ w.heap.size) :
    Calls Try.prog 30 #[v, .int .u32 n] w (Grows w base v (bs ++ enc4 n)) := by
  have HO := Lib.hid hown
  have hl4 : (enc4 n).length = 4 := rfl
  have HC := Lib.hid (enc4_cells n)
  clear hown
  go_enter Try.func30, Try.ntmps30
  go_wp2_with (at_builtin; refine wpList_app rfl (.tmp 5) (.tmp 17) rfl rfl (HO.out.alloc _) rfl (sees_new w _ (enc4 n) 4 rfl (by rw [← HC.out]; simp; omega) (by simp [maxLen])) (by omega) (by simp; omega) ?_; intro v1 w1 hown1 hg1 _)
  go_ret
  exact ⟨v1, rfl, hown1, (grown_alloc w _ _).trans hg1⟩

theorem room_any {w : World} {A : Option Addr} {n c : Nat} {bs : List UInt8} (r : Nat) (hs : Sees w (.slice A n c) bs) (hb : n + r ≤ 140737488355328) :
    Calls Try.prog 31 #[.slice A n c, .int .i64 r] w (Puts w bs) := by
  have HS := Lib.hid hs
  have hnl : n = bs.length := by
    obtain ⟨_, _, hv, _⟩ := hs.shape
    injection hv
  obtain ⟨i, hi, hz, hsz, hby⟩ := info_parts byte_info
  have HL := Lib.hid hnl
  clear hs hnl
  go_enter Try.func31, Try.ntmps31
  go_wp2_with (first
    | (at_make; refine wpList_make_own _ rfl _ _ 23 rfl w.heap.size 5 i (.int .u8 0) 1 Try.underlying23 hi hz hsz .i64 .i64 _ (n + r) rfl rfl (by omega) (by rw [hby]; omega) (by unfold maxLen; omega) (Nat.le_refl _) ?_; intro w0 hown0 hg0; have hb0 : Below w.heap.size w w0 := (Below.refl _ _).grown hg0 (Nat.le_refl _) (fun k hk => by cases hk))
    | (at_builtin; refine wpList_app rfl (.tmp 9) (.tmp 10) rfl rfl (base := w.heap.size) (xs := []) hown0 rfl (HS.out.below hb0) (by have := HL.out; simp only [List.length_nil]; omega) hb0.size ?_; intro v1 w1 hown1 hg1 _))
  go_ret
  refine ⟨v1, rfl, hown1, hb0.grown hg1 hb0.size (fun k hk => ?_)⟩
  have e : some w.heap.size = some k := hk
  injection e with e
  omega

theorem uint_put {w : World} {A : Option Addr} {n c : Nat} {bs : List UInt8} (x : Nat) (hx : x < 4294967296) (hs : Sees w (.slice A n c) bs) (hb : n + 4 ≤ 140737488355328) :
    Calls Try.prog 23 #[.slice A n c, .int .u32 x] w (Puts w (bs ++ enc4 x)) := by
  have hnl : n = bs.length := by
    obtain ⟨_, _, hv, _⟩ := hs.shape
    injection hv
  have HL := Lib.hid hnl
  have HR := Lib.hid (room_any 4 hs hb)
  clear hs hnl
  go_enter Try.func23, Try.ntmps23
  go_wp2_with fail
  refine HR.out.mono ?_
  rintro e w1 ⟨v1, rfl, h1, h2⟩
  have HN := Lib.hid (number_put x hx h1 (by have := HL.out; omega) h2.size)
  have hbl := h1.block
  clear h1
  go_wp2_with fail
  refine HN.out.mono ?_
  rintro e w2 ⟨v2, rfl, h3, h4⟩
  go_wp2_with fail
  go_ret
  exact ⟨v2, rfl, h3, h2.grown h4 h2.size (fun k hk => (hbl k hk).1)⟩

theorem Owns.mono {w : World} {base base' : Nat} {v : Value} {bs : List UInt8} (h : Owns w base v bs) (hb : base' ≤ base) : Owns w base' v bs := by
  refine ⟨h.1, ?_⟩
  rcases h.2 with h2 | ⟨g, cap, cur, hv, hg, r⟩
  · exact .inl h2
  · exact .inr ⟨g, cap, cur, hv, Nat.le_trans hb hg, r⟩

end Go.Proofs.Ytfmknjfhalkfhaa
