/-
  The reference's encodings: PutUint, PutInt, PutArray, PutString; and the law file's 'want'.
-/
import Derived.Test.YtealpmcpaakclaaItems
import Derived.Lib.ConvBytes
namespace Go.Proofs.Ytealpmcpaakclaa
open Go.RowKit Mem Wire

theorem own_nil (w : World) (base : Nat) : Owns w base (.slice none 0 0) [] := World.ownsRow_nil w base 5 1

/-- one append of one byte -/
theorem sees_one (w : World) (z : Int) (x : UInt8) (h : z = (x.toNat : Int)) : Sees (w.alloc (.cells #[.int .u8 z] 5)) (.slice (some ⟨w.heap.size, 0, none⟩) 1 1) [x] :=
  sees_new w _ [x] 1 rfl (by subst h; rfl) (by simp [maxLen])

set_option maxHeartbeats 400000 in
theorem ref_uint {w : World} {A : Option Addr} {n c : Nat} {bs : List UInt8} (x : Nat) (hx : x < 4294967296) (hs : Sees w (.slice A n c) bs) (hb : bs.length ≤ 1000000) :
    Calls Try.prog 39 #[.slice A n c, .int .u32 x] w (Puts w (bs ++ enc4 x)) := by
  have HS := Lib.hid hs
  clear hs
  go_enter Try.func39, Try.ntmps39
  go_wp2_with (at_builtin; refine wpList_app rfl (.tmp 7) (.tmp 8) rfl rfl (base := w.heap.size) (xs := []) (own_nil _ _) rfl HS.out (by simp only [List.length_nil]; omega) (Nat.le_refl _) ?_; intro v0 w0 ho0 hg0 _; have hb0 : Below w.heap.size w w0 := (Below.refl _ _).grown hg0 (Nat.le_refl _) (fun k hk => by cases hk); rw [List.nil_append] at ho0; have H0 := Lib.hid ho0; clear ho0 hg0)
  refine wp_loop_rounds 5 ?_
  rw [rounds_succ]
  go_wp2_with (at_builtin; refine wpList_app rfl (.tmp 14) (.tmp 21) rfl rfl (base := w.heap.size) (H0.out.alloc _) rfl (sees_one w0 _ (UInt8.ofNat x) (by rw [UInt8.toNat_ofNat']; omega)) (by simp; omega) (by have := hb0.size; simp; omega) ?_; intro v1 w1 ho1 hg1 _; have hb1 : Below w.heap.size w w1 := (hb0.alloc hb0.size _).grown hg1 (by have := hb0.size; simp; omega) (fun k hk => (H0.out.block k hk).1); have H1 := Lib.hid ho1; clear ho1 hg1)
  rw [rounds_succ]
  go_wp2_with (at_builtin; refine wpList_app rfl (.tmp 14) (.tmp 21) rfl rfl (base := w.heap.size) (H1.out.alloc _) rfl (sees_one w1 _ (UInt8.ofNat (x / 256)) (by rw [UInt8.toNat_ofNat']; omega)) (by simp; omega) (by have := hb1.size; simp; omega) ?_; intro v2 w2 ho2 hg2 _; have hb2 : Below w.heap.size w w2 := (hb1.alloc hb1.size _).grown hg2 (by have := hb1.size; simp; omega) (fun k hk => (H1.out.block k hk).1); have H2 := Lib.hid ho2; clear ho2 hg2)
  rw [rounds_succ]
  go_wp2_with (at_builtin; refine wpList_app rfl (.tmp 14) (.tmp 21) rfl rfl (base := w.heap.size) (H2.out.alloc _) rfl (sees_one w2 _ (UInt8.ofNat (x / 65536)) (by rw [UInt8.toNat_ofNat']; omega)) (by simp; omega) (by have := hb2.size; simp; omega) ?_; intro v3 w3 ho3 hg3 _; have hb3 : Below w.heap.size w w3 := (hb2.alloc hb2.size _).grown hg3 (by have := hb2.size; simp; omega) (fun k hk => (H2.out.block k hk).1); have H3 := Lib.hid ho3; clear ho3 hg3)
  rw [rounds_succ]
  go_wp2_with (at_builtin; refine wpList_app rfl (.tmp 14) (.tmp 21) rfl rfl (base := w.heap.size) (H3.out.alloc _) rfl (sees_one w3 _ (UInt8.ofNat (x / 16777216)) (by rw [UInt8.toNat_ofNat']; omega)) (by simp; omega) (by have := hb3.size; simp; omega) ?_; intro v4 w4 ho4 hg4 _; have hb4 : Below w.heap.size w w4 := (hb3.alloc hb3.size _).grown hg4 (by have := hb3.size; simp; omega) (fun k hk => (H3.out.block k hk).1); have H4 := Lib.hid ho4; clear ho4 hg4)
  rw [rounds_succ]
  go_wp2_with fail
  go_ret
  refine ⟨v4, rfl, ?_, hb4⟩
  have h := H4.out
  simpa [enc4, List.append_assoc] using h

theorem ret_num {k : IntKind} {a b : Int} (h : a = b) : Ending.returned (.int k a) = .returned (.int k b) := by rw [h]

theorem ref_int {w : World} {A : Option Addr} {n c : Nat} {bs : List UInt8} (x : Int) (hs : Sees w (.slice A n c) bs) (hb : bs.length ≤ 1000000) :
    Calls Try.prog 40 #[.slice A n c, .int .i32 x] w (Puts w (bs ++ enc4 (x % 4294967296).toNat)) := by
  have HR := Lib.hid (ref_uint (x % 4294967296).toNat (by omega) hs hb)
  have hxx : (((x % 4294967296).toNat : Nat) : Int) = x % 4294967296 := by omega
  rw [hxx] at HR
  clear hs hxx
  go_enter Try.func40, Try.ntmps40
  go_wp2_with fail
  refine HR.out.mono ?_
  rintro e w1 ⟨v1, rfl, h1, h2⟩
  go_wp2_with fail
  go_ret
  exact ⟨v1, rfl, h1, h2⟩

theorem padding_any (n : Nat) (hn : n ≤ 1000000) (w : World) : Calls Try.prog 50 #[.int .i64 n] w fun e w' => e = .returned (.int .i64 ((pad n : Nat) : Int)) ∧ w = w' := by
  go_enter Try.func50, Try.ntmps50
  go_wp2_with fail
  go_ret
  exact ⟨ret_num (by unfold pad; omega), rfl⟩

/-- the bytes so far, in the loop that writes the padding -/
def Padded (w : World) (bs : List UInt8) (j : Nat) (v : Value) (wr : World) : Prop := Owns wr w.heap.size v (bs ++ List.replicate j 0) ∧ Below w.heap.size w wr

set_option maxHeartbeats 400000 in
theorem ref_array {w : World} {A A' : Option Addr} {n c m c' : Nat} {bs xs : List UInt8} (hs : Sees w (.slice A n c) bs) (hx : Sees w (.slice A' m c') xs) (hb : bs.length ≤ 500000) (hm : m ≤ 100000) :
    Calls Try.prog 42 #[.slice A n c, .slice A' m c'] w (Puts w (bs ++ encA xs)) := by
  have hml : m = xs.length := by
    obtain ⟨_, _, hv, _⟩ := hx.shape
    injection hv
  have hshape : m ≤ c' ∧ c' ≤ maxLen := by
    obtain ⟨_, _, hv, h1, h2⟩ := hx.shape
    injection hv with _ e1 e2
    omega
  obtain ⟨hcm, _⟩ := hshape
  have HM := Lib.hid hml
  have HX := Lib.hid hx
  have HU := Lib.hid (ref_uint m (by omega) hs (by omega))
  have hp4 : pad m ≤ 3 := by unfold pad; omega
  have HP := Lib.hid (padding_any m (by omega))
  have HPE : Hid (bs ++ encA xs = bs ++ enc4 m ++ xs ++ List.replicate (pad m) 0) := by
    show _ = _
    rw [hml, encA]; simp [List.append_assoc]
  clear hs hx hml
  generalize pad m = p at *
  go_enter Try.func42, Try.ntmps42
  go_wp2_with fail
  refine HU.out.mono ?_
  rintro e w1 ⟨v1, rfl, ho1, hb1⟩
  have H1 := Lib.hid ho1
  clear ho1
  go_wp2_with (at_builtin; refine wpList_app rfl (.tmp 12) (.tmp 13) rfl rfl H1.out rfl (HX.out.below hb1) (by have := HM.out; simp [enc4]; omega) hb1.size ?_; intro v2 w2 ho2 hg2 _; have hb2 : Below w.heap.size w w2 := hb1.grown hg2 hb1.size (fun k hk => (H1.out.block k hk).1); have H2 := Lib.hid ho2; clear ho2 hg2)
  have hl2 : (bs ++ enc4 m ++ xs).length ≤ 700000 := by have := HM.out; simp [enc4]; omega
  generalize bs ++ enc4 m ++ xs = L at *
  go_loopw [5, 6] (fun v i wr => ∃ j : Nat, j ≤ p ∧ i = .int .i64 j ∧ Padded w L j v wr) (fun _ i _ => p - (intOf i).toNat)
  case atStart => exact ⟨0, Nat.zero_le _, rfl, by simpa using H2.out, hb2⟩
  case round =>
    obtain ⟨j, hj, rfl, ho, hbr⟩ := hrel
    have HO := Lib.hid ho
    clear ho
    by_cases hlt : j < p
    · go_wp2_with fail
      refine (HP.out _).mono ?_
      rintro e w3 ⟨rfl, rfl⟩
      go_wp2_with (at_builtin; refine wpList_app rfl (.tmp 22) (.tmp 23) rfl rfl (HO.out.alloc _) rfl (sees_one wr _ 0 rfl) (by simp; omega) (by have := hbr.size; simp; omega) ?_; intro v4 w4 ho4 hg4 _; have hb4 : Below w.heap.size w w4 := (hbr.alloc hbr.size _).grown hg4 (by have := hbr.size; simp; omega) (fun k hk => (HO.out.block k hk).1); have H4 := Lib.hid ho4; clear ho4 hg4)
      go_roundw
      case rel => exact ⟨j + 1, by omega, by go_num, by have h := H4.out; rw [List.append_assoc, ← List.replicate_succ'] at h; exact h, hb4⟩
      case measure => simp [intOf]; omega
    · go_wp2_with fail
      refine (HP.out _).mono ?_
      rintro e w3 ⟨rfl, rfl⟩
      go_wp2_with fail
      go_ret
      have hjp : j = p := by omega
      exact ⟨_, rfl, by have h := HO.out; rw [hjp] at h; rw [HPE.out]; exact h, hbr⟩

theorem ref_string {w : World} {A : Option Addr} {n c : Nat} {bs : List UInt8} (s : ByteArray) (hs : Sees w (.slice A n c) bs) (hb : bs.length ≤ 500000) (hm : s.size ≤ 100000) :
    Calls Try.prog 41 #[.slice A n c, .string s] w (Puts w (bs ++ encA s.data.toList)) := by
  have hcv : ∀ w : World, (convert 9 22 (.string s)).run Try.prog w = .ok (.slice (some ⟨w.heap.size, 0, none⟩) s.size (grownCap w s.size 0 5)) (Lib.bytesWorld w 5 s) := fun w => Lib.run_convert_string_bytes w 9 22 5 s Try.underlying9 Try.underlying22 Try.underlying5
  have hbw := bytesWorld_below w 5 s
  have HA := Lib.hid (ref_array (hs.below hbw) (sees_text w s (by simp only [maxLen]; omega)) hb hm)
  clear hs
  go_enter Try.func41, Try.ntmps41
  go_wp2_with fail
  refine HA.out.mono ?_
  rintro e w1 ⟨v1, rfl, h1, h2⟩
  go_wp2_with fail
  go_ret
  exact ⟨v1, rfl, h1.mono hbw.size, hbw.trans (h2.mono hbw.size)⟩

set_option maxHeartbeats 400000 in
theorem want_any {w : World} {A : Option Addr} {n c : Nat} {bs : List UInt8} {t : It} (hs : Sees w (.slice A n c) bs) (ht : t.ok w) (hb : bs.length ≤ 500000) (hm : t.b.length ≤ 100000) :
    Calls Try.prog 14 #[.slice A n c, t.val] w (Puts w (bs ++ t.enc)) := by
  obtain ⟨k, N, v, b⟩ := t
  obtain ⟨hsee, hN⟩ := ht
  dsimp only at hsee hN hm
  obtain ⟨A', c', rfl, _, _⟩ := hsee.shape
  unfold It.val It.enc
  dsimp only
  have hsee1 : Sees (w.alloc (.cells #[.int .i64 k, .int .u32 (N : Int), .slice A' b.length c'] 25)) (.slice A' b.length c') b := hsee.alloc _
  have HS := Lib.hid (hs.alloc (.cells #[.int .i64 k, .int .u32 (N : Int), .slice A' b.length c'] 25))
  have HX := Lib.hid hsee1
  clear hs hsee
  by_cases h0 : k = 0
  · subst h0
    rw [if_pos (.inl rfl)]
    clear hsee1
    go_enter Try.func14, Try.ntmps14
    go_wp2_with fail
    refine (ref_uint N hN HS.out (by omega)).mono ?_
    intro e w1 h
    obtain ⟨v, rfl, ho, hb⟩ := puts_alloc h
    go_wp2_with fail
    go_ret
    exact ⟨v, rfl, ho, hb⟩
  · by_cases h1 : k = 1
    · subst h1
      rw [if_pos (.inr rfl)]
      have hsb := signed_back N hN
      have HI := Lib.hid (ref_int (wrap32 (N : Int)) HS.out (by omega))
      rw [hsb] at HI
      clear hsee1 hsb
      go_enter Try.func14, Try.ntmps14
      go_wp2_with fail
      refine HI.out.mono ?_
      intro e w1 h
      obtain ⟨v, rfl, ho, hb⟩ := puts_alloc h
      go_wp2_with fail
      go_ret
      exact ⟨v, rfl, ho, hb⟩
    · rw [if_neg (by omega)]
      have g0 : (k == 0) = false := by simpa using h0
      have g1 : (k == 1) = false := by simpa using h1
      by_cases h2 : k = 2
      · subst h2
        have htx := run_text (P := Try.prog) Try.underlying22 Try.underlying5 Try.underlying9 hsee1
        have HI := Lib.hid (ref_string ⟨b.toArray⟩ HS.out hb (by show b.toArray.size ≤ _; simpa using hm))
        dsimp only at HI
        clear hsee1
        generalize b.length = m at *
        go_enter Try.func14, Try.ntmps14
        go_wp2_with fail
        refine HI.out.mono ?_
        intro e w1 h
        obtain ⟨v, rfl, ho, hb⟩ := puts_alloc h
        go_wp2_with fail
        go_ret
        exact ⟨v, rfl, ho, hb⟩
      · have g2 : (k == 2) = false := by simpa using h2
        have HI := Lib.hid (ref_array HS.out HX.out hb hm)
        clear hsee1
        generalize b.length = m at *
        go_enter Try.func14, Try.ntmps14
        go_wp2_with fail
        refine HI.out.mono ?_
        intro e w1 h
        obtain ⟨v, rfl, ho, hb⟩ := puts_alloc h
        go_wp2_with fail
        go_ret
        exact ⟨v, rfl, ho, hb⟩

end Go.Proofs.Ytealpmcpaakclaa
