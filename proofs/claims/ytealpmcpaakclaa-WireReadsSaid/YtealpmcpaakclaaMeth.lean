/-
  The methods of the reader of package wire, the readers that From returned: number, string, array, what is left, the error.
-/
import Derived.Test.YtealpmcpaakclaaCount
import Derived.Lib.BytesEntry
import Derived.Laws.BytesArg
import Derived.Laws.Externs
import Derived.Lib.IndexLaws
namespace Go.Proofs.Ytealpmcpaakclaa
open Go.RowKit Mem Wire

theorem hasZero (bs : List UInt8) : 0 ≤ Lib.indexByte bs 0 ↔ (0 : UInt8) ∈ bs := by
  induction bs with
  | nil => simp [Lib.indexByte]
  | cons b l ih =>
    have hge := Lib.indexByte_ge l 0
    unfold Lib.indexByte
    by_cases hb : b = 0
    · subst hb; simp
    · rw [if_neg (by simpa using hb)]
      by_cases h1 : Lib.indexByte l 0 = -1
      · rw [if_pos (by simpa using h1)]
        rw [h1] at ih
        simp only [List.mem_cons]
        constructor
        · intro h; omega
        · rintro (h | h)
          · exact absurd h.symm hb
          · exact absurd (ih.2 h) (by omega)
      · rw [if_neg (by simpa using h1)]
        simp only [List.mem_cons]
        constructor
        · intro h; exact .inr (ih.1 (by omega))
        · rintro (h | h)
          · exact absurd h.symm hb
          · have := ih.2 h; omega

theorem bytesOf_nums (bs : List UInt8) : Lib.bytesOf (bs.map fun x => (x.toNat : Int)) = bs := by
  unfold Lib.bytesOf
  rw [List.map_map]
  conv => rhs; rw [← List.map_id bs]
  apply List.map_congr_left
  intro x _
  simp

/-- bytes.IndexByte's foreign part, at zero -/
theorem run_index0 {P : Program} {w : World} {A : Option Addr} {n c : Nat} {bs : List UInt8} (hs : Sees w (.slice A n c) bs) :
    (Extern.BytealgIndexByte.indexByte #[.slice A n c, .int .u8 0]).run P w = .ok (.int .i64 (Lib.indexByte bs 0)) w := by
  rcases hs.ways with ⟨A', c', hv, rfl, _⟩ | ⟨b, off, n', c', hv, hl, _, _, _, _, hcell⟩
  · injection hv with e1 e2 e3
    subst e2
    cases A with
    | none => exact Lib.run_indexByteNil w 0 c 0
    | some a =>
      have h := Lib.run_indexByteNil (P := P) w 0 c 0
      exact h
  · injection hv with e1 e2 e3
    subst e1 e2 e3
    have h := Lib.run_indexByteSlice (P := P) w b off n c (bs.map fun x => (x.toNat : Int)) (by simpa using hl) (fun i hi => by
      rw [hcell i hi]
      unfold byte
      simp only [List.getD, List.getElem?_map]
      rw [List.getElem?_eq_getElem (by omega)]
      rfl) 0
    rw [bytesOf_nums] at h
    exact h

theorem index_any {w : World} {A : Option Addr} {n c : Nat} {bs : List UInt8} (hs : Sees w (.slice A n c) bs) :
    Calls Try.prog 48 #[.slice A n c, .int .u8 0] w fun e w' => e = .returned (.int .i64 (Lib.indexByte bs 0)) ∧ w = w' := by
  go_enter Try.func48, Try.ntmps48
  go_wp2
  rw [run_callFunc_extern Try.func55 (by kernel_rfl) (by kernel_rfl) (by kernel_rfl) (e := Extern.BytealgIndexByte.indexByte) (by kernel_rfl), run_index0 hs]
  simp only [Result.andThen]
  rw [Oper.upon_value]
  go_wp2
  go_ret
  exact ⟨rfl, rfl⟩

/-- string(b) of a slice of bytes -/
theorem run_text {P : Program} {w : World} {A : Option Addr} {n c : Nat} {bs : List UInt8} {src e dst : TypeId} (h1 : P.underlying src = some (.slice e)) (h2 : P.underlying e = some (.int .u8)) (h3 : P.underlying dst = some .string)
    (hs : Sees w (.slice A n c) bs) : (convert src dst (.slice A n c)).run P w = .ok (.string ⟨bs.toArray⟩) w := by
  rcases hs.ways with ⟨A', c', hv, rfl, _⟩ | ⟨b, off, n', c', hv, hl, _, _, _, _, hcell⟩
  · injection hv with e1 e2 e3
    subst e2
    cases A with
    | none => exact run_convert_bytes_nil w src e h1 h2 0 c dst h3
    | some a =>
      have h := run_convert_bytes_nil (P := P) w src e h1 h2 0 c dst h3
      rw [run_convert_bytes_string w src dst e _ 0 c h1 h2 h3] at h ⊢
      have hl : (loadCells a 0).run P w = .ok (([] : List Int).map (Value.int .u8)).toArray w := rfl
      rw [run_bytesToString w a 0 c [] hl]
      rfl
  · injection hv with e1 e2 e3
    subst e1 e2 e3
    have h := run_convert_bytes_arg (P := P) w src e h1 h2 b off n c (bs.map fun x => (x.toNat : Int)) (by simpa using hl) (fun i hi => by
      rw [hcell i hi]
      unfold byte
      simp only [List.getD, List.getElem?_map]
      rw [List.getElem?_eq_getElem (by omega)]
      rfl) dst h3
    rw [h]
    have := bytesOf_nums bs
    unfold Lib.bytesOf at this
    unfold strOfNums
    rw [this]

theorem uint_any {g : Nat} {s : St} {w : World} (hr : Rdr w g s) :
    Calls Try.prog 18 #[.pointer (some ⟨g, 0, none⟩)] w fun e w' => e = .returned (.int .u32 ((numS s).2 : Int)) ∧ Rdr w' g (numS s).1 ∧ w.grownBy w' (some g) := by
  have H := Lib.hid hr
  clear hr
  go_enter Try.func18, Try.ntmps18
  go_wp2_with fail
  refine (created_yes H.out).mono ?_
  rintro e w1 ⟨rfl, rfl⟩
  go_wp2_with fail
  refine (number_any H.out).mono ?_
  rintro e w1 ⟨rfl, h1, h2⟩
  go_wp2_with fail
  go_ret
  exact ⟨rfl, h1, h2⟩

theorem uint_none {p : Option Addr} {w : World} (h : Calls Try.prog 45 #[.pointer p] w fun e w' => e = .returned (.bool false) ∧ w = w') :
    Calls Try.prog 18 #[.pointer p] w fun e w' => e = .returned (.int .u32 0) ∧ w = w' := by
  have H := Lib.hid h
  clear h
  go_enter Try.func18, Try.ntmps18
  go_wp2_with fail
  refine H.out.mono ?_
  rintro e w1 ⟨rfl, rfl⟩
  go_wp2_with fail
  go_ret
  exact ⟨rfl, rfl⟩

theorem int_any {g : Nat} {s : St} {w : World} (hr : Rdr w g s) :
    Calls Try.prog 20 #[.pointer (some ⟨g, 0, none⟩)] w fun e w' => e = .returned (.int .i32 (wrap32 ((numS s).2 : Int))) ∧ Rdr w' g (numS s).1 ∧ w.grownBy w' (some g) := by
  have hN := numS_lt s
  have H := Lib.hid (uint_any hr)
  clear hr
  generalize (numS s).2 = N at *
  go_enter Try.func20, Try.ntmps20
  go_wp2_with fail
  refine H.out.mono ?_
  rintro e w1 ⟨rfl, h1, h2⟩
  go_wp2_with fail
  go_ret
  exact ⟨rfl, h1, h2⟩

theorem int_none {p : Option Addr} {w : World} (h : Calls Try.prog 45 #[.pointer p] w fun e w' => e = .returned (.bool false) ∧ w = w') :
    Calls Try.prog 20 #[.pointer p] w fun e w' => e = .returned (.int .i32 0) ∧ w = w' := by
  have H := Lib.hid (uint_none h)
  clear h
  go_enter Try.func20, Try.ntmps20
  go_wp2_with fail
  refine H.out.mono ?_
  rintro e w1 ⟨rfl, rfl⟩
  go_wp2_with fail
  go_ret
  exact ⟨rfl, rfl⟩

theorem fine_lim {s : St} (h : Fine s) (n : Nat) (m : Int) : Fine (limS s n m) := by
  unfold limS; split
  · exact h.fail 5
  · exact h

/-- the String method of a reader that From returned -/
theorem string_any {g : Nat} {s : St} {w : World} (most : Int) (hr : Rdr w g s) (hM : most ≤ 9223372036854775807) :
    Calls Try.prog 22 #[.pointer (some ⟨g, 0, none⟩), .int .i64 most] w fun e w' => e = .returned (.string ⟨(strS s most).2.toArray⟩) ∧ Rdr w' g (strS s most).1 ∧ w.grownBy w' (some g) := by
  have H := Lib.hid hr
  have HC := Lib.hid (counted_any most hr hM)
  unfold strS
  clear hr
  generalize countS s most = cs at *
  obtain ⟨s1, bs⟩ := cs
  dsimp only at HC ⊢
  by_cases hz : (0 : UInt8) ∈ bs
  · have hi := (hasZero bs).2 hz
    simp only [if_pos hz]
    clear hz
    go_enter Try.func22, Try.ntmps22
    go_wp2_with fail
    refine (created_yes H.out).mono ?_
    rintro e w1 ⟨rfl, rfl⟩
    go_wp2_with fail
    refine HC.out.mono ?_
    rintro e w1 ⟨v, rfl, h1, h2, h3⟩
    obtain ⟨A, c, rfl, _, _⟩ := h1.shape
    have H1 := Lib.hid h1
    have H2 := Lib.hid h2
    clear h1 h2
    generalize bs.length = n at *
    go_wp2_with fail
    refine (index_any H1.out).mono ?_
    rintro e w2 ⟨rfl, rfl⟩
    generalize Lib.indexByte bs 0 = i at *
    go_wp2_with fail
    refine (fail_any 3 H2.out).mono ?_
    rintro e w2 ⟨rfl, h4, h5⟩
    go_wp2_with fail
    go_ret
    exact ⟨rfl, h4, h3.trans h5⟩
  · have hi : Lib.indexByte bs 0 < 0 := Int.not_le.1 (fun h => hz ((hasZero bs).1 h))
    simp only [if_neg hz]
    clear hz
    go_enter Try.func22, Try.ntmps22
    go_wp2_with fail
    refine (created_yes H.out).mono ?_
    rintro e w1 ⟨rfl, rfl⟩
    go_wp2_with fail
    refine HC.out.mono ?_
    rintro e w1 ⟨v, rfl, h1, h2, h3⟩
    obtain ⟨A, c, rfl, _, _⟩ := h1.shape
    have ht := run_text (P := Try.prog) Try.underlying22 Try.underlying5 Try.underlying9 h1
    have H1 := Lib.hid h1
    have H2 := Lib.hid h2
    clear h1 h2
    generalize bs.length = n at *
    go_wp2_with fail
    refine (index_any H1.out).mono ?_
    rintro e w2 ⟨rfl, rfl⟩
    generalize Lib.indexByte bs 0 = i at *
    go_wp2_with fail
    go_ret
    exact ⟨rfl, H2.out, h3⟩

theorem string_none {p : Option Addr} {w : World} (most : Int) (h : Calls Try.prog 45 #[.pointer p] w fun e w' => e = .returned (.bool false) ∧ w = w') :
    Calls Try.prog 22 #[.pointer p, .int .i64 most] w fun e w' => e = .returned (.string ⟨#[]⟩) ∧ w = w' := by
  have H := Lib.hid h
  clear h
  go_enter Try.func22, Try.ntmps22
  go_wp2_with fail
  refine H.out.mono ?_
  rintro e w1 ⟨rfl, rfl⟩
  go_wp2_with fail
  go_ret
  exact ⟨rfl, rfl⟩

theorem left_any {g : Nat} {s : St} {w : World} (hr : Rdr w g s) :
    Calls Try.prog 25 #[.pointer (some ⟨g, 0, none⟩)] w fun e w' => e = .returned (.int .i64 (s.1.length : Int)) ∧ w = w' := by
  have H := Lib.hid hr
  obtain ⟨A, c, h0, h1, h2, _⟩ := hr.unread
  clear hr
  generalize s.1.length = n at *
  go_enter Try.func25, Try.ntmps25
  go_wp2_with fail
  refine (created_yes H.out).mono ?_
  rintro e w1 ⟨rfl, rfl⟩
  go_wp2_with fail
  go_ret
  exact ⟨rfl, rfl⟩

theorem left_none {p : Option Addr} {w : World} (h : Calls Try.prog 45 #[.pointer p] w fun e w' => e = .returned (.bool false) ∧ w = w') :
    Calls Try.prog 25 #[.pointer p] w fun e w' => e = .returned (.int .i64 0) ∧ w = w' := by
  have H := Lib.hid h
  clear h
  go_enter Try.func25, Try.ntmps25
  go_wp2_with fail
  refine H.out.mono ?_
  rintro e w1 ⟨rfl, rfl⟩
  go_wp2_with fail
  go_ret
  exact ⟨rfl, rfl⟩

theorem err_any {g : Nat} {s : St} {w : World} (hr : Rdr w g s) :
    Calls Try.prog 27 #[.pointer (some ⟨g, 0, none⟩)] w fun e w' => e = .returned (.int .i64 s.2) ∧ w = w' := by
  have H := Lib.hid hr
  have h0 := hr.err
  clear hr
  go_enter Try.func27, Try.ntmps27
  go_wp2_with fail
  refine (created_yes H.out).mono ?_
  rintro e w1 ⟨rfl, rfl⟩
  go_wp2_with fail
  go_ret
  exact ⟨rfl, rfl⟩

theorem err_none {p : Option Addr} {w : World} (h : Calls Try.prog 45 #[.pointer p] w fun e w' => e = .returned (.bool false) ∧ w = w') :
    Calls Try.prog 27 #[.pointer p] w fun e w' => e = .returned (.int .i64 1) ∧ w = w' := by
  have H := Lib.hid h
  clear h
  go_enter Try.func27, Try.ntmps27
  go_wp2_with fail
  refine H.out.mono ?_
  rintro e w1 ⟨rfl, rfl⟩
  go_wp2_with fail
  go_ret
  exact ⟨rfl, rfl⟩

theorem end_none {p : Option Addr} {w : World} (h : Calls Try.prog 45 #[.pointer p] w fun e w' => e = .returned (.bool false) ∧ w = w') :
    Calls Try.prog 29 #[.pointer p] w fun e w' => e = .returned (.int .i64 1) ∧ w = w' := by
  have H := Lib.hid (err_none h)
  clear h
  go_enter Try.func29, Try.ntmps29
  go_wp2_with fail
  refine H.out.mono ?_
  rintro e w1 ⟨rfl, rfl⟩
  go_wp2_with fail
  refine H.out.mono ?_
  rintro e w1 ⟨rfl, rfl⟩
  go_wp2_with fail
  go_ret
  exact ⟨rfl, rfl⟩

theorem end_any {g : Nat} {s : St} {w : World} (hr : Rdr w g s) :
    Calls Try.prog 29 #[.pointer (some ⟨g, 0, none⟩)] w fun e w' => e = .returned (.int .i64 (endS s)) ∧ w = w' := by
  have H := Lib.hid (err_any hr)
  have HL := Lib.hid (left_any hr)
  unfold endS
  clear hr
  obtain ⟨bs, x⟩ := s
  dsimp only at H HL ⊢
  generalize bs.length = n at *
  by_cases hx : x = 0
  · subst hx
    by_cases hn : 0 < n
    · rw [if_pos ⟨rfl, hn⟩]
      go_enter Try.func29, Try.ntmps29
      go_wp2_with fail
      refine H.out.mono ?_
      rintro e w1 ⟨rfl, rfl⟩
      go_wp2_with fail
      refine HL.out.mono ?_
      rintro e w1 ⟨rfl, rfl⟩
      go_wp2_with fail
      go_ret
      exact ⟨rfl, rfl⟩
    · rw [if_neg (fun h => hn h.2)]
      go_enter Try.func29, Try.ntmps29
      go_wp2_with fail
      refine H.out.mono ?_
      rintro e w1 ⟨rfl, rfl⟩
      go_wp2_with fail
      refine HL.out.mono ?_
      rintro e w1 ⟨rfl, rfl⟩
      go_wp2_with fail
      refine H.out.mono ?_
      rintro e w1 ⟨rfl, rfl⟩
      go_wp2_with fail
      go_ret
      exact ⟨rfl, rfl⟩
  · rw [if_neg (fun h => hx h.1)]
    have hb : (x == 0) = false := by simpa using hx
    go_enter Try.func29, Try.ntmps29
    go_wp2_with fail
    refine H.out.mono ?_
    rintro e w1 ⟨rfl, rfl⟩
    go_wp2_with fail
    refine H.out.mono ?_
    rintro e w1 ⟨rfl, rfl⟩
    go_wp2_with fail
    go_ret
    exact ⟨rfl, rfl⟩

end Go.Proofs.Ytealpmcpaakclaa
