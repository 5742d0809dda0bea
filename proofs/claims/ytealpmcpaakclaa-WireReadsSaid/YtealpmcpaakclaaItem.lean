/-
  Values of the law file: an item by value; put, readable, equal, read.
-/
import Derived.Test.YtealpmcpaakclaaExam
namespace Go.Proofs.Ytealpmcpaakclaa
open Go.RowKit Mem Wire

/-- an item: its kind, its number, the slice value of its bytes, and these bytes -/
structure It where
  k : Int
  n : Nat
  v : Value
  b : List UInt8

/-- as a value -/
def It.val (t : It) : Value := .agg #[.int .i64 t.k, .int .u32 (t.n : Int), t.v]
def It.cells (t : It) : Array Value := #[.int .i64 t.k, .int .u32 (t.n : Int), t.v]
/-- what is known of an item in a world -/
def It.ok (w : World) (t : It) : Prop := Sees w t.v t.b ∧ t.n < 4294967296
/-- its encoding -/
def It.enc (t : It) : List UInt8 := if t.k = 0 ∨ t.k = 1 then enc4 t.n else encA t.b

theorem It.ok.below {w w' : World} {t : It} (h : t.ok w) (hb : Below w.heap.size w w') : t.ok w' := ⟨h.1.below hb, h.2⟩

theorem signed_back (n : Nat) (hn : n < 4294967296) : (wrap32 (n : Int) % 4294967296).toNat = n := by
  unfold wrap32
  omega

theorem puts_alloc {w : World} {bs : List UInt8} {o : Obj} {e : Ending} {w' : World} (h : Puts (w.alloc o) bs e w') : Puts w bs e w' := by
  obtain ⟨v, he, ho, hb⟩ := h
  have h0 : Below w.heap.size w (w.alloc o) := (Below.refl _ _).alloc (Nat.le_refl _) o
  exact ⟨v, he, ho.mono (by simp), h0.trans (hb.mono (by simp))⟩

set_option maxHeartbeats 400000 in
theorem put_any {w : World} {A : Option Addr} {n c : Nat} {bs : List UInt8} {t : It} (hs : Sees w (.slice A n c) bs) (ht : t.ok w) (hb : n ≤ 1000000) (hm : t.b.length ≤ 1000000) :
    Calls Try.prog 12 #[.slice A n c, t.val] w (Puts w (bs ++ t.enc)) := by
  obtain ⟨k, N, v, b⟩ := t
  obtain ⟨hsee, hN⟩ := ht
  dsimp only at hsee hN hm
  obtain ⟨A', c', rfl, _, _⟩ := hsee.shape
  unfold It.val It.enc
  dsimp only
  have hsee1 : Sees (w.alloc (.cells #[.int .i64 k, .int .u32 (N : Int), .slice A' b.length c'] 25)) (.slice A' b.length c') b := hsee.alloc _
  have HS := Lib.hid (hs.alloc (.cells #[.int .i64 k, .int .u32 (N : Int), .slice A' b.length c'] 25))
  have HX := Lib.hid hsee1
  clear hs hsee
  by_cases h0 : k = 0
  · subst h0
    rw [if_pos (.inl rfl)]
    clear hsee1
    go_enter Try.func12, Try.ntmps12
    go_wp2_with fail
    refine (uint_put N hN HS.out (by omega)).mono ?_
    intro e w1 h
    obtain ⟨v, rfl, ho, hb⟩ := puts_alloc h
    go_wp2_with fail
    go_ret
    exact ⟨v, rfl, ho, hb⟩
  · by_cases h1 : k = 1
    · subst h1
      rw [if_pos (.inr rfl)]
      have hsb := signed_back N hN
      have HI := Lib.hid (int_put (wrap32 (N : Int)) HS.out (by omega))
      rw [hsb] at HI
      clear hsee1 hsb
      go_enter Try.func12, Try.ntmps12
      go_wp2_with fail
      refine HI.out.mono ?_
      intro e w1 h
      obtain ⟨v, rfl, ho, hb⟩ := puts_alloc h
      go_wp2_with fail
      go_ret
      exact ⟨v, rfl, ho, hb⟩
    · rw [if_neg (by omega)]
      have g0 : (k == 0) = false := by simpa using h0
      have g1 : (k == 1) = false := by simpa using h1
      by_cases h2 : k = 2
      · subst h2
        have htx := run_text (P := Try.prog) Try.underlying22 Try.underlying5 Try.underlying9 hsee1
        have HI := Lib.hid (string_put ⟨b.toArray⟩ HS.out hb (by show b.toArray.size ≤ _; simpa using hm))
        dsimp only at HI
        clear hsee1
        generalize b.length = m at *
        go_enter Try.func12, Try.ntmps12
        go_wp2_with fail
        refine HI.out.mono ?_
        intro e w1 h
        obtain ⟨v, rfl, ho, hb⟩ := puts_alloc h
        go_wp2_with fail
        go_ret
        exact ⟨v, rfl, ho, hb⟩
      · have g2 : (k == 2) = false := by simpa using h2
        have HI := Lib.hid (array_put HS.out HX.out hb hm)
        clear hsee1
        generalize b.length = m at *
        go_enter Try.func12, Try.ntmps12
        go_wp2_with fail
        refine HI.out.mono ?_
        intro e w1 h
        obtain ⟨v, rfl, ho, hb⟩ := puts_alloc h
        go_wp2_with fail
        go_ret
        exact ⟨v, rfl, ho, hb⟩

/-- a string with a zero byte can't be read back -/
def It.readable (t : It) : Bool := !(decide (t.k = 2) && decide ((0 : UInt8) ∈ t.b))

def NoZero (xs : List UInt8) (k : Nat) : Prop := ∀ j, j < k → xs.getD j 0 ≠ 0

theorem noZero_all {xs : List UInt8} (h : NoZero xs xs.length) : (0 : UInt8) ∉ xs := by
  intro hm
  obtain ⟨i, hi, he⟩ := List.getElem_of_mem hm
  apply h i hi
  rw [List.getD, List.getElem?_eq_getElem hi]
  simpa using he

theorem zero_in {xs : List UInt8} {k : Nat} (hk : k < xs.length) (h : xs.getD k 0 = 0) : (0 : UInt8) ∈ xs := by
  rw [List.getD, List.getElem?_eq_getElem hk] at h
  exact h ▸ List.getElem_mem hk

set_option maxHeartbeats 400000 in
theorem readable_any {w : World} {t : It} (ht : t.ok w) : Calls Try.prog 31 #[t.val] w (Says t.readable w) := by
  obtain ⟨k, N, v, xs⟩ := t
  obtain ⟨hsee, hN⟩ := ht
  dsimp only at hsee hN
  unfold It.val It.readable
  dsimp only
  obtain ⟨A, c, rfl, hc, hm⟩ := hsee.shape
  have hm2 : c ≤ 9223372036854775807 := by simpa [maxLen] using hm
  obtain ⟨w1, hw1⟩ : ∃ w1, w1 = w.alloc (.cells #[.int .i64 k, .int .u32 (N : Int), .slice A xs.length c] 25) := ⟨_, rfl⟩
  have hb : Below w.heap.size w w1 := by rw [hw1]; exact (Below.refl _ _).alloc (Nat.le_refl _) _
  have hs1 : Sees w1 (.slice A xs.length c) xs := by rw [hw1]; exact hsee.alloc _
  have k0 : w1.cell? ⟨w.heap.size, 0, none⟩ = some (.int .i64 k) := by rw [hw1, World.cell?_alloc_at _ _ _ _ rfl]; rfl
  have k2 : w1.cell? ⟨w.heap.size, 2, none⟩ = some (.slice A xs.length c) := by rw [hw1, World.cell?_alloc_at _ _ _ _ rfl]; rfl
  have HW := Lib.hid hw1
  clear hw1 hsee hm
  by_cases hk : k = 2
  · subst hk
    obtain ⟨r, hr⟩ : ∃ r, r = (!(decide ((2 : Int) = 2) && decide ((0 : UInt8) ∈ xs))) := ⟨_, rfl⟩
    rw [← hr]
    have HR : Hid (r = !(decide ((0 : UInt8) ∈ xs))) := by show _ = _; rw [hr]; simp
    clear hr
    have hways : (xs.length = 0 ∧ Hid True) ∨ ∃ b off, A = some ⟨b, off, none⟩ ∧ Hid (∀ j, j < xs.length → w1.cell? ⟨b, off + j, none⟩ = some (byte (xs.getD j 0))) := by
      rcases hs1.ways with ⟨A', c', hv, h, _⟩ | ⟨b, off, n, c', hv, hl, _, _, _, _, hcell⟩
      · exact .inl ⟨by rw [h]; rfl, trivial⟩
      · injection hv with e1 e2 e3
        subst e2
        exact .inr ⟨b, off, e1, hcell⟩
    clear hs1
    rcases hways with ⟨h0, _⟩ | ⟨b, off, rfl, HC⟩
    · have hx : xs = [] := List.eq_nil_of_length_eq_zero h0
      subst hx
      have HW0 : Hid (w1 = w.alloc (.cells #[.int .i64 2, .int .u32 (N : Int), .slice A 0 c] 25)) := HW
      have k20 : w1.cell? ⟨w.heap.size, 2, none⟩ = some (.slice A 0 c) := k2
      clear h0 k2
      go_enter Try.func31, Try.ntmps31
      go_wp2_with fail
      rw [← HW0.out]
      refine wp_loop_rounds 1 ?_
      rw [rounds_succ]
      go_wp2_with fail
      go_ret
      exact ⟨by rw [HR.out]; rfl, hb⟩
    · generalize hlen : xs.length = n at *
      have HLEN := Lib.hid hlen
      clear hlen
      go_enter Try.func31, Try.ntmps31
      go_wp2_with fail
      rw [← HW.out]
      go_loop [3] (fun i => ∃ j : Nat, j ≤ n ∧ i = .int .i64 j ∧ Hid (NoZero xs j)) (fun i => n - (intOf i).toNat)
      case atStart => exact ⟨0, Nat.zero_le _, rfl, fun j hj => by omega⟩
      case round =>
        obtain ⟨j, hj, rfl, hz⟩ := hrel
        by_cases hlt : j < n
        · have cj := HC.out j hlt
          unfold byte at cj
          by_cases he : xs.getD j 0 = 0
          · rw [he] at cj
            have cj' : w1.cell? ⟨b, off + j, none⟩ = some (.int .u8 0) := cj
            have HE := Lib.hid he
            clear cj he
            go_wp2_with fail
            go_ret
            exact ⟨by rw [HR.out, decide_eq_true (zero_in (by rw [HLEN.out]; exact hlt) HE.out)]; rfl, hb⟩
          · have hne : (((xs.getD j 0).toNat : Int) == 0) = false := by
              rw [beq_eq_false_iff_ne]
              intro h
              exact he (UInt8.toNat_inj.1 (by simpa using h))
            have HE := Lib.hid he
            clear he
            generalize (xs.getD j 0).toNat = y at *
            go_wp2_with fail
            go_round
            case rel => exact ⟨j + 1, by omega, by go_num, fun i hi => by
              by_cases h : i = j
              · subst h; exact HE.out
              · exact hz.out i (by omega)⟩
            case measure => simp [intOf]; omega
        · go_wp2_with fail
          go_ret
          have hjn : j = n := by omega
          exact ⟨by rw [HR.out, decide_eq_false (noZero_all (by rw [HLEN.out, ← hjn]; exact hz.out))]; rfl, hb⟩
  · have hb2 : (k == 2) = false := by simpa using hk
    have hr : (!(decide (k = 2) && decide ((0 : UInt8) ∈ xs))) = true := by simp [hk]
    rw [hr]
    clear hr hs1 hk
    generalize xs.length = n at *
    go_enter Try.func31, Try.ntmps31
    go_wp2_with fail
    rw [← HW.out]
    refine wp_loop_rounds 1 ?_
    rw [rounds_succ]
    by_cases hn : 0 < n
    · go_wp2_with fail
      go_ret
      exact ⟨rfl, hb⟩
    · go_wp2_with fail
      go_ret
      exact ⟨rfl, hb⟩

end Go.Proofs.Ytealpmcpaakclaa
