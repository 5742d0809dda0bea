/-
  Arguments in memory; the small functions, check and light of the reference and of the law.
-/
import Derived.Test.YtmpkjjmgfakomaaDoorMth
import Derived.Test.YtmpkjjmgfakomaaDoorHeld
import Derived.Test.YtmpkjjmgfakomaaDoorWrz
import Derived.Test.YtmpkjjmgfakomaaDoorIfz
namespace Go.Proofs.YtmpkjjmgfakomaaDoor
open Go.RowKit Mem Wire

/-- an argument beside the value of its bytes -/
abbrev AgV := Ag × Value
abbrev agC (p : AgV) : List Value := [.int .i64 p.1.kd, .int .i64 p.1.nn, .string p.1.ss, p.2]
abbrev agVal (p : AgV) : Value := .agg #[.int .i64 p.1.kd, .int .i64 p.1.nn, .string p.1.ss, p.2]
def agL (l : List AgV) : List Ag := l.map Prod.fst

/-- an argument whose bytes lie in memory -/
def AgOk (W : World) (p : AgV) : Prop := Sees W p.2 p.1.bb ∧ p.1.ss.size ≤ maxLen
theorem AgOk.below {W W' : World} {p : AgV} (h : AgOk W p) (hb : Below W.heap.size W W') : AgOk W' p := ⟨h.1.below hb, h.2⟩
theorem AgOk.shape {W : World} {p : AgV} (h : AgOk W p) : ∃ A cap, p.2 = .slice A p.1.bb.length cap ∧ p.1.bb.length ≤ cap ∧ cap ≤ maxLen := h.1.shape

/-- the slice value v holds the arguments l -/
def Ags (W : World) (v : Value) (l : List AgV) : Prop :=
  (∃ (A : Option Addr) (cap : Nat), v = .slice A l.length cap ∧ l.length ≤ cap ∧ cap ≤ maxLen ∧
    (0 < l.length → ∃ b off, A = some ⟨b, off, none⟩ ∧ b < W.heap.size ∧ ∀ (j : Nat) (p : AgV), l[j]? = some p →
      W.cell? ⟨b, off + j * 4, none⟩ = some (.int .i64 p.1.kd) ∧ W.cell? ⟨b, off + j * 4 + 1, none⟩ = some (.int .i64 p.1.nn) ∧ W.cell? ⟨b, off + j * 4 + 2, none⟩ = some (.string p.1.ss) ∧ W.cell? ⟨b, off + j * 4 + 3, none⟩ = some p.2)) ∧
  ∀ p ∈ l, AgOk W p

theorem Ags.below {W W' : World} {v : Value} {l : List AgV} (h : Ags W v l) (hb : Below W.heap.size W W') : Ags W' v l := by
  obtain ⟨⟨A, cap, hv, h1, h2, h4⟩, h5⟩ := h
  refine ⟨⟨A, cap, hv, h1, h2, fun hn => ?_⟩, fun p hp => (h5 p hp).below hb⟩
  obtain ⟨b, off, hA, hlt, hc⟩ := h4 hn
  refine ⟨b, off, hA, Nat.lt_of_lt_of_le hlt hb.size, fun j p hp => ?_⟩
  rw [hb.cell (p := ⟨b, off + j * 4, none⟩) hlt, hb.cell (p := ⟨b, off + j * 4 + 1, none⟩) hlt, hb.cell (p := ⟨b, off + j * 4 + 2, none⟩) hlt, hb.cell (p := ⟨b, off + j * 4 + 3, none⟩) hlt]
  exact hc j p hp

theorem Ags.shape {W : World} {v : Value} {l : List AgV} (h : Ags W v l) : ∃ A cap, v = .slice A l.length cap ∧ l.length ≤ cap ∧ cap ≤ maxLen := by
  obtain ⟨⟨A, cap, hv, h1, h2, _⟩, _⟩ := h
  exact ⟨A, cap, hv, h1, h2⟩

/-- the argument at an index, in a world that has kept what is older -/
theorem ags_at {w W : World} {A : Option Addr} {n cap : Nat} {l : List AgV} (h : Ags w (.slice A n cap) l) (hb : Below w.heap.size w W) {j : Nat} {p : AgV} (hp : l[j]? = some p) :
    ∃ b off, A = some ⟨b, off, none⟩ ∧ b < w.heap.size ∧ (W.cell? ⟨b, off + j * 4, none⟩ = some (.int .i64 p.1.kd) ∧ W.cell? ⟨b, off + j * 4 + 1, none⟩ = some (.int .i64 p.1.nn) ∧ W.cell? ⟨b, off + j * 4 + 2, none⟩ = some (.string p.1.ss) ∧ W.cell? ⟨b, off + j * 4 + 3, none⟩ = some p.2) ∧ AgOk W p := by
  obtain ⟨⟨A', cap', hv, h1, h2, h4⟩, h5⟩ := h
  simp only [Value.slice.injEq] at hv
  obtain ⟨rfl, -, -⟩ := hv
  have hl : 0 < l.length := by
    obtain ⟨h, -⟩ := List.getElem?_eq_some_iff.1 hp
    omega
  obtain ⟨b, off, rfl, hlt, hc⟩ := h4 hl
  refine ⟨b, off, rfl, hlt, ?_, (h5 p (List.mem_of_getElem? hp)).below hb⟩
  rw [hb.cell (p := ⟨b, off + j * 4, none⟩) hlt, hb.cell (p := ⟨b, off + j * 4 + 1, none⟩) hlt, hb.cell (p := ⟨b, off + j * 4 + 2, none⟩) hlt, hb.cell (p := ⟨b, off + j * 4 + 3, none⟩) hlt]
  exact hc j p hp

theorem ags_nil (W : World) : Ags W (.slice none 0 0) [] := ⟨⟨none, 0, rfl, Nat.le_refl _, by simp [maxLen], fun h => by simp at h⟩, fun p hp => by simp at hp⟩

theorem str_e0 {s : ByteArray} (h : ¬ s.size = 0) : (s.toList == []) = false := by
  have := str_ne (a := s) (b := ⟨#[]⟩) (fun e => h (by rw [e]; rfl))
  simpa only [ByteArray.toList_mk] using this
theorem str_eq0 {s : ByteArray} (h : s.size = 0) : s = ⟨#[]⟩ := by
  apply sl_inj
  exact List.eq_nil_of_length_eq_zero (by rw [sl_len]; exact h)

end Go.Proofs.YtmpkjjmgfakomaaDoor

namespace Go.Proofs.YtmpkjjmgfakomaaDoor
open Go.RowKit Mem Wire

set_option maxRecDepth 100000 in
set_option maxHeartbeats 1000000 in
theorem tidy_any (a : AgV) (k : Nat) {w : World} (ha : AgOk w a) : Calls Tryd.prog 57 #[agVal a, .int .i64 (k : Int)] w (Says (tidyB a.1 k) w) := by
  obtain ⟨A, cap, hv, hc, hm⟩ := ha.shape
  obtain ⟨⟨kd, nn, ss, bb⟩, v⟩ := a
  dsimp only at hv hc hm ⊢
  subst hv
  have HB := Lib.hid ((Below.refl w.heap.size w).alloc (Nat.le_refl _) (.cells #[.int .i64 kd, .int .i64 nn, .string ss, .slice A bb.length cap] 43))
  simp only [maxLen] at hm
  unfold agVal tidyB
  dsimp only
  clear ha
  obtain ⟨n, hn⟩ : ∃ n, bb.length = n := ⟨_, rfl⟩
  rw [hn] at hc HB ⊢
  clear hn
  by_cases h1 : kd = (k : Int)
  · subst h1
    have b0 : ((k : Int) == (k : Int)) = true := by simp
    rw [decide_eq_true rfl, Bool.true_and]
    by_cases k4 : k = 4
    · subst k4
      by_cases h3 : n = 0
      · subst h3
        by_cases h5 : nn = 0
        · subst h5
          go_enter Tryd.func57, Tryd.ntmps57
          go_wp2_with fail
          go_ret
          exact ⟨rfl, HB.out⟩
        · have b5 : decide (nn = 0) = false := decide_eq_false h5
          have c5 : (nn == 0) = false := beq_eq_false_iff_ne.2 h5
          rw [b5]
          go_enter Tryd.func57, Tryd.ntmps57
          go_wp2_with fail
          go_ret
          exact ⟨rfl, HB.out⟩
      · have e3 : (0 : Int) < n := by omega
        have g3 : decide (0 < n) = true := decide_eq_true (by omega)
        have b3 : decide (n = 0) = false := decide_eq_false h3
        rw [b3]
        go_enter Tryd.func57, Tryd.ntmps57
        go_wp2_with fail
        go_ret
        exact ⟨rfl, HB.out⟩
    · have e4 : ¬ (k : Int) = 4 := by omega
      have b4 : ((k : Int) != 4) = true := bne_iff_ne.2 e4
      rw [decide_eq_false k4, Bool.false_or]
      by_cases k7 : k = 7
      · subst k7
        by_cases h2 : ss.size = 0
        · obtain rfl := str_eq0 h2
          rw [decide_eq_true h2]
          by_cases h5 : nn = 0
          · subst h5
            go_enter Tryd.func57, Tryd.ntmps57
            go_wp2_with fail
            go_ret
            exact ⟨rfl, HB.out⟩
          · have b5 : decide (nn = 0) = false := decide_eq_false h5
            have c5 : (nn == 0) = false := beq_eq_false_iff_ne.2 h5
            rw [b5]
            go_enter Tryd.func57, Tryd.ntmps57
            go_wp2_with fail
            go_ret
            exact ⟨rfl, HB.out⟩
        · have e2 := str_e0 h2
          rw [decide_eq_false h2]
          go_enter Tryd.func57, Tryd.ntmps57
          go_wp2_with fail
          go_ret
          exact ⟨rfl, HB.out⟩
      · have e7 : ¬ (k : Int) = 7 := by omega
        have b7 : ((k : Int) != 7) = true := bne_iff_ne.2 e7
        rw [decide_eq_false k7]
        by_cases h2 : ss.size = 0
        · obtain rfl := str_eq0 h2
          rw [decide_eq_true h2]
          by_cases h3 : n = 0
          · subst h3
            go_enter Tryd.func57, Tryd.ntmps57
            go_wp2_with fail
            go_ret
            exact ⟨rfl, HB.out⟩
          · have e3 : (0 : Int) < n := by omega
            have g3 : decide (0 < n) = true := decide_eq_true (by omega)
            rw [decide_eq_false h3]
            go_enter Tryd.func57, Tryd.ntmps57
            go_wp2_with fail
            go_ret
            exact ⟨rfl, HB.out⟩
        · have e2 := str_e0 h2
          rw [decide_eq_false h2]
          go_enter Tryd.func57, Tryd.ntmps57
          go_wp2_with fail
          go_ret
          exact ⟨rfl, HB.out⟩
  · rw [decide_eq_false h1]
    go_enter Tryd.func57, Tryd.ntmps57
    go_wp2_with fail
    go_ret
    exact ⟨rfl, HB.out⟩

set_option maxRecDepth 100000 in
set_option maxHeartbeats 1000000 in
theorem range_any (a : AgV) {w : World} (ha : AgOk w a) : Calls Tryd.prog 39 #[agVal a] w (Says (rngB a.1) w) := by
  obtain ⟨A, cap, hv, hc, hm⟩ := ha.shape
  obtain ⟨⟨kd, nn, ss, bb⟩, v⟩ := a
  dsimp only at hv hc hm ⊢
  subst hv
  have HB := Lib.hid ((Below.refl w.heap.size w).alloc (Nat.le_refl _) (.cells #[.int .i64 kd, .int .i64 nn, .string ss, .slice A bb.length cap] 43))
  simp only [maxLen] at hm
  unfold agVal rngB
  dsimp only
  clear ha
  obtain ⟨n, hn⟩ : ∃ n, bb.length = n := ⟨_, rfl⟩
  rw [hn] at hc HB ⊢
  clear hn
  by_cases k1 : kd = 1
  · subst k1
    rw [if_pos (.inl rfl)]
    by_cases h : -2147483648 ≤ nn
    · rw [decide_eq_true h]
      go_enter Tryd.func39, Tryd.ntmps39
      go_wp2_with fail
      go_ret
      exact ⟨rfl, HB.out⟩
    · rw [decide_eq_false h]
      go_enter Tryd.func39, Tryd.ntmps39
      go_wp2_with fail
      go_ret
      exact ⟨rfl, HB.out⟩
  by_cases k3 : kd = 3
  · subst k3
    rw [if_pos (.inr rfl)]
    by_cases h : -2147483648 ≤ nn
    · rw [decide_eq_true h]
      go_enter Tryd.func39, Tryd.ntmps39
      go_wp2_with fail
      go_ret
      exact ⟨rfl, HB.out⟩
    · rw [decide_eq_false h]
      go_enter Tryd.func39, Tryd.ntmps39
      go_wp2_with fail
      go_ret
      exact ⟨rfl, HB.out⟩
  rw [if_neg (by omega)]
  by_cases k2 : kd = 2
  · subst k2
    rw [if_pos (.inl rfl)]
    by_cases h : 0 ≤ nn
    · rw [decide_eq_true h]
      go_enter Tryd.func39, Tryd.ntmps39
      go_wp2_with fail
      go_ret
      exact ⟨rfl, HB.out⟩
    · rw [decide_eq_false h]
      go_enter Tryd.func39, Tryd.ntmps39
      go_wp2_with fail
      go_ret
      exact ⟨rfl, HB.out⟩
  by_cases k5 : kd = 5
  · subst k5
    rw [if_pos (.inr rfl)]
    by_cases h : 0 ≤ nn
    · rw [decide_eq_true h]
      go_enter Tryd.func39, Tryd.ntmps39
      go_wp2_with fail
      go_ret
      exact ⟨rfl, HB.out⟩
    · rw [decide_eq_false h]
      go_enter Tryd.func39, Tryd.ntmps39
      go_wp2_with fail
      go_ret
      exact ⟨rfl, HB.out⟩
  rw [if_neg (by omega)]
  by_cases k6 : kd = 6
  · subst k6
    rw [if_pos rfl]
    by_cases h : 1 ≤ nn
    · rw [decide_eq_true h]
      go_enter Tryd.func39, Tryd.ntmps39
      go_wp2_with fail
      go_ret
      exact ⟨rfl, HB.out⟩
    · rw [decide_eq_false h]
      go_enter Tryd.func39, Tryd.ntmps39
      go_wp2_with fail
      go_ret
      exact ⟨rfl, HB.out⟩
  rw [if_neg k6]
  go_enter Tryd.func39, Tryd.ntmps39
  go_wp2_with fail
  go_ret
  exact ⟨rfl, HB.out⟩

/-- whether a zero byte lies in a string from a place on -/
def zerF : List UInt8 → Bool
  | [] => false
  | c :: l => if c.toNat = 0 then true else zerF l
theorem zerF_mem (l : List UInt8) : zerF l = decide ((0 : UInt8) ∈ l) := by
  induction l with
  | nil => rfl
  | cons c l ih =>
    unfold zerF
    by_cases h : c.toNat = 0
    · have e : c = 0 := UInt8.toNat_inj.1 h
      rw [if_pos h, e]
      simp
    · have e : ¬ (0 : UInt8) = c := fun e => h (by rw [← e]; rfl)
      rw [if_neg h, ih]
      simp [e]

set_option maxRecDepth 100000 in
set_option maxHeartbeats 1000000 in
theorem zero_any (s : ByteArray) (hs : s.size ≤ maxLen) (w : World) : Calls Tryd.prog 58 #[.string s] w fun e w' => e = .returned (.bool (decide ((0 : UInt8) ∈ sl s))) ∧ w = w' := by
  obtain ⟨r, hr⟩ : ∃ r, zerF (sl s) = r := ⟨_, rfl⟩
  have HI0 : Hid (zerF (s.data.toList.drop 0) = r) := Lib.hid hr
  rw [← zerF_mem, hr]
  simp only [maxLen] at hs
  clear hr
  go_enter Tryd.func58, Tryd.ntmps58
  go_wp2_with fail
  go_loopw [3] (fun s3 wr => ∃ i : Nat, i ≤ s.size ∧ s3 = .int .i64 (i : Int) ∧ Hid (zerF (s.data.toList.drop i) = r) ∧ wr = w) (fun s3 _ => leftN s.size s3)
  case atStart => exact ⟨0, Nat.zero_le _, rfl, HI0, rfl⟩
  case round =>
    obtain ⟨i, hi, rfl, HI, rfl⟩ := hrel
    by_cases hlt : i < s.size
    · have q0 : (0 : Int) ≤ i := by omega
      have q1 : (i : Int) < s.size := by omega
      have he := HI.out
      rw [drop_byte s i hlt] at he
      unfold zerF at he
      clear HI HI0
      by_cases hk : s[i].toNat = 0
      · rw [if_pos hk] at he
        subst he
        have e0 : ((s[i].toNat : Nat) : Int) = 0 := by omega
        go_wp2_with fail
        go_ret
        exact ⟨rfl, rfl⟩
      · rw [if_neg hk] at he
        have e0 : ¬ ((s[i].toNat : Nat) : Int) = 0 := by omega
        have HI2 := Lib.hid he
        clear he
        go_wp2_with fail
        go_roundw
        case rel => exact ⟨i + 1, by omega, by go_num, HI2, trivial⟩
        case measure =>
          unfold leftN
          simp [intOf]
          omega
    · obtain rfl : i = s.size := by omega
      have he := HI.out
      rw [List.drop_of_length_le (by rw [← sizeL_eq]; omega)] at he
      unfold zerF at he
      subst he
      clear HI HI0
      go_wp2_with fail
      go_ret
      exact ⟨rfl, rfl⟩

set_option maxRecDepth 100000 in
theorem kind13_any (c : Nat) (w : World) : Calls Tryd.prog 37 #[.int .u8 (c : Int)] w fun e w' => e = .returned (.int .i64 (kindN c : Int)) ∧ w = w' := by
  unfold kindN
  by_cases h1 : c = 105
  · subst h1
    go_enter Tryd.func37, Tryd.ntmps37
    go_wp2_with fail
    go_ret
    exact ⟨rfl, rfl⟩
  rw [if_neg h1]
  by_cases h2 : c = 117
  · subst h2
    go_enter Tryd.func37, Tryd.ntmps37
    go_wp2_with fail
    go_ret
    exact ⟨rfl, rfl⟩
  rw [if_neg h2]
  by_cases h3 : c = 102
  · subst h3
    go_enter Tryd.func37, Tryd.ntmps37
    go_wp2_with fail
    go_ret
    exact ⟨rfl, rfl⟩
  rw [if_neg h3]
  by_cases h4 : c = 115
  · subst h4
    go_enter Tryd.func37, Tryd.ntmps37
    go_wp2_with fail
    go_ret
    exact ⟨rfl, rfl⟩
  rw [if_neg h4]
  by_cases h5 : c = 111
  · subst h5
    go_enter Tryd.func37, Tryd.ntmps37
    go_wp2_with fail
    go_ret
    exact ⟨rfl, rfl⟩
  rw [if_neg h5]
  by_cases h6 : c = 110
  · subst h6
    go_enter Tryd.func37, Tryd.ntmps37
    go_wp2_with fail
    go_ret
    exact ⟨rfl, rfl⟩
  rw [if_neg h6]
  by_cases h7 : c = 97
  · subst h7
    go_enter Tryd.func37, Tryd.ntmps37
    go_wp2_with fail
    go_ret
    exact ⟨rfl, rfl⟩
  rw [if_neg h7]
  have e1 : ¬ (c : Int) = 105 := by omega
  have e2 : ¬ (c : Int) = 117 := by omega
  have e3 : ¬ (c : Int) = 102 := by omega
  have e4 : ¬ (c : Int) = 115 := by omega
  have e5 : ¬ (c : Int) = 111 := by omega
  have e6 : ¬ (c : Int) = 110 := by omega
  have e7 : ¬ (c : Int) = 97 := by omega
  go_enter Tryd.func37, Tryd.ntmps37
  go_wp2_with fail
  go_ret
  exact ⟨rfl, rfl⟩

end Go.Proofs.YtmpkjjmgfakomaaDoor

namespace Go.Proofs.YtmpkjjmgfakomaaDoor
open Go.RowKit Mem Wire

set_option maxRecDepth 100000 in
set_option maxHeartbeats 2000000 in
theorem signed_any (s : ByteArray) (w : World) : Calls Tryd.prog 34 #[.string s] w fun e w' => e = .returned (.bool (sigT s)) ∧ w = w' := by
  have C := fun c W => Lib.hid (kind13_any c W)
  by_cases hs : s.size ≤ 16
  · have h0 : ¬ (16 : Int) < s.size := by omega
    obtain ⟨r, hr⟩ : ∃ r, sigF s.data.toList = r := ⟨_, rfl⟩
    have HI0 : Hid (sigF (s.data.toList.drop 0) = r) := Lib.hid hr
    have e : sigT s = r := by
      unfold sigT
      rw [decide_eq_true hs, ← sigF_all, hr]
      rfl
    rw [e]
    clear e hr
    go_enter Tryd.func34, Tryd.ntmps34
    go_wp2_with fail
    go_loopw [3] (fun s3 wr => ∃ i : Nat, i ≤ s.size ∧ s3 = .int .i64 (i : Int) ∧ Hid (sigF (s.data.toList.drop i) = r) ∧ wr = w) (fun s3 _ => leftN s.size s3)
    case atStart => exact ⟨0, Nat.zero_le _, rfl, HI0, rfl⟩
    case round =>
      obtain ⟨i, hi, rfl, HI, rfl⟩ := hrel
      by_cases hlt : i < s.size
      · have q0 : (0 : Int) ≤ i := by omega
        have q1 : (i : Int) < s.size := by omega
        have he := HI.out
        rw [drop_byte s i hlt] at he
        unfold sigF at he
        obtain ⟨x, hx⟩ : ∃ x : Nat, kindN s[i].toNat = x := ⟨_, rfl⟩
        have D := fun W => Lib.hid (by have := (C s[i].toNat W).out; rw [hx] at this; exact this)
        rw [hx] at he
        have HX : Hid (kindN s[i].toNat = x) := Lib.hid hx
        have hx7 : x ≤ 7 := by rw [← hx]; exact kindN_le _
        clear HI HI0 C hx
        by_cases hk : x = 0
        · rw [if_pos hk] at he
          subst hk
          subst he
          go_wp2_with fail
          refine (D _).out.mono ?_
          rintro e w1 ⟨rfl, rfl⟩
          go_wp2_with fail
          go_ret
          exact ⟨rfl, rfl⟩
        · rw [if_neg hk] at he
          have e0 : ¬ (x : Int) = 0 := by omega
          have HI2 := Lib.hid he
          clear he
          go_wp2_with fail
          refine (D _).out.mono ?_
          rintro e w1 ⟨rfl, rfl⟩
          go_wp2_with fail
          go_roundw
          case rel => exact ⟨i + 1, by omega, by go_num, HI2, trivial⟩
          case measure =>
            unfold leftN
            simp [intOf]
            omega
      · obtain rfl : i = s.size := by omega
        have he := HI.out
        rw [List.drop_of_length_le (by rw [← sizeL_eq]; omega)] at he
        unfold sigF at he
        subst he
        clear HI HI0 C
        go_wp2_with fail
        go_ret
        exact ⟨rfl, rfl⟩
  · have h0 : (16 : Int) < s.size := by omega
    have e : sigT s = false := by
      unfold sigT
      rw [decide_eq_false hs]
      rfl
    rw [e]
    clear C
    go_enter Tryd.func34, Tryd.ntmps34
    go_wp2_with fail
    go_ret
    exact ⟨rfl, rfl⟩

theorem arg_cells {w W : World} {b off n cap i : Nat} {l : List AgV} {p : AgV} (h : Ags w (.slice (some ⟨b, off, none⟩) n cap) l) (hp : l[i]? = some p) (hb : Below w.heap.size w W) :
    W.cell? ⟨b, off + i * 4, none⟩ = some (.int .i64 p.1.kd) ∧ W.cell? ⟨b, off + i * 4 + 1, none⟩ = some (.int .i64 p.1.nn) ∧ W.cell? ⟨b, off + i * 4 + 2, none⟩ = some (.string p.1.ss) ∧ W.cell? ⟨b, off + i * 4 + 3, none⟩ = some p.2 := by
  obtain ⟨b', off', e, _, hc, _⟩ := ags_at h hb hp
  simp only [Option.some.injEq, Addr.mk.injEq] at e
  obtain ⟨rfl, rfl, -⟩ := e
  exact hc
theorem arg_ok {w W : World} {v : Value} {l : List AgV} {p : AgV} {i : Nat} (h : Ags w v l) (hp : l[i]? = some p) (hb : Below w.heap.size w W) : AgOk W p := (h.2 p (List.mem_of_getElem? hp)).below hb

theorem chk_some {ks : List Nat} {m : Ms} (h : m.ags.length = ks.length) : chkT (some ks) m = if tidyAll m.ags ks = false then 2 else if m.oc < 0 ∨ 65535 < m.oc then 6 else if m.ags.all rngB = false then 6 else if m.ags.any zerB = true then 3 else if m.ags.any bigB = true then 5 else 0 := by
  unfold chkT
  dsimp only
  rw [if_neg (fun hh => hh h)]

/-- the value of a message -/
abbrev msVal (ob : Nat) (oc : Int) (v : Value) : Value := .agg #[.int .u32 (ob : Int), .int .i64 oc, v]

theorem kds_at (s : ByteArray) (i : Nat) (h : i < s.size) : (kdsT (sl s))[i]? = some (kindN s[i].toNat) := by
  have e : s.data.toList[i]? = some s[i] := by
    have h2 : i < s.data.toList.length := by rw [← sizeL_eq]; exact h
    rw [List.getElem?_eq_getElem h2]
    rfl
  unfold kdsT sl
  rw [List.getElem?_map, e]
  rfl
theorem kds_len (s : ByteArray) : (kdsT (sl s)).length = s.size := by
  unfold kdsT
  rw [List.length_map, sl_len]

theorem drop_cons {α : Type} {l : List α} {i : Nat} {x : α} (h : l[i]? = some x) : l.drop i = x :: l.drop (i + 1) := by
  obtain ⟨hl, rfl⟩ := List.getElem?_eq_some_iff.1 h
  exact List.drop_eq_getElem_cons hl
theorem agL_at {l : List AgV} {i : Nat} {p : AgV} (h : l[i]? = some p) : (agL l)[i]? = some p.1 := by
  unfold agL
  rw [List.getElem?_map, h]
  rfl

set_option maxRecDepth 100000 in
set_option maxHeartbeats 4000000 in
theorem check_any {w : World} {v : Value} {l : List AgV} (h : Ags w v l) (sg : ByteArray) (ob : Nat) (oc : Int) (hl40 : l.length ≤ 1000) :
    Calls Tryd.prog 23 #[.string sg, msVal ob oc v] w fun e w' => e = .returned (.int .i64 (chkT (sigK sg) ⟨ob, oc, agL l⟩)) ∧ Below w.heap.size w w' := by
  have S := fun W => Lib.hid (signed_any sg W)
  have HA := Lib.hid h
  obtain ⟨A, cap, rfl, hcap, hm⟩ := h.shape
  simp only [maxLen] at hm
  have J0 := Lib.hid ((Held.nil w).alloc [.int .u32 (ob : Int), .int .i64 oc, .slice A l.length cap] 25)
  obtain ⟨k0, hk0⟩ : ∃ k0, w.heap.size = k0 := ⟨_, rfl⟩
  obtain ⟨n, hn⟩ : ∃ n, l.length = n := ⟨_, rfl⟩
  have HN := Lib.hid hn
  rw [hn] at hcap J0 hl40 HA ⊢
  clear h
  cases hs : sigT sg with
  | false =>
    have e : chkT (sigK sg) ⟨ob, oc, agL l⟩ = 2 := by
      unfold sigK
      rw [hs, if_neg (by simp)]
      rfl
    rw [hs] at S
    rw [e]
    clear e HA HN
    go_enter Tryd.func23, Tryd.ntmps23
    go_wp2_with fail
    refine (S _).out.mono ?_
    rintro e w1 ⟨rfl, rfl⟩
    clear S
    go_wp2_with fail
    go_ret
    exact ⟨rfl, J0.out.below⟩
  | true =>
    have e : chkT (sigK sg) ⟨ob, oc, agL l⟩ = chkT (some (kdsT (sl sg))) ⟨ob, oc, agL l⟩ := by
      unfold sigK
      rw [hs, if_pos rfl]
    rw [e]
    rw [hs] at S
    clear e hs
    have hlen := kds_len sg
    by_cases hne : n = sg.size
    · have HSZ := Lib.hid hne
      obtain ⟨r, hr⟩ : ∃ r, chkT (some (kdsT (sl sg))) ⟨ob, oc, agL l⟩ = r := ⟨_, rfl⟩
      rw [hr]
      have hr2 : (if tidyAll (agL l) (kdsT (sl sg)) = false then 2 else if oc < 0 ∨ 65535 < oc then 6 else if (agL l).all rngB = false then 6 else if (agL l).any zerB = true then 3 else if (agL l).any bigB = true then 5 else (0 : Int)) = r := by
        rw [← hr]
        exact (chk_some (ks := kdsT (sl sg)) (m := ⟨ob, oc, agL l⟩) (by rw [hlen]; show (l.map Prod.fst).length = _; rw [List.length_map, HN.out]; exact hne)).symm
      clear hr
      obtain ⟨t1, ht1⟩ : ∃ t1, tidyAll (agL l) (kdsT (sl sg)) = t1 := ⟨_, rfl⟩
      obtain ⟨r1, hr1⟩ : ∃ r1, (agL l).all rngB = r1 := ⟨_, rfl⟩
      obtain ⟨z1, hz1⟩ : ∃ z1, (agL l).any zerB = z1 := ⟨_, rfl⟩
      obtain ⟨b1, hb1⟩ : ∃ b1, (agL l).any bigB = b1 := ⟨_, rfl⟩
      rw [ht1, hr1, hz1, hb1] at hr2
      have HR := Lib.hid hr2
      have HT0 : Hid (tidyAll ((agL l).drop 0) ((kdsT (sl sg)).drop 0) = t1) := Lib.hid ht1
      have HR0 : Hid (((agL l).drop 0).all rngB = r1) := Lib.hid hr1
      have HZ0 : Hid (((agL l).drop 0).any zerB = z1) := Lib.hid hz1
      have HB0 : Hid (((agL l).drop 0).any bigB = b1) := Lib.hid hb1
      have HL := Lib.hid hlen
      clear hr2 ht1 hr1 hz1 hb1 hlen hn hk0 hne
      have q1 : (n : Int) = (sg.size : Int) := by have := HSZ.out; omega
      have q2 : ((n : Int) != (sg.size : Int)) = false := by rw [q1]; simp
      have KD := fun c W => Lib.hid (kind13_any c W)
      go_enter Tryd.func23, Tryd.ntmps23
      go_wp2_with fail
      refine (S _).out.mono ?_
      rintro e w1 ⟨rfl, rfl⟩
      clear S
      go_wp2_with fail
      clear q1 q2
      go_loopw [5] (fun s5 wr => ∃ i : Nat, i ≤ n ∧ s5 = .int .i64 (i : Int) ∧ Hid (tidyAll ((agL l).drop i) ((kdsT (sl sg)).drop i) = t1) ∧ Hid (Held w wr [(w.heap.size, [.int .u32 (ob : Int), .int .i64 oc, .slice A n cap])])) (fun s5 _ => leftN n s5)
      case atStart => exact ⟨0, Nat.zero_le _, rfl, HT0, J0⟩
      case round =>
        clear J0 HT0
        obtain ⟨i, hi, rfl, HT, J⟩ := hrel
        obtain ⟨y0, y1, y2, -, -⟩ := (show Held w wr ([] ++ (w.heap.size, _) :: []) from J.out).tri
        by_cases hlt : i < n
        · have q0 : (0 : Int) ≤ i := by omega
          have q1 : (i : Int) < n := by omega
          have q2 : (i : Int) < sg.size := by have := HSZ.out; omega
          obtain ⟨p, hp⟩ : ∃ p, l[i]? = some p := ⟨_, List.getElem?_eq_getElem (by rw [HN.out]; exact hlt)⟩
          have h2 : i < sg.size := by have := HSZ.out; omega
          have hx := HT.out
          rw [drop_cons (agL_at hp), drop_cons (kds_at sg i h2)] at hx
          unfold tidyAll at hx
          obtain ⟨b, off, rfl, hb, -, -⟩ := ags_at HA.out J.out.below hp
          have AC := Lib.hid (fun (W : World) (hb : Below w.heap.size w W) => arg_cells HA.out hp (W := W) hb)
          have TD0 := fun (W : World) (hb : Below w.heap.size w W) => tidy_any p (kindN sg[i].toNat) (arg_ok HA.out hp hb)
          obtain ⟨⟨kd, nn, ss, bb⟩, pv⟩ := p
          dsimp only [agVal] at TD0 AC hx
          obtain ⟨t, ht⟩ : ∃ t, tidyB ⟨kd, nn, ss, bb⟩ (kindN sg[i].toNat) = t := ⟨_, rfl⟩
          rw [ht] at hx TD0
          have TD := fun W hb => Lib.hid (TD0 W hb)
          clear TD0 ht hp HT
          go_upto_region 6 with (fail)
          replace J := Lib.hid J.out.drew
          have sk := And.intro (J.out.tri (l1 := [])).2.2.1 (AC.out _ J.out.below)
          cases t with
          | false =>
            have e : r = 2 := by
              rw [← HR.out, ← hx]
              rfl
            subst e
            clear HR hx HR0 HZ0 HB0
            go_region_held3 (fun W => W.cell? ⟨w.heap.size, 2, none⟩ = some (.slice (some ⟨b, off, none⟩) n cap) ∧ W.cell? ⟨b, off + i * 4, none⟩ = some (.int .i64 kd) ∧ W.cell? ⟨b, off + i * 4 + 1, none⟩ = some (.int .i64 nn) ∧ W.cell? ⟨b, off + i * 4 + 2, none⟩ = some (.string ss) ∧ W.cell? ⟨b, off + i * 4 + 3, none⟩ = some pv)
              (first
                | exact sk
                | go_keep)
              (first
                | (go_at_call 37; (with_reducible refine (KD _ _).out.mono ?_); rintro e wq ⟨rfl, rfl⟩)
                | (go_at_call 57; (with_reducible refine (TD _ J.out.below).out.mono ?_); rintro e wq ⟨rfl, hb2⟩; replace J := Lib.hid (J.out.step hb2); clear sk hb2; have sk := And.intro (J.out.tri (l1 := [])).2.2.1 (AC.out _ J.out.below))
                | fail)
            all_goals
              go_wp2_with fail
              go_ret
              exact ⟨rfl, J.out.below⟩
          | true =>
            rw [Bool.true_and] at hx
            have HT2 := Lib.hid hx
            clear hx
            go_region_held3 (fun W => W.cell? ⟨w.heap.size, 2, none⟩ = some (.slice (some ⟨b, off, none⟩) n cap) ∧ W.cell? ⟨b, off + i * 4, none⟩ = some (.int .i64 kd) ∧ W.cell? ⟨b, off + i * 4 + 1, none⟩ = some (.int .i64 nn) ∧ W.cell? ⟨b, off + i * 4 + 2, none⟩ = some (.string ss) ∧ W.cell? ⟨b, off + i * 4 + 3, none⟩ = some pv)
              (first
                | exact sk
                | go_keep)
              (first
                | (go_at_call 37; (with_reducible refine (KD _ _).out.mono ?_); rintro e wq ⟨rfl, rfl⟩)
                | (go_at_call 57; (with_reducible refine (TD _ J.out.below).out.mono ?_); rintro e wq ⟨rfl, hb2⟩; replace J := Lib.hid (J.out.step hb2); clear sk hb2; have sk := And.intro (J.out.tri (l1 := [])).2.2.1 (AC.out _ J.out.below))
                | fail)
            all_goals
              go_wp2_with fail
              go_roundw
              case rel => exact ⟨i + 1, by omega, by go_num, HT2, J⟩
              case measure =>
                unfold leftN
                simp [intOf]
                omega
        · obtain rfl : n = i := by omega
          have hx := HT.out
          rw [List.drop_of_length_le (by show (l.map Prod.fst).length ≤ _; rw [List.length_map, HN.out]; omega)] at hx
          have ht1 : t1 = true := by rw [← hx]; rfl
          subst ht1
          clear HT hx KD
          by_cases o1 : oc < 0
          · have e : r = 6 := by rw [← HR.out, if_neg (by simp), if_pos (.inl o1)]
            subst e
            clear HR HR0 HZ0 HB0
            go_wp2_with fail
            go_ret
            exact ⟨rfl, J.out.below⟩
          have o1' : decide (oc < 0) = false := decide_eq_false o1
          by_cases o2 : 65535 < oc
          · have e : r = 6 := by rw [← HR.out, if_neg (by simp), if_pos (.inr o2)]
            subst e
            have o2' : decide (65535 < oc) = true := decide_eq_true o2
            clear HR HR0 HZ0 HB0
            go_wp2_with fail
            go_ret
            exact ⟨rfl, J.out.below⟩
          have o2' : decide (65535 < oc) = false := decide_eq_false o2
          have hr3 := HR.out
          rw [if_neg (by simp), if_neg (by omega)] at hr3
          replace HR := Lib.hid hr3
          clear hr3
          go_wp2_with fail
          clear o1 o2 o1' o2' y0 y1 y2
          obtain ⟨wu6, rfl⟩ : ∃ x, x = wr := ⟨_, rfl⟩
          go_loopw [6] (fun s6 wr => ∃ i : Nat, i ≤ n ∧ s6 = .int .i64 (i : Int) ∧ Hid (((agL l).drop i).all rngB = r1) ∧ Hid (Held w wr [(w.heap.size, [.int .u32 (ob : Int), .int .i64 oc, .slice A n cap])])) (fun s6 _ => leftN n s6)
          case atStart => exact ⟨0, Nat.zero_le _, rfl, HR0, J⟩
          case round =>
            clear J HR0
            obtain ⟨i, hi, rfl, HT, J⟩ := hrel
            obtain ⟨y0, y1, y2, -, -⟩ := (show Held w wr ([] ++ (w.heap.size, _) :: []) from J.out).tri
            by_cases hlt : i < n
            · have q0 : (0 : Int) ≤ i := by omega
              have q1 : (i : Int) < n := by omega
              obtain ⟨p, hp⟩ : ∃ p, l[i]? = some p := ⟨_, List.getElem?_eq_getElem (by rw [HN.out]; exact hlt)⟩
              have hx := HT.out
              rw [drop_cons (agL_at hp)] at hx
              obtain ⟨b, off, rfl, hb, -, -⟩ := ags_at HA.out J.out.below hp
              have OK := arg_ok HA.out hp J.out.below
              obtain ⟨c0, c1, c2, c3⟩ := arg_cells HA.out hp J.out.below
              obtain ⟨⟨kd, nn, ss, bb⟩, pv⟩ := p
              dsimp only at c0 c1 c2 c3 hx
              rw [List.all_cons] at hx
              have RD0 := range_any (⟨kd, nn, ss, bb⟩, pv) OK
              dsimp only [agVal] at RD0
              obtain ⟨t, ht⟩ : ∃ t, rngB ⟨kd, nn, ss, bb⟩ = t := ⟨_, rfl⟩
              rw [ht] at hx RD0
              have RD := Lib.hid RD0
              clear RD0 ht hp HT OK
              cases t with
              | false =>
                have hr1 : r1 = false := hx.symm
                subst hr1
                have e : r = 6 := HR.out.symm
                subst e
                clear HR hx HZ0 HB0
                go_wp2_with fail
                refine RD.out.mono ?_
                rintro e wq ⟨rfl, hb2⟩
                replace J := Lib.hid (J.out.step hb2)
                clear RD hb2
                go_wp2_with fail
                go_ret
                exact ⟨rfl, J.out.below⟩
              | true =>
                rw [Bool.true_and] at hx
                have HT2 := Lib.hid hx
                clear hx
                go_wp2_with fail
                refine RD.out.mono ?_
                rintro e wq ⟨rfl, hb2⟩
                replace J := Lib.hid (J.out.step hb2)
                clear RD hb2
                go_wp2_with fail
                go_roundw
                case rel => exact ⟨i + 1, by omega, by go_num, HT2, J⟩
                case measure =>
                  unfold leftN
                  simp [intOf]
                  omega
            · obtain rfl : n = i := by omega
              have hx := HT.out
              rw [List.drop_of_length_le (by show (l.map Prod.fst).length ≤ _; rw [List.length_map, HN.out]; omega)] at hx
              clear HT
              have hr1 : r1 = true := hx.symm
              subst hr1
              clear hx y0 y1
              go_wp2_with fail
              obtain ⟨wu7, rfl⟩ : ∃ x, x = wr := ⟨_, rfl⟩
              go_loopw [7] (fun s7 wr => ∃ i : Nat, i ≤ n ∧ s7 = .int .i64 (i : Int) ∧ Hid (((agL l).drop i).any zerB = z1) ∧ Hid (Held w wr [(w.heap.size, [.int .u32 (ob : Int), .int .i64 oc, .slice A n cap])])) (fun s7 _ => leftN n s7)
              case atStart => exact ⟨0, Nat.zero_le _, rfl, HZ0, J⟩
              case round =>
                clear J HZ0
                obtain ⟨i, hi, rfl, HT, J⟩ := hrel
                obtain ⟨y0, y1, y2, -, -⟩ := (show Held w wr ([] ++ (w.heap.size, _) :: []) from J.out).tri
                by_cases hlt : i < n
                · have q0 : (0 : Int) ≤ i := by omega
                  have q1 : (i : Int) < n := by omega
                  obtain ⟨p, hp⟩ : ∃ p, l[i]? = some p := ⟨_, List.getElem?_eq_getElem (by rw [HN.out]; exact hlt)⟩
                  have hx := HT.out
                  rw [drop_cons (agL_at hp)] at hx
                  obtain ⟨b, off, rfl, hb, -, -⟩ := ags_at HA.out J.out.below hp
                  have OK := arg_ok HA.out hp J.out.below
                  obtain ⟨c0, c1, c2, c3⟩ := arg_cells HA.out hp J.out.below
                  obtain ⟨⟨kd, nn, ss, bb⟩, pv⟩ := p
                  dsimp only at c0 c1 c2 c3 hx
                  rw [List.any_cons] at hx
                  have RD0 := zero_any ss OK.2 wr
                  obtain ⟨t, ht⟩ : ∃ t, decide ((0 : UInt8) ∈ sl ss) = t := ⟨_, rfl⟩
                  have ht2 : zerB ⟨kd, nn, ss, bb⟩ = t := ht
                  rw [ht2] at hx
                  rw [ht] at RD0
                  have RD := Lib.hid RD0
                  clear RD0 ht ht2 hp HT OK
                  cases t with
                  | true =>
                    have hz1 : z1 = true := hx.symm
                    subst hz1
                    have e : r = 3 := HR.out.symm
                    subst e
                    clear HR hx HB0
                    go_wp2_with fail
                    refine RD.out.mono ?_
                    rintro e wq ⟨rfl, rfl⟩
                    clear RD
                    go_wp2_with fail
                    go_ret
                    exact ⟨rfl, J.out.below⟩
                  | false =>
                    rw [Bool.false_or] at hx
                    have HT2 := Lib.hid hx
                    clear hx
                    go_wp2_with fail
                    refine RD.out.mono ?_
                    rintro e wq ⟨rfl, rfl⟩
                    clear RD
                    go_wp2_with fail
                    go_roundw
                    case rel => exact ⟨i + 1, by omega, by go_num, HT2, J⟩
                    case measure =>
                      unfold leftN
                      simp [intOf]
                      omega
                · obtain rfl : n = i := by omega
                  have hx := HT.out
                  rw [List.drop_of_length_le (by show (l.map Prod.fst).length ≤ _; rw [List.length_map, HN.out]; omega)] at hx
                  clear HT
                  have hz1 : z1 = false := hx.symm
                  subst hz1
                  clear hx y0 y1
                  go_wp2_with fail
                  obtain ⟨wu8, rfl⟩ : ∃ x, x = wr := ⟨_, rfl⟩
                  go_loopw [8] (fun s8 wr => ∃ i : Nat, i ≤ n ∧ s8 = .int .i64 (i : Int) ∧ Hid (((agL l).drop i).any bigB = b1) ∧ Hid (Held w wr [(w.heap.size, [.int .u32 (ob : Int), .int .i64 oc, .slice A n cap])])) (fun s8 _ => leftN n s8)
                  case atStart => exact ⟨0, Nat.zero_le _, rfl, HB0, J⟩
                  case round =>
                    clear J HB0
                    obtain ⟨i, hi, rfl, HT, J⟩ := hrel
                    obtain ⟨y0, y1, y2, -, -⟩ := (show Held w wr ([] ++ (w.heap.size, _) :: []) from J.out).tri
                    by_cases hlt : i < n
                    · have q0 : (0 : Int) ≤ i := by omega
                      have q1 : (i : Int) < n := by omega
                      obtain ⟨p, hp⟩ : ∃ p, l[i]? = some p := ⟨_, List.getElem?_eq_getElem (by rw [HN.out]; exact hlt)⟩
                      have hx := HT.out
                      rw [drop_cons (agL_at hp)] at hx
                      obtain ⟨b, off, rfl, hb, -, -⟩ := ags_at HA.out J.out.below hp
                      have OK := arg_ok HA.out hp J.out.below
                      obtain ⟨c0, c1, c2, c3⟩ := arg_cells HA.out hp J.out.below
                      obtain ⟨⟨kd, nn, ss, bb⟩, pv⟩ := p
                      dsimp only at c0 c1 c2 c3 hx
                      rw [List.any_cons] at hx
                      obtain ⟨A2, cap2, hv2, hc2, hm2⟩ := OK.shape
                      dsimp only at hv2 hc2 hm2
                      subst hv2
                      simp only [maxLen] at hm2
                      obtain ⟨bl, hbl⟩ : ∃ bl, bb.length = bl := ⟨_, rfl⟩
                      have hbig : bigB ⟨kd, nn, ss, bb⟩ = (decide (1024 < ss.size) || decide (1024 < bl)) := by rw [← hbl]; rfl
                      rw [hbig] at hx
                      rw [hbl] at c3 hc2
                      have hss := OK.2
                      simp only [maxLen] at hss
                      clear hbig hbl hp HT OK
                      by_cases g1 : 1024 < ss.size
                      · rw [decide_eq_true g1] at hx
                        have g2 : (1024 : Int) < ss.size := by omega
                        have hb1 : b1 = true := hx.symm
                        subst hb1
                        have e : r = 5 := HR.out.symm
                        subst e
                        clear HR hx
                        go_wp2_with fail
                        go_ret
                        exact ⟨rfl, J.out.below⟩
                      · have g2 : ¬ (1024 : Int) < ss.size := by omega
                        have g3 : decide (1024 < ss.size) = false := decide_eq_false g1
                        rw [g3] at hx
                        by_cases g4 : 1024 < bl
                        · rw [decide_eq_true g4] at hx
                          have g5 : (1024 : Int) < bl := by omega
                          have g6 : decide (1024 < bl) = true := decide_eq_true g4
                          have hb1 : b1 = true := hx.symm
                          subst hb1
                          have e : r = 5 := HR.out.symm
                          subst e
                          clear HR hx
                          go_wp2_with fail
                          go_ret
                          exact ⟨rfl, J.out.below⟩
                        · have g5 : ¬ (1024 : Int) < bl := by omega
                          have g6 : decide (1024 < bl) = false := decide_eq_false g4
                          rw [g6] at hx
                          have HT2 : Hid (((agL l).drop (i + 1)).any bigB = b1) := Lib.hid hx
                          clear hx
                          go_wp2_with fail
                          go_roundw
                          case rel => exact ⟨i + 1, by omega, by go_num, HT2, J⟩
                          case measure =>
                            unfold leftN
                            simp [intOf]
                            omega
                    · obtain rfl : n = i := by omega
                      have hx := HT.out
                      rw [List.drop_of_length_le (by show (l.map Prod.fst).length ≤ _; rw [List.length_map, HN.out]; omega)] at hx
                      clear HT
                      have hb1 : b1 = false := hx.symm
                      subst hb1
                      have e : r = 0 := HR.out.symm
                      subst e
                      clear HR hx
                      go_wp2_with fail
                      go_ret
                      exact ⟨rfl, J.out.below⟩

    · have e : chkT (some (kdsT (sl sg))) ⟨ob, oc, agL l⟩ = 2 := by
        unfold chkT
        dsimp only
        rw [if_pos (by rw [hlen]; unfold agL; rw [List.length_map, HN.out]; exact hne)]
      have q1 : ¬ (n : Int) = (sg.size : Int) := by omega
      have q2 : ((n : Int) != (sg.size : Int)) = true := bne_iff_ne.2 q1
      rw [e]
      clear e HA HN
      go_enter Tryd.func23, Tryd.ntmps23
      go_wp2_with fail
      refine (S _).out.mono ?_
      rintro e w1 ⟨rfl, rfl⟩
      clear S
      go_wp2_with fail
      go_ret
      exact ⟨rfl, J0.out.below⟩

end Go.Proofs.YtmpkjjmgfakomaaDoor

namespace Go.Proofs.YtmpkjjmgfakomaaDoor
open Go.RowKit Mem Wire

def litB (a : Ag) : Bool := !(decide (1100 < a.ss.size) || decide (1100 < a.bb.length))
def lightB (n : Nat) (l : List AgV) : Bool := !(decide (40 < n) || decide (40 < l.length)) && (agL l).all litB

set_option maxRecDepth 100000 in
set_option maxHeartbeats 4000000 in
theorem light_any {w : World} {v : Value} {l : List AgV} (h : Ags w v l) (sg : ByteArray) (ob : Nat) (oc : Int) :
    Calls Tryd.prog 10 #[.string sg, msVal ob oc v] w (Says (lightB sg.size l) w) := by
  have HA := Lib.hid h
  obtain ⟨A, cap, rfl, hcap, hm⟩ := h.shape
  simp only [maxLen] at hm
  have J0 := Lib.hid ((Held.nil w).alloc [.int .u32 (ob : Int), .int .i64 oc, .slice A l.length cap] 25)
  obtain ⟨n, hn⟩ : ∃ n, l.length = n := ⟨_, rfl⟩
  have HN := Lib.hid hn
  obtain ⟨r, hr⟩ : ∃ r, lightB sg.size l = r := ⟨_, rfl⟩
  rw [hr]
  unfold lightB at hr
  rw [hn] at hcap J0 HA hr ⊢
  have HR := Lib.hid hr
  clear h hn hr
  by_cases h1 : 40 < sg.size
  · have e : r = false := by rw [← HR.out, decide_eq_true h1]; rfl
    subst e
    have q1 : (40 : Int) < sg.size := by omega
    clear HR HA HN
    go_enter Tryd.func10, Tryd.ntmps10
    go_wp2_with fail
    go_ret
    exact ⟨rfl, J0.out.below⟩
  · have q1 : ¬ (40 : Int) < sg.size := by omega
    by_cases h2 : 40 < n
    · have e : r = false := by rw [← HR.out, decide_eq_true h2, Bool.or_true]; rfl
      subst e
      have q2 : (40 : Int) < n := by omega
      have q3 : decide (40 < n) = true := decide_eq_true h2
      clear HR HA HN
      go_enter Tryd.func10, Tryd.ntmps10
      go_wp2_with fail
      go_ret
      exact ⟨rfl, J0.out.below⟩
    · have q2 : ¬ (40 : Int) < n := by omega
      have q3 : decide (40 < n) = false := decide_eq_false h2
      have hr := HR.out
      rw [decide_eq_false h1, q3, Bool.or_self, Bool.not_false, Bool.true_and] at hr
      have HT0 : Hid (((agL l).drop 0).all litB = r) := Lib.hid hr
      clear HR hr
      go_enter Tryd.func10, Tryd.ntmps10
      go_wp2_with fail
      clear q1 q2 q3
      go_loopw [5] (fun s5 wr => ∃ i : Nat, i ≤ n ∧ s5 = .int .i64 (i : Int) ∧ Hid (((agL l).drop i).all litB = r) ∧ Hid (Held w wr [(w.heap.size, [.int .u32 (ob : Int), .int .i64 oc, .slice A n cap])])) (fun s5 _ => leftN n s5)
      case atStart => exact ⟨0, Nat.zero_le _, rfl, HT0, J0⟩
      case round =>
        clear J0 HT0
        obtain ⟨i, hi, rfl, HT, J⟩ := hrel
        obtain ⟨y0, y1, y2, -, -⟩ := (show Held w wr ([] ++ (w.heap.size, _) :: []) from J.out).tri
        by_cases hlt : i < n
        · have q0 : (0 : Int) ≤ i := by omega
          have q1 : (i : Int) < n := by omega
          obtain ⟨p, hp⟩ : ∃ p, l[i]? = some p := ⟨_, List.getElem?_eq_getElem (by rw [HN.out]; exact hlt)⟩
          have hx := HT.out
          rw [drop_cons (agL_at hp)] at hx
          obtain ⟨b, off, rfl, hb, -, -⟩ := ags_at HA.out J.out.below hp
          have OK := arg_ok HA.out hp J.out.below
          obtain ⟨c0, c1, c2, c3⟩ := arg_cells HA.out hp J.out.below
          obtain ⟨⟨kd, nn, ss, bb⟩, pv⟩ := p
          dsimp only at c0 c1 c2 c3 hx
          rw [List.all_cons] at hx
          obtain ⟨A2, cap2, hv2, hc2, hm2⟩ := OK.shape
          dsimp only at hv2 hc2 hm2
          subst hv2
          simp only [maxLen] at hm2
          obtain ⟨bl, hbl⟩ : ∃ bl, bb.length = bl := ⟨_, rfl⟩
          have hbig : litB ⟨kd, nn, ss, bb⟩ = !(decide (1100 < ss.size) || decide (1100 < bl)) := by rw [← hbl]; rfl
          rw [hbig] at hx
          rw [hbl] at c3 hc2
          have hss := OK.2
          simp only [maxLen] at hss
          clear hbig hbl hp HT OK
          by_cases g1 : 1100 < ss.size
          · rw [decide_eq_true g1] at hx
            have g2 : (1100 : Int) < ss.size := by omega
            have e : r = false := hx.symm
            subst e
            clear hx
            go_wp2_with fail
            go_ret
            exact ⟨rfl, J.out.below⟩
          · have g2 : ¬ (1100 : Int) < ss.size := by omega
            rw [decide_eq_false g1] at hx
            by_cases g4 : 1100 < bl
            · rw [decide_eq_true g4] at hx
              have g5 : (1100 : Int) < bl := by omega
              have g6 : decide (1100 < bl) = true := decide_eq_true g4
              have e : r = false := hx.symm
              subst e
              clear hx
              go_wp2_with fail
              go_ret
              exact ⟨rfl, J.out.below⟩
            · have g5 : ¬ (1100 : Int) < bl := by omega
              have g6 : decide (1100 < bl) = false := decide_eq_false g4
              rw [g6] at hx
              have HT2 : Hid (((agL l).drop (i + 1)).all litB = r) := Lib.hid hx
              clear hx
              go_wp2_with fail
              go_roundw
              case rel => exact ⟨i + 1, by omega, by go_num, HT2, J⟩
              case measure =>
                unfold leftN
                simp [intOf]
                omega
        · obtain rfl : n = i := by omega
          have hx := HT.out
          rw [List.drop_of_length_le (by show (l.map Prod.fst).length ≤ _; rw [List.length_map, HN.out]; omega)] at hx
          clear HT
          have e : r = true := hx.symm
          subst e
          clear hx
          go_wp2_with fail
          go_ret
          exact ⟨rfl, J.out.below⟩

end Go.Proofs.YtmpkjjmgfakomaaDoor
