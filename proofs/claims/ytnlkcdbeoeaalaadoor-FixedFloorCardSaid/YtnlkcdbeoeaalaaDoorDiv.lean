/-
  math/bits: LeadingZeros64 and Div64, at whatever words.
-/
import Derived.Test.YtnlkcdbeoeaalaaDoorBase
import Derived.Test.YtnlkcdbeoeaalaaDoorQuo
namespace Go.Proofs.YtnlkcdbeoeaalaaDoor
open Go.RowKit

theorem wrap_nat {a : Nat} (h : a < 18446744073709551616) : IntKind.u64.wrap (a : Int) = (a : Int) := by rw [IntKind.wrap_u64]; omega
theorem wrap_mod (a : Nat) : IntKind.u64.wrap (a : Int) = ((a % 18446744073709551616 : Nat) : Int) := by rw [IntKind.wrap_u64]; omega
theorem cast_shl (a s : Nat) : (a : Int) * 2 ^ s = ((a * 2 ^ s : Nat) : Int) := by push_cast; rfl
theorem mask32 {a : Nat} (ha : a < 18446744073709551616) : bits .and .u64 (a : Int) 4294967295 = ((a % 4294967296 : Nat) : Int) := by
  have h := bits_and_u64_nat a 4294967295 ha (by omega)
  have e : a &&& 4294967295 = a % 4294967296 := Nat.and_two_pow_sub_one_eq_mod a 32
  rw [e] at h
  exact h

/-- what is left behind a digit, as the words reckon it -/
theorem rem_run (un d Y D : Nat) (hY : 0 < Y) (hY2 : Y < 18446744073709551616) (hd : d < 4294967296) (hD : (un * 4294967296 + d) / Y = D) :
    ∃ z1 z2 z3 : Nat, IntKind.u64.wrap ((un : Int) * 4294967296) = (z1 : Int) ∧ IntKind.u64.wrap ((z1 : Int) + (d : Int)) = (z2 : Int) ∧ (z1 : Int) + (d : Int) = (z2 : Int) ∧
      IntKind.u64.wrap ((D : Int) * (Y : Int)) = (z3 : Int) ∧ IntKind.u64.wrap ((z2 : Int) - (z3 : Int)) = (((un * 4294967296 + d) % Y : Nat) : Int) ∧ z1 < 18446744073709551616 ∧ z2 < 18446744073709551616 ∧ z3 < 18446744073709551616 := by
  have h1 : un * 4294967296 % 18446744073709551616 + d = (un * 4294967296 + d) % 18446744073709551616 := by omega
  have hm : ∀ n : Nat, n % 18446744073709551616 < 18446744073709551616 := fun n => Nat.mod_lt _ (by decide)
  refine ⟨un * 4294967296 % 18446744073709551616, (un * 4294967296 + d) % 18446744073709551616, D * Y % 18446744073709551616, ?_, ?_, ?_, ?_, ?_, hm _, hm _, hm _⟩
  · rw [← wrap_mod, Int.natCast_mul]; rfl
  · rw [← Int.natCast_add, h1, wrap_nat (hm _)]
  · rw [← Int.natCast_add, h1]
  · rw [← Int.natCast_mul, wrap_mod]
  · rw [IntKind.wrap_u64, ← hD]
    exact rem_mod hY (Nat.le_of_lt hY2)

/-- how much is left of a digit's base -/
def below32 (v : Value) : Nat := 4294967296 - (intOf v).toNat
theorem below32_lt {r r' d : Nat} (h : r + d = r') (hd : 0 < d) (hr : r < 4294967296) : below32 (.int .u64 (r' : Int)) < below32 (.int .u64 (r : Int)) := by
  have e : ∀ n : Nat, below32 (.int .u64 (n : Int)) = 4294967296 - n := fun n => by
    show 4294967296 - ((n : Int)).toNat = _
    rw [Int.toNat_natCast]
  rw [e, e]
  omega

/-- what a digit's loop keeps -/
def Digit (un N Y yn1 : Nat) (sq sr : Value) : Prop := ∃ q r : Nat, sq = .int .u64 (q : Int) ∧ sr = .int .u64 (r : Int) ∧ q < 18446744073709551616 ∧ r < 4294967296 ∧ Hid (Est un N Y yn1 q r)

/-- the upper word, moved up, beside what comes up from the lower one -/
theorem or_words {h l s : Nat} (hl : l < 2 ^ s) (h64 : h * 2 ^ s + l < 18446744073709551616) : bits .or .u64 ((h * 2 ^ s : Nat) : Int) (l : Int) = ((h * 2 ^ s + l : Nat) : Int) := by
  have e := Nat.two_pow_add_eq_or_of_lt hl h
  rw [u64_or_nat _ _ (by omega) (by omega), Nat.mul_comm h, e]

set_option maxRecDepth 100000 in
set_option maxHeartbeats 8000000 in
theorem div_big (hi lo y s : Nat) (w : World) (hhi : 0 < hi) (hy : hi < y) (hyw : y < 18446744073709551616) (hlo : lo < 18446744073709551616)
    (hs : s < 64) (hn : 9223372036854775808 ≤ y * 2 ^ s) (hn2 : y * 2 ^ s < 18446744073709551616) (hlz : ∀ w, Calls Tryd.prog 73 #[.int .u64 y] w fun e w' => e = .returned (.int .i64 (s : Int)) ∧ w' = w) :
    Calls Tryd.prog 60 #[.int .u64 hi, .int .u64 lo, .int .u64 y] w fun e w' => e = .returned (.tuple #[.int .u64 (((hi * 18446744073709551616 + lo) / y : Nat) : Int), .int .u64 (((hi * 18446744073709551616 + lo) % y : Nat) : Int)]) ∧ w' = w := by
  have q1 : ((y : Int) == 0) = false := by rw [beq_eq_false_iff_ne]; omega
  have q2 : ((hi : Int) == 0) = false := by rw [beq_eq_false_iff_ne]; omega
  have q3 : ¬ (y : Int) ≤ hi := by omega
  have q4 : (s : Int) ≤ 64 := by omega
  have q5 : (0 : Int) ≤ s := by omega
  have hpp : 2 ^ s * 2 ^ (64 - s) = 18446744073709551616 := by
    rw [← Nat.pow_add, show s + (64 - s) = 64 by omega]
  have hp0 : 0 < 2 ^ s := Nat.two_pow_pos s
  have hp2 : 0 < 2 ^ (64 - s) := Nat.two_pow_pos _
  obtain ⟨hun, hsum⟩ := shifted hpp hp0 hy hlo
  have hl1 : lo / 2 ^ (64 - s) < 2 ^ s := by rw [Nat.div_lt_iff_lt_mul hp2, hpp]; exact hlo
  have e1 : IntKind.u64.wrap ((y : Int) * 2 ^ s) = ((y * 2 ^ s : Nat) : Int) := by rw [cast_shl, wrap_nat hn2]
  have e4 : IntKind.u64.wrap ((hi : Int) * 2 ^ s) = ((hi * 2 ^ s : Nat) : Int) := by rw [cast_shl, wrap_nat (Nat.lt_of_le_of_lt (Nat.le_add_right _ _) (Nat.lt_trans hun hn2))]
  have e5 : (lo : Int) / 2 ^ (64 - s) = ((lo / 2 ^ (64 - s) : Nat) : Int) := by rw [Int.natCast_ediv, Int.natCast_pow]; rfl
  have e6 : bits .or .u64 ((hi * 2 ^ s : Nat) : Int) ((lo / 2 ^ (64 - s) : Nat) : Int) = ((hi * 2 ^ s + lo / 2 ^ (64 - s) : Nat) : Int) := or_words hl1 (Nat.lt_trans hun hn2)
  have e7 : IntKind.u64.wrap ((lo : Int) * 2 ^ s) = ((lo * 2 ^ s % 18446744073709551616 : Nat) : Int) := by rw [cast_shl, wrap_mod]
  have hmm : lo * 2 ^ s % 18446744073709551616 < 18446744073709551616 := Nat.mod_lt _ (by decide)
  obtain ⟨un10, hun10⟩ : ∃ n, lo * 2 ^ s % 18446744073709551616 = n := ⟨_, rfl⟩
  obtain ⟨un32, hun32⟩ : ∃ n, hi * 2 ^ s + lo / 2 ^ (64 - s) = n := ⟨_, rfl⟩
  obtain ⟨Y, hYe⟩ : ∃ n, y * 2 ^ s = n := ⟨_, rfl⟩
  obtain ⟨Hh, hHh⟩ : ∃ n, hi * 2 ^ s = n := ⟨_, rfl⟩
  obtain ⟨Ll, hLl⟩ : ∃ n, lo / 2 ^ (64 - s) = n := ⟨_, rfl⟩
  obtain ⟨p, hp⟩ : ∃ n, 2 ^ s = n := ⟨_, rfl⟩
  rw [hun10] at hsum hmm e7
  rw [hun32] at hsum hun e6
  rw [hYe] at e1 hn hn2 hun
  rw [hHh] at e4 e6
  rw [hLl] at e5 e6
  have hU : (hi * 18446744073709551616 + lo) * p = un32 * 4294967296 * 4294967296 + un10 / 4294967296 * 4294967296 + un10 % 4294967296 := by rw [← hp, hsum]; omega
  have HU := Lib.hid hU
  have HYp := Lib.hid (show y * p = Y by rw [← hp]; exact hYe)
  have hp00 := Lib.hid (show 0 < p by rw [← hp]; exact hp0)
  have HP := Lib.hid hp
  clear hU hsum hun10 hun32 hYe hHh hLl hp hpp hl1 hp0 hp2
  have e8 : (un10 : Int) / 4294967296 = ((un10 / 4294967296 : Nat) : Int) := by omega
  have e9 : bits .and .u64 (un10 : Int) 4294967295 = ((un10 % 4294967296 : Nat) : Int) := mask32 hmm
  have e2 : (Y : Int) / 4294967296 = ((Y / 4294967296 : Nat) : Int) := by omega
  have e3 : bits .and .u64 (Y : Int) 4294967295 = ((Y % 4294967296 : Nat) : Int) := mask32 hn2
  have hYs : Y = Y / 4294967296 * 4294967296 + Y % 4294967296 := by omega
  have hb1 : 2147483648 ≤ Y / 4294967296 := by omega
  have hb2 : Y / 4294967296 < 4294967296 := by omega
  have hb3 : Y % 4294967296 < 4294967296 := by omega
  have hb4 : un10 / 4294967296 < 4294967296 := by omega
  have hb5 : un10 % 4294967296 < 4294967296 := by omega
  obtain ⟨yn1, hyn1⟩ : ∃ n, Y / 4294967296 = n := ⟨_, rfl⟩
  obtain ⟨yn0, hyn0⟩ : ∃ n, Y % 4294967296 = n := ⟨_, rfl⟩
  obtain ⟨un1, hun1⟩ : ∃ n, un10 / 4294967296 = n := ⟨_, rfl⟩
  obtain ⟨un0, hun0⟩ : ∃ n, un10 % 4294967296 = n := ⟨_, rfl⟩
  rw [hyn1] at hYs hb1 hb2 e2
  rw [hyn0] at hYs hb3 e3
  rw [hun1] at hb4 e8 HU
  rw [hun0] at hb5 e9 HU
  clear hyn1 hyn0 hun1 hun0
  have H1 := Lib.hid (show 0 < yn1 ∧ yn0 < 4294967296 ∧ Y = yn1 * 4294967296 + yn0 ∧ un32 < Y ∧ un1 < 4294967296 ∧ un0 < 4294967296 ∧ Y < 18446744073709551616 ∧ 0 < y from ⟨by omega, hb3, hYs, hun, hb4, hb5, hn2, by omega⟩)
  have h10 : 0 < yn1 * 4294967296 + yn0 := by omega
  have hY0 : un32 < yn1 * 4294967296 + yn0 := by rw [← hYs]; exact hun
  have HD1 := Lib.hid (show (un32 * 4294967296 + un1) / (yn1 * 4294967296 + yn0) < 4294967296 ∧ un32 < yn1 * 4294967296 + yn0 ∧ 0 < yn1 * 4294967296 + yn0 from ⟨digit_lt hY0 (by omega), hY0, h10⟩)
  have I1' := est_init (un := un32) (N := un32 * 4294967296 + un1) (Y := yn1 * 4294967296 + yn0) (yn1 := yn1) (B := 4294967296) (by omega) (by omega) (by omega)
  have hqb : un32 / yn1 ≤ un32 := Nat.div_le_self _ _
  have hrb := Nat.mod_lt un32 (show 0 < yn1 by omega)
  have hqr : un32 - un32 / yn1 * yn1 = un32 % yn1 := by have := I1'.1; omega
  have hqm : un32 / yn1 * yn1 ≤ un32 := Nat.div_mul_le_self _ _
  have e10 : (un32 : Int) / (yn1 : Int) = ((un32 / yn1 : Nat) : Int) := (Int.natCast_ediv _ _).symm
  obtain ⟨qi, hqi⟩ : ∃ n, un32 / yn1 = n := ⟨_, rfl⟩
  obtain ⟨ri, hri⟩ : ∃ n, un32 % yn1 = n := ⟨_, rfl⟩
  obtain ⟨qm, hqmm⟩ : ∃ n, qi * yn1 = n := ⟨_, rfl⟩
  obtain ⟨D1, hD1⟩ : ∃ n, (un32 * 4294967296 + un1) / (yn1 * 4294967296 + yn0) = n := ⟨_, rfl⟩
  have HDE1 := Lib.hid hD1
  rw [hqi] at I1' hqb hqr hqm e10
  rw [hri] at I1' hrb hqr
  rw [hqmm] at hqr hqm
  have e11 : IntKind.u64.wrap ((qi : Int) * (yn1 : Int)) = (qm : Int) := by rw [← Int.natCast_mul, hqmm, wrap_nat (by omega)]
  have e12 : (un32 : Int) - (qm : Int) = (ri : Int) := by omega
  have I1 := Lib.hid (show qi < 18446744073709551616 ∧ ri < 4294967296 ∧ Est un32 (un32 * 4294967296 + un1) (yn1 * 4294967296 + yn0) yn1 qi ri from ⟨by omega, by omega, I1'⟩)
  have q6 : (yn1 : Int) ≠ 0 := by omega
  have b1 : qi < 18446744073709551616 := by omega
  have b2 : un32 < 18446744073709551616 := by omega
  have b3 : qm < 18446744073709551616 := by omega
  clear I1' hqi hri hqmm hD1 hYs hY0 h10 hqb hqr hun hb5 hb4
  go_enter Tryd.func60, Tryd.ntmps60
  go_wp2_with fail
  refine (hlz w).mono ?_
  rintro e w' ⟨rfl, rfl⟩
  go_upto_block 0 with (fail)
  clear e10 e11 e12 e4 e6 e5 e7 e8 e9 e1 e2 e3 hrb hqm b1 b3 hn hb1 hmm
  go_cut [15] (fun sq wx => sq = .int .u64 ((D1 : Nat) : Int) ∧ wx = w')
  case first =>
    have HDD : Hid (un1 < 4294967296) := Lib.hid H1.out.2.2.2.2.1
    go_wp2_with fail
    go_loop [15, 16] (fun sq sr => Digit un32 (un32 * 4294967296 + un1) (yn1 * 4294967296 + yn0) yn1 sq sr) (fun _ sr => below32 sr)
    case atStart => exact ⟨_, _, rfl, rfl, I1.out.1, I1.out.2.1, I1.out.2.2⟩
    case round =>
      obtain ⟨q, r, rfl, rfl, hq64, hr, hE⟩ := hrel
      clear I1
      by_cases htest : 4294967296 ≤ q ∨ 4294967296 * r + un1 < q * yn0
      · have hdn := est_down hE.out (by
          rcases htest with h | h
          · exact Nat.lt_of_lt_of_le HD1.out.1 h
          · exact est_big hE.out.1 HD1.out.2.2 (by rw [Nat.mul_comm]; exact h))
        obtain ⟨q', hq'⟩ : ∃ q', q = q' + 1 := ⟨q - 1, by have := hdn.1; omega⟩
        obtain ⟨r', hr'⟩ : ∃ r', r + yn1 = r' := ⟨_, rfl⟩
        have hE' := Lib.hid hdn.2
        rw [hr', show q - 1 = q' by omega] at hE'
        clear hdn hE
        have f1 : (q : Int) - 1 = (q' : Int) := by omega
        have f2 : (r : Int) + (yn1 : Int) = (r' : Int) := by omega
        have f3 : q' < 18446744073709551616 := by omega
        have f5 : r' < 18446744073709551616 := by omega
        have HR := Lib.hid hr'
        have HQ := Lib.hid hq'
        clear hr' hq'
        have fin : ¬ (4294967296 : Int) ≤ r' ∨ (4294967296 : Int) ≤ r' := by omega
        have hmeas : (0 : Int) ≤ r' := by omega
        rcases htest with h | h
        · have c1 : (4294967296 : Int) ≤ q := by omega
          clear h
          rcases fin with h2 | h2
          · go_wp2_with fail
            exact ⟨⟨q', r', rfl, rfl, f3, by omega, hE'⟩, below32_lt HR.out H1.out.1 hr⟩
          · go_wp2_with fail
            go_meet
            exact ⟨by rw [← HDE1.out, est_break hE'.out H1.out.1 HD1.out.2.1 H1.out.2.1 (by omega)], rfl⟩
        · by_cases c1 : 4294967296 ≤ q
          · have c1 : (4294967296 : Int) ≤ q := by omega
            clear h
            rcases fin with h2 | h2
            · go_wp2_with fail
              exact ⟨⟨q', r', rfl, rfl, f3, by omega, hE'⟩, below32_lt HR.out H1.out.1 hr⟩
            · go_wp2_with fail
              go_meet
              exact ⟨by rw [← HDE1.out, est_break hE'.out H1.out.1 HD1.out.2.1 H1.out.2.1 (by omega)], rfl⟩
          · have c2 : ¬ (4294967296 : Int) ≤ q := by omega
            obtain ⟨m, hm⟩ : ∃ m, q * yn0 = m := ⟨_, rfl⟩
            have hm64 : m < 18446744073709551616 := by rw [← hm]; exact mul_lt_word (by omega) H1.out.2.1
            rw [hm] at h
            have g1 : (q : Int) * (yn0 : Int) = (m : Int) := by rw [← hm, Int.natCast_mul]
            have g2 : IntKind.u64.wrap ((q : Int) * (yn0 : Int)) = (m : Int) := by rw [g1, IntKind.wrap_u64]; omega
            obtain ⟨t0, ht0⟩ : ∃ t, 4294967296 * r = t := ⟨_, rfl⟩
            obtain ⟨t1, ht1⟩ : ∃ t, t0 + un1 = t := ⟨_, rfl⟩
            have hdd := HDD.out
            have g3 : IntKind.u64.wrap (4294967296 * (r : Int)) = (t0 : Int) := by rw [IntKind.wrap_u64]; omega
            have g3' : 4294967296 * (r : Int) = (t0 : Int) := by omega
            have g5 : IntKind.u64.wrap ((t0 : Int) + (un1 : Int)) = (t1 : Int) := by rw [IntKind.wrap_u64]; omega
            have g6 : (t0 : Int) + (un1 : Int) = (t1 : Int) := by omega
            have g4 : (t1 : Int) < m := by omega
            have bt1 : t1 < 18446744073709551616 := by omega
            clear ht0 ht1 hdd
            clear hm g1 c1 h
            rcases fin with h2 | h2
            · go_wp2_with fail
              exact ⟨⟨q', r', rfl, rfl, f3, by omega, hE'⟩, below32_lt HR.out H1.out.1 hr⟩
            · go_wp2_with fail
              go_meet
              exact ⟨by rw [← HDE1.out, est_break hE'.out H1.out.1 HD1.out.2.1 H1.out.2.1 (by omega)], rfl⟩
      · have c2 : ¬ (4294967296 : Int) ≤ q := by omega
        obtain ⟨m, hm⟩ : ∃ m, q * yn0 = m := ⟨_, rfl⟩
        have hm64 : m < 18446744073709551616 := by rw [← hm]; exact mul_lt_word (by omega) H1.out.2.1
        have hex := est_exit hE.out HD1.out.2.2 (by rw [Nat.mul_comm r]; omega)
        rw [hm] at htest
        have g1 : (q : Int) * (yn0 : Int) = (m : Int) := by rw [← hm, Int.natCast_mul]
        have g2 : IntKind.u64.wrap ((q : Int) * (yn0 : Int)) = (m : Int) := by rw [g1, IntKind.wrap_u64]; omega
        obtain ⟨t0, ht0⟩ : ∃ t, 4294967296 * r = t := ⟨_, rfl⟩
        obtain ⟨t1, ht1⟩ : ∃ t, t0 + un1 = t := ⟨_, rfl⟩
        have hdd := HDD.out
        have g3 : IntKind.u64.wrap (4294967296 * (r : Int)) = (t0 : Int) := by rw [IntKind.wrap_u64]; omega
        have g3' : 4294967296 * (r : Int) = (t0 : Int) := by omega
        have g5 : IntKind.u64.wrap ((t0 : Int) + (un1 : Int)) = (t1 : Int) := by rw [IntKind.wrap_u64]; omega
        have g6 : (t0 : Int) + (un1 : Int) = (t1 : Int) := by omega
        have g4 : ¬ (t1 : Int) < m := by omega
        have bt1 : t1 < 18446744073709551616 := by omega
        clear ht0 ht1 hdd
        have HX := Lib.hid hex
        clear hm g1 htest hex
        go_wp2_with fail
        go_meet
        exact ⟨by rw [← HDE1.out, HX.out], rfl⟩
  case rest =>
    obtain ⟨rfl, rfl⟩ := hcut
    have hd1 := HD1.out.1
    have hDE1 := HDE1.out
    rw [hDE1] at hd1
    have HDD1 := Lib.hid hd1
    clear hd1
    have hYs := H1.out.2.2.1
    obtain ⟨z1, z2, z3, a1, a2, a2', a3, a4, b4, b5, b6⟩ := rem_run un32 un1 Y D1 (by have := H1.out; omega) H1.out.2.2.2.2.2.2.1 H1.out.2.2.2.2.1 (by rw [hYs]; exact hDE1)
    have hun21 := Nat.mod_lt (un32 * 4294967296 + un1) (show 0 < Y by have := H1.out; omega)
    obtain ⟨un21, hun21e⟩ : ∃ n, (un32 * 4294967296 + un1) % Y = n := ⟨_, rfl⟩
    rw [hun21e] at a4 hun21
    have HUN21 := Lib.hid hun21e
    have h10 : 0 < yn1 * 4294967296 + yn0 := HD1.out.2.2
    have hun0 := H1.out.2.2.2.2.2.1
    have hY0 : un21 < yn1 * 4294967296 + yn0 := by rw [← hYs]; exact hun21
    have HD0 := Lib.hid (show (un21 * 4294967296 + un0) / (yn1 * 4294967296 + yn0) < 4294967296 ∧ un21 < yn1 * 4294967296 + yn0 ∧ 0 < yn1 * 4294967296 + yn0 from ⟨digit_lt hY0 (by omega), hY0, h10⟩)
    have I0' := est_init (un := un21) (N := un21 * 4294967296 + un0) (Y := yn1 * 4294967296 + yn0) (yn1 := yn1) (B := 4294967296) (by omega) (by omega) (by omega)
    have hqb : un21 / yn1 ≤ un21 := Nat.div_le_self _ _
    have hrb := Nat.mod_lt un21 (show 0 < yn1 by omega)
    have hqr : un21 - un21 / yn1 * yn1 = un21 % yn1 := by have := I0'.1; omega
    have hqm : un21 / yn1 * yn1 ≤ un21 := Nat.div_mul_le_self _ _
    have e20 : (un21 : Int) / (yn1 : Int) = ((un21 / yn1 : Nat) : Int) := (Int.natCast_ediv _ _).symm
    obtain ⟨qj, hqj⟩ : ∃ n, un21 / yn1 = n := ⟨_, rfl⟩
    obtain ⟨rj, hrj⟩ : ∃ n, un21 % yn1 = n := ⟨_, rfl⟩
    obtain ⟨qn, hqnn⟩ : ∃ n, qj * yn1 = n := ⟨_, rfl⟩
    obtain ⟨D0, hD0⟩ : ∃ n, (un21 * 4294967296 + un0) / (yn1 * 4294967296 + yn0) = n := ⟨_, rfl⟩
    have HDE0 := Lib.hid hD0
    rw [hqj] at I0' hqb hqr hqm e20
    rw [hrj] at I0' hrb hqr
    rw [hqnn] at hqr hqm
    have hY64 := H1.out.2.2.2.2.2.2.1
    have e21 : IntKind.u64.wrap ((qj : Int) * (yn1 : Int)) = (qn : Int) := by rw [← Int.natCast_mul, hqnn, wrap_nat (by omega)]
    have e22 : (un21 : Int) - (qn : Int) = (rj : Int) := by omega
    have I0 := Lib.hid (show qj < 18446744073709551616 ∧ rj < 4294967296 ∧ Est un21 (un21 * 4294967296 + un0) (yn1 * 4294967296 + yn0) yn1 qj rj from ⟨by omega, by omega, I0'⟩)
    have b7 : qj < 18446744073709551616 := by omega
    have b8 : un21 < 18446744073709551616 := by omega
    have b9 : qn < 18446744073709551616 := by omega
    clear I0' hqj hrj hqnn hD0 hYs hY0 h10 hqb hqr hun21 hun21e hun0 hDE1
    go_upto_block 2 with (fail)
    clear a1 a2 a2' a3 a4 b4 b5 b6 e20 e21 e22 b7 b9 hrb hqm
    go_cut [18] (fun sq wx => sq = .int .u64 ((D0 : Nat) : Int) ∧ wx = wc)
    case first =>
      have HDD : Hid (un0 < 4294967296) := Lib.hid H1.out.2.2.2.2.2.1
      go_wp2_with fail
      go_loop [18, 16] (fun sq sr => Digit un21 (un21 * 4294967296 + un0) (yn1 * 4294967296 + yn0) yn1 sq sr) (fun _ sr => below32 sr)
      case atStart => exact ⟨_, _, rfl, rfl, I0.out.1, I0.out.2.1, I0.out.2.2⟩
      case round =>
        obtain ⟨q, r, rfl, rfl, hq64, hr, hE⟩ := hrel
        clear I0
        by_cases htest : 4294967296 ≤ q ∨ 4294967296 * r + un0 < q * yn0
        · have hdn := est_down hE.out (by
            rcases htest with h | h
            · exact Nat.lt_of_lt_of_le HD0.out.1 h
            · exact est_big hE.out.1 HD0.out.2.2 (by rw [Nat.mul_comm]; exact h))
          obtain ⟨q', hq'⟩ : ∃ q', q = q' + 1 := ⟨q - 1, by have := hdn.1; omega⟩
          obtain ⟨r', hr'⟩ : ∃ r', r + yn1 = r' := ⟨_, rfl⟩
          have hE' := Lib.hid hdn.2
          rw [hr', show q - 1 = q' by omega] at hE'
          clear hdn hE
          have f1 : (q : Int) - 1 = (q' : Int) := by omega
          have f2 : (r : Int) + (yn1 : Int) = (r' : Int) := by omega
          have f3 : q' < 18446744073709551616 := by omega
          have f5 : r' < 18446744073709551616 := by omega
          have HR := Lib.hid hr'
          have HQ := Lib.hid hq'
          clear hr' hq'
          have fin : ¬ (4294967296 : Int) ≤ r' ∨ (4294967296 : Int) ≤ r' := by omega
          have hmeas : (0 : Int) ≤ r' := by omega
          rcases htest with h | h
          · have c1 : (4294967296 : Int) ≤ q := by omega
            clear h
            rcases fin with h2 | h2
            · go_wp2_with fail
              exact ⟨⟨q', r', rfl, rfl, f3, by omega, hE'⟩, below32_lt HR.out H1.out.1 hr⟩
            · go_wp2_with fail
              go_meet
              exact ⟨by rw [← HDE0.out, est_break hE'.out H1.out.1 HD0.out.2.1 H1.out.2.1 (by omega)], rfl⟩
          · by_cases c1 : 4294967296 ≤ q
            · have c1 : (4294967296 : Int) ≤ q := by omega
              clear h
              rcases fin with h2 | h2
              · go_wp2_with fail
                exact ⟨⟨q', r', rfl, rfl, f3, by omega, hE'⟩, below32_lt HR.out H1.out.1 hr⟩
              · go_wp2_with fail
                go_meet
                exact ⟨by rw [← HDE0.out, est_break hE'.out H1.out.1 HD0.out.2.1 H1.out.2.1 (by omega)], rfl⟩
            · have c2 : ¬ (4294967296 : Int) ≤ q := by omega
              obtain ⟨m, hm⟩ : ∃ m, q * yn0 = m := ⟨_, rfl⟩
              have hm64 : m < 18446744073709551616 := by rw [← hm]; exact mul_lt_word (by omega) H1.out.2.1
              rw [hm] at h
              have g1 : (q : Int) * (yn0 : Int) = (m : Int) := by rw [← hm, Int.natCast_mul]
              have g2 : IntKind.u64.wrap ((q : Int) * (yn0 : Int)) = (m : Int) := by rw [g1, IntKind.wrap_u64]; omega
              obtain ⟨t0, ht0⟩ : ∃ t, 4294967296 * r = t := ⟨_, rfl⟩
              obtain ⟨t1, ht1⟩ : ∃ t, t0 + un0 = t := ⟨_, rfl⟩
              have hdd := HDD.out
              have g3 : IntKind.u64.wrap (4294967296 * (r : Int)) = (t0 : Int) := by rw [IntKind.wrap_u64]; omega
              have g3' : 4294967296 * (r : Int) = (t0 : Int) := by omega
              have g5 : IntKind.u64.wrap ((t0 : Int) + (un0 : Int)) = (t1 : Int) := by rw [IntKind.wrap_u64]; omega
              have g6 : (t0 : Int) + (un0 : Int) = (t1 : Int) := by omega
              have g4 : (t1 : Int) < m := by omega
              have bt1 : t1 < 18446744073709551616 := by omega
              clear ht0 ht1 hdd
              clear hm g1 c1 h
              rcases fin with h2 | h2
              · go_wp2_with fail
                exact ⟨⟨q', r', rfl, rfl, f3, by omega, hE'⟩, below32_lt HR.out H1.out.1 hr⟩
              · go_wp2_with fail
                go_meet
                exact ⟨by rw [← HDE0.out, est_break hE'.out H1.out.1 HD0.out.2.1 H1.out.2.1 (by omega)], rfl⟩
        · have c2 : ¬ (4294967296 : Int) ≤ q := by omega
          obtain ⟨m, hm⟩ : ∃ m, q * yn0 = m := ⟨_, rfl⟩
          have hm64 : m < 18446744073709551616 := by rw [← hm]; exact mul_lt_word (by omega) H1.out.2.1
          have hex := est_exit hE.out HD0.out.2.2 (by rw [Nat.mul_comm r]; omega)
          rw [hm] at htest
          have g1 : (q : Int) * (yn0 : Int) = (m : Int) := by rw [← hm, Int.natCast_mul]
          have g2 : IntKind.u64.wrap ((q : Int) * (yn0 : Int)) = (m : Int) := by rw [g1, IntKind.wrap_u64]; omega
          obtain ⟨t0, ht0⟩ : ∃ t, 4294967296 * r = t := ⟨_, rfl⟩
          obtain ⟨t1, ht1⟩ : ∃ t, t0 + un0 = t := ⟨_, rfl⟩
          have hdd := HDD.out
          have g3 : IntKind.u64.wrap (4294967296 * (r : Int)) = (t0 : Int) := by rw [IntKind.wrap_u64]; omega
          have g3' : 4294967296 * (r : Int) = (t0 : Int) := by omega
          have g5 : IntKind.u64.wrap ((t0 : Int) + (un0 : Int)) = (t1 : Int) := by rw [IntKind.wrap_u64]; omega
          have g6 : (t0 : Int) + (un0 : Int) = (t1 : Int) := by omega
          have g4 : ¬ (t1 : Int) < m := by omega
          have bt1 : t1 < 18446744073709551616 := by omega
          clear ht0 ht1 hdd
          have HX := Lib.hid hex
          clear hm g1 htest hex
          go_wp2_with fail
          go_meet
          exact ⟨by rw [← HDE0.out, HX.out], rfl⟩
    case rest =>
      obtain ⟨rfl, rfl⟩ := hcut
      have hd1 := HDD1.out
      have hd0 := HD0.out.1
      have hDE0 := HDE0.out
      rw [hDE0] at hd0
      have hYs := H1.out.2.2.1
      obtain ⟨z4, z5, z6, a5, a6, a6', a7, a8, b10, b11, b12⟩ := rem_run un21 un0 Y D0 (by have := H1.out; omega) H1.out.2.2.2.2.2.2.1 H1.out.2.2.2.2.2.1 (by rw [hYs]; exact hDE0)
      obtain ⟨t1, t2⟩ := two_digits (U := hi * 18446744073709551616 + lo) (y := y) (p := p) (un32 := un32) (un1 := un1) (un0 := un0) (B := 4294967296) H1.out.2.2.2.2.2.2.2 hp00.out HU.out
      rw [HYp.out, HUN21.out] at t1 t2
      have hD1y := HDE1.out
      rw [← hYs] at hD1y hDE0
      rw [hD1y, hDE0] at t1
      obtain ⟨R, hR⟩ : ∃ n, (un21 * 4294967296 + un0) % Y = n := ⟨_, rfl⟩
      rw [hR] at a8 t2
      have c1 : IntKind.u64.wrap ((D1 : Int) * 4294967296) = (D1 : Int) * 4294967296 := by rw [IntKind.wrap_u64]; omega
      have c2 : (D1 : Int) * 4294967296 + (D0 : Int) = ((D1 * 4294967296 + D0 : Nat) : Int) := by omega
      have c3 : IntKind.u64.wrap ((D1 : Int) * 4294967296 + (D0 : Int)) = ((D1 * 4294967296 + D0 : Nat) : Int) := by rw [IntKind.wrap_u64]; omega
      rw [t1] at c2 c3
      have c4 : (R : Int) / 2 ^ s = (((hi * 18446744073709551616 + lo) % y : Nat) : Int) := by
        rw [← t2, Int.natCast_ediv, ← HP.out, Int.natCast_pow]; rfl
      obtain ⟨QQ, hQQ⟩ : ∃ n, (hi * 18446744073709551616 + lo) / y = n := ⟨_, rfl⟩
      obtain ⟨RR, hRR⟩ : ∃ n, (hi * 18446744073709551616 + lo) % y = n := ⟨_, rfl⟩
      rw [hQQ] at c2 c3 t1
      rw [hRR] at c4 t2
      have HQQ := Lib.hid hQQ
      have HRR := Lib.hid hRR
      clear t1 t2 hR hQQ hRR hD1y hDE0 hYs
      go_wp2_with fail
      go_ret2
      rw [HQQ.out, HRR.out]
      exact ⟨rfl, rfl⟩

end Go.Proofs.YtnlkcdbeoeaalaaDoor
