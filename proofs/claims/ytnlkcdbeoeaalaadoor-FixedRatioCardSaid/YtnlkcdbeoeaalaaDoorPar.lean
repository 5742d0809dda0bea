/-
  Parse of the program.
-/
import Derived.Test.YtnlkcdbeoeaalaaDoorFmt
namespace Go.Proofs.YtnlkcdbeoeaalaaDoor
open Go.RowKit

/-- the number that the program divides -/
def scaled (neg : Bool) (m p : Nat) : Int := if neg then -((m * 100000000 + p : Nat) : Int) else ((m * 100000000 + p : Nat) : Int)

theorem scaled_abs (neg : Bool) (m p : Nat) : (scaled neg m p).natAbs = m * 100000000 + p := by
  unfold scaled
  cases neg
  · rw [if_neg (by decide)]; exact Int.natAbs_natCast _
  · rw [if_pos rfl]; omega

theorem parse_num (neg : Bool) (n p : Nat) (hp : p % 390625 = 0) (hp2 : p < 100000000) :
    fitP (decide (scaled neg (min n 100000000) p < 0) != decide ((100000000 : Int) < 0)) (roundP (scaled neg (min n 100000000) p).natAbs 100000000) = fitP neg (n * 256 + p / 390625) := by
  rw [scaled_abs]
  obtain ⟨k, rfl⟩ : ∃ k, p = 390625 * k := ⟨p / 390625, by omega⟩
  have e : roundP (min n 100000000 * 100000000 + 390625 * k) 100000000 = min n 100000000 * 256 + k := by
    unfold roundP
    generalize min n 100000000 = m
    omega
  rw [e, show 390625 * k / 390625 = k by omega]
  by_cases hbig : 100000000 < n
  · rw [Nat.min_eq_right (by omega), fit_far _ (by omega), fit_far _ (by omega)]
  · rw [Nat.min_eq_left (by omega)]
    by_cases h0 : n * 256 + k = 0
    · rw [h0, fit_zero, fit_zero]
    · congr 1
      unfold scaled
      cases neg
      · rw [if_neg (by decide), decide_eq_false (show ¬ ((n * 100000000 + 390625 * k : Nat) : Int) < 0 by omega)]
        rfl
      · rw [if_pos rfl, decide_eq_true (show -((n * 100000000 + 390625 * k : Nat) : Int) < 0 by omega)]
        rfl

theorem rep_zero (k : Nat) : Lib.repeatL [48] k = List.replicate k 48 := by
  induction k with
  | zero => rfl
  | succ k ih => rw [Lib.repeatL, ih]; rfl

theorem body_bad1 {neg one : Bool} {w r : List UInt8} (h : (neg && one) = true) : ((0, 3) : Int × Int) = bodyP neg w r one := by
  unfold bodyP
  rw [h, if_neg (by simp)]
theorem body_bad2 {neg one : Bool} {w r : List UInt8} (h : wholeB w = false) : ((0, 3) : Int × Int) = bodyP neg w r one := by
  unfold bodyP
  rw [h, if_neg (by simp)]
theorem body_bad3 {neg one : Bool} {w r : List UInt8} (h : r.isEmpty = false) (h2 : fracB r.tail = false) : ((0, 3) : Int × Int) = bodyP neg w r one := by
  unfold bodyP
  rw [h, h2, if_neg (by simp)]
theorem body_good {neg one : Bool} {w r : List UInt8} (h1 : (neg && one) = false) (h2 : wholeB w = true) (h3 : r.isEmpty = true ∨ fracB r.tail = true) :
    bodyP neg w r one = (if numN (padL r.tail) % 390625 = 0 then fitP neg (numN w * 256 + numN (padL r.tail) / 390625) else (0, 3)) := by
  unfold bodyP
  rw [h1, h2, if_pos (by rcases h3 with h | h <;> simp [h])]

theorem tail_ok {r : List UInt8} (h3 : r.isEmpty = true ∨ fracB r.tail = true) : r.tail.all isDig = true ∧ r.tail.length ≤ 8 := by
  rcases h3 with h | h
  · have : r = [] := by simpa using h
    subst this
    exact ⟨rfl, by decide⟩
  · obtain ⟨f1, _, f3, _⟩ := frac_facts h
    exact ⟨f1, f3⟩

set_option maxRecDepth 100000 in
set_option maxHeartbeats 8000000 in
theorem parse_core (s : ByteArray) (neg : Bool) (tl : List UInt8) (htl : tl.length ≤ 100000)
    (hcp : ∀ w, Calls Tryd.prog 31 #[.string s, .string ⟨#[45]⟩] w fun e w' => e = .returned (.tuple #[.string ⟨tl.toArray⟩, .bool neg]) ∧ w' = w)
    (hz : s.toList = [45, 48] ↔ (neg && (tl == [48])) = true) (w : World) : Calls Tryd.prog 12 #[.string s] w (Gives (restP neg tl) w) := by
  unfold restP
  have CP := Lib.hid hcp
  have CT := Lib.hid (scut_any ⟨tl.toArray⟩ (by rw [Lib.size_mk]; omega) w)
  simp only at CT
  obtain ⟨wl, hwl⟩ : ∃ l, tl.takeWhile (· != 46) = l := ⟨_, rfl⟩
  obtain ⟨rl, hrl⟩ : ∃ l, tl.dropWhile (· != 46) = l := ⟨_, rfl⟩
  have hlen : wl.length + rl.length = tl.length := by rw [← hwl, ← hrl, ← List.length_append, List.takeWhile_append_dropWhile]
  rw [hwl, hrl] at CT ⊢
  have hrt : rl.tail.length ≤ rl.length := by rw [List.length_tail]; omega
  have WH := fun w => Lib.hid (whole_any ⟨wl.toArray⟩ (by rw [Lib.size_mk]; omega) w)
  have FR := fun w => Lib.hid (frac_any ⟨rl.tail.toArray⟩ (by rw [Lib.size_mk]; omega) w)
  simp only at WH FR
  have hws : (⟨wl.toArray⟩ : ByteArray).size = wl.length := Lib.size_mk _
  have hfs : (⟨rl.tail.toArray⟩ : ByteArray).size = rl.tail.length := Lib.size_mk _
  obtain ⟨one, hone⟩ : ∃ b, (tl == [48]) = b := ⟨_, rfl⟩
  rw [hone] at hz ⊢
  obtain ⟨T, hT⟩ : ∃ T : ByteArray, ⟨tl.toArray⟩ = T := ⟨_, rfl⟩
  obtain ⟨W, hW⟩ : ∃ T : ByteArray, ⟨wl.toArray⟩ = T := ⟨_, rfl⟩
  obtain ⟨F, hF⟩ : ∃ T : ByteArray, ⟨rl.tail.toArray⟩ = T := ⟨_, rfl⟩
  rw [hT] at CP CT
  rw [hW] at CT WH hws
  rw [hF] at CT FR hfs
  obtain ⟨pt, hpt⟩ : ∃ b, (!rl.isEmpty) = b := ⟨_, rfl⟩
  rw [hpt] at CT
  have HW := Lib.hid hW
  have HF := Lib.hid hF
  clear hwl hrl hone hT hW hF hcp
  by_cases hA : (neg && one) = true
  · have h1 : s.toList = [45, 48] := hz.2 hA
    rw [← body_bad1 hA]
    clear hz hA hpt hws hfs
    go_enter Tryd.func12, Tryd.ntmps12
    go_wp2_with fail
    refine (CP.out _).mono ?_
    rintro e w1 ⟨rfl, rfl⟩
    go_wp2_with fail
    refine CT.out.mono ?_
    rintro e w2 ⟨rfl, hb⟩
    have K := Lib.hid hb
    clear hb
    go_wp2_with fail
    go_ret2
    exact gives_of (p := (0, 3)) rfl K.out
  have hA' : (neg && one) = false := by simpa using hA
  have h1 : ¬ s.toList = [45, 48] := fun h => hA (hz.1 h)
  have h1b : (s.toList == [45, 48]) = false := by simpa using h1
  clear hz hA
  cases hwb : wholeB wl
  · rw [← body_bad2 hwb]
    rw [hwb] at WH
    clear hwb hpt hws hfs hA'
    go_enter Tryd.func12, Tryd.ntmps12
    go_wp2_with fail
    refine (CP.out _).mono ?_
    rintro e w1 ⟨rfl, rfl⟩
    go_wp2_with fail
    refine CT.out.mono ?_
    rintro e w2 ⟨rfl, hb⟩
    have K := Lib.hid hb
    clear hb
    go_wp2_with fail
    refine (WH _).out.mono ?_
    rintro e w3 ⟨rfl, rfl⟩
    go_wp2_with fail
    go_ret2
    exact gives_of (p := (0, 3)) rfl K.out
  rw [hwb] at WH
  by_cases hC : pt = true ∧ fracB rl.tail = false
  · obtain ⟨rfl, hfb⟩ := hC
    rw [← body_bad3 (by simpa using hpt) hfb]
    rw [hfb] at FR
    clear hwb hpt hws hfs hA' hfb
    go_enter Tryd.func12, Tryd.ntmps12
    go_wp2_with fail
    refine (CP.out _).mono ?_
    rintro e w1 ⟨rfl, rfl⟩
    go_wp2_with fail
    refine CT.out.mono ?_
    rintro e w2 ⟨rfl, hb⟩
    have K := Lib.hid hb
    clear hb
    go_wp2_with fail
    refine (WH _).out.mono ?_
    rintro e w3 ⟨rfl, rfl⟩
    go_wp2_with fail
    refine (FR _).out.mono ?_
    rintro e w3 ⟨rfl, rfl⟩
    go_wp2_with fail
    go_ret2
    exact gives_of (p := (0, 3)) rfl K.out
  have hok : rl.isEmpty = true ∨ fracB rl.tail = true := by
    rw [← hpt] at hC
    cases h1 : rl.isEmpty
    · right
      cases h2 : fracB rl.tail
      · exact absurd ⟨by rw [h1]; rfl, h2⟩ hC
      · rfl
    · exact .inl rfl
  have hfr : pt = true → fracB rl.tail = true := fun h => by
    cases h2 : fracB rl.tail
    · exact absurd ⟨h, h2⟩ hC
    · rfl
  rw [body_good hA' hwb hok]
  obtain ⟨t1, t2⟩ := tail_ok hok
  obtain ⟨p1, p2⟩ := pad_facts t1 t2
  have hp8 := pad_lt t1 t2
  have hwd := whole_digits hwb
  have RP := fun w => Lib.hid (Tryd.strings_Repeat ⟨#[48]⟩ (8 - rl.tail.length) w (by omega) (by have : (⟨#[48]⟩ : ByteArray).size = 1 := rfl; rw [this]; omega))
  have hrep : Lib.repeatL (⟨#[48]⟩ : ByteArray).data.toList (8 - rl.tail.length) = List.replicate (8 - rl.tail.length) 48 := rep_zero _
  rw [hrep] at RP
  obtain ⟨Z, hZ⟩ : ∃ T : ByteArray, ⟨(List.replicate (8 - rl.tail.length) (48 : UInt8)).toArray⟩ = T := ⟨_, rfl⟩
  obtain ⟨X, hX⟩ : ∃ T : ByteArray, ⟨(padL rl.tail).toArray⟩ = T := ⟨_, rfl⟩
  have hFZ : F ++ Z = X := by rw [← HF.out, ← hZ, ← hX, app_mk]; rfl
  have hZs : Z.size ≤ 8 := by rw [← hZ, Lib.size_mk, List.length_replicate]; omega
  have NX := fun w => Lib.hid (number_any ⟨(padL rl.tail).toArray⟩ (by rw [Lib.size_mk, p2]; decide) (by simpa using p1) w)
  have NW := fun w => Lib.hid (number_any ⟨wl.toArray⟩ (by rw [Lib.size_mk]; omega) (by simpa using hwd) w)
  simp only at NX NW
  rw [hX] at NX
  rw [HW.out] at NW
  rw [hZ] at RP
  rw [Nat.min_eq_left (Nat.le_of_lt hp8)] at NX
  obtain ⟨p, hp⟩ : ∃ p, numN (padL rl.tail) = p := ⟨_, rfl⟩
  obtain ⟨n, hn⟩ : ∃ p, numN wl = p := ⟨_, rfl⟩
  rw [hp] at NX hp8 ⊢
  rw [hn] at NW ⊢
  have hl8 : (8 : Int) - (F.size : Int) = ((8 - rl.tail.length : Nat) : Int) := by omega
  have hFs : F.size ≤ 8 := by omega
  obtain ⟨l8, hl8'⟩ : ∃ l, 8 - rl.tail.length = l := ⟨_, rfl⟩
  rw [hl8'] at hl8 RP
  have hptf : pt = true → ∀ w, Hid (Calls Tryd.prog 34 #[.string F] w fun e w' => e = .returned (.bool true) ∧ w' = w) := fun h w => by
    have := FR w
    rw [hfr h] at this
    exact this
  clear hwb hpt hws hfs hA' hC hok hfr t1 t2 p1 p2 hwd hrep hZ hX hp hn hl8' FR
  by_cases hm : p % 390625 = 0
  · rw [if_pos hm]
    have hm' : ((p : Int) % 390625 != 0) = false := by rw [bne_eq_false_iff_eq]; omega
    have HPN := Lib.hid (parse_num neg n p hm hp8)
    clear hm
    obtain ⟨m, hm2⟩ : ∃ m, min n 100000000 = m := ⟨_, rfl⟩
    have hmle : m ≤ 100000000 := by omega
    rw [hm2] at NW HPN
    have CK : ∀ w, Hid (Calls Tryd.prog 37 #[.func (.func 38) #[.agg #[.int .i64 (scaled neg m p), .int .i64 100000000]] #[]] w (Gives (fitP neg (n * 256 + p / 390625)) w)) := fun w => by
      have hs1 : -9223372036854775808 ≤ scaled neg m p := by unfold scaled; split <;> omega
      have hs2 : scaled neg m p ≤ 9223372036854775807 := by unfold scaled; split <;> omega
      have C := checked38 (scaled neg m p) 100000000 _ w (quo_any (scaled neg m p) 100000000 hs1 hs2 (by decide) (by decide) (by decide) w)
      rw [chk_fit, fit_quo _ _ _ (by decide)] at C
      rw [← HPN.out]
      exact Lib.hid C
    obtain ⟨res, hres⟩ : ∃ r, fitP neg (n * 256 + p / 390625) = r := ⟨_, rfl⟩
    rw [hres] at CK ⊢
    clear hres hm2 HPN
    have en : -((m : Int) * 100000000 + (p : Int)) = scaled true m p := by unfold scaled; rw [if_pos rfl]; omega
    have ep : (m : Int) * 100000000 + (p : Int) = scaled false m p := by unfold scaled; rw [if_neg (by decide)]; omega
    have EN := Lib.hid en
    have EP := Lib.hid ep
    clear en ep
    cases pt
    · clear hptf
      cases neg
      · go_enter Tryd.func12, Tryd.ntmps12
        go_wp2_with fail
        refine (CP.out _).mono ?_
        rintro e w1 ⟨rfl, rfl⟩
        go_wp2_with fail
        refine CT.out.mono ?_
        rintro e w2 ⟨rfl, hb⟩
        have K := Lib.hid hb
        clear hb
        go_wp2_with fail
        refine (WH _).out.mono ?_
        rintro e w3 ⟨rfl, rfl⟩
        go_wp2_with fail
        refine (RP _).out.mono ?_
        rintro e w3 ⟨rfl, hb⟩
        replace K := Lib.hid (Below.next K.out hb)
        clear hb
        go_wp2_with fail
        refine (NX _).out.mono ?_
        rintro e w4 ⟨rfl, rfl⟩
        go_wp2_with fail
        refine (NW _).out.mono ?_
        rintro e w5 ⟨rfl, rfl⟩
        go_wp2_with fail
        rw [EP.out]
        refine (CK _).out.mono ?_
        rintro e w6 ⟨rfl, hb⟩
        replace K := Lib.hid (Below.next K.out hb)
        clear hb
        go_wp2_with fail
        go_ret2
        exact ⟨rfl, K.out⟩
      · go_enter Tryd.func12, Tryd.ntmps12
        go_wp2_with fail
        refine (CP.out _).mono ?_
        rintro e w1 ⟨rfl, rfl⟩
        go_wp2_with fail
        refine CT.out.mono ?_
        rintro e w2 ⟨rfl, hb⟩
        have K := Lib.hid hb
        clear hb
        go_wp2_with fail
        refine (WH _).out.mono ?_
        rintro e w3 ⟨rfl, rfl⟩
        go_wp2_with fail
        refine (RP _).out.mono ?_
        rintro e w3 ⟨rfl, hb⟩
        replace K := Lib.hid (Below.next K.out hb)
        clear hb
        go_wp2_with fail
        refine (NX _).out.mono ?_
        rintro e w4 ⟨rfl, rfl⟩
        go_wp2_with fail
        refine (NW _).out.mono ?_
        rintro e w5 ⟨rfl, rfl⟩
        go_wp2_with fail
        rw [EN.out]
        refine (CK _).out.mono ?_
        rintro e w6 ⟨rfl, hb⟩
        replace K := Lib.hid (Below.next K.out hb)
        clear hb
        go_wp2_with fail
        go_ret2
        exact ⟨rfl, K.out⟩
    · have FR := hptf rfl
      clear hptf
      cases neg
      · go_enter Tryd.func12, Tryd.ntmps12
        go_wp2_with fail
        refine (CP.out _).mono ?_
        rintro e w1 ⟨rfl, rfl⟩
        go_wp2_with fail
        refine CT.out.mono ?_
        rintro e w2 ⟨rfl, hb⟩
        have K := Lib.hid hb
        clear hb
        go_wp2_with fail
        refine (WH _).out.mono ?_
        rintro e w3 ⟨rfl, rfl⟩
        go_wp2_with fail
        refine (FR _).out.mono ?_
        rintro e w3 ⟨rfl, rfl⟩
        go_wp2_with fail
        refine (RP _).out.mono ?_
        rintro e w3 ⟨rfl, hb⟩
        replace K := Lib.hid (Below.next K.out hb)
        clear hb
        go_wp2_with fail
        refine (NX _).out.mono ?_
        rintro e w4 ⟨rfl, rfl⟩
        go_wp2_with fail
        refine (NW _).out.mono ?_
        rintro e w5 ⟨rfl, rfl⟩
        go_wp2_with fail
        rw [EP.out]
        refine (CK _).out.mono ?_
        rintro e w6 ⟨rfl, hb⟩
        replace K := Lib.hid (Below.next K.out hb)
        clear hb
        go_wp2_with fail
        go_ret2
        exact ⟨rfl, K.out⟩
      · go_enter Tryd.func12, Tryd.ntmps12
        go_wp2_with fail
        refine (CP.out _).mono ?_
        rintro e w1 ⟨rfl, rfl⟩
        go_wp2_with fail
        refine CT.out.mono ?_
        rintro e w2 ⟨rfl, hb⟩
        have K := Lib.hid hb
        clear hb
        go_wp2_with fail
        refine (WH _).out.mono ?_
        rintro e w3 ⟨rfl, rfl⟩
        go_wp2_with fail
        refine (FR _).out.mono ?_
        rintro e w3 ⟨rfl, rfl⟩
        go_wp2_with fail
        refine (RP _).out.mono ?_
        rintro e w3 ⟨rfl, hb⟩
        replace K := Lib.hid (Below.next K.out hb)
        clear hb
        go_wp2_with fail
        refine (NX _).out.mono ?_
        rintro e w4 ⟨rfl, rfl⟩
        go_wp2_with fail
        refine (NW _).out.mono ?_
        rintro e w5 ⟨rfl, rfl⟩
        go_wp2_with fail
        rw [EN.out]
        refine (CK _).out.mono ?_
        rintro e w6 ⟨rfl, hb⟩
        replace K := Lib.hid (Below.next K.out hb)
        clear hb
        go_wp2_with fail
        go_ret2
        exact ⟨rfl, K.out⟩
  · rw [if_neg hm]
    have hm' : ((p : Int) % 390625 != 0) = true := by rw [bne_iff_ne]; omega
    clear hm
    cases pt
    · clear hptf
      go_enter Tryd.func12, Tryd.ntmps12
      go_wp2_with fail
      refine (CP.out _).mono ?_
      rintro e w1 ⟨rfl, rfl⟩
      go_wp2_with fail
      refine CT.out.mono ?_
      rintro e w2 ⟨rfl, hb⟩
      have K := Lib.hid hb
      clear hb
      go_wp2_with fail
      refine (WH _).out.mono ?_
      rintro e w3 ⟨rfl, rfl⟩
      go_wp2_with fail
      refine (RP _).out.mono ?_
      rintro e w3 ⟨rfl, hb⟩
      replace K := Lib.hid (Below.next K.out hb)
      clear hb
      go_wp2_with fail
      refine (NX _).out.mono ?_
      rintro e w4 ⟨rfl, rfl⟩
      go_wp2_with fail
      go_ret2
      exact gives_of (p := (0, 3)) rfl K.out
    · have FR := hptf rfl
      clear hptf
      go_enter Tryd.func12, Tryd.ntmps12
      go_wp2_with fail
      refine (CP.out _).mono ?_
      rintro e w1 ⟨rfl, rfl⟩
      go_wp2_with fail
      refine CT.out.mono ?_
      rintro e w2 ⟨rfl, hb⟩
      have K := Lib.hid hb
      clear hb
      go_wp2_with fail
      refine (WH _).out.mono ?_
      rintro e w3 ⟨rfl, rfl⟩
      go_wp2_with fail
      refine (FR _).out.mono ?_
      rintro e w3 ⟨rfl, rfl⟩
      go_wp2_with fail
      refine (RP _).out.mono ?_
      rintro e w3 ⟨rfl, hb⟩
      replace K := Lib.hid (Below.next K.out hb)
      clear hb
      go_wp2_with fail
      refine (NX _).out.mono ?_
      rintro e w4 ⟨rfl, rfl⟩
      go_wp2_with fail
      go_ret2
      exact gives_of (p := (0, 3)) rfl K.out

/-- what CutPrefix hands back at a minus -/
theorem minus_cut (s : ByteArray) (w : World) : Calls Tryd.prog 31 #[.string s, .string ⟨#[45]⟩] w fun e w' => e = .returned (.tuple #[.string ⟨(if s.data.toList.head? = some 45 then s.data.toList.tail else s.data.toList).toArray⟩, .bool (decide (s.data.toList.head? = some 45))]) ∧ w' = w := by
  have h := Tryd.strings_CutPrefix s ⟨#[45]⟩ w
  have e1 : Lib.hasPrefix s.data.toList (⟨#[45]⟩ : ByteArray).data.toList = decide (s.data.toList.head? = some 45) := by
    show List.isPrefixOf [45] s.data.toList = _
    cases s.data.toList with
    | nil => rfl
    | cons c l =>
      by_cases hc : c = 45
      · subst hc; rfl
      · have h2 : (45 == c) = false := by simpa using fun e => hc e.symm
        simp [List.isPrefixOf, h2, hc]
  have e2 : Lib.trimPrefix s.data.toList (⟨#[45]⟩ : ByteArray).data.toList = (if s.data.toList.head? = some 45 then s.data.toList.tail else s.data.toList) := by
    unfold Lib.trimPrefix
    rw [e1]
    by_cases hc : s.data.toList.head? = some 45
    · rw [decide_eq_true hc, if_pos rfl, if_pos hc]
      show s.data.toList.drop 1 = _
      rw [List.drop_one]
    · rw [decide_eq_false hc, if_neg (by decide), if_neg hc]
  rw [e1, e2] at h
  exact h

theorem parse_any (s : ByteArray) (hs : s.size ≤ 100000) (w : World) : Calls Tryd.prog 12 #[.string s] w (Gives (parseP s.data.toList) w) := by
  have hl : s.data.toList.length ≤ 100000 := by rw [← Lib.size_eq]; exact hs
  unfold parseP
  by_cases hc : s.data.toList.head? = some 45
  · rw [if_pos hc]
    have h : ∀ w, _ := fun w => minus_cut s w
    simp only [if_pos hc, decide_eq_true hc] at h
    refine parse_core s true s.data.toList.tail (by rw [List.length_tail]; omega) h ?_ w
    rw [toList_data, Bool.true_and, beq_iff_eq]
    cases e : s.data.toList with
    | nil => rw [e] at hc; cases hc
    | cons c l =>
      rw [e] at hc
      have : c = 45 := by simpa using hc
      subst this
      simp
  · rw [if_neg hc]
    have h : ∀ w, _ := fun w => minus_cut s w
    simp only [if_neg hc, decide_eq_false hc] at h
    refine parse_core s false s.data.toList hl h ?_ w
    rw [toList_data, Bool.false_and]
    constructor
    · intro e
      rw [e] at hc
      exact absurd rfl hc
    · intro e; cases e

end Go.Proofs.YtnlkcdbeoeaalaaDoor
