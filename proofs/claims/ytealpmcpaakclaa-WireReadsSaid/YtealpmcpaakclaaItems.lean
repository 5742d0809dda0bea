/-
  The law file's 'equal', 'light' and 'all'.
-/
import Derived.Test.YtealpmcpaakclaaItem
namespace Go.Proofs.Ytealpmcpaakclaa
open Go.RowKit Mem Wire

/-- are two items equal, as the law file asks it -/
def It.eq (t u : It) : Bool := if t.k = 0 ∨ t.k = 1 then decide (t.n = u.n) else decide (t.b = u.b)

set_option maxHeartbeats 400000 in
theorem equal_any {w : World} {t u : It} (ht : t.ok w) (hu : u.ok w) : Calls Try.prog 33 #[t.val, u.val] w (Says (t.eq u) w) := by
  obtain ⟨k, n, v, xs⟩ := t
  obtain ⟨k', n', v', ys⟩ := u
  obtain ⟨h1, hn⟩ := ht
  obtain ⟨h2, hn'⟩ := hu
  dsimp only at h1 h2 hn hn'
  unfold It.val It.eq
  dsimp only
  obtain ⟨A, c, rfl, _, _⟩ := h1.shape
  obtain ⟨A', c', rfl, _, _⟩ := h2.shape
  have hb : Below w.heap.size w ((w.alloc (.cells #[.int .i64 k, .int .u32 (n : Int), .slice A xs.length c] 25)).alloc (.cells #[.int .i64 k', .int .u32 (n' : Int), .slice A' ys.length c'] 25)) :=
    ((Below.refl _ _).alloc (Nat.le_refl _) _).alloc (by simp) _
  have HS := Lib.hid (same_any (h1.below hb) (h2.below hb))
  have HB := Lib.hid hb
  clear h1 h2 hb
  by_cases k0 : k = 0
  · subst k0
    rw [if_pos (.inl rfl)]
    generalize xs.length = m at *
    generalize ys.length = m' at *
    by_cases he : n = n'
    · subst he
      go_enter Try.func33, Try.ntmps33
      go_wp2_with fail
      go_ret
      exact ⟨by simp, HB.out⟩
    · have hd : decide (n = n') = false := by simp [he]
      have hne : ((n : Int) == (n' : Int)) = false := by rw [beq_eq_false_iff_ne]; omega
      rw [hd]
      clear hd
      go_enter Try.func33, Try.ntmps33
      go_wp2_with fail
      go_ret
      exact ⟨rfl, HB.out⟩
  · have g0 : (k == 0) = false := by simpa using k0
    by_cases k1 : k = 1
    · subst k1
      rw [if_pos (.inr rfl)]
      generalize xs.length = m at *
      generalize ys.length = m' at *
      by_cases he : n = n'
      · subst he
        go_enter Try.func33, Try.ntmps33
        go_wp2_with fail
        go_ret
        exact ⟨by simp, HB.out⟩
      · have hd : decide (n = n') = false := by simp [he]
        have hne : ((n : Int) == (n' : Int)) = false := by rw [beq_eq_false_iff_ne]; omega
        rw [hd]
        clear hd
        go_enter Try.func33, Try.ntmps33
        go_wp2_with fail
        go_ret
        exact ⟨rfl, HB.out⟩
    · have g1 : (k == 1) = false := by simpa using k1
      rw [if_neg (by omega)]
      generalize decide (xs = ys) = r at *
      generalize xs.length = m at *
      generalize ys.length = m' at *
      go_enter Try.func33, Try.ntmps33
      go_wp2_with fail
      refine HS.out.mono ?_
      rintro e w1 ⟨rfl, q, rfl⟩
      go_wp2_with fail
      go_ret
      exact ⟨rfl, below_draws HB.out q⟩

/-- the slice value v holds the items l -/
def Items (w : World) (v : Value) (l : List It) : Prop :=
  ∃ (A : Option Addr) (cap : Nat), v = .slice A l.length cap ∧ l.length ≤ cap ∧ cap ≤ maxLen ∧ (∀ t ∈ l, t.ok w) ∧
    (0 < l.length → ∃ b off, A = some ⟨b, off, none⟩ ∧ b < w.heap.size ∧ ∀ (j : Nat) (t : It), l[j]? = some t →
      w.cell? ⟨b, off + j * 3, none⟩ = some (.int .i64 t.k) ∧ w.cell? ⟨b, off + j * 3 + 1, none⟩ = some (.int .u32 (t.n : Int)) ∧ w.cell? ⟨b, off + j * 3 + 2, none⟩ = some t.v)

theorem Items.below {w w' : World} {v : Value} {l : List It} (h : Items w v l) (hb : Below w.heap.size w w') : Items w' v l := by
  obtain ⟨A, cap, hv, h1, h2, h3, h4⟩ := h
  refine ⟨A, cap, hv, h1, h2, fun t ht => (h3 t ht).below hb, fun hn => ?_⟩
  obtain ⟨b, off, hA, hlt, hc⟩ := h4 hn
  refine ⟨b, off, hA, Nat.lt_of_lt_of_le hlt hb.size, fun j t ht => ?_⟩
  rw [hb.cell (p := ⟨b, off + j * 3, none⟩) hlt, hb.cell (p := ⟨b, off + j * 3 + 1, none⟩) hlt, hb.cell (p := ⟨b, off + j * 3 + 2, none⟩) hlt]
  exact hc j t ht

/-- few items, and small ones -/
def lightB (l : List It) : Bool := decide (l.length ≤ 12) && l.all (fun t => decide (t.b.length ≤ 300))

theorem light_no {l : List It} {k : Nat} {t : It} (h : l[k]? = some t) (hb : 300 < t.b.length) : lightB l = false := by
  have hm : t ∈ l := List.mem_of_getElem? h
  have : (l.all fun t => decide (t.b.length ≤ 300)) = false := by
    rw [List.all_eq_false]
    exact ⟨t, hm, by simp; omega⟩
  simp [lightB, this]

theorem light_yes {l : List It} (hl : l.length ≤ 12) (h : ∀ j, j < l.length → ∀ t, l[j]? = some t → t.b.length ≤ 300) : lightB l = true := by
  simp only [lightB, Bool.and_eq_true, decide_eq_true_eq, List.all_eq_true]
  refine ⟨hl, fun t ht => ?_⟩
  obtain ⟨i, hi, he⟩ := List.getElem_of_mem ht
  exact h i hi t (by rw [List.getElem?_eq_getElem hi, he])

set_option maxHeartbeats 400000 in
theorem light_any {w : World} {v : Value} {l : List It} (h : Items w v l) : Calls Try.prog 10 #[v] w fun e w' => e = .returned (.bool (lightB l)) ∧ w = w' := by
  obtain ⟨A, cap, rfl, h1, h2, h3, h4⟩ := h
  have hm2 : cap ≤ 9223372036854775807 := by simpa [maxLen] using h2
  by_cases hl : l.length ≤ 12
  · by_cases h0 : l.length = 0
    · have : l = [] := List.eq_nil_of_length_eq_zero h0
      subst this
      clear h1 h3 h4 hl h0
      go_enter Try.func10, Try.ntmps10
      go_wp2_with fail
      refine wp_loop_rounds 1 ?_
      rw [rounds_succ]
      go_wp2_with fail
      go_ret
      exact ⟨rfl, rfl⟩
    · obtain ⟨b, off, rfl, _, hc⟩ := h4 (by omega)
      have HC := Lib.hid hc
      have HOK := Lib.hid h3
      obtain ⟨r, hr⟩ : ∃ r, r = lightB l := ⟨_, rfl⟩
      rw [← hr]
      have HR := Lib.hid hr
      clear hc h3 h4 hr h2
      generalize hlen : l.length = n at *
      have HLEN := Lib.hid hlen
      clear hlen
      go_enter Try.func10, Try.ntmps10
      go_wp2_with fail
      go_loop [3] (fun i => ∃ j : Nat, j ≤ n ∧ i = .int .i64 j ∧ Hid (∀ i, i < j → ∀ t, l[i]? = some t → t.b.length ≤ 300)) (fun i => n - (intOf i).toNat)
      case atStart => exact ⟨0, Nat.zero_le _, rfl, fun j hj => by omega⟩
      case round =>
        obtain ⟨j, hj, rfl, hz⟩ := hrel
        by_cases hlt : j < n
        · obtain ⟨t, ht⟩ : ∃ t, l[j]? = some t := ⟨_, List.getElem?_eq_getElem (by rw [HLEN.out]; exact hlt)⟩
          obtain ⟨_, _, hc2⟩ := HC.out j t ht
          obtain ⟨A', c', hv, hc3, hc4⟩ := (HOK.out t (List.mem_of_getElem? ht)).1.shape
          rw [hv] at hc2
          have hc5 : c' ≤ 9223372036854775807 := by simpa [maxLen] using hc4
          have HT := Lib.hid ht
          have HV := Lib.hid hv
          clear ht hv hc4
          by_cases hbig : 300 < t.b.length
          · have hfin := Lib.hid (light_no HT.out hbig)
            generalize t.b.length = m at *
            go_wp2_with fail
            go_ret
            exact ⟨by rw [HR.out, hfin.out]; rfl, rfl⟩
          · have hle : Hid (t.b.length ≤ 300) := Nat.le_of_not_lt hbig
            generalize t.b.length = m at hbig hc2 hc3
            go_wp2_with fail
            go_round
            case rel => exact ⟨j + 1, by omega, by go_num, fun i hi u hu => by
              by_cases h : i = j
              · subst h
                have e : some u = some t := hu.symm.trans HT.out
                injection e with e
                rw [e]; exact hle.out
              · exact hz.out i (by omega) u hu⟩
            case measure => simp [intOf]; omega
        · go_wp2_with fail
          go_ret
          have hjn : j = n := by omega
          exact ⟨by rw [HR.out, light_yes (by rw [HLEN.out]; exact hl) (by rw [HLEN.out, ← hjn]; exact hz.out)]; rfl, rfl⟩
  · have hr : lightB l = false := by simp [lightB, hl]
    rw [hr]
    clear hr h3 h4
    generalize l.length = n at *
    go_enter Try.func10, Try.ntmps10
    go_wp2_with fail
    go_ret
    exact ⟨rfl, rfl⟩

def encAll (l : List It) : List UInt8 := l.flatMap It.enc

theorem enc_le (t : It) (h : t.b.length ≤ 300) : t.enc.length ≤ 310 := by
  have hp : pad t.b.length ≤ 3 := by unfold pad; omega
  unfold It.enc
  split
  · simp [enc4]
  · simp only [encA, enc4, List.length_append, List.length_cons, List.length_nil, List.length_replicate]
    omega

theorem encAll_le : ∀ (l : List It), (∀ t ∈ l, t.b.length ≤ 300) → (encAll l).length ≤ l.length * 310
  | [], _ => by simp [encAll]
  | t :: l, h => by
    have h1 := enc_le t (h t (List.mem_cons_self ..))
    have h2 := encAll_le l (fun u hu => h u (List.mem_cons_of_mem _ hu))
    simp only [encAll, List.flatMap_cons, List.length_append, List.length_cons] at h2 ⊢
    omega

theorem encAll_snoc {l : List It} {k : Nat} {t : It} (h : l[k]? = some t) : encAll (l.take (k + 1)) = encAll (l.take k) ++ t.enc := by
  have hk := (List.getElem?_eq_some_iff.1 h).1
  have he : l[k] = t := (List.getElem?_eq_some_iff.1 h).2
  rw [List.take_succ_eq_append_getElem hk, he]
  simp [encAll]

theorem light_small {l : List It} (h : lightB l = true) : l.length ≤ 12 ∧ ∀ t ∈ l, t.b.length ≤ 300 := by
  simpa [lightB] using h

/-- the bytes so far, in the middle of 'all' -/
def SoFar (w : World) (l : List It) (j : Nat) (v : Value) (wr : World) : Prop := ∃ A c, v = .slice A (encAll (l.take j)).length c ∧ Sees wr v (encAll (l.take j)) ∧ Below w.heap.size w wr

set_option maxHeartbeats 400000 in
theorem all_any {w : World} {v : Value} {l : List It} (h : Items w v l) (hl : lightB l = true) : Calls Try.prog 32 #[v] w (Fresh w (encAll l)) := by
  have HI := Lib.hid h
  obtain ⟨hl12, hsm⟩ := light_small hl
  obtain ⟨A, cap, rfl, h1, h2, h3, h4⟩ := h
  have hm2 : cap ≤ 9223372036854775807 := by simpa [maxLen] using h2
  obtain ⟨n, hn⟩ : ∃ n, l.length = n := ⟨_, rfl⟩
  have HC : n = 0 ∨ ∃ b off, A = some ⟨b, off, none⟩ ∧ b < w.heap.size ∧ Hid (∀ (j : Nat) (t : It), l[j]? = some t →
      w.cell? ⟨b, off + j * 3, none⟩ = some (.int .i64 t.k) ∧ w.cell? ⟨b, off + j * 3 + 1, none⟩ = some (.int .u32 (t.n : Int)) ∧ w.cell? ⟨b, off + j * 3 + 2, none⟩ = some t.v) := by
    rcases Nat.eq_zero_or_pos n with h0 | h0
    · exact .inl h0
    · obtain ⟨b, off, e1, e2, e3⟩ := h4 (by omega)
      exact .inr ⟨b, off, e1, e2, e3⟩
  have HOK := Lib.hid h3
  have HSM := Lib.hid hsm
  have HL := Lib.hid hl
  have HN := Lib.hid hn
  rw [hn] at h1 ⊢
  clear h2 h3 h4 hsm hl hn
  rcases HC with h0 | ⟨b, off, rfl, hb, HC⟩
  · subst h0
    have hl0 : l = [] := List.eq_nil_of_length_eq_zero HN.out
    subst hl0
    go_enter Try.func32, Try.ntmps32
    go_wp2_with fail
    refine wp_loop_rounds 1 ?_
    rw [rounds_succ]
    go_wp2_with fail
    go_ret
    exact ⟨_, rfl, sees_nil _, Below.refl _ _⟩
  · go_enter Try.func32, Try.ntmps32
    go_wp2_with fail
    go_loopw [3, 4] (fun v i wr => ∃ j : Nat, j ≤ n ∧ i = .int .i64 j ∧ SoFar w l j v wr) (fun _ i _ => n - (intOf i).toNat)
    case atStart => exact ⟨0, Nat.zero_le _, rfl, none, 0, rfl, sees_nil _, Below.refl _ _⟩
    case round =>
      obtain ⟨j, hj, rfl, A1, c1, rfl, hse, hbw⟩ := hrel
      by_cases hlt : j < n
      · obtain ⟨t, ht⟩ : ∃ t, l[j]? = some t := ⟨_, List.getElem?_eq_getElem (by rw [HN.out]; exact hlt)⟩
        obtain ⟨g0, g1, g2⟩ := HC.out j t ht
        rw [← hbw.cell (p := ⟨b, off + j * 3, none⟩) hb] at g0
        rw [← hbw.cell (p := ⟨b, off + j * 3 + 1, none⟩) hb] at g1
        rw [← hbw.cell (p := ⟨b, off + j * 3 + 2, none⟩) hb] at g2
        have hok := (HOK.out t (List.mem_of_getElem? ht)).below hbw
        have hlen : (encAll (l.take j)).length ≤ 1000000 := by
          have := encAll_le (l.take j) (fun u hu => HSM.out u (List.mem_of_mem_take hu))
          have h2 : (l.take j).length ≤ 12 := by rw [List.length_take]; omega
          omega
        have HP := Lib.hid (put_any hse hok hlen (by have := HSM.out t (List.mem_of_getElem? ht); omega))
        have HT := Lib.hid ht
        have HB := Lib.hid hbw
        clear hse hok ht
        generalize (encAll (l.take j)).length = m at *
        obtain ⟨k, N, v, xs⟩ := t
        dsimp only at g0 g1 g2
        unfold It.val at HP
        dsimp only at HP
        go_wp2_with fail
        refine HP.out.mono ?_
        rintro e w2 ⟨v2, rfl, h5, h6⟩
        have h7 := h5.sees
        rw [← encAll_snoc HT.out] at h7
        obtain ⟨A2, c2, rfl, _, _⟩ := h7.shape
        have H7 := Lib.hid h7
        clear h5 h7
        generalize hm7 : (encAll (l.take (j + 1))).length = m2
        have HM7 := Lib.hid hm7
        clear hm7
        go_wp2_with fail
        go_roundw
        case rel => exact ⟨j + 1, by omega, by go_num, A2, c2, by rw [HM7.out], by have h := H7.out; rw [HM7.out] at h; exact h, HB.out.trans (h6.mono HB.out.size)⟩
        case measure => simp [intOf]; omega
      · have hjn : j = n := by omega
        have htk : l.take j = l := by rw [hjn, ← HN.out]; exact List.take_length
        rw [htk] at hse ⊢
        have HS := Lib.hid hse
        clear hse htk
        generalize hm : (encAll l).length = m at *
        have HM := Lib.hid hm
        clear hm
        go_wp2_with fail
        go_ret
        exact ⟨_, rfl, HS.out, hbw⟩

end Go.Proofs.Ytealpmcpaakclaa
