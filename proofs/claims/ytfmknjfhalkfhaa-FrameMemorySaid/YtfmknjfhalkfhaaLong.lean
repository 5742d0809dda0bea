/-
  Pieces: a slice of slices of bytes, opened; the law file's 'long'.
-/
import Derived.Test.YtfmknjfhalkfhaaOpen
import Derived.SizedLaws
namespace Go.Proofs.Ytfmknjfhalkfhaa
open Go.ChangeShapes Go.WideShapes Go.ChangeAt Go.RowKit Mem Wire

section
variable {H : Type} {enc : TypeId × Value → H} {W : World} {fuel : Nat}

/-- a slice of slices of bytes -/
def Pieces (w : World) (v : Value) (l : List (List UInt8 × Value)) : Prop :=
  ∃ (A : Option Addr) (cap : Nat), v = .slice A l.length cap ∧ l.length ≤ cap ∧ cap ≤ maxLen ∧ (∀ t ∈ l, Sees w t.2 t.1) ∧
    (0 < l.length → ∃ b off, A = some ⟨b, off, none⟩ ∧ b < w.heap.size ∧ ∀ (j : Nat) (t : List UInt8 × Value), l[j]? = some t → w.cell? ⟨b, off + j, none⟩ = some t.2)

theorem cells23 : Try.prog.cellsOf 23 = 1 := by kernel_rfl

theorem bytes5 : Try.prog.bytesOf 5 = 1 := by kernel_rfl

/-- bytes within the form's reach -/
theorem open_bytes_sized {v : Value} {x : DataW H × List MemPlace} (h : DataW.trod enc Try.prog W 0 (fun _ => true) true fuel 23 [v] = some x) (hw : ∀ n ∈ x.1.weights Try.prog 23, n ≤ reachBytes) : ∃ bs, Sees W v bs ∧ bs.length ≤ 140737488351232 := by
  obtain ⟨bs, hs⟩ := open_bytes h
  refine ⟨bs, hs, ?_⟩
  rcases open_ints Try.underlying23 Try.underlying5 cells5 h with ⟨hv, _⟩ | ⟨a, len, cap, zs, hv, _, hl, hm, hz, hx, _, _⟩
  · injection hv with hv
    subst hv
    obtain ⟨_, _, e, _⟩ := hs.shape
    injection e with _ e2 _
    omega
  · injection hv with hv
    subst hv
    obtain ⟨_, _, e, _⟩ := hs.shape
    injection e with _ e2 _
    have h1 := hw ((zs.take len).length + (zs.drop len).length) (by rw [hx]; simp [DataW.weights, Try.underlying23, bytes5, lits])
    simp only [if_true] at hz
    simp only [List.length_take, List.length_drop, reachBytes] at h1
    omega

theorem weightsAll_mem {P : Program} {e : TypeId} {n : Nat} : ∀ {l : List (DataW H)} {d : DataW H}, d ∈ l → n ∈ d.weights P e → n ∈ DataW.weightsAll P e l
  | d0 :: l, d, hd, hn => by
    simp only [DataW.weightsAll, List.mem_append]
    rcases List.mem_cons.1 hd with rfl | hd
    · exact .inl hn
    · exact .inr (weightsAll_mem hd hn)

theorem open_pieces {v : Value} {d : DataW H} {p : List MemPlace} (h : DataW.Trod enc Try.prog W 0 (fun _ => true) true 36 v d p) (hv : ∃ A n c, v = .slice A n c) (hw : ∀ n ∈ d.weights Try.prog 36, n ≤ reachBytes) :
    ∃ l, Pieces W v l ∧ ∀ t ∈ l, t.1.length ≤ 140737488351232 := by
  obtain ⟨A, n, c, rfl⟩ := hv
  obtain ⟨fuel, hf⟩ := h
  rcases Deep.open_slice Try.underlying36 hf with ⟨e, _⟩ | ⟨a, len, cap, m, _, D, Pl, e, _, hl, hm, hmm, hxd, hi⟩
  · simp only [Value.cells] at e
    have e2 : Value.slice A n c = .slice none 0 0 := by simpa using e
    rw [e2]
    exact ⟨[], ⟨none, 0, rfl, Nat.le_refl _, by simp [maxLen], fun t ht => by simp at ht, fun h => by simp at h⟩, by simp⟩
  · simp only [Value.cells] at e
    have e2 : Value.slice A n c = .slice (some a) len cap := by simpa using e
    rw [e2]
    simp only [if_true] at hmm
    rw [cells23] at hi
    obtain ⟨l, hll, hp⟩ := list_of (α := List UInt8 × Value) (P := fun i t => (Sees W t.2 t.1 ∧ t.1.length ≤ 140737488351232) ∧ W.cell? (a.add i) = some t.2) len (fun i hlt => by
      obtain ⟨cs', hc, ht⟩ := hi i (by omega)
      obtain ⟨hlen, _, hat⟩ := World.cells?_some hc
      have h0 := hat 0 (by omega)
      rw [Deep.add_add, Nat.mul_one, Nat.add_zero] at h0
      match cs', ht, h0, hlen with
      | [c0], ht, h0, _ =>
        obtain ⟨bs, hs⟩ := open_bytes_sized ht (fun n hn => hw n (by
          have e1 : d = .slice ((List.range len).map D) ((List.range (m - len)).map fun j => D (len + j)) := congrArg Prod.fst hxd
          rw [e1]
          simp only [DataW.weights, Try.underlying36, List.mem_cons, List.mem_append]
          exact .inr (.inl (weightsAll_mem (List.mem_map.2 ⟨i, List.mem_range.2 hlt, rfl⟩) hn))))
        exact ⟨(bs, c0), hs, by simpa using h0⟩)
    subst hll
    refine ⟨l, ⟨some a, cap, rfl, hl, hm, fun t ht => ?_, fun hn => ?_⟩, fun t ht => ?_⟩
    · obtain ⟨i, hi2, he⟩ := List.getElem_of_mem ht
      exact (hp i t (by rw [List.getElem?_eq_getElem hi2, he])).1.1
    · obtain ⟨b, off, spot⟩ := a
      obtain ⟨t0, ht0⟩ : ∃ t, l[0]? = some t := ⟨_, List.getElem?_eq_getElem hn⟩
      have h0 := (hp 0 t0 ht0).2
      have hspot : spot = none := by simpa [Addr.add] using World.cell?_spot h0
      subst hspot
      refine ⟨b, off, rfl, ?_, fun j t ht => ?_⟩
      · have := World.block_lt_of_cell? W _ h0
        rw [add_at] at this
        exact this
      · obtain ⟨_, h1⟩ := hp j t ht
        rw [add_at] at h1
        exact h1
    · obtain ⟨i, hi2, he⟩ := List.getElem_of_mem ht
      exact (hp i t (by rw [List.getElem?_eq_getElem hi2, he])).1.2
end

/-- the bytes of pieces, in total -/
def total : List (List UInt8 × Value) → Nat
  | [] => 0
  | t :: l => t.1.length + total l

theorem total_append (l m : List (List UInt8 × Value)) : total (l ++ m) = total l + total m := by
  induction l with
  | nil => simp [total]
  | cons f l ih => simp only [List.cons_append, total, ih]; omega

theorem total_take {l : List (List UInt8 × Value)} {k : Nat} {p : List UInt8 × Value} (h : l[k]? = some p) : total (l.take (k + 1)) = total (l.take k) + p.1.length := by
  have hk := (List.getElem?_eq_some_iff.1 h).1
  have he : l[k] = p := (List.getElem?_eq_some_iff.1 h).2
  rw [List.take_succ_eq_append_getElem hk, he, total_append]
  simp [total]

theorem total_take_le (l : List (List UInt8 × Value)) (k : Nat) : total (l.take k) ≤ total l := by
  have h : l = l.take k ++ l.drop k := (List.take_append_drop k l).symm
  conv => rhs; rw [h, total_append]
  omega

theorem Pieces.below {w w' : World} {v : Value} {l : List (List UInt8 × Value)} (h : Pieces w v l) (hb : Below w.heap.size w w') : Pieces w' v l := by
  obtain ⟨A, cap, hv, h1, h2, h3, h4⟩ := h
  refine ⟨A, cap, hv, h1, h2, fun t ht => (h3 t ht).below hb, fun hn => ?_⟩
  obtain ⟨b, off, hA, hlt, hc⟩ := h4 hn
  exact ⟨b, off, hA, Nat.lt_of_lt_of_le hlt hb.size, fun j t ht => (hb.cell (p := ⟨b, off + j, none⟩) hlt).trans (hc j t ht)⟩

theorem ret_bool {a b : Bool} (h : a = b) : Ending.returned (.bool a) = .returned (.bool b) := by rw [h]

def longB (l : List (List UInt8 × Value)) : Bool := decide (40 < l.length ∨ 20000 < total l)

set_option maxHeartbeats 1000000 in
theorem long_any {w : World} {v : Value} {l : List (List UInt8 × Value)} (h : Pieces w v l) (hl : ∀ t ∈ l, t.1.length ≤ 140737488351232) : Calls Try.prog 16 #[v, .int .i64 20000] w fun e w' => e = .returned (.bool (longB l)) ∧ w = w' := by
  obtain ⟨A, cap, rfl, h1, h2, h3, h4⟩ := h
  simp only [maxLen] at h2
  obtain ⟨r, hr⟩ : ∃ r, r = longB l := ⟨_, rfl⟩
  rw [← hr]
  have HR : Hid (r = decide (40 < l.length ∨ 20000 < total l)) := hr
  have HB := Lib.hid hl
  have HS := Lib.hid h3
  clear hl h3 hr
  by_cases h0 : l.length = 0
  · have : l = [] := List.eq_nil_of_length_eq_zero h0
    subst this
    have hrf : r = false := by rw [HR.out]; simp [total]
    subst hrf
    clear h1 h4 h0
    go_enter Try.func16, Try.ntmps16
    go_wp2_with fail
    refine wp_loop_rounds 1 ?_
    rw [rounds_succ]
    go_wp2_with fail
    go_ret
    exact ⟨rfl, rfl⟩
  · obtain ⟨b, off, rfl, hb, hc⟩ := h4 (by omega)
    have HC := Lib.hid hc
    clear hc h4
    generalize hlen : l.length = n at *
    have HN := Lib.hid hlen
    clear hlen
    go_enter Try.func16, Try.ntmps16
    go_wp2_with fail
    go_loop [5, 6] (fun t i => ∃ k tk : Nat, k ≤ n ∧ i = .int .i64 k ∧ t = .int .i64 tk ∧ tk ≤ 140737488371232 ∧ Hid (tk = total (l.take k))) (fun _ i => n - (intOf i).toNat)
    case atStart => exact ⟨0, 0, Nat.zero_le _, rfl, rfl, by omega, by simp [Hid, total]⟩
    case round =>
      obtain ⟨k, tk, hk, rfl, rfl, htl, htk⟩ := hrel
      by_cases hlt : k < n
      · by_cases hbig : tk ≤ 20000
        · obtain ⟨t, ht⟩ : ∃ t, l[k]? = some t := ⟨_, List.getElem?_eq_getElem (by rw [HN.out]; exact hlt)⟩
          have c0 := HC.out k t ht
          have hbt := HB.out t (List.mem_of_getElem? ht)
          have hnew : Hid (tk + t.1.length = total (l.take (k + 1))) := by show _ = _; rw [total_take ht, htk.out]
          obtain ⟨A5, c5, hv5, hc5, hm5⟩ := (HS.out t (List.mem_of_getElem? ht)).shape
          rw [hv5] at c0
          have hm6 : c5 ≤ 9223372036854775807 := by simpa [maxLen] using hm5
          clear ht hv5 hm5
          generalize t.1.length = m at *
          go_wp2_with fail
          go_round
          case rel => exact ⟨k + 1, tk + m, by omega, by go_num, by go_num, by omega, hnew⟩
          case measure => simp [intOf]; omega
        · have hle := total_take_le l k
          have hrt : r = true := by
            rw [HR.out, decide_eq_true_eq]
            refine .inr ?_
            have := htk.out
            omega
          subst hrt
          clear hle
          by_cases h40 : 40 < n
          · go_wp2_with fail
            go_ret
            exact ⟨rfl, rfl⟩
          · go_wp2_with fail
            go_ret
            exact ⟨rfl, rfl⟩
      · have hkn : k = n := by omega
        have htot : tk = total l := by rw [htk.out, hkn, ← HN.out, List.take_length]
        by_cases h40 : 40 < n
        · have hrt : r = true := by rw [HR.out, decide_eq_true_eq]; exact .inl h40
          subst hrt
          clear htot
          go_wp2_with fail
          go_ret
          exact ⟨rfl, rfl⟩
        · by_cases hbig : 20000 < tk
          · have hrt : r = true := by rw [HR.out, decide_eq_true_eq]; exact .inr (by omega)
            subst hrt
            clear htot
            go_wp2_with fail
            go_ret
            exact ⟨ret_bool (by simp; omega), rfl⟩
          · have hrf : r = false := by rw [HR.out, decide_eq_false_iff_not]; omega
            subst hrf
            clear htot
            go_wp2_with fail
            go_ret
            exact ⟨ret_bool (by simp; omega), rfl⟩

theorem long_no {l : List (List UInt8 × Value)} (h : longB l = false) : l.length ≤ 40 ∧ total l ≤ 20000 := by
  unfold longB at h
  rw [decide_eq_false_iff_not] at h
  omega

end Go.Proofs.Ytfmknjfhalkfhaa
