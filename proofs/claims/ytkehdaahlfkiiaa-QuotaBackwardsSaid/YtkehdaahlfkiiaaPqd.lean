/-
  Package quota: pairsOf, New.
-/
import Derived.Test.YtkehdaahlfkiiaaPqc
import Derived.Laws.MakeOwn
namespace Go.Proofs.Ytkehdaahlfkiiaa
open Go.RowKit

/-- the cells of n zero pairs -/
def zerosQ (n : Nat) : Array Value := madeCells #[.int .i64 0, .int .i64 0] (n * 2)
theorem make_pairs (n : Nat) (hn : n ≤ 65536) (w : World) : (Instr.makeSlice 60 (.int .i64 (n : Int)) (.int .i64 (n : Int))).run Try.prog w = .ok (.slice (some ⟨w.heap.size, 0, none⟩) n n) (w.alloc (.cells (zerosQ n) 67)) := by
  obtain ⟨i, hi, hz, hs, hb⟩ : ∃ i, Try.prog.info? 67 = some i ∧ i.zero = some (.agg #[.int .i64 0, .int .i64 0]) ∧ i.size = 2 ∧ i.bytes = 16 := by
    have h : (Try.prog.info? 67).map (fun i => (i.zero, i.size, i.bytes)) = some (some (.agg #[.int .i64 0, .int .i64 0]), 2, 16) := by kernel_rfl
    exact infoI_parts h
  have hr := run_make (P := Try.prog) w 60 67 i _ Try.underlying60 hi hz .i64 .i64 n n (by omega) (by omega) (by rw [hb]; omega) (by omega)
  rw [hs, Int.toNat_natCast] at hr
  exact hr
theorem zerosQ_at (n j : Nat) (hj : j < n * 2) : (zerosQ n)[j]? = some (.int .i64 0) := by
  unfold zerosQ madeCells
  rw [Array.getElem?_map]
  simp only [Array.getElem?_range, hj, if_true, Option.map_some, Option.some.injEq]
  have : j % 2 = 0 ∨ j % 2 = 1 := by omega
  rcases this with e | e <;> simp [e]

/-- the pairs, as a thing -/
def pairsO (b : Nat) (ls cs : List Int) : Ob := ⟨fun W => PairsAt W b ls cs, fun k => k = b⟩
theorem pairsO_keeps (b : Nat) (ls cs : List Int) : (pairsO b ls cs).Keeps := fun _ _ hz hb hp => PairsAt.keep hp hz (hb b rfl)
theorem pairsO_new (w : World) (n : Nat) : HO w (w.alloc (.cells (zerosQ n) 67)) [pairsO w.heap.size (List.replicate n 0) (List.replicate n 0)] := by
  have hz : ∀ j, j < n * 2 → (w.alloc (.cells (zerosQ n) 67)).cell? ⟨w.heap.size, j, none⟩ = some (.int .i64 0) := fun j hj => by
    simp [go_sem]
    exact zerosQ_at n j hj
  refine (HO.nil w).new ((Below.refl _ _).alloc (Nat.le_refl _) _) (pairsO _ _ _) ⟨fun i x hx => ?_, fun i x hx => ?_, fun i => by simp [go_sem], by simp⟩ (pairsO_keeps _ _ _) (fun k hk => ?_)
  · obtain ⟨hi, rfl⟩ := List.getElem?_eq_some_iff.1 hx
    rw [List.length_replicate] at hi
    rw [List.getElem_replicate]
    exact hz _ (by omega)
  · obtain ⟨hi, rfl⟩ := List.getElem?_eq_some_iff.1 hx
    rw [List.length_replicate] at hi
    rw [List.getElem_replicate]
    exact hz _ (by omega)
  · have hk : k = w.heap.size := hk
    subst hk
    exact ⟨Nat.le_refl _, by simp⟩
theorem PairsAt.lput {W : World} {b : Nat} {ls cs : List Int} (h : PairsAt W b ls cs) {i : Nat} (hi : i < ls.length) (x : Int) : PairsAt (W.setCell ⟨b, i * 2 + 1, none⟩ (.int .i64 x)) b (ls.set i x) cs := by
  refine ⟨fun j y hy => ?_, fun j y hy => ?_, fun j => ?_, by simpa using h.there⟩
  · by_cases e : i = j
    · subst e
      rw [List.getElem?_set_self hi] at hy
      injection hy with hy
      subst hy
      exact World.cell?_setCell_same _ _ _ (h.lim i _ (List.getElem?_eq_getElem hi))
    · rw [List.getElem?_set_ne e] at hy
      rw [World.cell?_setCell_other _ _ _ _ (fun q => by have := congrArg Addr.off q; simp only at this; omega)]
      exact h.lim j y hy
  · rw [World.cell?_setCell_other _ _ _ _ (fun q => by have := congrArg Addr.off q; simp only at this; omega)]
    exact h.cnt j y hy
  · rw [World.frozen?_setCell]
    exact h.free j
theorem HO.lput {w W : World} {b : Nat} {ls cs : List Int} (h : HO w W [pairsO b ls cs]) {i : Nat} (hi : i < ls.length) (x : Int) : HO w (W.setCell ⟨b, i * 2 + 1, none⟩ (.int .i64 x)) [pairsO b (ls.set i x) cs] := by
  have hp : PairsAt W b ls cs := (show HO w W ([] ++ pairsO b ls cs :: []) from h).at
  exact (show HO w W ([] ++ pairsO b ls cs :: []) from h).turn (W' := W.setCell ⟨b, i * 2 + 1, none⟩ (.int .i64 x)) ⟨rfl, rfl, rfl, by simp, fun j _ hne => Below.heap_setCell W ⟨b, i * 2 + 1, none⟩ (.int .i64 x) j (fun e => hne (show j = b from e))⟩ (pairsO b (ls.set i x) cs) (hp.lput hi x) (pairsO_keeps _ _ _) (fun j hj => .inl hj) (fun j hj => by rw [show j = b from hj]; simpa using hp.there)

/-- the limits of which i are written -/
def filQ (L : List Int) (i : Nat) : List Int := (newQ (L.take i)).ls ++ List.replicate (L.length - i) 0
theorem filQ_len (L : List Int) {i : Nat} (hi : i ≤ L.length) : (filQ L i).length = L.length := by
  unfold filQ newQ
  simp
  omega
theorem filQ_zero (L : List Int) : filQ L 0 = List.replicate L.length 0 := by simp [filQ, newQ]
theorem filQ_all (L : List Int) : filQ L L.length = (newQ L).ls := by simp [filQ]
theorem filQ_set {L : List Int} {i : Nat} {x : Int} (hx : L[i]? = some x) : (filQ L i).set i (max 0 x) = filQ L (i + 1) := by
  have hi := (List.getElem?_eq_some_iff.1 hx).1
  have hl : (newQ (L.take i)).ls.length = i := by simp [newQ]; omega
  unfold filQ
  rw [(newQ_take hx).1, List.set_append_right _ _ (by omega), hl, Nat.sub_self, show L.length - i = (L.length - (i + 1)) + 1 by omega, List.replicate_succ, List.set_cons_zero, List.append_assoc]
  rfl
theorem newQ_cs (L : List Int) : (newQ L).cs = List.replicate L.length 0 := by simp [newQ, List.map_const']

set_option maxRecDepth 100000 in
set_option maxHeartbeats 4000000 in
theorem p_pairs_any {w : World} {v : Value} {L : List Int} (h : Is w v L) (hl : L.length ≤ 100) :
    Calls Try.prog 27 #[v] w fun e w' => e = .returned (.slice (some ⟨w.heap.size, 0, none⟩) L.length L.length) ∧ HO w w' [pairsO w.heap.size (newQ L).ls (newQ L).cs] := by
  have HA := Lib.hid h
  obtain ⟨A, c, rfl, h1, h2⟩ := h.shape
  simp only [maxLen] at h2
  have MK := make_pairs L.length (by omega)
  have J0 := Lib.hid (pairsO_new w L.length)
  rw [newQ_cs]
  obtain ⟨z, hz⟩ : ∃ z, List.replicate L.length (0 : Int) = z := ⟨_, rfl⟩
  rw [hz] at J0 ⊢
  have J1 := Lib.hid (show HO w (w.alloc (.cells (zerosQ L.length) 67)) [pairsO w.heap.size (filQ L 0) z] from by rw [filQ_zero, hz]; exact J0.out)
  have FL := fun (i : Nat) (hi : i ≤ L.length) => Lib.hid (filQ_len L hi)
  have FA := Lib.hid (filQ_all L)
  obtain ⟨n, hn⟩ : ∃ n, L.length = n := ⟨_, rfl⟩
  have HN := Lib.hid hn
  rw [hn] at h1 HA MK J1 FL FA hl ⊢
  obtain ⟨g, hg⟩ : ∃ g, w.heap.size = g := ⟨_, rfl⟩
  rw [hg] at J1 ⊢
  have MK2 := MK w
  rw [hg] at MK2
  clear h hn hz J0 hg MK
  go_enter Try.func27, Try.ntmps27
  go_wp2_with fail
  go_loopw [11] (fun s11 wr => ∃ (i : Nat), i ≤ n ∧ s11 = .int .i64 (i : Int) ∧ Hid (HO w wr [pairsO g (filQ L i) z])) (fun s11 _ => leftN n s11)
  case atStart => exact ⟨0, Nat.zero_le _, rfl, J1⟩
  case round =>
    clear J1 MK2
    obtain ⟨i, hi, rfl, J⟩ := hrel
    by_cases hlt : i < n
    · have q0 : (0 : Int) ≤ i := by omega
      have q1 : (i : Int) < n := by omega
      obtain ⟨x, hx⟩ : ∃ x, L[i]? = some x := ⟨_, List.getElem?_eq_getElem (by rw [HN.out]; exact hlt)⟩
      obtain ⟨b, off, rfl, hb, d1⟩ := is_at HA.out J.out.below hx
      have hset := J.out.lput (i := i) (by rw [(FL i hi).out]; exact hlt) (max 0 x)
      rw [filQ_set hx] at hset
      have J2 := Lib.hid hset
      have hp := (show HO w wr ([] ++ pairsO g _ _ :: []) from J.out).at
      have c0 : ∃ u, wr.cell? ⟨g, i * 2 + 1, none⟩ = some (.int .i64 u) := ⟨_, hp.lim i _ (List.getElem?_eq_getElem (by rw [(FL i hi).out]; exact hlt))⟩
      obtain ⟨u, c0⟩ := c0
      have cf := hp.free
      have cl := hp.there
      have mx : max x 0 = max 0 x := by omega
      generalize max 0 x = y at *
      clear hset hp hx J FL
      go_wp2_with fail
      go_roundw
      case rel => exact ⟨i + 1, by omega, by go_num, J2⟩
      case measure =>
        unfold leftN
        simp [intOf]
        omega
    · obtain rfl : i = n := by omega
      rw [FA.out] at J
      go_wp2_with fail
      go_ret
      exact ⟨rfl, J.out⟩

set_option maxRecDepth 100000 in
set_option maxHeartbeats 4000000 in
theorem p_new_any {w0 W : World} (hb : Below w0.heap.size w0 W) {v : Value} {L : List Int} (h : Is W v L) (hl : L.length ≤ 100) :
    Calls Try.prog 12 #[v] W fun e w' => ∃ rv S, e = .returned rv ∧ Q0 w0 w' rv (newQ L) S ∧ (∀ k, S k → W.heap.size ≤ k) ∧ Below W.heap.size W w' := by
  have P := Lib.hid (p_pairs_any h hl)
  obtain ⟨A, c, rfl, h1, h2⟩ := h.shape
  have hz := hb.size
  have hlen : (newQ L).ls.length = L.length := by simp [newQ]
  have HX := Lib.hid hl
  have HY := Lib.hid hlen
  clear h hb hlen hl
  generalize L.length = n at *
  go_enter Try.func12, Try.ntmps12
  go_wp2_with fail
  refine P.out.mono ?_
  rintro e w1 ⟨rfl, hJ⟩
  have J := Lib.hid (hJ.alloc (quoC w1.heap.size W.heap.size n) 63)
  have hgt : W.heap.size < w1.heap.size := (show HO W w1 ([] ++ pairsO _ _ _ :: []) from hJ).at.there
  clear P hJ
  go_wp2_with fail
  go_ret
  refine ⟨_, fun k => k = w1.heap.size ∨ k = W.heap.size, rfl, ⟨w1.heap.size, W.heap.size, rfl, by omega, hz, by omega, by rw [HY.out]; exact HX.out, fun _ => Iff.rfl, ?_, ?_⟩, fun k e => ?_, J.out.below⟩
  · rw [HY.out]
    exact (show HO W _ ([] ++ boxO _ _ :: _) from J.out).at
  · exact (show HO W _ ([_] ++ pairsO _ _ _ :: []) from J.out).at
  · rcases e with rfl | rfl <;> omega

end Go.Proofs.Ytkehdaahlfkiiaa
