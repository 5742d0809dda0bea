/-
  The law file's 'same', of lists that are the same, and 'long'.
-/
import Derived.Test.YtfmknjfhalkfhaaSplit
import Derived.BigQuiet
import Derived.Deep.QuietTactic
import Derived.Lib.BytesEntry
import Derived.Laws.BytesArg
namespace Go.Proofs.Ytfmknjfhalkfhaa
open Go.RowKit Mem Wire

theorem bytesOf_nums (bs : List UInt8) : Lib.bytesOf (bs.map fun x => (x.toNat : Int)) = bs := by
  unfold Lib.bytesOf
  rw [List.map_map]
  conv => rhs; rw [← List.map_id bs]
  apply List.map_congr_left
  intro x _
  simp

/-- string(b) of a slice of bytes -/
theorem run_text {P : Program} {w : World} {A : Option Addr} {n c : Nat} {bs : List UInt8} {src e dst : TypeId} (h1 : P.underlying src = some (.slice e)) (h2 : P.underlying e = some (.int .u8)) (h3 : P.underlying dst = some .string)
    (hs : Sees w (.slice A n c) bs) : (convert src dst (.slice A n c)).run P w = .ok (.string ⟨bs.toArray⟩) w := by
  rcases hs.ways with ⟨A', c', hv, rfl, _⟩ | ⟨b, off, n', c', hv, hl, _, _, _, _, hcell⟩
  · injection hv with e1 e2 e3
    subst e2
    cases A with
    | none => exact run_convert_bytes_nil w src e h1 h2 0 c dst h3
    | some a =>
      have h := run_convert_bytes_nil (P := P) w src e h1 h2 0 c dst h3
      rw [run_convert_bytes_string w src dst e _ 0 c h1 h2 h3] at h ⊢
      have hl : (loadCells a 0).run P w = .ok (([] : List Int).map (Value.int .u8)).toArray w := rfl
      rw [run_bytesToString w a 0 c [] hl]
      rfl
  · injection hv with e1 e2 e3
    subst e1 e2 e3
    have h := run_convert_bytes_arg (P := P) w src e h1 h2 b off n c (bs.map fun x => (x.toNat : Int)) (by simpa using hl) (fun i hi => by
      rw [hcell i hi]
      unfold byte
      simp only [List.getD, List.getElem?_map]
      rw [List.getElem?_eq_getElem (by omega)]
      rfl) dst h3
    rw [h]
    have := bytesOf_nums bs
    unfold Lib.bytesOf at this
    unfold strOfNums
    rw [this]

/-- what a call that only draws and returns b leaves -/
def Tells (w : World) (b : Bool) (e : Ending) (w' : World) : Prop := e = .returned (.bool b) ∧ ∃ q, w' = w.drewN q

theorem fst_at {l : List (Fr × Value)} {k : Nat} {p : Fr × Value} (h : l[k]? = some p) : (fst l)[k]? = some p.1 := by
  unfold fst
  rw [List.getElem?_map, h]
  rfl

set_option maxHeartbeats 1000000 in
theorem same_true {w : World} {v1 v2 : Value} {l m : List (Fr × Value)} (h1 : Frs w v1 l) (h2 : Frs w v2 m) (he : fst l = fst m) : Calls Try.prog 15 #[v1, v2] w (Tells w true) := by
  obtain ⟨A, c, rfl, hc1, hm1, hs1, hcell1⟩ := h1
  obtain ⟨A', c', rfl, hc2, hm2, hs2, hcell2⟩ := h2
  have hlen : l.length = m.length := by rw [← fst_length, he, fst_length]
  simp only [maxLen] at hm1 hm2
  have HE := Lib.hid he
  by_cases h0 : l.length = 0
  · rw [← hlen, h0] at *
    clear hcell1 hcell2
    go_enter Try.func15, Try.ntmps15
    go_wp2_with fail
    refine wp_loop_rounds 1 ?_
    rw [rounds_succ]
    go_wp2_with fail
    go_ret
    exact ⟨rfl, 0, rfl⟩
  · obtain ⟨b, off, rfl, hb, hcl⟩ := hcell1 (by omega)
    obtain ⟨b', off', rfl, hb', hcl'⟩ := hcell2 (by omega)
    have HC := Lib.hid hcl
    have HC' := Lib.hid hcl'
    have HS := Lib.hid hs1
    have HS' := Lib.hid hs2
    rw [← hlen] at hc2 ⊢
    clear hcl hcl' hcell1 hcell2 hs1 hs2 he
    have HLN := Lib.hid hlen
    clear hlen
    generalize hln : l.length = n at *
    have HL := Lib.hid hln
    clear hln
    go_enter Try.func15, Try.ntmps15
    go_wp2_with fail
    go_loopw [13] (fun i wr => ∃ k q : Nat, k ≤ n ∧ i = .int .i64 k ∧ wr = w.drewN q) (fun i _ => n - (intOf i).toNat)
    case atStart => exact ⟨0, 0, Nat.zero_le _, rfl, rfl⟩
    case round =>
      obtain ⟨k, q, hk, rfl, rfl⟩ := hrel
      by_cases hlt : k < n
      · obtain ⟨p, hp⟩ : ∃ p, l[k]? = some p := ⟨_, List.getElem?_eq_getElem (by rw [HL.out]; exact hlt)⟩
        obtain ⟨p', hp'⟩ : ∃ p, m[k]? = some p := ⟨_, List.getElem?_eq_getElem (by rw [← HLN.out]; exact hlt)⟩
        have hpp : p'.1 = p.1 := by
          have e1 := fst_at hp
          have e2 := fst_at hp'
          rw [HE.out, e2] at e1
          injection e1
        obtain ⟨a0, a1, a2⟩ := HC.out k p hp
        obtain ⟨b0, b1, b2⟩ := HC'.out k p' hp'
        have s1 := HS.out p (List.mem_of_getElem? hp)
        have s2 := HS'.out p' (List.mem_of_getElem? hp')
        rw [hpp] at b0 b1 s2
        obtain ⟨⟨o, cc, bb⟩, sv⟩ := p
        obtain ⟨f', sv'⟩ := p'
        dsimp only at *
        obtain ⟨A5, c5, rfl, _, _⟩ := s1.shape
        obtain ⟨A6, c6, rfl, _, _⟩ := s2.shape
        have t1 : ∀ q, (convert 23 9 (.slice A5 bb.length c5)).run Try.prog (w.drewN q) = .ok (.string ⟨bb.toArray⟩) (w.drewN q) := fun q => run_text Try.underlying23 Try.underlying5 Try.underlying9 (w := w.drewN q) s1
        have t2 : ∀ q, (convert 23 9 (.slice A6 bb.length c6)).run Try.prog (w.drewN q) = .ok (.string ⟨bb.toArray⟩) (w.drewN q) := fun q => run_text Try.underlying23 Try.underlying5 Try.underlying9 (w := w.drewN q) s2
        clear s1 s2 hp hp' hpp
        generalize bb.length = bl at *
        generalize (⟨bb.toArray⟩ : ByteArray) = str at *
        go_wp2_with fail
        go_quiet (fail)
        go_wp2_with fail
        go_roundw
        case rel => exact ⟨k + 1, _, by omega, by go_num, rfl⟩
        case measure => simp [intOf]; omega
      · go_wp2_with fail
        go_ret
        exact ⟨rfl, q, rfl⟩

end Go.Proofs.Ytfmknjfhalkfhaa
