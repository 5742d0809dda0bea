/-
  RequestOpcode of the package: its closure, slices.IndexFunc over it; ValidSignature.
-/
import Derived.Test.YtjefalkcolmjcaaDoorPkc
namespace Go.Proofs.YtjefalkcolmjcaaDoor
open Go.RowKit

theorem p_same_any {w : World} {k : Nat} {o : ByteArray} (hc : w.cell? ⟨k, 0, none⟩ = some (.string o)) (hk : k < w.heap.size) (x : On) {s : Bool} (hs : decide (x.nm = o) = s) :
    Calls Tryd.prog 35 #[.agg #[.string x.nm, .string x.sg, .int .i64 x.sn], .pointer (some ⟨k, 0, none⟩)] w fun e w' => e = .returned (.bool s) ∧ Below w.heap.size w w' := by
  obtain ⟨a, b, c⟩ := x
  have HB := Lib.hid ((Below.refl w.heap.size w).alloc (Nat.le_refl _) (.cells #[.string a, .string b, .int .i64 c] 28))
  have e0 : (a.toList == o.toList) = s := by
    by_cases h : a = o
    · subst h
      rw [← hs]
      simp
    · rw [str_ne h, ← hs]
      simpa using h
  have c1 := (HB.out.cell (p := ⟨k, 0, none⟩) hk).trans hc
  clear hs
  go_enter Tryd.func35, Tryd.ntmps35
  go_wp2_with fail
  go_ret
  exact ⟨rfl, HB.out⟩

/-- what slices.IndexFunc answers -/
def idxF (l : List On) (o : ByteArray) : Int := if (opcF l o 0).2 = true then (opcF l o 0).1 else -1

set_option maxHeartbeats 2000000 in
theorem p_index_any {w : World} {v : Value} {l : List On} (hv : Opns w v l) (hlen : l.length ≤ 13) {k : Nat} {o : ByteArray} (hc : w.cell? ⟨k, 0, none⟩ = some (.string o)) (hk : k < w.heap.size) :
    Calls Tryd.prog 34 #[v, .func (.func 35) #[] #[.pointer (some ⟨k, 0, none⟩)]] w fun e w' => e = .returned (.int .i64 (idxF l o)) ∧ Below w.heap.size w w' := by
  have C := fun (W : World) (hb : Below w.heap.size w W) (x : On) (s : Bool) (hs : decide (x.nm = o) = s) => Lib.hid (p_same_any (w := W) ((hb.cell (p := ⟨k, 0, none⟩) hk).trans hc) (Nat.lt_of_lt_of_le hk hb.size) x hs)
  have HO := Lib.hid (fun (W : World) hb (A : Option Addr) (n cap : Nat) (e : v = .slice A n cap) j x hx => opns_at (W := W) (by rw [e] at hv; exact hv) hb (j := j) (o := x) hx)
  obtain ⟨A, cap, rfl, hcap, hm, -⟩ := hv
  obtain ⟨r, hr⟩ : ∃ r, idxF l o = r := ⟨_, rfl⟩
  rw [hr]
  have H0 : Hid ((if (opcF (l.drop 0) o 0).2 = true then (opcF (l.drop 0) o 0).1 else -1) = r) := Lib.hid hr
  have HB0 := Lib.hid (Below.refl w.heap.size w)
  obtain ⟨len, hn⟩ : ∃ len, l.length = len := ⟨_, rfl⟩
  rw [hn] at hlen hcap HO ⊢
  have HN := Lib.hid hn
  simp only [maxLen] at hm
  clear hr hn hc hk
  go_enter Tryd.func34, Tryd.ntmps34
  go_wp2_with fail
  go_loopw [8] (fun s8 wr => ∃ i : Nat, i ≤ len ∧ s8 = .int .i64 (i : Int) ∧ Hid ((if (opcF (l.drop i) o i).2 = true then (opcF (l.drop i) o i).1 else -1) = r) ∧ Hid (Below w.heap.size w wr)) (fun s8 _ => leftN len s8)
  case atStart => exact ⟨0, Nat.zero_le _, rfl, H0, HB0⟩
  case round =>
    obtain ⟨i, hi, rfl, HI, HB⟩ := hrel
    by_cases hlt : i < len
    · have q0 : (0 : Int) ≤ i := by omega
      have q1 : (i : Int) < len := by omega
      obtain ⟨x, hx⟩ : ∃ x, l[i]? = some x := ⟨_, List.getElem?_eq_getElem (by rw [HN.out]; exact hlt)⟩
      have he := HI.out
      rw [drop_at hx] at he
      unfold opcF at he
      obtain ⟨b, off, rfl, hb, t0, t1, t2⟩ := HO.out wr HB.out A len cap rfl i x hx
      by_cases hxo : x.nm = o
      · rw [if_pos hxo] at he
        have D := C wr HB.out x true (decide_eq_true hxo)
        have hr : (i : Int) = r := he
        subst hr
        clear hx HI H0 C HO hxo he
        obtain ⟨xa, xb, xc⟩ := x
        go_wp2_with fail
        refine D.out.mono ?_
        rintro e w1 ⟨rfl, hb1⟩
        have HB2 := Lib.hid (HB.out.trans (hb1.mono HB.out.size))
        clear hb1 D
        go_wp2_with fail
        go_ret
        exact ⟨rfl, HB2.out⟩
      · rw [if_neg hxo] at he
        have D := C wr HB.out x false (decide_eq_false hxo)
        have HI2 := Lib.hid he
        clear hx HI H0 C HO hxo he
        obtain ⟨xa, xb, xc⟩ := x
        go_wp2_with fail
        refine D.out.mono ?_
        rintro e w1 ⟨rfl, hb1⟩
        have HB2 := Lib.hid (HB.out.trans (hb1.mono HB.out.size))
        clear hb1 D
        go_wp2_with fail
        go_roundw
        case rel => exact ⟨i + 1, by omega, by go_num, HI2, HB2⟩
        case measure =>
          unfold leftN
          simp [intOf]
          omega
    · obtain rfl : i = len := by omega
      have he := HI.out
      rw [List.drop_of_length_le (by rw [HN.out]; omega)] at he
      have hr : (-1 : Int) = r := he
      subst hr
      clear he HI H0 C HO
      go_wp2_with fail
      go_ret
      exact ⟨rfl, HB.out⟩

theorem opcF_low (o : ByteArray) : ∀ (l : List On) (k : Nat), 0 ≤ (opcF l o k).1 ∧ ((opcF l o k).2 = false → (opcF l o k).1 = 0)
  | [], _ => ⟨Int.le_refl _, fun _ => rfl⟩
  | x :: l, k => by
    unfold opcF
    by_cases h : x.nm = o
    · rw [if_pos h]
      exact ⟨by simp, fun h => by cases h⟩
    · rw [if_neg h]
      exact opcF_low o l (k + 1)

set_option maxHeartbeats 2000000 in
theorem p_opcode_any (n o : ByteArray) (w : World) : Calls Tryd.prog 20 #[.string n, .string o] w fun e w' => e = .returned (.tuple #[.int .i64 (opcF (reqT n) o 0).1, .bool (opcF (reqT n) o 0).2]) ∧ Below w.heap.size w w' := by
  have C := fun W => Lib.hid (p_rreq_any n W)
  obtain ⟨l, hl⟩ : ∃ l, reqT n = l := ⟨_, rfl⟩
  have hlen := reqT_len n
  rw [hl] at C hlen ⊢
  clear hl
  obtain ⟨hlow, hzero⟩ := opcF_low o l 0
  have J0 := Lib.hid ((Held.nil w).alloc [.string o] 9)
  have D := fun (W : World) (v : Value) (hv : Opns W v l) (k : Nat) (hc : W.cell? ⟨k, 0, none⟩ = some (.string o)) (hk : k < W.heap.size) => Lib.hid (p_index_any hv hlen hc hk)
  obtain ⟨k, hk⟩ : ∃ k, idxF l o = k := ⟨_, rfl⟩
  rw [hk] at D
  unfold idxF at hk
  obtain ⟨r, hr⟩ : ∃ r, (opcF l o 0).1 = r := ⟨_, rfl⟩
  obtain ⟨s, hs⟩ : ∃ s, (opcF l o 0).2 = s := ⟨_, rfl⟩
  rw [hr, hs] at hk hzero ⊢
  rw [hr] at hlow
  clear hr hs hlen
  go_enter Tryd.func20, Tryd.ntmps20
  go_wp2_with fail
  refine (C _).out.mono ?_
  rintro e w1 ⟨v, rfl, hv, hb⟩
  have J := Lib.hid (J0.out.step hb)
  obtain ⟨c0, -, hlt⟩ := (show Held w w1 ([] ++ (w.heap.size, [_]) :: []) from J.out).one
  have DD := D _ _ hv _ c0 hlt
  clear C D J0 hb hv c0
  go_wp2_with fail
  refine DD.out.mono ?_
  rintro e w2 ⟨rfl, hb⟩
  have HB := Lib.hid (J.out.step hb).below
  clear DD J hb hlt
  cases s with
  | true =>
    rw [if_pos rfl] at hk
    subst hk
    have e0 : ¬ r < 0 := by omega
    clear hzero
    go_wp2_with fail
    exact bodyPost_ret (v := .tuple #[.int .i64 r, .bool true]) (by simp [results, Tryd.results20, go_sem]) rfl ⟨rfl, HB.out⟩
  | false =>
    rw [if_neg (by simp)] at hk
    subst hk
    obtain rfl := hzero rfl
    go_wp2_with fail
    exact bodyPost_ret (v := .tuple #[.int .i64 0, .bool false]) (by simp [results, Tryd.results20, go_sem]) rfl ⟨rfl, HB.out⟩

set_option maxHeartbeats 2000000 in
theorem p_valid_any {w : World} (T : Tab w) (s : ByteArray) : Calls Tryd.prog 22 #[.string s] w fun e w' => e = .returned (.bool (sigT s)) ∧ w = w' := by
  have C := fun c hc => Lib.hid (p_kind_any T c hc)
  by_cases hs : s.size ≤ 16
  · have h0 : ¬ (16 : Int) < s.size := by omega
    obtain ⟨r, hr⟩ : ∃ r, sigF s.data.toList = r := ⟨_, rfl⟩
    have HI0 : Hid (sigF (s.data.toList.drop 0) = r) := Lib.hid hr
    have e : sigT s = r := by
      unfold sigT
      rw [decide_eq_true hs, ← sigF_all, hr]
      rfl
    rw [e]
    clear e hr T
    go_enter Tryd.func22, Tryd.ntmps22
    go_wp2_with fail
    go_loopw [9] (fun s9 wr => ∃ i : Nat, i ≤ s.size ∧ s9 = .int .i64 (i : Int) ∧ Hid (sigF (s.data.toList.drop i) = r) ∧ wr = w) (fun s9 _ => leftN s.size s9)
    case atStart => exact ⟨0, Nat.zero_le _, rfl, HI0, rfl⟩
    case round =>
      obtain ⟨i, hi, rfl, HI, rfl⟩ := hrel
      by_cases hlt : i < s.size
      · have q0 : (0 : Int) ≤ i := by omega
        have q1 : (i : Int) < s.size := by omega
        have he := HI.out
        rw [drop_byte s i hlt] at he
        unfold sigF at he
        obtain ⟨x, hx⟩ : ∃ x : Nat, kindN s[i].toNat = x := ⟨_, rfl⟩
        have D := Lib.hid (by have := (C s[i].toNat (UInt8.toNat_lt _)).out; rw [hx] at this; exact this)
        rw [hx] at he
        have HX : Hid (kindN s[i].toNat = x) := Lib.hid hx
        have hx7 : x ≤ 7 := by rw [← hx]; exact kindN_le _
        clear HI HI0 C hx
        by_cases hk : x = 0
        · rw [if_pos hk] at he
          subst hk
          subst he
          go_wp2_with fail
          refine D.out.mono ?_
          rintro e w1 ⟨rfl, rfl⟩
          go_wp2_with fail
          go_ret
          exact ⟨rfl, rfl⟩
        · rw [if_neg hk] at he
          have e0 : ¬ (x : Int) = 0 := by omega
          have HI2 := Lib.hid he
          clear he
          go_wp2_with fail
          refine D.out.mono ?_
          rintro e w1 ⟨rfl, rfl⟩
          go_wp2_with fail
          go_roundw
          case rel => exact ⟨i + 1, by omega, by go_num, HI2, trivial⟩
          case measure =>
            unfold leftN
            simp [intOf]
            omega
      · obtain rfl : i = s.size := by omega
        have he := HI.out
        rw [List.drop_of_length_le (by rw [← sizeL_eq]; omega)] at he
        unfold sigF at he
        subst he
        clear HI HI0 C
        go_wp2_with fail
        go_ret
        exact ⟨rfl, rfl⟩
  · have h0 : (16 : Int) < s.size := by omega
    have e : sigT s = false := by
      unfold sigT
      rw [decide_eq_false hs]
      rfl
    rw [e]
    clear C T
    go_enter Tryd.func22, Tryd.ntmps22
    go_wp2_with fail
    go_ret
    exact ⟨rfl, rfl⟩

end Go.Proofs.YtjefalkcolmjcaaDoor
