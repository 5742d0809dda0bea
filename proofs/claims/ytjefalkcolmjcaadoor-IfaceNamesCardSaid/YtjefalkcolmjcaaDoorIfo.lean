/-
  RequestOpcode, pick, Request, Event of the reference.
-/
import Derived.Test.YtjefalkcolmjcaaDoorIfr
import Derived.Test.YtjefalkcolmjcaaDoorIfe
import Derived.Test.YtjefalkcolmjcaaDoorIfv
namespace Go.Proofs.YtjefalkcolmjcaaDoor
open Go.RowKit

/-- the index of an operation's name from index k on -/
def opcF : List On → ByteArray → Nat → Int × Bool
  | [], _, _ => (0, false)
  | x :: l, o, k => if x.nm = o then (k, true) else opcF l o (k + 1)

theorem le_ite {c : Prop} [Decidable c] {a b : List On} (ha : a.length ≤ 13) (hb : b.length ≤ 13) : (if c then a else b).length ≤ 13 := by
  by_cases h : c
  · rw [if_pos h]
    exact ha
  · rw [if_neg h]
    exact hb
theorem reqT_len (n : ByteArray) : (reqT n).length ≤ 13 := by
  unfold reqT
  repeat refine le_ite (by decide) ?_
  decide
theorem evtT_len (n : ByteArray) : (evtT n).length ≤ 13 := by
  unfold evtT
  repeat refine le_ite (by decide) ?_
  decide

theorem drop_at {l : List On} {i : Nat} {x : On} (h : l[i]? = some x) : l.drop i = x :: l.drop (i + 1) := by
  obtain ⟨hl, rfl⟩ := List.getElem?_eq_some_iff.1 h
  exact List.drop_eq_getElem_cons hl

set_option maxHeartbeats 2000000 in
theorem opcode_any (n o : ByteArray) (w : World) : Calls Tryd.prog 21 #[.string n, .string o] w fun e w' => e = .returned (.tuple #[.int .i64 (opcF (reqT n) o 0).1, .bool (opcF (reqT n) o 0).2]) ∧ Below w.heap.size w w' := by
  have C := Lib.hid (rreq_any n w)
  obtain ⟨l, hl⟩ : ∃ l, reqT n = l := ⟨_, rfl⟩
  have hlen := reqT_len n
  rw [hl] at C hlen ⊢
  clear hl
  obtain ⟨r, hr⟩ : ∃ r, (opcF l o 0).1 = r := ⟨_, rfl⟩
  obtain ⟨s, hs⟩ : ∃ s, (opcF l o 0).2 = s := ⟨_, rfl⟩
  rw [hr, hs]
  have H0 : Hid (opcF (l.drop 0) o 0 = (r, s)) := Lib.hid (by rw [← hr, ← hs]; rfl)
  clear hr hs
  obtain ⟨len, hn⟩ : ∃ len, l.length = len := ⟨_, rfl⟩
  rw [hn] at hlen
  go_enter Tryd.func21, Tryd.ntmps21
  go_wp2_with fail
  refine C.out.mono ?_
  rintro e w1 ⟨v, rfl, ⟨A, cap, rfl, hc, hm, hcell⟩, hb⟩
  have HB := Lib.hid hb
  have HC := Lib.hid hcell
  rw [hn] at hc
  rw [hn]
  have HN := Lib.hid hn
  simp only [maxLen] at hm
  clear C hb hcell hn
  go_wp2_with fail
  go_loopw [7] (fun s7 wr => ∃ i : Nat, i ≤ len ∧ s7 = .int .i64 (i : Int) ∧ Hid (opcF (l.drop i) o i = (r, s)) ∧ wr = w1) (fun s7 _ => leftN len s7)
  case atStart => exact ⟨0, Nat.zero_le _, rfl, H0, rfl⟩
  case round =>
    obtain ⟨i, hi, rfl, HI, rfl⟩ := hrel
    by_cases hlt : i < len
    · have q0 : (0 : Int) ≤ i := by omega
      have q1 : (i : Int) < len := by omega
      obtain ⟨x, hx⟩ : ∃ x, l[i]? = some x := ⟨_, List.getElem?_eq_getElem (by rw [HN.out]; exact hlt)⟩
      obtain ⟨b, off, rfl, hb, hcs⟩ := HC.out (by rw [HN.out]; omega)
      obtain ⟨t0, -, -⟩ := hcs i x hx
      have he := HI.out
      rw [drop_at hx] at he
      unfold opcF at he
      clear hcs hx HI H0
      by_cases hxo : x.nm = o
      · rw [if_pos hxo] at he
        rw [hxo] at t0
        obtain ⟨rfl, rfl⟩ := Prod.mk.injEq .. ▸ he
        have e0 : (o.toList == o.toList) = true := by simp
        clear hxo he
        go_wp2_with fail
        exact bodyPost_ret (v := .tuple #[.int .i64 (i : Int), .bool true]) (by simp [results, Tryd.results21, go_sem]) rfl ⟨rfl, HB.out⟩
      · rw [if_neg hxo] at he
        have e0 := str_ne hxo
        have HI2 := Lib.hid he
        obtain ⟨y, hy⟩ : ∃ y, x.nm = y := ⟨_, rfl⟩
        rw [hy] at t0 e0
        clear hxo he hy
        go_wp2_with fail
        go_roundw
        case rel => exact ⟨i + 1, by omega, by go_num, HI2, trivial⟩
        case measure =>
          unfold leftN
          simp [intOf]
          omega
    · obtain rfl : i = len := by omega
      have he := HI.out
      rw [List.drop_of_length_le (by rw [HN.out]; omega)] at he
      unfold opcF at he
      obtain ⟨rfl, rfl⟩ := Prod.mk.injEq .. ▸ he
      clear he HI H0
      go_wp2_with fail
      exact bodyPost_ret (v := .tuple #[.int .i64 0, .bool false]) (by simp [results, Tryd.results21, go_sem]) rfl ⟨rfl, HB.out⟩

/-- what pick answers: the operation, the error -/
def pickT (n : ByteArray) (l : List On) (k v : Int) : On × Int :=
  if verT n = 0 then (⟨s_0, s_0, 0⟩, 8) else if k < 0 ∨ (l.length : Int) ≤ k then (⟨s_0, s_0, 0⟩, 10) else
    if v < (l.getD k.toNat ⟨s_0, s_0, 0⟩).sn then (⟨s_0, s_0, 0⟩, 11) else (l.getD k.toNat ⟨s_0, s_0, 0⟩, 0)

/-- a pair of an operation and an error, with nothing older turned -/
def GivesP (x : On × Int) (w : World) (e : Ending) (w' : World) : Prop :=
  e = .returned (.tuple #[.agg #[.string x.1.nm, .string x.1.sg, .int .i64 x.1.sn], .int .i64 x.2]) ∧ Below w.heap.size w w'

set_option maxHeartbeats 2000000 in
theorem pick_none {A : Option Addr} {len cap : Nat} (_hlen : len ≤ cap) (_hcap : cap ≤ maxLen) {n : ByteArray} {k v r : Int} (h : r = 0) (w : World)
    (C : Hid (Calls Tryd.prog 14 #[.string n] (w.alloc (.cells [.string s_0, .string s_0, .int .i64 0].toArray 32)) fun e w' => e = .returned (.int .i64 r) ∧ Below (w.alloc (.cells [.string s_0, .string s_0, .int .i64 0].toArray 32)).heap.size (w.alloc (.cells [.string s_0, .string s_0, .int .i64 0].toArray 32)) w')) :
    Calls Tryd.prog 30 #[.string n, .slice A len cap, .int .i64 k, .int .i64 v] w (GivesP (⟨s_0, s_0, 0⟩, 8) w) := by
  simp only [maxLen] at _hcap
  subst h
  go_enter Tryd.func30, Tryd.ntmps30
  go_wp2_with fail
  refine C.out.mono ?_
  rintro e w1 ⟨rfl, hb⟩
  have J := Lib.hid (((Held.nil w).alloc [.string s_0, .string s_0, .int .i64 0] 32).step hb)
  clear C hb
  obtain ⟨z0, z1, z2, zf, zt⟩ := J.out.tri (l1 := [])
  have K := Lib.hid (below_set3 (y0 := .string s_0) (y1 := .string s_0) (y2 := .int .i64 0) J.out.below (Nat.le_refl w.heap.size))
  clear J
  go_wp2_with fail
  exact bodyPost_ret (v := .tuple #[.agg #[.string s_0, .string s_0, .int .i64 0], .int .i64 8]) (by simp [results, Tryd.results30, go_sem, z0, z1, z2]) rfl ⟨rfl, K.out⟩

set_option maxHeartbeats 2000000 in
theorem pick_low {A : Option Addr} {len cap : Nat} (_hlen : len ≤ cap) (_hcap : cap ≤ maxLen) {n : ByteArray} {k v r : Int} (h : ¬ r = 0) (h1 : k < 0) (w : World)
    (C : Hid (Calls Tryd.prog 14 #[.string n] (w.alloc (.cells [.string s_0, .string s_0, .int .i64 0].toArray 32)) fun e w' => e = .returned (.int .i64 r) ∧ Below (w.alloc (.cells [.string s_0, .string s_0, .int .i64 0].toArray 32)).heap.size (w.alloc (.cells [.string s_0, .string s_0, .int .i64 0].toArray 32)) w')) :
    Calls Tryd.prog 30 #[.string n, .slice A len cap, .int .i64 k, .int .i64 v] w (GivesP (⟨s_0, s_0, 0⟩, 10) w) := by
  simp only [maxLen] at _hcap
  go_enter Tryd.func30, Tryd.ntmps30
  go_wp2_with fail
  refine C.out.mono ?_
  rintro e w1 ⟨rfl, hb⟩
  have J := Lib.hid (((Held.nil w).alloc [.string s_0, .string s_0, .int .i64 0] 32).step hb)
  clear C hb
  obtain ⟨z0, z1, z2, zf, zt⟩ := J.out.tri (l1 := [])
  have K := Lib.hid (below_set3 (y0 := .string s_0) (y1 := .string s_0) (y2 := .int .i64 0) J.out.below (Nat.le_refl w.heap.size))
  clear J
  go_wp2_with fail
  exact bodyPost_ret (v := .tuple #[.agg #[.string s_0, .string s_0, .int .i64 0], .int .i64 10]) (by simp [results, Tryd.results30, go_sem, z0, z1, z2]) rfl ⟨rfl, K.out⟩

set_option maxHeartbeats 2000000 in
theorem pick_high {A : Option Addr} {len cap : Nat} (_hlen : len ≤ cap) (_hcap : cap ≤ maxLen) {n : ByteArray} {k v r : Int} (h : ¬ r = 0) (h1 : ¬ k < 0) (h2 : (len : Int) ≤ k) (w : World)
    (C : Hid (Calls Tryd.prog 14 #[.string n] (w.alloc (.cells [.string s_0, .string s_0, .int .i64 0].toArray 32)) fun e w' => e = .returned (.int .i64 r) ∧ Below (w.alloc (.cells [.string s_0, .string s_0, .int .i64 0].toArray 32)).heap.size (w.alloc (.cells [.string s_0, .string s_0, .int .i64 0].toArray 32)) w')) :
    Calls Tryd.prog 30 #[.string n, .slice A len cap, .int .i64 k, .int .i64 v] w (GivesP (⟨s_0, s_0, 0⟩, 10) w) := by
  simp only [maxLen] at _hcap
  go_enter Tryd.func30, Tryd.ntmps30
  go_wp2_with fail
  refine C.out.mono ?_
  rintro e w1 ⟨rfl, hb⟩
  have J := Lib.hid (((Held.nil w).alloc [.string s_0, .string s_0, .int .i64 0] 32).step hb)
  clear C hb
  obtain ⟨z0, z1, z2, zf, zt⟩ := J.out.tri (l1 := [])
  have K := Lib.hid (below_set3 (y0 := .string s_0) (y1 := .string s_0) (y2 := .int .i64 0) J.out.below (Nat.le_refl w.heap.size))
  clear J
  go_wp2_with fail
  exact bodyPost_ret (v := .tuple #[.agg #[.string s_0, .string s_0, .int .i64 0], .int .i64 10]) (by simp [results, Tryd.results30, go_sem, z0, z1, z2]) rfl ⟨rfl, K.out⟩

/-- the operation at an index, in a world that has kept what is older -/
theorem opns_at {w W : World} {A : Option Addr} {n cap : Nat} {l : List On} (h : Opns w (.slice A n cap) l) (hb : Below w.heap.size w W) {j : Nat} {o : On} (ho : l[j]? = some o) :
    ∃ b off, A = some ⟨b, off, none⟩ ∧ b < w.heap.size ∧ W.cell? ⟨b, off + j * 3, none⟩ = some (.string o.nm) ∧ W.cell? ⟨b, off + j * 3 + 1, none⟩ = some (.string o.sg) ∧ W.cell? ⟨b, off + j * 3 + 2, none⟩ = some (.int .i64 o.sn) := by
  obtain ⟨A', cap', hv, h1, h2, h4⟩ := h.below hb
  have hl : 0 < l.length := by
    obtain ⟨h, -⟩ := List.getElem?_eq_some_iff.1 ho
    omega
  simp only [Value.slice.injEq] at hv
  obtain ⟨rfl, -, -⟩ := hv
  obtain ⟨b, off, hA, hlt, hc⟩ := h4 hl
  obtain ⟨_, _, hv, _, _, h5⟩ := h
  simp only [Value.slice.injEq] at hv
  obtain ⟨rfl, -, -⟩ := hv
  obtain ⟨b', off', hA', hlt', -⟩ := h5 hl
  rw [hA] at hA'
  simp only [Option.some.injEq, Addr.mk.injEq] at hA'
  obtain ⟨rfl, rfl, -⟩ := hA'
  exact ⟨b, off, hA, hlt', hc j o ho⟩

set_option maxHeartbeats 2000000 in
theorem pick_old {A : Option Addr} {len cap : Nat} {l : List On} {w : World} (ho : Opns w (.slice A len cap) l) (_hlen : len ≤ cap) (_hcap : cap ≤ maxLen) {n : ByteArray} {v r : Int} {k : Nat} {x : On} (h : ¬ r = 0) (h1 : k < len) (hx : l[k]? = some x) (h2 : v < x.sn)
    (C : Hid (Calls Tryd.prog 14 #[.string n] (w.alloc (.cells [.string s_0, .string s_0, .int .i64 0].toArray 32)) fun e w' => e = .returned (.int .i64 r) ∧ Below (w.alloc (.cells [.string s_0, .string s_0, .int .i64 0].toArray 32)).heap.size (w.alloc (.cells [.string s_0, .string s_0, .int .i64 0].toArray 32)) w')) :
    Calls Tryd.prog 30 #[.string n, .slice A len cap, .int .i64 (k : Int), .int .i64 v] w (GivesP (⟨s_0, s_0, 0⟩, 11) w) := by
  simp only [maxLen] at _hcap
  have HO := Lib.hid (fun W hb => opns_at ho (W := W) hb hx)
  obtain ⟨b0, off0, rfl, _⟩ := opns_at ho (Below.refl _ _) hx
  have q0 : ¬ (k : Int) < 0 := by omega
  have q1 : ¬ (len : Int) ≤ k := by omega
  have q2 : (0 : Int) ≤ k := by omega
  have q3 : (k : Int) < len := by omega
  clear ho hx h1
  go_enter Tryd.func30, Tryd.ntmps30
  go_wp2_with fail
  refine C.out.mono ?_
  rintro e w1 ⟨rfl, hb⟩
  have J := Lib.hid (((Held.nil w).alloc [.string s_0, .string s_0, .int .i64 0] 32).step hb)
  clear C hb
  obtain ⟨z0, z1, z2, zf, zt⟩ := J.out.tri (l1 := [])
  obtain ⟨b, off, hA, hlt, t0, t1, t2⟩ := HO.out w1 J.out.below
  simp only [Option.some.injEq, Addr.mk.injEq] at hA
  obtain ⟨rfl, rfl, -⟩ := hA
  have K := Lib.hid (below_set3 (y0 := .string s_0) (y1 := .string s_0) (y2 := .int .i64 0) J.out.below (Nat.le_refl w.heap.size))
  clear J HO
  go_wp2_with fail
  exact bodyPost_ret (v := .tuple #[.agg #[.string s_0, .string s_0, .int .i64 0], .int .i64 11]) (by simp [results, Tryd.results30, go_sem, z0, z1, z2]) rfl ⟨rfl, K.out⟩

set_option maxHeartbeats 2000000 in
theorem pick_ok {A : Option Addr} {len cap : Nat} {l : List On} {w : World} (ho : Opns w (.slice A len cap) l) (_hlen : len ≤ cap) (_hcap : cap ≤ maxLen) {n : ByteArray} {v r : Int} {k : Nat} {x : On} (h : ¬ r = 0) (h1 : k < len) (hx : l[k]? = some x) (h2 : ¬ v < x.sn)
    (C : Hid (Calls Tryd.prog 14 #[.string n] (w.alloc (.cells [.string s_0, .string s_0, .int .i64 0].toArray 32)) fun e w' => e = .returned (.int .i64 r) ∧ Below (w.alloc (.cells [.string s_0, .string s_0, .int .i64 0].toArray 32)).heap.size (w.alloc (.cells [.string s_0, .string s_0, .int .i64 0].toArray 32)) w')) :
    Calls Tryd.prog 30 #[.string n, .slice A len cap, .int .i64 (k : Int), .int .i64 v] w (GivesP (x, 0) w) := by
  simp only [maxLen] at _hcap
  have HO := Lib.hid (fun W hb => opns_at ho (W := W) hb hx)
  obtain ⟨b0, off0, rfl, _⟩ := opns_at ho (Below.refl _ _) hx
  have q0 : ¬ (k : Int) < 0 := by omega
  have q1 : ¬ (len : Int) ≤ k := by omega
  have q2 : (0 : Int) ≤ k := by omega
  have q3 : (k : Int) < len := by omega
  clear ho hx h1
  go_enter Tryd.func30, Tryd.ntmps30
  go_wp2_with fail
  refine C.out.mono ?_
  rintro e w1 ⟨rfl, hb⟩
  have J := Lib.hid (((Held.nil w).alloc [.string s_0, .string s_0, .int .i64 0] 32).step hb)
  clear C hb
  obtain ⟨z0, z1, z2, zf, zt⟩ := J.out.tri (l1 := [])
  obtain ⟨b, off, hA, hlt, t0, t1, t2⟩ := HO.out w1 J.out.below
  simp only [Option.some.injEq, Addr.mk.injEq] at hA
  obtain ⟨rfl, rfl, -⟩ := hA
  have K := Lib.hid (below_set3 (y0 := .string x.nm) (y1 := .string x.sg) (y2 := .int .i64 x.sn) J.out.below (Nat.le_refl w.heap.size))
  clear J HO
  go_wp2_with fail
  exact bodyPost_ret (v := .tuple #[.agg #[.string x.nm, .string x.sg, .int .i64 x.sn], .int .i64 0]) (by simp [results, Tryd.results30, go_sem, z0, z1, z2]) rfl ⟨rfl, K.out⟩

theorem pick_any {w : World} {u : Value} {l : List On} (h : Opns w u l) (n : ByteArray) (k v : Int) :
    Calls Tryd.prog 30 #[.string n, u, .int .i64 k, .int .i64 v] w (GivesP (pickT n l k v) w) := by
  have h' := h
  obtain ⟨A, cap, rfl, hc, hm, -⟩ := h'
  have C := Lib.hid (version_any n (w.alloc (.cells [.string s_0, .string s_0, .int .i64 0].toArray 32)))
  unfold pickT
  by_cases h0 : verT n = 0
  · rw [if_pos h0]
    exact pick_none hc hm h0 w C
  · rw [if_neg h0]
    by_cases h1 : k < 0
    · rw [if_pos (.inl h1)]
      exact pick_low hc hm h0 h1 w C
    · by_cases h2 : (l.length : Int) ≤ k
      · rw [if_pos (.inr h2)]
        exact pick_high hc hm h0 h1 h2 w C
      · rw [if_neg (by omega)]
        obtain ⟨j, rfl⟩ := Int.eq_ofNat_of_zero_le (show 0 ≤ k by omega)
        have hj : j < l.length := by omega
        have hx : l[j]? = some l[j] := List.getElem?_eq_getElem hj
        have e : l.getD (j : Int).toNat ⟨s_0, s_0, 0⟩ = l[j] := by simp [hj]
        rw [e]
        by_cases h3 : v < l[j].sn
        · rw [if_pos h3]
          exact pick_old h hc hm h0 hj hx h3 C
        · rw [if_neg h3]
          exact pick_ok h hc hm h0 hj hx h3 C

set_option maxHeartbeats 2000000 in
theorem request_any (n : ByteArray) (k v : Int) (w : World) : Calls Tryd.prog 17 #[.string n, .int .i64 k, .int .i64 v] w (GivesP (pickT n (reqT n) k v) w) := by
  have C := fun W => Lib.hid (rreq_any n W)
  have D := fun W u h => Lib.hid (pick_any (w := W) (u := u) (l := reqT n) h n k v)
  obtain ⟨p, hp⟩ : ∃ p, pickT n (reqT n) k v = p := ⟨_, rfl⟩
  rw [hp] at D ⊢
  obtain ⟨⟨a, b, c⟩, e⟩ := p
  generalize reqT n = l at *
  clear hp
  go_enter Tryd.func17, Tryd.ntmps17
  go_wp2_with fail
  refine (C _).out.mono ?_
  rintro e1 w1 ⟨u, rfl, hu, hb⟩
  have J := Lib.hid (((Held.nil w).alloc [.string s_0, .string s_0, .int .i64 0] 32).step hb)
  replace D := D _ _ hu
  clear C hb hu
  go_wp2_with fail
  refine D.out.mono ?_
  rintro e2 w2 ⟨rfl, hb⟩
  replace J := Lib.hid (J.out.step hb)
  clear D hb
  obtain ⟨z0, z1, z2, zf, zt⟩ := J.out.tri (l1 := [])
  have K := Lib.hid (below_set3 (y0 := .string a) (y1 := .string b) (y2 := .int .i64 c) J.out.below (Nat.le_refl w.heap.size))
  clear J
  go_wp2_with fail
  exact bodyPost_ret (v := .tuple #[.agg #[.string a, .string b, .int .i64 c], .int .i64 e]) (by simp [results, Tryd.results17, go_sem, z0, z1, z2]) rfl ⟨rfl, K.out⟩

set_option maxHeartbeats 2000000 in
theorem event_any (n : ByteArray) (k v : Int) (w : World) : Calls Tryd.prog 19 #[.string n, .int .i64 k, .int .i64 v] w (GivesP (pickT n (evtT n) k v) w) := by
  have C := fun W => Lib.hid (revt_any n W)
  have D := fun W u h => Lib.hid (pick_any (w := W) (u := u) (l := evtT n) h n k v)
  obtain ⟨p, hp⟩ : ∃ p, pickT n (evtT n) k v = p := ⟨_, rfl⟩
  rw [hp] at D ⊢
  obtain ⟨⟨a, b, c⟩, e⟩ := p
  generalize evtT n = l at *
  clear hp
  go_enter Tryd.func19, Tryd.ntmps19
  go_wp2_with fail
  refine (C _).out.mono ?_
  rintro e1 w1 ⟨u, rfl, hu, hb⟩
  have J := Lib.hid (((Held.nil w).alloc [.string s_0, .string s_0, .int .i64 0] 32).step hb)
  replace D := D _ _ hu
  clear C hb hu
  go_wp2_with fail
  refine D.out.mono ?_
  rintro e2 w2 ⟨rfl, hb⟩
  replace J := Lib.hid (J.out.step hb)
  clear D hb
  obtain ⟨z0, z1, z2, zf, zt⟩ := J.out.tri (l1 := [])
  have K := Lib.hid (below_set3 (y0 := .string a) (y1 := .string b) (y2 := .int .i64 c) J.out.below (Nat.le_refl w.heap.size))
  clear J
  go_wp2_with fail
  exact bodyPost_ret (v := .tuple #[.agg #[.string a, .string b, .int .i64 c], .int .i64 e]) (by simp [results, Tryd.results19, go_sem, z0, z1, z2]) rfl ⟨rfl, K.out⟩

/-- a signature: its bytes -/
def sigT (s : ByteArray) : Bool := decide (s.size ≤ 16) && s.data.toList.all fun c => kindN c.toNat != 0

theorem kindN_le (c : Nat) : kindN c ≤ 7 := by
  unfold kindN
  repeat' split
  all_goals omega

def sigF : List UInt8 → Bool
  | [] => true
  | c :: l => if kindN c.toNat = 0 then false else sigF l

theorem sigF_all (l : List UInt8) : sigF l = l.all fun c => kindN c.toNat != 0 := by
  induction l with
  | nil => rfl
  | cons c l ih =>
    unfold sigF
    by_cases h : kindN c.toNat = 0 <;> simp [h, ih]

theorem sizeL_eq (s : ByteArray) : s.size = s.data.toList.length := by rw [Array.length_toList]; rfl
theorem drop_byte (s : ByteArray) (k : Nat) (h : k < s.size) : s.data.toList.drop k = s[k] :: s.data.toList.drop (k + 1) := by
  have e : s.data.toList[k]? = some s[k] := by
    have h2 : k < s.data.toList.length := by rw [← sizeL_eq]; exact h
    rw [List.getElem?_eq_getElem h2]
    rfl
  obtain ⟨hl, e2⟩ := List.getElem?_eq_some_iff.1 e
  rw [List.drop_eq_getElem_cons hl, e2]

set_option maxHeartbeats 2000000 in
theorem valid_any (s : ByteArray) (w : World) : Calls Tryd.prog 23 #[.string s] w fun e w' => e = .returned (.bool (sigT s)) ∧ w = w' := by
  have C := fun c W => Lib.hid (kind_any c W)
  by_cases hs : s.size ≤ 16
  · have h0 : ¬ (16 : Int) < s.size := by omega
    obtain ⟨r, hr⟩ : ∃ r, sigF s.data.toList = r := ⟨_, rfl⟩
    have HI0 : Hid (sigF (s.data.toList.drop 0) = r) := Lib.hid hr
    have e : sigT s = r := by
      unfold sigT
      rw [decide_eq_true hs, ← sigF_all, hr]
      rfl
    rw [e]
    clear e hr
    go_enter Tryd.func23, Tryd.ntmps23
    go_wp2_with fail
    go_loopw [3] (fun s3 wr => ∃ i : Nat, i ≤ s.size ∧ s3 = .int .i64 (i : Int) ∧ Hid (sigF (s.data.toList.drop i) = r) ∧ wr = w) (fun s3 _ => leftN s.size s3)
    case atStart => exact ⟨0, Nat.zero_le _, rfl, HI0, rfl⟩
    case round =>
      obtain ⟨i, hi, rfl, HI, rfl⟩ := hrel
      by_cases hlt : i < s.size
      · have q0 : (0 : Int) ≤ i := by omega
        have q1 : (i : Int) < s.size := by omega
        have he := HI.out
        rw [drop_byte s i hlt] at he
        unfold sigF at he
        obtain ⟨x, hx⟩ : ∃ x : Nat, kindN s[i].toNat = x := ⟨_, rfl⟩
        have D := fun W => Lib.hid (by have := (C s[i].toNat W).out; rw [hx] at this; exact this)
        rw [hx] at he
        have HX : Hid (kindN s[i].toNat = x) := Lib.hid hx
        have hx7 : x ≤ 7 := by rw [← hx]; exact kindN_le _
        clear HI HI0 C hx
        by_cases hk : x = 0
        · rw [if_pos hk] at he
          subst hk
          subst he
          go_wp2_with fail
          refine (D _).out.mono ?_
          rintro e w1 ⟨rfl, rfl⟩
          go_wp2_with fail
          go_ret
          exact ⟨rfl, rfl⟩
        · rw [if_neg hk] at he
          have e0 : ¬ (x : Int) = 0 := by omega
          have HI2 := Lib.hid he
          clear he
          go_wp2_with fail
          refine (D _).out.mono ?_
          rintro e w1 ⟨rfl, rfl⟩
          go_wp2_with fail
          go_roundw
          case rel => exact ⟨i + 1, by omega, by go_num, HI2, trivial⟩
          case measure =>
            unfold leftN
            simp [intOf]
            omega
      · obtain rfl : i = s.size := by omega
        have he := HI.out
        rw [List.drop_of_length_le (by rw [← sizeL_eq]; omega)] at he
        unfold sigF at he
        subst he
        clear HI HI0 C
        go_wp2_with fail
        go_ret
        exact ⟨rfl, rfl⟩
  · have h0 : (16 : Int) < s.size := by omega
    have e : sigT s = false := by
      unfold sigT
      rw [decide_eq_false hs]
      rfl
    rw [e]
    clear C
    go_enter Tryd.func23, Tryd.ntmps23
    go_wp2_with fail
    go_ret
    exact ⟨rfl, rfl⟩

end Go.Proofs.YtjefalkcolmjcaaDoor
