/-
  choose, Request, Event of the package.
-/
import Derived.Test.YtjefalkcolmjcaaDoorPkr
import Derived.Test.YtjefalkcolmjcaaDoorPke
import Derived.Test.YtjefalkcolmjcaaDoorPkv
import Derived.Test.YtjefalkcolmjcaaDoorIfo
namespace Go.Proofs.YtjefalkcolmjcaaDoor
open Go.RowKit

set_option maxHeartbeats 2000000 in
theorem p_pick_none {A : Option Addr} {len cap : Nat} (_hlen : len ≤ cap) (_hcap : cap ≤ maxLen) {n : ByteArray} {k v r : Int} (h : r = 0) (w : World)
    (C : Hid (Calls Tryd.prog 13 #[.string n] (w.alloc (.cells [.string s_0, .string s_0, .int .i64 0].toArray 28)) fun e w' => e = .returned (.int .i64 r) ∧ Below (w.alloc (.cells [.string s_0, .string s_0, .int .i64 0].toArray 28)).heap.size (w.alloc (.cells [.string s_0, .string s_0, .int .i64 0].toArray 28)) w')) :
    Calls Tryd.prog 28 #[.string n, .slice A len cap, .int .i64 k, .int .i64 v] w (GivesP (⟨s_0, s_0, 0⟩, 8) w) := by
  simp only [maxLen] at _hcap
  subst h
  go_enter Tryd.func28, Tryd.ntmps28
  go_wp2_with fail
  refine C.out.mono ?_
  rintro e w1 ⟨rfl, hb⟩
  have J := Lib.hid (((Held.nil w).alloc [.string s_0, .string s_0, .int .i64 0] 28).step hb)
  clear C hb
  obtain ⟨z0, z1, z2, zf, zt⟩ := J.out.tri (l1 := [])
  have K := Lib.hid (below_set3 (y0 := .string s_0) (y1 := .string s_0) (y2 := .int .i64 0) J.out.below (Nat.le_refl w.heap.size))
  clear J
  go_wp2_with fail
  exact bodyPost_ret (v := .tuple #[.agg #[.string s_0, .string s_0, .int .i64 0], .int .i64 8]) (by simp [results, Tryd.results28, go_sem, z0, z1, z2]) rfl ⟨rfl, K.out⟩

set_option maxHeartbeats 2000000 in
theorem p_pick_low {A : Option Addr} {len cap : Nat} (_hlen : len ≤ cap) (_hcap : cap ≤ maxLen) {n : ByteArray} {k v r : Int} (h : ¬ r = 0) (h1 : k < 0) (w : World)
    (C : Hid (Calls Tryd.prog 13 #[.string n] (w.alloc (.cells [.string s_0, .string s_0, .int .i64 0].toArray 28)) fun e w' => e = .returned (.int .i64 r) ∧ Below (w.alloc (.cells [.string s_0, .string s_0, .int .i64 0].toArray 28)).heap.size (w.alloc (.cells [.string s_0, .string s_0, .int .i64 0].toArray 28)) w')) :
    Calls Tryd.prog 28 #[.string n, .slice A len cap, .int .i64 k, .int .i64 v] w (GivesP (⟨s_0, s_0, 0⟩, 10) w) := by
  simp only [maxLen] at _hcap
  go_enter Tryd.func28, Tryd.ntmps28
  go_wp2_with fail
  refine C.out.mono ?_
  rintro e w1 ⟨rfl, hb⟩
  have J := Lib.hid (((Held.nil w).alloc [.string s_0, .string s_0, .int .i64 0] 28).step hb)
  clear C hb
  obtain ⟨z0, z1, z2, zf, zt⟩ := J.out.tri (l1 := [])
  have K := Lib.hid (below_set3 (y0 := .string s_0) (y1 := .string s_0) (y2 := .int .i64 0) J.out.below (Nat.le_refl w.heap.size))
  clear J
  go_wp2_with fail
  exact bodyPost_ret (v := .tuple #[.agg #[.string s_0, .string s_0, .int .i64 0], .int .i64 10]) (by simp [results, Tryd.results28, go_sem, z0, z1, z2]) rfl ⟨rfl, K.out⟩

set_option maxHeartbeats 2000000 in
theorem p_pick_high {A : Option Addr} {len cap : Nat} (_hlen : len ≤ cap) (_hcap : cap ≤ maxLen) {n : ByteArray} {k v r : Int} (h : ¬ r = 0) (h1 : ¬ k < 0) (h2 : (len : Int) ≤ k) (w : World)
    (C : Hid (Calls Tryd.prog 13 #[.string n] (w.alloc (.cells [.string s_0, .string s_0, .int .i64 0].toArray 28)) fun e w' => e = .returned (.int .i64 r) ∧ Below (w.alloc (.cells [.string s_0, .string s_0, .int .i64 0].toArray 28)).heap.size (w.alloc (.cells [.string s_0, .string s_0, .int .i64 0].toArray 28)) w')) :
    Calls Tryd.prog 28 #[.string n, .slice A len cap, .int .i64 k, .int .i64 v] w (GivesP (⟨s_0, s_0, 0⟩, 10) w) := by
  simp only [maxLen] at _hcap
  go_enter Tryd.func28, Tryd.ntmps28
  go_wp2_with fail
  refine C.out.mono ?_
  rintro e w1 ⟨rfl, hb⟩
  have J := Lib.hid (((Held.nil w).alloc [.string s_0, .string s_0, .int .i64 0] 28).step hb)
  clear C hb
  obtain ⟨z0, z1, z2, zf, zt⟩ := J.out.tri (l1 := [])
  have K := Lib.hid (below_set3 (y0 := .string s_0) (y1 := .string s_0) (y2 := .int .i64 0) J.out.below (Nat.le_refl w.heap.size))
  clear J
  go_wp2_with fail
  exact bodyPost_ret (v := .tuple #[.agg #[.string s_0, .string s_0, .int .i64 0], .int .i64 10]) (by simp [results, Tryd.results28, go_sem, z0, z1, z2]) rfl ⟨rfl, K.out⟩

set_option maxHeartbeats 2000000 in
theorem p_pick_old {A : Option Addr} {len cap : Nat} {l : List On} {w : World} (ho : Opns w (.slice A len cap) l) (_hlen : len ≤ cap) (_hcap : cap ≤ maxLen) {n : ByteArray} {v r : Int} {k : Nat} {x : On} (h : ¬ r = 0) (h1 : k < len) (hx : l[k]? = some x) (h2 : v < x.sn)
    (C : Hid (Calls Tryd.prog 13 #[.string n] (w.alloc (.cells [.string s_0, .string s_0, .int .i64 0].toArray 28)) fun e w' => e = .returned (.int .i64 r) ∧ Below (w.alloc (.cells [.string s_0, .string s_0, .int .i64 0].toArray 28)).heap.size (w.alloc (.cells [.string s_0, .string s_0, .int .i64 0].toArray 28)) w')) :
    Calls Tryd.prog 28 #[.string n, .slice A len cap, .int .i64 (k : Int), .int .i64 v] w (GivesP (⟨s_0, s_0, 0⟩, 11) w) := by
  simp only [maxLen] at _hcap
  have HO := Lib.hid (fun W hb => opns_at ho (W := W) hb hx)
  obtain ⟨b0, off0, rfl, _⟩ := opns_at ho (Below.refl _ _) hx
  have q0 : ¬ (k : Int) < 0 := by omega
  have q1 : ¬ (len : Int) ≤ k := by omega
  have q2 : (0 : Int) ≤ k := by omega
  have q3 : (k : Int) < len := by omega
  clear ho hx h1
  go_enter Tryd.func28, Tryd.ntmps28
  go_wp2_with fail
  refine C.out.mono ?_
  rintro e w1 ⟨rfl, hb⟩
  have J := Lib.hid (((Held.nil w).alloc [.string s_0, .string s_0, .int .i64 0] 28).step hb)
  clear C hb
  obtain ⟨z0, z1, z2, zf, zt⟩ := J.out.tri (l1 := [])
  obtain ⟨b, off, hA, hlt, t0, t1, t2⟩ := HO.out w1 J.out.below
  simp only [Option.some.injEq, Addr.mk.injEq] at hA
  obtain ⟨rfl, rfl, -⟩ := hA
  have K := Lib.hid (below_set3 (y0 := .string s_0) (y1 := .string s_0) (y2 := .int .i64 0) J.out.below (Nat.le_refl w.heap.size))
  clear J HO
  go_wp2_with fail
  exact bodyPost_ret (v := .tuple #[.agg #[.string s_0, .string s_0, .int .i64 0], .int .i64 11]) (by simp [results, Tryd.results28, go_sem, z0, z1, z2]) rfl ⟨rfl, K.out⟩

set_option maxHeartbeats 2000000 in
theorem p_pick_ok {A : Option Addr} {len cap : Nat} {l : List On} {w : World} (ho : Opns w (.slice A len cap) l) (_hlen : len ≤ cap) (_hcap : cap ≤ maxLen) {n : ByteArray} {v r : Int} {k : Nat} {x : On} (h : ¬ r = 0) (h1 : k < len) (hx : l[k]? = some x) (h2 : ¬ v < x.sn)
    (C : Hid (Calls Tryd.prog 13 #[.string n] (w.alloc (.cells [.string s_0, .string s_0, .int .i64 0].toArray 28)) fun e w' => e = .returned (.int .i64 r) ∧ Below (w.alloc (.cells [.string s_0, .string s_0, .int .i64 0].toArray 28)).heap.size (w.alloc (.cells [.string s_0, .string s_0, .int .i64 0].toArray 28)) w')) :
    Calls Tryd.prog 28 #[.string n, .slice A len cap, .int .i64 (k : Int), .int .i64 v] w (GivesP (x, 0) w) := by
  simp only [maxLen] at _hcap
  have HO := Lib.hid (fun W hb => opns_at ho (W := W) hb hx)
  obtain ⟨b0, off0, rfl, _⟩ := opns_at ho (Below.refl _ _) hx
  have q0 : ¬ (k : Int) < 0 := by omega
  have q1 : ¬ (len : Int) ≤ k := by omega
  have q2 : (0 : Int) ≤ k := by omega
  have q3 : (k : Int) < len := by omega
  clear ho hx h1
  go_enter Tryd.func28, Tryd.ntmps28
  go_wp2_with fail
  refine C.out.mono ?_
  rintro e w1 ⟨rfl, hb⟩
  have J := Lib.hid (((Held.nil w).alloc [.string s_0, .string s_0, .int .i64 0] 28).step hb)
  clear C hb
  obtain ⟨z0, z1, z2, zf, zt⟩ := J.out.tri (l1 := [])
  obtain ⟨b, off, hA, hlt, t0, t1, t2⟩ := HO.out w1 J.out.below
  simp only [Option.some.injEq, Addr.mk.injEq] at hA
  obtain ⟨rfl, rfl, -⟩ := hA
  have K := Lib.hid (below_set3 (y0 := .string x.nm) (y1 := .string x.sg) (y2 := .int .i64 x.sn) J.out.below (Nat.le_refl w.heap.size))
  clear J HO
  go_wp2_with fail
  exact bodyPost_ret (v := .tuple #[.agg #[.string x.nm, .string x.sg, .int .i64 x.sn], .int .i64 0]) (by simp [results, Tryd.results28, go_sem, z0, z1, z2]) rfl ⟨rfl, K.out⟩

theorem p_pick_any {w : World} (T : Tab w) {u : Value} {l : List On} (h : Opns w u l) (n : ByteArray) (k v : Int) :
    Calls Tryd.prog 28 #[.string n, u, .int .i64 k, .int .i64 v] w (GivesP (pickT n l k v) w) := by
  have h' := h
  obtain ⟨A, cap, rfl, hc, hm, -⟩ := h'
  have C := Lib.hid (p_version_any (T.below ((Below.refl _ _).alloc (Nat.le_refl _) (.cells [.string s_0, .string s_0, .int .i64 0].toArray 28))) n)
  unfold pickT
  by_cases h0 : verT n = 0
  · rw [if_pos h0]
    exact p_pick_none hc hm h0 w C
  · rw [if_neg h0]
    by_cases h1 : k < 0
    · rw [if_pos (.inl h1)]
      exact p_pick_low hc hm h0 h1 w C
    · by_cases h2 : (l.length : Int) ≤ k
      · rw [if_pos (.inr h2)]
        exact p_pick_high hc hm h0 h1 h2 w C
      · rw [if_neg (by omega)]
        obtain ⟨j, rfl⟩ := Int.eq_ofNat_of_zero_le (show 0 ≤ k by omega)
        have hj : j < l.length := by omega
        have hx : l[j]? = some l[j] := List.getElem?_eq_getElem hj
        have e : l.getD (j : Int).toNat ⟨s_0, s_0, 0⟩ = l[j] := by simp [hj]
        rw [e]
        by_cases h3 : v < l[j].sn
        · rw [if_pos h3]
          exact p_pick_old h hc hm h0 hj hx h3 C
        · rw [if_neg h3]
          exact p_pick_ok h hc hm h0 hj hx h3 C

set_option maxHeartbeats 2000000 in
theorem p_request_any {w : World} (T : Tab w) (n : ByteArray) (k v : Int) : Calls Tryd.prog 16 #[.string n, .int .i64 k, .int .i64 v] w (GivesP (pickT n (reqT n) k v) w) := by
  have C := fun W => Lib.hid (p_rreq_any n W)
  have D := fun W T u h => Lib.hid (p_pick_any (w := W) T (u := u) (l := reqT n) h n k v)
  obtain ⟨p, hp⟩ : ∃ p, pickT n (reqT n) k v = p := ⟨_, rfl⟩
  rw [hp] at D ⊢
  obtain ⟨⟨a, b, c⟩, e⟩ := p
  generalize reqT n = l at *
  clear hp
  go_enter Tryd.func16, Tryd.ntmps16
  go_wp2_with fail
  refine (C _).out.mono ?_
  rintro e1 w1 ⟨u, rfl, hu, hb⟩
  have J := Lib.hid (((Held.nil w).alloc [.string s_0, .string s_0, .int .i64 0] 28).step hb)
  replace D := D _ (T.below J.out.below) _ hu
  clear C hb hu
  go_wp2_with fail
  refine D.out.mono ?_
  rintro e2 w2 ⟨rfl, hb⟩
  replace J := Lib.hid (J.out.step hb)
  clear D hb
  obtain ⟨z0, z1, z2, zf, zt⟩ := J.out.tri (l1 := [])
  have K := Lib.hid (below_set3 (y0 := .string a) (y1 := .string b) (y2 := .int .i64 c) J.out.below (Nat.le_refl w.heap.size))
  clear J
  go_wp2_with fail
  exact bodyPost_ret (v := .tuple #[.agg #[.string a, .string b, .int .i64 c], .int .i64 e]) (by simp [results, Tryd.results16, go_sem, z0, z1, z2]) rfl ⟨rfl, K.out⟩

set_option maxHeartbeats 2000000 in
theorem p_event_any {w : World} (T : Tab w) (n : ByteArray) (k v : Int) : Calls Tryd.prog 18 #[.string n, .int .i64 k, .int .i64 v] w (GivesP (pickT n (evtT n) k v) w) := by
  have C := fun W => Lib.hid (p_revt_any n W)
  have D := fun W T u h => Lib.hid (p_pick_any (w := W) T (u := u) (l := evtT n) h n k v)
  obtain ⟨p, hp⟩ : ∃ p, pickT n (evtT n) k v = p := ⟨_, rfl⟩
  rw [hp] at D ⊢
  obtain ⟨⟨a, b, c⟩, e⟩ := p
  generalize evtT n = l at *
  clear hp
  go_enter Tryd.func18, Tryd.ntmps18
  go_wp2_with fail
  refine (C _).out.mono ?_
  rintro e1 w1 ⟨u, rfl, hu, hb⟩
  have J := Lib.hid (((Held.nil w).alloc [.string s_0, .string s_0, .int .i64 0] 28).step hb)
  replace D := D _ (T.below J.out.below) _ hu
  clear C hb hu
  go_wp2_with fail
  refine D.out.mono ?_
  rintro e2 w2 ⟨rfl, hb⟩
  replace J := Lib.hid (J.out.step hb)
  clear D hb
  obtain ⟨z0, z1, z2, zf, zt⟩ := J.out.tri (l1 := [])
  have K := Lib.hid (below_set3 (y0 := .string a) (y1 := .string b) (y2 := .int .i64 c) J.out.below (Nat.le_refl w.heap.size))
  clear J
  go_wp2_with fail
  exact bodyPost_ret (v := .tuple #[.agg #[.string a, .string b, .int .i64 c], .int .i64 e]) (by simp [results, Tryd.results18, go_sem, z0, z1, z2]) rfl ⟨rfl, K.out⟩

end Go.Proofs.YtjefalkcolmjcaaDoor
