/-
  The law IdentLimit.
-/
import Derived.Test.YtnefcmikeeadhaaDoorLpu
namespace Go.Proofs.YtnefcmikeeadhaaDoor
open Go.RowKit

/-- the table behind i allocations -/
def tI (s : Bool) (i : Nat) : Tb := ⟨s, (fstN s : Int) - 1 + i, (List.range i).map (fun j => fstN s + j), []⟩

theorem tI_new (s : Bool) : newT s = tI s 0 := by cases s <;> rfl
theorem tI_mem (s : Bool) (i n : Nat) : n ∈ (tI s i).lv ↔ fstN s ≤ n ∧ n < fstN s + i := by
  simp only [tI, List.mem_map, List.mem_range]
  constructor
  · rintro ⟨j, h1, rfl⟩
    omega
  · rintro ⟨h1, h2⟩
    exact ⟨n - fstN s, by omega, by omega⟩
theorem tI_len (s : Bool) (i : Nat) : (tI s i).lv.length = i := by simp [tI]

theorem tI_all (s : Bool) (i : Nat) (hi : i < 256) : allT (tI s i) = (tI s (i + 1), fstN s + i, 0) := by
  have e : frsT (tI s i) = fstN s + i := frs_at (by rw [tI_mem]; omega) (by simp [tI]) (by simp only [tI]; omega) (fun j h1 h2 => .inl ((tI_mem s i j).2 ⟨h1, h2⟩))
  unfold allT
  rw [if_neg (by rw [tI_len]; omega), e]
  have e2 : usedT (tI s i) (fstN s + i) = tI s (i + 1) := by
    unfold usedT tI
    simp only [List.range_succ, List.map_append, List.map_cons, List.map_nil]
    congr 1
    omega
  rw [e2]

theorem tI_full (s : Bool) : allT (tI s 256) = (tI s 256, 0, 5) := by
  unfold allT
  rw [if_pos (by rw [tI_len]; exact Nat.le_refl _)]

theorem tI_tak (s : Bool) (n : Nat) (h1 : fstN s + 256 ≤ n) (h2 : n ≤ fstN s + 1000) : takT (tI s 256) n = (tI s 256, 5) := by
  have h3 := fst_lst s
  unfold takT
  rw [if_neg (side_ok (t := tI s 256) (by simp only [tI]; omega) (by simp only [tI]; omega)), if_neg (by rw [tI_mem]; simp [tI]; omega), if_pos (by rw [tI_len]; exact Nat.le_refl _)]

theorem lims (s : Bool) (g : Nat) (h1 : fstN s ≤ g) (h2 : g < fstN s + 256) : ∃ t1 t2 t3, relT (tI s 256) g = (t1, 0) ∧ relT t1 g = (t1, 8) ∧ allT t1 = (t2, fstN s + 256, 0) ∧ conT t2 g = (t3, 0) ∧ conT t3 g = (t3, 8) ∧ takT t3 g = (t3, 5) := by
  have h3 := fst_lst s
  have hg : g ∈ (tI s 256).lv := (tI_mem s 256 g).2 ⟨h1, h2⟩
  have hnd : (tI s 256).lv.Nodup := by
    simp only [tI]
    exact List.pairwise_map.2 (List.nodup_range.imp (fun h e => h (by omega)))
  have hlen := wou_len hnd g
  rw [if_pos hg, tI_len] at hlen
  let t1 : Tb := ⟨s, (tI s 256).lg, wouN (tI s 256).lv g, [g]⟩
  have e1 : relT (tI s 256) g = (t1, 0) := by
    unfold relT
    rw [if_pos hg]
    rfl
  have n1 : g ∉ t1.lv := fun q => (wou_mem.1 q).2 rfl
  have e2 : relT t1 g = (t1, 8) := by
    unfold relT
    rw [if_neg n1]
  have f1 : frsT t1 = fstN s + 256 := frs_at (fun q => by have := (tI_mem s 256 _).1 (wou_mem.1 q).1; omega) (by simp [t1]; omega) (by simp only [t1]; omega) (fun j q1 q2 => by
    by_cases e : j = g
    · exact .inr (by simp [t1, e])
    · exact .inl (wou_mem.2 ⟨(tI_mem s 256 j).2 ⟨q1, q2⟩, e⟩))
  let t2 : Tb := usedT t1 (fstN s + 256)
  have e3 : allT t1 = (t2, fstN s + 256, 0) := by
    unfold allT
    rw [if_neg (by show ¬ 256 ≤ (wouN (tI s 256).lv g).length; omega), f1]
  let t3 : Tb := ⟨s, t2.lg, t2.lv, wouN [g] g⟩
  have e4 : conT t2 g = (t3, 0) := by
    unfold conT
    rw [if_pos (show g ∈ t2.rl from (by simp : g ∈ [g]))]
    rfl
  have r3 : t3.rl = [] := by simp [t3, wouN]
  have e5 : conT t3 g = (t3, 8) := by
    unfold conT
    rw [r3, if_neg (by simp)]
  have n3 : g ∉ t3.lv := by
    show g ∉ wouN (tI s 256).lv g ++ [fstN s + 256]
    rw [List.mem_append, not_or]
    exact ⟨n1, by simp; omega⟩
  have l3 : t3.lv.length = 256 := by
    show (wouN (tI s 256).lv g ++ [fstN s + 256]).length = 256
    rw [List.length_append, List.length_singleton]
    omega
  refine ⟨t1, t2, t3, e1, e2, e3, e4, e5, ?_⟩
  unfold takT
  rw [if_neg (side_ok (t := t3) (by exact h1) (by show g ≤ lstN s; omega)), if_neg (by rw [r3]; simp [n3]), if_pos (by rw [l3]; exact Nat.le_refl _)]

/-- what the loop keeps -/
structure LimI (w : World) (v : Value) (s : Bool) (i : Nat) (wr : World) : Prop where
  tab : TabP w.heap.size wr v (tI s i) i
  below : Below w.heap.size w wr

set_option maxRecDepth 40000 in
set_option maxHeartbeats 4000000 in
theorem limit_false (m : Nat) (hm : m < 256) (w : World) (hT : Tab w) : Calls Tryd.prog 6 #[.bool false, .int .u8 (m : Int)] w (Says true w) := by
  have C1 := Lib.hid (new_any false w hT)
  rw [tI_new] at C1
  have hf : fstN false = 1 := rfl
  go_enter Tryd.func6, Tryd.ntmps6
  go_wp2_with fail
  refine C1.out.mono ?_
  rintro e w1 ⟨v, rfl, hP, hb⟩
  have G0 : Hid (LimI w v false 0 w1) := Lib.hid ⟨hP, hb⟩
  clear hP hb C1
  go_wp2_with fail
  go_loopw [17] (fun s17 wr => ∃ i : Nat, i ≤ 256 ∧ s17 = .int .i64 (i : Int) ∧ Hid (LimI w v false i wr)) (fun s17 _ => leftN 256 s17)
  case atStart => exact ⟨0, Nat.zero_le _, rfl, G0⟩
  case round =>
    obtain ⟨i, hi, rfl, G⟩ := hrel
    by_cases hlt : i < 256
    · have r1 : (i : Int) < 256 := by omega
      have C := Lib.hid (alloc_any G.out.tab (by omega))
      rw [tI_all _ i hlt, hf] at C
      simp only at C
      have HB := Lib.hid G.out.below
      obtain ⟨r, hr⟩ : ∃ r, 1 + i = r := ⟨_, rfl⟩
      rw [hr] at C
      obtain ⟨ii, hii, e2⟩ : ∃ ii : Int, IntKind.u32.wrap (i : Int) = ii ∧ IntKind.u32.wrap (1 + ii) = (r : Int) := by
        refine ⟨_, rfl, ?_⟩
        rw [IntKind.wrap_u32, IntKind.wrap_u32]
        omega
      clear hr G
      go_wp2_with fail
      refine C.out.mono ?_
      rintro e w2 ⟨rfl, hP2, hT2⟩
      have G2 : Hid (LimI w v false (i + 1) w2) := Lib.hid ⟨hP2, hT2.below HB.out⟩
      clear hP2 hT2 HB C
      go_wp2_with fail
      go_roundw
      case rel => exact ⟨i + 1, by omega, by go_num, G2⟩
      case measure =>
        unfold leftN
        simp [intOf]
        omega
    · obtain rfl : i = 256 := by omega
      have C := Lib.hid (alloc_any G.out.tab (by omega))
      rw [tI_full] at C
      have HB := Lib.hid G.out.below
      clear G
      obtain ⟨g, hg⟩ : ∃ g, 1 + m = g := ⟨_, rfl⟩
      have hg4 : g < 4294967296 := by omega
      obtain ⟨t1, t2, t3, x1, x2, x3, x4, x5, x6⟩ := lims false g (by rw [hf]; omega) (by rw [hf]; omega)
      rw [hf] at x3
      have X := Lib.hid (And.intro x1 (And.intro x2 (And.intro x3 (And.intro x4 (And.intro x5 x6)))))
      have y1 := Lib.hid (tI_tak false 257 (by rw [hf]; omega) (by rw [hf]; omega))
      have y2 := Lib.hid (tI_tak false 262 (by rw [hf]; omega) (by rw [hf]; omega))
      obtain ⟨mi, hmi, e2⟩ : ∃ mi : Int, IntKind.u32.wrap (m : Int) = mi ∧ IntKind.u32.wrap (1 + mi) = (g : Int) := by
        refine ⟨_, rfl, ?_⟩
        rw [IntKind.wrap_u32, IntKind.wrap_u32]
        omega
      clear x1 x2 x3 x4 x5 x6 hg
      go_wp2_with fail
      refine C.out.mono ?_
      rintro e w2 ⟨rfl, hP, hT2⟩
      replace HB := Lib.hid (hT2.below HB.out)
      have C := Lib.hid (take_any (n := 257) hP (by omega) (by omega))
      rw [y1.out] at C
      clear hP hT2
      go_wp2_with fail
      refine C.out.mono ?_
      rintro e w3 ⟨rfl, hP, hT2⟩
      replace HB := Lib.hid (hT2.below HB.out)
      have C := Lib.hid (take_any (n := 262) hP (by omega) (by omega))
      rw [y2.out] at C
      clear hP hT2
      go_wp2_with fail
      refine C.out.mono ?_
      rintro e w4 ⟨rfl, hP, hT2⟩
      replace HB := Lib.hid (hT2.below HB.out)
      have K := Lib.hid (count_tab hP)
      rw [tI_len] at K
      have C := Lib.hid (release_any (n := g) hP (by omega) hg4)
      rw [X.out.1] at C
      clear hP hT2
      go_wp2_with fail
      refine K.out.mono ?_
      rintro e w5 ⟨rfl, rfl⟩
      clear K
      go_wp2_with fail
      refine C.out.mono ?_
      rintro e w5 ⟨rfl, hP, hT2⟩
      replace HB := Lib.hid (hT2.below HB.out)
      have C := Lib.hid (release_any (n := g) hP (by omega) hg4)
      rw [X.out.2.1] at C
      clear hP hT2
      go_wp2_with fail
      refine C.out.mono ?_
      rintro e w6 ⟨rfl, hP, hT2⟩
      replace HB := Lib.hid (hT2.below HB.out)
      have C := Lib.hid (alloc_any hP (by omega))
      rw [X.out.2.2.1] at C
      clear hP hT2
      go_wp2_with fail
      refine C.out.mono ?_
      rintro e w7 ⟨rfl, hP, hT2⟩
      replace HB := Lib.hid (hT2.below HB.out)
      have C := Lib.hid (confirm_any (n := g) hP (by omega) hg4)
      rw [X.out.2.2.2.1] at C
      clear hP hT2
      go_wp2_with fail
      refine C.out.mono ?_
      rintro e w8 ⟨rfl, hP, hT2⟩
      replace HB := Lib.hid (hT2.below HB.out)
      have C := Lib.hid (confirm_any (n := g) hP (by omega) hg4)
      rw [X.out.2.2.2.2.1] at C
      clear hP hT2
      go_wp2_with fail
      refine C.out.mono ?_
      rintro e w9 ⟨rfl, hP, hT2⟩
      replace HB := Lib.hid (hT2.below HB.out)
      have C := Lib.hid (take_any (n := g) hP (by omega) hg4)
      rw [X.out.2.2.2.2.2] at C
      clear hP hT2
      go_wp2_with fail
      refine C.out.mono ?_
      rintro e w10 ⟨rfl, hP, hT2⟩
      replace HB := Lib.hid (hT2.below HB.out)
      have E := Lib.hid (example_any w10 (hT.below HB.out))
      clear hP hT2 C
      go_wp2_with fail
      refine E.out.mono ?_
      rintro e w11 ⟨rfl, hb⟩
      go_wp2_with fail
      go_ret
      exact ⟨rfl, Below.next HB.out hb⟩

set_option maxRecDepth 40000 in
set_option maxHeartbeats 4000000 in
theorem limit_true (m : Nat) (hm : m < 256) (w : World) (hT : Tab w) : Calls Tryd.prog 6 #[.bool true, .int .u8 (m : Int)] w (Says true w) := by
  have C1 := Lib.hid (new_any true w hT)
  rw [tI_new] at C1
  have hf : fstN true = 4278190080 := rfl
  go_enter Tryd.func6, Tryd.ntmps6
  go_wp2_with fail
  refine C1.out.mono ?_
  rintro e w1 ⟨v, rfl, hP, hb⟩
  have G0 : Hid (LimI w v true 0 w1) := Lib.hid ⟨hP, hb⟩
  clear hP hb C1
  go_wp2_with fail
  go_loopw [17] (fun s17 wr => ∃ i : Nat, i ≤ 256 ∧ s17 = .int .i64 (i : Int) ∧ Hid (LimI w v true i wr)) (fun s17 _ => leftN 256 s17)
  case atStart => exact ⟨0, Nat.zero_le _, rfl, G0⟩
  case round =>
    obtain ⟨i, hi, rfl, G⟩ := hrel
    by_cases hlt : i < 256
    · have r1 : (i : Int) < 256 := by omega
      have C := Lib.hid (alloc_any G.out.tab (by omega))
      rw [tI_all _ i hlt, hf] at C
      simp only at C
      have HB := Lib.hid G.out.below
      obtain ⟨r, hr⟩ : ∃ r, 4278190080 + i = r := ⟨_, rfl⟩
      rw [hr] at C
      obtain ⟨ii, hii, e2⟩ : ∃ ii : Int, IntKind.u32.wrap (i : Int) = ii ∧ IntKind.u32.wrap (4278190080 + ii) = (r : Int) := by
        refine ⟨_, rfl, ?_⟩
        rw [IntKind.wrap_u32, IntKind.wrap_u32]
        omega
      clear hr G
      go_wp2_with fail
      refine C.out.mono ?_
      rintro e w2 ⟨rfl, hP2, hT2⟩
      have G2 : Hid (LimI w v true (i + 1) w2) := Lib.hid ⟨hP2, hT2.below HB.out⟩
      clear hP2 hT2 HB C
      go_wp2_with fail
      go_roundw
      case rel => exact ⟨i + 1, by omega, by go_num, G2⟩
      case measure =>
        unfold leftN
        simp [intOf]
        omega
    · obtain rfl : i = 256 := by omega
      have C := Lib.hid (alloc_any G.out.tab (by omega))
      rw [tI_full] at C
      have HB := Lib.hid G.out.below
      clear G
      obtain ⟨g, hg⟩ : ∃ g, 4278190080 + m = g := ⟨_, rfl⟩
      have hg4 : g < 4294967296 := by omega
      obtain ⟨t1, t2, t3, x1, x2, x3, x4, x5, x6⟩ := lims true g (by rw [hf]; omega) (by rw [hf]; omega)
      rw [hf] at x3
      have X := Lib.hid (And.intro x1 (And.intro x2 (And.intro x3 (And.intro x4 (And.intro x5 x6)))))
      have y1 := Lib.hid (tI_tak true 4278190336 (by rw [hf]; omega) (by rw [hf]; omega))
      have y2 := Lib.hid (tI_tak true 4278190341 (by rw [hf]; omega) (by rw [hf]; omega))
      obtain ⟨mi, hmi, e2⟩ : ∃ mi : Int, IntKind.u32.wrap (m : Int) = mi ∧ IntKind.u32.wrap (4278190080 + mi) = (g : Int) := by
        refine ⟨_, rfl, ?_⟩
        rw [IntKind.wrap_u32, IntKind.wrap_u32]
        omega
      clear x1 x2 x3 x4 x5 x6 hg
      go_wp2_with fail
      refine C.out.mono ?_
      rintro e w2 ⟨rfl, hP, hT2⟩
      replace HB := Lib.hid (hT2.below HB.out)
      have C := Lib.hid (take_any (n := 4278190336) hP (by omega) (by omega))
      rw [y1.out] at C
      clear hP hT2
      go_wp2_with fail
      refine C.out.mono ?_
      rintro e w3 ⟨rfl, hP, hT2⟩
      replace HB := Lib.hid (hT2.below HB.out)
      have C := Lib.hid (take_any (n := 4278190341) hP (by omega) (by omega))
      rw [y2.out] at C
      clear hP hT2
      go_wp2_with fail
      refine C.out.mono ?_
      rintro e w4 ⟨rfl, hP, hT2⟩
      replace HB := Lib.hid (hT2.below HB.out)
      have K := Lib.hid (count_tab hP)
      rw [tI_len] at K
      have C := Lib.hid (release_any (n := g) hP (by omega) hg4)
      rw [X.out.1] at C
      clear hP hT2
      go_wp2_with fail
      refine K.out.mono ?_
      rintro e w5 ⟨rfl, rfl⟩
      clear K
      go_wp2_with fail
      refine C.out.mono ?_
      rintro e w5 ⟨rfl, hP, hT2⟩
      replace HB := Lib.hid (hT2.below HB.out)
      have C := Lib.hid (release_any (n := g) hP (by omega) hg4)
      rw [X.out.2.1] at C
      clear hP hT2
      go_wp2_with fail
      refine C.out.mono ?_
      rintro e w6 ⟨rfl, hP, hT2⟩
      replace HB := Lib.hid (hT2.below HB.out)
      have C := Lib.hid (alloc_any hP (by omega))
      rw [X.out.2.2.1] at C
      clear hP hT2
      go_wp2_with fail
      refine C.out.mono ?_
      rintro e w7 ⟨rfl, hP, hT2⟩
      replace HB := Lib.hid (hT2.below HB.out)
      have C := Lib.hid (confirm_any (n := g) hP (by omega) hg4)
      rw [X.out.2.2.2.1] at C
      clear hP hT2
      go_wp2_with fail
      refine C.out.mono ?_
      rintro e w8 ⟨rfl, hP, hT2⟩
      replace HB := Lib.hid (hT2.below HB.out)
      have C := Lib.hid (confirm_any (n := g) hP (by omega) hg4)
      rw [X.out.2.2.2.2.1] at C
      clear hP hT2
      go_wp2_with fail
      refine C.out.mono ?_
      rintro e w9 ⟨rfl, hP, hT2⟩
      replace HB := Lib.hid (hT2.below HB.out)
      have C := Lib.hid (take_any (n := g) hP (by omega) hg4)
      rw [X.out.2.2.2.2.2] at C
      clear hP hT2
      go_wp2_with fail
      refine C.out.mono ?_
      rintro e w10 ⟨rfl, hP, hT2⟩
      replace HB := Lib.hid (hT2.below HB.out)
      have E := Lib.hid (example_any w10 (hT.below HB.out))
      clear hP hT2 C
      go_wp2_with fail
      refine E.out.mono ?_
      rintro e w11 ⟨rfl, hb⟩
      go_wp2_with fail
      go_ret
      exact ⟨rfl, Below.next HB.out hb⟩

theorem limit_walk (s : Bool) (m : Nat) (hm : m < 256) (w : World) (hT : Tab w) : Calls Tryd.prog 6 #[.bool s, .int .u8 (m : Int)] w (Says true w) := by
  cases s
  · exact limit_false m hm w hT
  · exact limit_true m hm w hT

end Go.Proofs.YtnefcmikeeadhaaDoor
