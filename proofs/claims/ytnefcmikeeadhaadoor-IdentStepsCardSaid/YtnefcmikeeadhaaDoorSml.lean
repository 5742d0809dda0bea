/-
  smallest of the set.
-/
import Derived.Test.YtnefcmikeeadhaaDoorRng
namespace Go.Proofs.YtnefcmikeeadhaaDoor
open Go.RowKit Go.Shelf
attribute [local go_sem] Oper.semAt_some

/-- n is the least number of the set -/
def Least (S : Nat → Prop) (n : Nat) : Prop := S n ∧ ∀ m, S m → n ≤ m

theorem boxed_putObj {W : World} {B : Nat} {t : TypeId} {v : Value} (h : Boxed W B t v) {l : Nat} (hl : B ≠ l) (o : Obj) : Boxed (W.putObj l o) B t v := (World.putObj_heap_other hl).trans h

/-- the row of a level, as a round reads it -/
structure RowAt (W : World) (v : Value) (p x : Nat) : Prop where
  shape : ∃ g kl cp, v = .slice (some ⟨g, 0, none⟩) kl cp ∧ p < kl ∧ kl ≤ cp ∧ cp ≤ maxLen ∧ W.cell? ⟨g, p, none⟩ = some (.int .u64 (x : Int)) ∧ g < W.heap.size

set_option maxRecDepth 100000 in
set_option maxHeartbeats 2000000 in
theorem small_hit {w : World} {base k : Nat} {V : Nat → Value} {L : Nat → List Nat} {S : Nat → Prop} {n : Nat} (h : SetP w base k V L) (hT : Tab w) (hL : Levs S L) (hn : Least S n) (hb : n < 128000) :
    Calls Tryd.prog 37 #[.pointer (some ⟨k, 5, none⟩)] w fun e w' => e = .returned (.tuple #[.int .u32 (n : Int), .bool true]) ∧ Below w.heap.size w w' := by
  have hrows : ∀ i, i < 6 → ∃ x, x < 18446744073709551616 ∧ x ≠ 0 ∧ n / 64 ^ (i + 1) * 64 + Lib.ctz 64 x = n / 64 ^ i ∧ RowAt w (V i) (n / 64 ^ (i + 1)) x := fun i hi => by
    obtain ⟨l1, l2, l3⟩ := (hL.1 i hi).least hn.1 hn.2
    obtain ⟨g, cp, hv, h1, h2, _, ht, _, gc⟩ := (h.row i hi).lies (by omega)
    have hx : (L i)[n / 64 ^ (i + 1)]? = some ((L i)[n / 64 ^ (i + 1)]?.getD 0) := by
      rw [List.getElem?_eq_getElem l1]
      rfl
    exact ⟨_, (hL.1 i hi).small _, l2, l3, ⟨g, _, cp, hv, l1, h1, h2, gc _ _ hx, ht.lt⟩⟩
  have hz5 : n / 64 ^ (5 + 1) = 0 := Nat.div_eq_of_lt (by omega)
  obtain ⟨x5, _, hx50, _, ⟨g5, k5, cp5, hv5, hk5, hc51, hc52, g0, _⟩⟩ := hrows 5 (by omega)
  rw [hz5] at g0 hk5
  have c5 := h.cell 5 (by omega)
  rw [hv5] at c5
  simp only [Nat.reduceAdd] at c5
  have e5 : ((x5 : Int) == 0) = false := by simp; omega
  have e6 : ((k5 : Int) == 0) = false := by simp; omega
  have HK := h.ty.lt
  have HV := h.cell
  have HS : ∀ i, i < 6 → ∃ A n c, V i = Value.slice A n c := fun i hi => by
    obtain ⟨A, c, e, _⟩ := (h.row i hi).shape
    exact ⟨A, _, c, e⟩
  simp only [maxLen] at hc52
  clear h hL hn hx50 hz5
  refine (callsIn_wide (n := 9)).1 ?_
  refine callsIn_of_wp_marks Tryd.func37 rfl trivial ?_ rfl
  simp only [Tryd.ntmps37, List.size_toArray, List.length_cons, List.length_nil, Nat.reduceAdd, Nat.reduceSub, Array.replicate_succ, Array.replicate_zero, List.push_toArray, List.append_toArray, List.nil_append, List.cons_append]
  gi_wp2
  refine ⟨trivial, ?_⟩
  refine (callsIn_wide.2 (back_any _ _ _ _)).mono ?_
  rintro e w1 ⟨rfl, rfl⟩
  gi_wp2
  have HB1 : Below w.heap.size w ((w.alloc (.cells #[.int .i64 0] 3)).alloc (.cells #[.slice (some ⟨k, 5, none⟩) 6 6] 68)) := ((Below.refl _ _).alloc (Nat.le_refl _) _).alloc (by simp) _
  have hbx : Boxed ((w.alloc (.cells #[.int .i64 0] 3)).alloc (.cells #[.slice (some ⟨k, 5, none⟩) 6 6] 68)) w.heap.size 3 (.int .i64 0) := (Boxed.new w 3 _).alloc _
  have hI1 : ((w.alloc (.cells #[.int .i64 0] 3)).alloc (.cells #[.slice (some ⟨k, 5, none⟩) 6 6] 68)).cell? ⟨w.heap.size + 1, 0, none⟩ = some (.slice (some ⟨k, 5, none⟩) 6 6) := by
    have := (Boxed.new (w.alloc (.cells #[.int .i64 0] 3)) 68 (.slice (some ⟨k, 5, none⟩) 6 6)).cell
    rwa [World.size_alloc] at this
  have hz1 : ((w.alloc (.cells #[.int .i64 0] 3)).alloc (.cells #[.slice (some ⟨k, 5, none⟩) 6 6] 68)).heap.size = w.heap.size + 2 := by rw [World.size_alloc, World.size_alloc]
  generalize (w.alloc (.cells #[.int .i64 0] 3)).alloc (.cells #[.slice (some ⟨k, 5, none⟩) 6 6] 68) = w1 at *
  refine rounds_law rfl (by omega) (gf := 40) (lb := #[.pointer (some ⟨w.heap.size + 1, 0, none⟩)]) rfl trivial (enters_of Tryd.func40 (by kernel_rfl) rfl) (encs := fun r => #[.int .i64 ((5 - r : Nat) : Int), V (5 - r)]) (Kp := Keeps2 (w.heap.size + 1) k) (N := 6)
    (I := fun r W => Boxed W w.heap.size 3 (.int .i64 ((n / 64 ^ (6 - r) : Nat) : Int)) ∧ Below w.heap.size w W)
    (fun l J W hW hY h0 => down_in _ (by omega) l (w.heap.size + 1) k V J W (fun r W1 hJ hr => hY r W1 hJ hr) ((hW.cell (p := ⟨w.heap.size + 1, 0, none⟩) (by simp only; omega)).trans hI1)
      (fun i hi => ((hW.cell (p := ⟨k, 5 + i, none⟩) (by simp only; omega)).trans (HB1.cell (p := ⟨k, 5 + i, none⟩) HK)).trans (HV i hi)) HS h0)
    keeps2_t (keeps2_b (by omega) (by omega)) (fun _ => rfl)
    (fun r W l o o' hi hl ho hc => ⟨boxed_putObj hi.1 (by omega) _, hi.2.grown (grownBy_putObj' W l o') hi.2.size (fun j hj => by cases hj; omega)⟩)
    (fun W hW => ⟨by
      have e : n / 64 ^ (6 - 0) = 0 := Nat.div_eq_of_lt (by omega)
      rw [e]
      exact (hW.block w.heap.size (by omega)).trans hbx, HB1.trans (hW.mono (by omega))⟩)
    (fun r => { tmps := #[.pointer (some ⟨k, 5, none⟩), undef, .int .u32 0, .bool false, .slice (some ⟨g5, 0, none⟩) k5 cp5, .pointer (some ⟨w.heap.size, 0, none⟩), undef, V (5 - r), .pointer (some ⟨k, 5, none⟩), .pointer (some ⟨k, 5, none⟩), .pointer (some ⟨k, 5, none⟩), .pointer (some ⟨k, 10, none⟩), .slice (some ⟨g5, 0, none⟩) k5 cp5, .slice (some ⟨g5, 0, none⟩) k5 cp5, .int .i64 (k5 : Int), .bool false, .bool false, .slice (some ⟨g5, 0, none⟩) k5 cp5, .pointer (some ⟨g5, 0, none⟩), .int .u64 (x5 : Int), .bool false, .bool false, .pointer (some ⟨k, 5, none⟩), .pointer (some ⟨k, 5, none⟩), .pointer (some ⟨k, 5, none⟩), .slice (some ⟨k, 5, none⟩) 6 6, .func (.func 40) #[] #[.pointer (some ⟨w.heap.size + 1, 0, none⟩)], .int .i64 ((5 - r : Nat) : Int), V (5 - r), undef, undef, undef, undef, undef, undef, undef, undef, undef, undef], defers := [] }) ?assign ?body ?done
  case assign =>
    intro l r W K hK
    gi_wp2
    exact hK
  case body =>
    rintro l r W ⟨hbx1, hB⟩ hr
    obtain ⟨x, hx1, hx0, hc, ⟨g, kl, cp, hv, hp, hk1, hk2, hcell, hg⟩⟩ := hrows (5 - r) (by omega)
    have e1 : 5 - r + 1 = 6 - r := by omega
    have e2 : 5 - r = 6 - (r + 1) := by omega
    rw [e1] at hp hcell hc
    rw [e2] at hc
    have hcell2 := (hB.cell (p := ⟨g, n / 64 ^ (6 - r), none⟩) hg).trans hcell
    have HT := Lib.hid (hT.below hB)
    have HT2 : Hid (Tab W.drew) := Lib.hid (HT.out.below (Below.refl _ _).drew)
    have hle : n / 64 ^ (6 - r) ≤ n := Nat.div_le_self _ _
    have hN : n / 64 ^ (6 - (r + 1)) ≤ n := Nat.div_le_self _ _
    generalize n / 64 ^ (6 - r) = p at *
    generalize n / 64 ^ (6 - (r + 1)) = q at *
    obtain ⟨c, hcz⟩ : ∃ c, Lib.ctz 64 x = c := ⟨_, rfl⟩
    have C1 := fun W hW => Lib.hid (tz_any x hx1 hx0 W hW)
    rw [hcz] at hc C1
    have c0 := hbx1.cell
    have f0 := hbx1.frozen
    have p0 : (0 : Int) ≤ p := by omega
    have p1 : (p : Int) < kl := by omega
    have hq0 : ∃ z : Int, IntKind.i64.wrap ((p : Int) * 64) = z ∧ IntKind.i64.wrap (z + (c : Int)) = (q : Int) := by
      refine ⟨_, rfl, ?_⟩
      have h1 : IntKind.i64.wrap ((p : Int) * 64) = (p : Int) * 64 := IntWalk.i64_in _ (by omega)
      rw [h1]
      have h2 : IntKind.i64.wrap ((p : Int) * 64 + (c : Int)) = (p : Int) * 64 + (c : Int) := IntWalk.i64_in _ (by omega)
      rw [h2]
      omega
    obtain ⟨z, hq1, hq2⟩ := hq0
    have hmx : Tryd.prog.follows .mixedOrders = true := by kernel_rfl
    have hd : 1 ≤ 9 - 1 - 1 := by omega
    simp only [maxLen] at hk2
    have HQ := Lib.hid (And.intro hbx1 hB)
    dsimp only
    rw [hv]
    have hkg : k < w.heap.size := HK
    clear e1 e2 hrows HV HS hbx hI1 hz1 HB1 e5 e6 g0 c5 hc hle hN hcz hx1 hx0 hcell hv hr hb hT hv5 hk5 hc51 hc52 hbx1 hB
    generalize 5 - r = i at *
    gi_wp2
    gi_region_with_o (refine ⟨trivial, ?_⟩; gi_at_call 39; refine (CallsIn.inRound l (callsIn_wide.2 (C1 _ (by first | exact HT.out | exact HT2.out)).out)).mono ?_; rintro e w' ⟨rfl, rfl⟩)
    all_goals gi_wp2
    all_goals exact ⟨(KeepsOthers.setCell W _ _).trans (KeepsOthers.drew _), ⟨heap_set (w := W) (a := ⟨w.heap.size, 0, none⟩) (by simp only; omega) _, heap_set (w := W) (a := ⟨w.heap.size, 0, none⟩) (by simp only; omega) _⟩, Boxed.set (W := W) _ HQ.out.1, (HQ.out.2.setCell (p := ⟨w.heap.size, 0, none⟩) (Nat.le_refl _) _).drew⟩
  case done =>
    rintro D W hD ⟨hbx1, hB⟩ hK
    have c0 := hbx1.cell
    have en : n / 64 ^ (6 - 6) = n := by simp
    rw [en] at c0
    have HB := Lib.hid hB
    clear hrows HV HS hbx hI1 HB1 e5 e6 g0 c5 hv5 hbx1 hB en
    gi_wp2
    refine ⟨by simp, .inl ⟨_, _, rfl, run_takeDeferred hK, ?_⟩⟩
    exact ⟨.tuple #[.int .u32 (n : Int), .bool true], by simp [results, Tryd.results37, go_sem], rfl, HB.out.trans (belowK_b (w := w) (Nat.le_refl _) W D _ _ (by omega) hK rfl rfl)⟩

theorem small_miss {w : World} {base k : Nat} {V : Nat → Value} {L : Nat → List Nat} {S : Nat → Prop} (h : SetP w base k V L) (hL : Levs S L) (hn : ∀ m, ¬ S m) :
    Calls Tryd.prog 37 #[.pointer (some ⟨k, 5, none⟩)] w fun e w' => e = .returned (.tuple #[.int .u32 0, .bool false]) ∧ w = w' := by
  have c5 := h.cell 5 (by omega)
  simp only [Nat.reduceAdd] at c5
  have hz := (lev_word (hL.1 5 (by omega)) 0).2 (fun ⟨m, h1, _⟩ => hn m h1)
  by_cases hl : (L 5).length = 0
  · obtain ⟨A, c, hv, _⟩ := (h.row 5 (by omega)).shape
    rw [hv, hl] at c5
    clear h hL hz hl hv
    go_enter Tryd.func37, Tryd.ntmps37
    go_wp2_with fail
    exact bodyPost_ret (v := .tuple #[.int .u32 0, .bool false]) (by simp [results, Tryd.results37, go_sem]) rfl ⟨rfl, rfl⟩
  · obtain ⟨g, cp, hv, h1, h2, _, _, _, gc⟩ := (h.row 5 (by omega)).lies (by omega)
    rw [hv] at c5
    have h0 : 0 < (L 5).length := by omega
    obtain ⟨x, hx⟩ : ∃ x, (L 5)[0]? = some x := ⟨_, List.getElem?_eq_getElem h0⟩
    have g0 := gc _ _ hx
    rw [hx] at hz
    obtain rfl : x = 0 := hz
    have e6 : (((L 5).length : Int) == 0) = false := beq_eq_false_iff_ne.2 (by omega)
    have e7 : (0 : Int) < (L 5).length := by omega
    simp only [maxLen] at h2
    generalize (L 5).length = kl at *
    clear h hL hl hv gc hx h0
    go_enter Tryd.func37, Tryd.ntmps37
    go_wp2_with fail
    exact bodyPost_ret (v := .tuple #[.int .u32 0, .bool false]) (by simp [results, Tryd.results37, go_sem]) rfl ⟨rfl, rfl⟩

end Go.Proofs.YtnefcmikeeadhaaDoor
