/-
  add of the set.
-/
import Derived.Test.YtnefcmikeeadhaaDoorSets
import Derived.Deep.RegionLaw
import Derived.Laws.BitsAllLaws
namespace Go.Proofs.YtnefcmikeeadhaaDoor
open Go.RowKit

/-- all six levels of the set S -/
def Levs (S : Nat → Prop) (L : Nat → List Nat) : Prop := (∀ i, i < 6 → Lev S i (L i)) ∧ ∀ i, i < 6 → (L i).length ≤ 2000

/-- while add goes: the levels below i have the new number -/
structure Adds (w : World) (base k : Nat) (S : Nat → Prop) (n i : Nat) (V : Nat → Value) (L : Nat → List Nat) (wr : World) : Prop where
  set : SetP wr base k V L
  turn : STurn base k w wr
  new : ∀ j, j < 6 → j < i → Lev (fun m => S m ∨ m = n) j (L j)
  old : ∀ j, j < 6 → i ≤ j → Lev S j (L j)
  few : ∀ j, j < 6 → (L j).length ≤ 2000
  base : base ≤ wr.heap.size

def slLen : Option Value → Nat
  | some (.slice _ n _) => n
  | _ => 0

theorem STurn.below {base k : Nat} {w w1 w2 : World} (h : STurn base k w w1) (hk : k < w1.heap.size) (hb : base ≤ w1.heap.size) (g : Below w1.heap.size w1 w2) : STurn base k w w2 :=
  h.trans ⟨g.os, g.tape, g.output, g.size, fun j hj => g.block j (by omega), fun j hj _ _ => g.block j hj, fun i _ => g.cell (p := ⟨k, i, none⟩) hk⟩

theorem Adds.grow {w wr w6 : World} {base k n i : Nat} {S : Nat → Prop} {V : Nat → Value} {L : Nat → List Nat} (A : Adds w base k S n i V L wr) (hi : i < 6) (o : Obj) {v' : Value} (ho : OwnW w6 base v' (L i ++ [0]))
    (hg : (wr.drew.alloc o).grownBy w6 (V i).ownBlock) (hl : v'.ownBlock = (V i).ownBlock ∨ v'.ownBlock = some (wr.drew.alloc o).heap.size) (hs : (L i).length < 2000) :
    Adds w base k S n i (upd V i v') (upd L i (L i ++ [0])) (w6.setCell ⟨k, 5 + i, none⟩ v') := by
  have hB : Below wr.heap.size wr wr.drew := (Below.refl _ _).drew
  obtain ⟨h1, h2⟩ := (A.set.below hB).app hi o A.base ho hg hl
  refine ⟨h1, (A.turn.below A.set.ty.lt A.base hB).trans h2, fun j hj hlt => ?_, fun j hj hle => ?_, fun j hj => ?_, ?_⟩
  · rw [upd_other _ _ (by omega)]
    exact A.new j hj hlt
  · by_cases e : j = i
    · subst e
      rw [upd_at]
      exact (A.old j hj hle).more
    · rw [upd_other _ _ e]
      exact A.old j hj hle
  · by_cases e : j = i
    · subst e
      rw [upd_at, List.length_append, List.length_singleton]
      omega
    · rw [upd_other _ _ e]
      exact A.few j hj
  · have := hg.size
    rw [World.size_alloc] at this
    rw [World.size_setCell]
    have := A.base
    have e : wr.drew.heap.size = wr.heap.size := rfl
    omega

theorem Adds.word {w wr : World} {base k n i m : Nat} {S : Nat → Prop} {V : Nat → Value} {L : Nat → List Nat} (A : Adds w base k S n i V L wr) (hi : i < 6) (hm : n / 64 ^ i = m) {g nn cap : Nat} (hv : V i = .slice (some ⟨g, 0, none⟩) nn cap)
    {x : Nat} (hx : (L i)[m / 64]? = some x) : Adds w base k S n (i + 1) V (upd L i ((L i).set (m / 64) (x ||| 2 ^ (m % 64)))) (wr.setCell ⟨g, m / 64, none⟩ (.int .u64 ((x ||| 2 ^ (m % 64) : Nat) : Int))) := by
  obtain ⟨h1, h2⟩ := A.set.word hi hv (m / 64) (x ||| 2 ^ (m % 64))
  have hl := (List.getElem?_eq_some_iff.1 hx).1
  refine ⟨h1, A.turn.trans h2, fun j hj hlt => ?_, fun j hj hle => ?_, fun j hj => ?_, ?_⟩
  · by_cases e : j = i
    · subst e
      rw [upd_at]
      have := (A.old j hj (Nat.le_refl _)).add (n := n) hm hl
      rw [hx] at this
      exact this
    · rw [upd_other _ _ e]
      exact A.new j hj (by omega)
  · rw [upd_other _ _ (by omega)]
    exact A.old j hj (by omega)
  · by_cases e : j = i
    · subst e
      rw [upd_at, List.length_set]
      exact A.few j hj
    · rw [upd_other _ _ e]
      exact A.few j hj
  · rw [World.size_setCell]
    exact A.base

theorem or_word (x b : Nat) (hx : x < 18446744073709551616) (hb : b < 64) : bits .or .u64 (x : Int) (IntKind.u64.wrap (2 ^ b)) = ((x ||| 2 ^ b : Nat) : Int) := by
  have h2 : 2 ^ b < 2 ^ 64 := Nat.pow_lt_pow_right (by decide) hb
  have e : IntKind.u64.wrap (2 ^ b) = ((2 ^ b : Nat) : Int) := by
    rw [IntKind.wrap_u64]
    have h3 : ((2 : Int) ^ b) = ((2 ^ b : Nat) : Int) := by rw [Int.natCast_pow]; rfl
    rw [h3]
    generalize (2 : Nat) ^ b = P at *
    omega
  rw [e, u64_or_nat x _ hx (by omega)]

set_option maxRecDepth 100000 in
set_option maxHeartbeats 4000000 in
theorem add_any {w : World} {base k : Nat} {V : Nat → Value} {L : Nat → List Nat} {S : Nat → Prop} {n : Nat} (h : SetP w base k V L) (hb : base ≤ w.heap.size) (hL : Levs S L) (hn : n < 128000) :
    Calls Tryd.prog 32 #[.pointer (some ⟨k, 5, none⟩), .int .u32 (n : Int)] w fun e w' => (∃ v, e = .returned v) ∧ ∃ V' L', SetP w' base k V' L' ∧ Levs (fun m => S m ∨ m = n) L' ∧ STurn base k w w' := by
  have A0 : Adds w base k S n 0 V L w := ⟨h, STurn.refl _ _ _, fun j _ hj => by omega, fun j hj _ => hL.1 j hj, hL.2, hb⟩
  replace A0 := Lib.hid A0
  clear h hb hL
  go_enter Tryd.func32, Tryd.ntmps32
  go_wp2_with fail
  go_loopw [1, 7] (fun s1 s7 wr => ∃ (i m : Nat) (V : Nat → Value) (L : Nat → List Nat), i ≤ 6 ∧ s7 = .int .i64 (i : Int) ∧ s1 = .int .u32 (m : Int) ∧ Hid (n / 64 ^ i = m) ∧ m < 128000 ∧ Hid (Adds w base k S n i V L wr)) (fun _ s7 _ => leftN 6 s7)
  case atStart => exact ⟨0, n, V, L, by omega, rfl, rfl, Lib.hid (by simp), hn, A0⟩
  case round =>
    obtain ⟨i, m, V, L, hi, rfl, rfl, hm, hm1, A⟩ := hrel
    by_cases hlt : i < 6
    · have q0 : (0 : Int) ≤ i := by omega
      have q1 : (i : Int) < 6 := by omega
      go_wp2_with fail
      go_loopw [14] (fun _ wr => ∃ (V : Nat → Value) (L : Nat → List Nat), Hid (Adds w base k S n i V L wr)) (fun _ wr => m / 64 + 1 - slLen (wr.cell? ⟨k, 5 + i, none⟩))
      case atStart => exact ⟨V, L, A⟩
      case round =>
        obtain ⟨V, L, A⟩ := hrel
        have hl0 := A.out.few i hlt
        obtain ⟨At, cp, hv, hc1, hc2⟩ := (A.out.set.row i hlt).shape
        have c0 := A.out.set.cell i hlt
        rw [hv] at c0
        obtain ⟨kl, hkl⟩ : ∃ kl, (L i).length = kl := ⟨_, rfl⟩
        rw [hkl] at c0 hl0 hc1
        have hk1 := A.out.set.ty.lt
        simp only [maxLen] at hc2
        by_cases hle : kl ≤ m / 64
        · have q2 : (kl : Int) ≤ (m : Int) / 64 := by omega
          have A1 : Hid (SetP wr.drew base k V L) := Lib.hid (A.out.set.below (Below.refl _ _).drew)
          have O1 := Lib.hid (show OwnW (wr.drew.alloc (.cells #[.int .u64 0] 64)) base (.slice At kl cp) (L i) by
            have := (A1.out.row i hlt).same (w' := wr.drew.alloc (.cells #[.int .u64 0] 64)) fun g hg => Below.heap_alloc _ _ g ((A1.out.row i hlt).block hg).1.lt
            rw [hv, hkl] at this
            exact this)
          have hlen : Hid ((L i).length + [0].length ≤ 4000000) := Lib.hid (by rw [hkl]; simp; omega)
          have hsz : Hid (base ≤ (wr.drew.alloc (.cells #[.int .u64 0] 64)).heap.size) := Lib.hid (by rw [World.size_alloc]; exact Nat.le_succ_of_le A.out.base)
          have hne : Hid (some k ≠ (Value.slice At kl cp).ownBlock) := Lib.hid (by
            have := A.out.set.sep hlt
            rw [hv, hkl] at this
            exact Ne.symm this)
          have HC := Lib.hid c0
          have HK2 : Hid (k < (wr.drew.alloc (.cells #[.int .u64 0] 64)).heap.size) := Lib.hid (by rw [World.size_alloc]; exact Nat.lt_succ_of_lt hk1)
          have HB2 : Hid ((wr.drew.alloc (.cells #[.int .u64 0] 64)).heap[k]? = wr.heap[k]?) := Lib.hid (Below.heap_alloc _ _ k hk1)
          have hl1 : Hid ((L i ++ [0]).length = kl + 1) := Lib.hid (by rw [List.length_append, hkl]; rfl)
          have HF := Lib.hid A.out.set.free
          have hme : Hid (slLen (wr.cell? ⟨k, 5 + i, none⟩) = kl) := Lib.hid (by rw [c0]; rfl)
          replace hkl := Lib.hid hkl
          replace hv := Lib.hid hv
          go_wp2_with fail
          go_region_law (first
            | (refine step_appW (by rfl) _ _ (by rfl) (base := base) (l := L i) (m := [0]) (by rfl) (by exact O1.out) (by rfl) (by exact ws_one _ 0) (by exact hlen.out) (by exact hsz.out) ?_; intro v6 w6 ho6 hg6 hl6 _; obtain ⟨A6, c6, hv6, _, _⟩ := ho6.shape; rw [hl1.out] at hv6; subst hv6; have d0 := (World.cell?_of_block (a := ⟨k, 5 + i, none⟩) ((hg6.block k HK2.out hne.out).trans HB2.out)).trans HC.out; have df := (World.frozen?_of_block (a := ⟨k, 5 + i, none⟩) ((hg6.block k HK2.out hne.out).trans HB2.out)).trans (HF.out (5 + i))))
          all_goals
            have Z := Lib.hid (A.out.grow hlt (.cells #[.int .u64 0] 64) ho6 (by rw [hv.out, hkl.out]; exact hg6) (by rw [hv.out, hkl.out]; exact hl6) (by rw [hkl.out]; omega))
            have hm2 : Hid (slLen ((w6.setCell ⟨k, 5 + i, none⟩ (.slice A6 (kl + 1) c6)).cell? ⟨k, 5 + i, none⟩) = kl + 1) := Lib.hid (by
              rw [World.cell?_setCell_same' _ _ _ (by rw [d0]; rfl)]
              rfl)
            clear ho6 hg6 hl6 d0 df A A1 O1
            go_wp2_with fail
            go_roundw
            case rel => exact ⟨_, _, Z⟩
            case measure => rw [hm2.out, hme.out]; omega
        · have q2 : ¬ (kl : Int) ≤ (m : Int) / 64 := by omega
          obtain ⟨g, cp', hv', _, _, hgb, hgt, gf, gc⟩ := (A.out.set.row i hlt).lies (by omega)
          have HV := Lib.hid hv'
          rw [hv] at hv'
          injection hv' with e1 _ e3
          subst e1 e3
          obtain ⟨x, hx⟩ : ∃ x, (L i)[m / 64]? = some x := ⟨_, List.getElem?_eq_getElem (by omega)⟩
          have g0 := gc _ _ hx
          have hx1 : x < 18446744073709551616 := by
            have := (A.out.old i hlt (Nat.le_refl _)).small (m / 64)
            rw [hx] at this
            exact this
          have ew := Lib.hid (or_word x (m % 64) hx1 (by omega))
          have Z := Lib.hid (A.out.word hlt hm.out HV.out hx)
          have hm2 : Hid (n / 64 ^ (i + 1) = m / 64) := Lib.hid (by rw [div_next, hm.out])
          clear gc hx hv hkl A hm HV
          go_wp2_with fail
          go_roundw
          case rel => exact ⟨i + 1, m / 64, _, _, by omega, by go_num, by go_num, hm2, by omega, by rw [ew.out]; exact Z⟩
          case measure =>
            unfold leftN
            simp [intOf]
            omega
    · obtain rfl : i = 6 := by omega
      go_wp2_with fail
      go_end0
      exact ⟨⟨_, rfl⟩, V, L, A.out.set, ⟨fun j hj => A.out.new j hj hj, A.out.few⟩, A.out.turn⟩

end Go.Proofs.YtnefcmikeeadhaaDoor
