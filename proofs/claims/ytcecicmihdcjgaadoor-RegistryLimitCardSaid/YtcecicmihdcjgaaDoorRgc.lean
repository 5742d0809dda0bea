/-
  The reference's known.
-/
import Derived.Test.YtcecicmihdcjgaaDoorRgb
namespace Go.Proofs.YtcecicmihdcjgaaDoor
open Go.RowKit

theorem knB_succ {l : List Gl} {i : Nat} {x : Gl} (h : l[i]? = some x) (q a : Nat) : knB l q (i + 1) a =
    if 0 < x.vr then knB l q i a else if x.nm ≠ q ∨ 16 < a + 1 then knB l q i (a + 1) else if (fstF q (l.take i)).2 = true then fstF q (l.take i) else knB l q i (a + 1) := by
  have e : l.getD i zeroG = x := by simp [List.getD, h]
  conv => lhs; unfold knB
  rw [e]
theorem fstF_drop {l : List Gl} {k : Nat} {x : Gl} (h : l[k]? = some x) (q : Nat) : fstF q (l.drop k) = if x.nm = q then (x, true) else fstF q (l.drop (k + 1)) := by
  obtain ⟨h1, rfl⟩ := List.getElem?_eq_some_iff.1 h
  rw [List.drop_eq_getElem_cons h1]
  rfl

def upN (v : Value) : Nat := (intOf v + 1).toNat
theorem upN_lt (i : Nat) : upN (.int .i64 ((i : Int) - 1)) < upN (.int .i64 (i : Int)) := by
  unfold upN
  show ((i : Int) - 1 + 1).toNat < ((i : Int) + 1).toNat
  omega

set_option maxRecDepth 100000 in
set_option maxHeartbeats 8000000 in
theorem known_any {w : World} {v : Value} {l : List Gl} (h : Gs w v l) (hl : l.length ≤ 1000000) (q : Nat) :
    Calls Tryd.prog 38 #[.agg #[v], .int .u32 (q : Int)] w fun e w' => e = .returned (.tuple #[glVal (knownF l q).1, .bool (knownF l q).2]) ∧ Below w.heap.size w w' := by
  have HA := Lib.hid h
  have C := fun (W : World) (hb : Below w.heap.size w W) => Lib.hid (announced_any (h.below hb) q)
  obtain ⟨A, c, rfl, hc, hm⟩ := h.shape
  simp only [maxLen] at hm
  have J1 := ((Held.nil w).alloc [.slice A l.length c] 28).alloc [.int .u32 0, .string ⟨#[]⟩, .int .i64 0] 49
  simp only [World.size_alloc] at J1
  obtain ⟨n, hn⟩ : ∃ n, l.length = n := ⟨_, rfl⟩
  have HN := Lib.hid hn
  rw [hn] at hc HA J1 C hl ⊢
  have J := Lib.hid J1
  obtain ⟨X, hX⟩ : ∃ X, knownF l q = X := ⟨_, rfl⟩
  rw [hX]
  unfold knownF at hX
  rw [hn] at hX
  have HX := Lib.hid hX
  obtain ⟨⟨ga, gb⟩, hg⟩ : ∃ a, annF l q = a := ⟨_, rfl⟩
  rw [hg] at C HX
  obtain ⟨y0, -, -⟩ := (show Held w _ ([_] ++ (w.heap.size, _) :: []) from J.out).one
  clear h hn J1 hX hg
  go_enter Tryd.func38, Tryd.ntmps38
  go_wp2_with fail
  refine (C _ J.out.below).out.mono ?_
  rintro e w1 ⟨rfl, hb⟩
  dsimp only
  cases gb with
  | true =>
    have hx := HX.out
    rw [if_pos rfl] at hx
    subst hx
    replace J := Lib.hid ((J.out.step hb).made (.cells #[.int .u32 (ga.nm : Int), .string ga.it, .int .i64 ga.vr] 49))
    clear hb C y0 HX
    obtain ⟨z0, z1, z2, zf, zl⟩ := (show Held w _ ([] ++ (w.heap.size + 1, _) :: [_]) from J.out).tri
    have K := Lib.hid ((show Held w _ ([] ++ (w.heap.size + 1, [.int .u32 0, .string ⟨#[]⟩, .int .i64 0]) :: [_]) from J.out).set3 (.int .u32 (ga.nm : Int)) (.string ga.it) (.int .i64 ga.vr))
    clear J
    go_wp2_with fail
    have hK := K.out
    unfold Go.Proofs.YtcecicmihdcjgaaDoor.set3 at hK
    obtain ⟨x0, x1, x2, -, -⟩ := (show Held w _ ([] ++ (w.heap.size + 1, [.int .u32 (ga.nm : Int), .string ga.it, .int .i64 ga.vr]) :: [_]) from hK).tri
    exact bodyPost_ret (v := .tuple #[.agg #[.int .u32 (ga.nm : Int), .string ga.it, .int .i64 ga.vr], .bool true]) (by simp [results, Tryd.results38, go_sem, x0, x1, x2]) rfl ⟨rfl, hK.below⟩
  | false =>
    have hx := HX.out
    rw [if_neg (by simp)] at hx
    replace J := Lib.hid ((J.out.step hb).made (.cells #[.int .u32 (ga.nm : Int), .string ga.it, .int .i64 ga.vr] 49))
    have HI0 := Lib.hid hx
    clear hb C y0 HX hx
    obtain ⟨y0, -, -⟩ := (show Held w _ ([_] ++ (w.heap.size, _) :: []) from J.out).one
    go_wp2_with fail
    clear y0
    go_loopw [8, 9] (fun s8 s9 wr => ∃ (i a : Nat) (z : Int), i ≤ n ∧ z = (i : Int) - 1 ∧ s9 = .int .i64 z ∧ s8 = .int .i64 (a : Int) ∧ a + i ≤ n ∧ Hid (knB l q i a = X) ∧ Hid (Held w wr [(w.heap.size + 1, [.int .u32 0, .string ⟨#[]⟩, .int .i64 0]), (w.heap.size, [.slice A n c])])) (fun _ s9 _ => upN s9)
    case atStart => exact ⟨n, 0, (n : Int) - 1, Nat.le_refl _, rfl, rfl, rfl, by omega, HI0, J⟩
    case round =>
      clear J HI0
      obtain ⟨i, a, z, hi, hz, rfl, rfl, hai, HI, J⟩ := hrel
      obtain ⟨y0, -, -⟩ := (show Held w wr ([_] ++ (w.heap.size, _) :: []) from J.out).one
      cases i with
      | zero =>
        have g0 : ¬ (0 : Int) ≤ z := by omega
        have g1 : decide ((0 : Int) ≤ z) = false := decide_eq_false g0
        have hx := HI.out
        unfold knB at hx
        subst hx
        obtain ⟨z0, z1, z2, zf, zl⟩ := (show Held w _ ([] ++ (w.heap.size + 1, _) :: [_]) from J.out).tri
        have K := Lib.hid ((show Held w _ ([] ++ (w.heap.size + 1, [.int .u32 0, .string ⟨#[]⟩, .int .i64 0]) :: [_]) from J.out).set3 (.int .u32 0) (.string ⟨#[]⟩) (.int .i64 0))
        clear HI J
        go_wp2_with fail
        have hK := K.out
        unfold Go.Proofs.YtcecicmihdcjgaaDoor.set3 at hK
        obtain ⟨x0, x1, x2, -, -⟩ := (show Held w _ ([] ++ (w.heap.size + 1, [.int .u32 0, .string ⟨#[]⟩, .int .i64 0]) :: [_]) from hK).tri
        exact bodyPost_ret (v := .tuple #[.agg #[.int .u32 0, .string ⟨#[]⟩, .int .i64 0], .bool false]) (by simp [results, Tryd.results38, go_sem, x0, x1, x2]) rfl ⟨rfl, hK.below⟩
      | succ i =>
        obtain rfl : z = (i : Int) := by omega
        clear hz
        have q0 : (0 : Int) ≤ i := by omega
        have q1 : (i : Int) < n := by omega
        obtain ⟨x, hx⟩ : ∃ x, l[i]? = some x := ⟨_, List.getElem?_eq_getElem (by rw [HN.out]; omega)⟩
        have ht := HI.out
        rw [knB_succ hx] at ht
        obtain ⟨b1, o1, rfl, hbl, c0, c1, c2⟩ := gs_at HA.out J.out.below hx
        obtain ⟨xn, xi, xv⟩ := x
        dsimp only at ht c0 c1 c2
        by_cases h0 : 0 < xv
        · rw [if_pos h0] at ht
          have HI2 := Lib.hid ht
          clear ht hx HI
          go_wp2_with fail
          go_roundw
          case rel => exact ⟨i, a, (i : Int) - 1, by omega, rfl, by go_num, rfl, by omega, HI2, J⟩
          case measure => exact upN_lt i
        rw [if_neg h0] at ht
        by_cases h1 : xn = q
        · subst h1
          have e1 : ((xn : Int) != (xn : Int)) = false := by simp
          by_cases h2 : 16 < a + 1
          · rw [if_pos (.inr h2)] at ht
            have HI2 := Lib.hid ht
            have e2 : (16 : Int) < (a : Int) + 1 := by omega
            have e3 : decide ((16 : Int) < (a : Int) + 1) = true := decide_eq_true e2
            clear ht hx HI
            go_wp2_with fail
            go_roundw
            case rel => exact ⟨i, a + 1, (i : Int) - 1, by omega, rfl, by go_num, by go_num, by omega, HI2, J⟩
            case measure => exact upN_lt i
          · rw [if_neg (by omega)] at ht
            have e2 : ¬ (16 : Int) < (a : Int) + 1 := by omega
            have e3 : decide ((16 : Int) < (a : Int) + 1) = false := decide_eq_false e2
            obtain ⟨R1, hR1⟩ : ∃ R, fstF xn (l.take i) = R := ⟨_, rfl⟩
            rw [hR1] at ht
            have HK0 : Hid (fstF xn ((l.take i).drop 0) = R1) := Lib.hid hR1
            have HTT := Lib.hid ht
            clear ht hx HI hR1
            go_wp2_with fail
            clear y0 c0 c1 c2
            go_loopw [10] (fun s10 wq => ∃ k : Nat, k ≤ i ∧ s10 = .int .i64 (k : Int) ∧ Hid (fstF xn ((l.take i).drop k) = R1) ∧ Hid (Held w wq [(w.heap.size + 1, [.int .u32 0, .string ⟨#[]⟩, .int .i64 0]), (w.heap.size, [.slice (some ⟨b1, o1, none⟩) n c])])) (fun s10 _ => leftN i s10)
            case atStart => exact ⟨0, Nat.zero_le _, rfl, HK0, J⟩
            case round =>
              clear J HK0
              obtain ⟨k, hk, rfl, HK, J⟩ := hrel
              obtain ⟨y0, -, -⟩ := (show Held w _ ([_] ++ (w.heap.size, _) :: []) from J.out).one
              by_cases hlt : k < i
              · have p0 : (0 : Int) ≤ k := by omega
                have p1 : (k : Int) < i := by omega
                have p2 : (k : Int) < n := by omega
                obtain ⟨y, hy⟩ : ∃ x, l[k]? = some x := ⟨_, List.getElem?_eq_getElem (by rw [HN.out]; omega)⟩
                have hf := HK.out
                rw [fstF_drop (x := y) (by rw [List.getElem?_take, if_pos hlt]; exact hy)] at hf
                obtain ⟨b2, o2, eA, _, d0, d1, d2⟩ := gs_at HA.out J.out.below hy
                simp only [Option.some.injEq, Addr.mk.injEq] at eA
                obtain ⟨rfl, rfl, -⟩ := eA
                obtain ⟨yn, yi, yv⟩ := y
                dsimp only at hf d0 d1 d2
                by_cases h5 : yn = xn
                · rw [if_pos h5] at hf
                  subst h5
                  subst hf
                  have e4 : ((yn : Int) == (yn : Int)) = true := by simp
                  have hx := HTT.out
                  rw [if_pos rfl] at hx
                  subst hx
                  obtain ⟨z0, z1, z2, zf, zl⟩ := (show Held w _ ([] ++ (w.heap.size + 1, _) :: [_]) from J.out).tri
                  have K := Lib.hid ((show Held w _ ([] ++ (w.heap.size + 1, [.int .u32 0, .string ⟨#[]⟩, .int .i64 0]) :: [_]) from J.out).set3 (.int .u32 (yn : Int)) (.string yi) (.int .i64 yv))
                  clear HK J hy HTT
                  go_wp2_with fail
                  have hK := K.out
                  unfold Go.Proofs.YtcecicmihdcjgaaDoor.set3 at hK
                  obtain ⟨x0, x1, x2, -, -⟩ := (show Held w _ ([] ++ (w.heap.size + 1, [.int .u32 (yn : Int), .string yi, .int .i64 yv]) :: [_]) from hK).tri
                  exact bodyPost_ret (v := .tuple #[.agg #[.int .u32 (yn : Int), .string yi, .int .i64 yv], .bool true]) (by simp [results, Tryd.results38, go_sem, x0, x1, x2]) rfl ⟨rfl, hK.below⟩
                · rw [if_neg h5] at hf
                  have HK2 := Lib.hid hf
                  have e4 : ((yn : Int) == (xn : Int)) = false := beq_eq_false_iff_ne.2 (by omega)
                  have e5 : ¬ (yn : Int) = (xn : Int) := by omega
                  clear hf hy HK
                  go_wp2_with fail
                  go_roundw
                  case rel => exact ⟨k + 1, by omega, by go_num, HK2, J⟩
                  case measure =>
                    unfold leftN
                    simp [intOf]
                    omega
              · obtain rfl : k = i := by omega
                have hf := HK.out
                rw [List.drop_of_length_le (by rw [List.length_take]; omega)] at hf
                unfold fstF at hf
                subst hf
                have hx := HTT.out
                rw [if_neg (by simp)] at hx
                have HI2 := Lib.hid hx
                clear HK hx HTT
                go_wp2_with fail
                go_roundw
                case rel => exact ⟨k, a + 1, (k : Int) - 1, by omega, rfl, by go_num, by go_num, by omega, HI2, J⟩
                case measure => exact upN_lt k
        · rw [if_pos (.inl h1)] at ht
          have HI2 := Lib.hid ht
          have e1 : ((xn : Int) != (q : Int)) = true := bne_iff_ne.2 (by omega)
          clear ht hx HI
          go_wp2_with fail
          go_roundw
          case rel => exact ⟨i, a + 1, (i : Int) - 1, by omega, rfl, by go_num, by go_num, by omega, HI2, J⟩
          case measure => exact upN_lt i

end Go.Proofs.YtcecicmihdcjgaaDoor
