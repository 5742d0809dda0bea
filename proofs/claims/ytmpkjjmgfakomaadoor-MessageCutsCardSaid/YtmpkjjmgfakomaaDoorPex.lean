/-
  The law's example holds; the contracts of the package as the laws ask for them.
-/
import Derived.Test.YtmpkjjmgfakomaaDoorPfm
import Derived.Test.YtmpkjjmgfakomaaDoorPrz
import Derived.Test.YtmpkjjmgfakomaaDoorLmk
namespace Go.Proofs.YtmpkjjmgfakomaaDoor
open Go.RowKit Mem Wire Go.Lib

/-- the tables lie as the text lays them -/
structure PT (W : World) : Prop where
  tab : Tab W
  tbp : Tbp W
theorem PT.below {w w' : World} (h : PT w) (hb : Below w.heap.size w w') : PT w' := ⟨h.tab.below hb, h.tbp.below hb⟩

theorem ags_new {W : World} {l : List AgV} (h : ∀ p ∈ l, AgOk W p) (hl : l.length ≤ 1000000) {cs : Array Value} (hc : cs = (aflat l).toArray) : Ags (W.alloc (.cells cs 43)) (.slice (some ⟨W.heap.size, 0, none⟩) l.length l.length) l := by
  subst hc
  refine ⟨⟨_, _, rfl, Nat.le_refl _, by simp only [maxLen]; omega, fun _ => ⟨W.heap.size, 0, rfl, by simp, fun j p hp => ?_⟩⟩, fun p hp => (h p hp).below ((Below.refl _ _).alloc (Nat.le_refl _) _)⟩
  obtain ⟨e0, e1, e2, e3⟩ := aflat_at l j p hp
  rw [World.cell?_alloc_at _ _ _ _ rfl, World.cell?_alloc_at _ _ _ _ rfl, World.cell?_alloc_at _ _ _ _ rfl, World.cell?_alloc_at _ _ _ _ rfl]
  simp only [List.getElem?_toArray, Nat.zero_add]
  exact ⟨e0, e1, e2, e3⟩

abbrev exL : List AgV := [(⟨2, 7, ⟨#[]⟩, []⟩, .slice none 0 0), (⟨1, -1, ⟨#[]⟩, []⟩, .slice none 0 0)]
abbrev exN : List AgV := [(⟨6, 0, ⟨#[]⟩, []⟩, .slice none 0 0)]
theorem nil_ok (W : World) (k n : Int) : AgOk W (⟨k, n, ⟨#[]⟩, []⟩, .slice none 0 0) := ⟨sees_nil _, Nat.zero_le _⟩
theorem ex_enc : encT (sigK ⟨#[117, 105]⟩) ⟨3, 1, agL exL⟩ = ([3, 0, 0, 0, 1, 0, 16, 0, 7, 0, 0, 0, 255, 255, 255, 255], 0) := by kernel_rfl
theorem ex_dec : decT (sigK ⟨#[117, 105]⟩) 3 1 [7, 0, 0, 0, 255, 255, 255, 255] = (⟨3, 1, agL exL⟩, 0) := by kernel_rfl
theorem ex_not : encT (sigK ⟨#[110]⟩) ⟨0, 0, agL exN⟩ = ([], 6) := by kernel_rfl
theorem ex_txt : fmtT ⟨3, 1, agL exL⟩ = [51, 46, 49, 40, 55, 117, 44, 32, 45, 49, 41] := by kernel_rfl
theorem eqM_self (m : Ms) : eqM m m = true := (eqM_iff m m).2 rfl

set_option maxRecDepth 100000 in
set_option maxHeartbeats 8000000 in
theorem p_example {w : World} (T : PT w) : Calls Tryd.prog 11 #[] w (Says true w) := by
  have HT := Lib.hid T
  obtain ⟨cs, hcs⟩ : ∃ cs : Array Value, cs = #[.int .i64 2, .int .i64 7, .string ⟨#[]⟩, .slice none 0 0, .int .i64 1, .int .i64 (-1), .string ⟨#[]⟩, .slice none 0 0] := ⟨_, rfl⟩
  have HA := Lib.hid (show Ags (w.alloc (.cells cs 43)) (.slice (some ⟨w.heap.size, 0, none⟩) 2 2) exL from ags_new (l := exL) (fun p hp => by
    simp only [List.mem_cons, List.not_mem_nil, or_false] at hp
    rcases hp with rfl | rfl <;> exact nil_ok _ _ _) (by simp) (by rw [hcs]; rfl))
  have J := Lib.hid (((Held.nil w).made (.cells cs 43)).alloc [.int .u32 3, .int .i64 1, .slice (some ⟨w.heap.size, 0, none⟩) 2 2] 25)
  rw [World.size_alloc] at J
  have HW := Lib.hid (show Below (w.alloc (.cells cs 43)).heap.size (w.alloc (.cells cs 43)) ((w.alloc (.cells cs 43)).alloc (.cells #[.int .u32 3, .int .i64 1, .slice (some ⟨w.heap.size, 0, none⟩) 2 2] 25)) from (Below.refl _ _).alloc (Nat.le_refl _) _)
  replace HA := Lib.hid (HA.out.below HW.out)
  have C := fun (W : World) (hb : Below w.heap.size w W) (ha : Ags W (.slice (some ⟨w.heap.size, 0, none⟩) 2 2) exL) => Lib.hid (show Calls Tryd.prog 12 #[.string ⟨#[117, 105]⟩, .agg #[.int .u32 3, .int .i64 1, .slice (some ⟨w.heap.size, 0, none⟩) 2 2]] W (GivesE ([3, 0, 0, 0, 1, 0, 16, 0, 7, 0, 0, 0, 255, 255, 255, 255], 0) W) from by
    have := p_encode_any (HT.out.tab.below hb) ha ⟨by simp, fun p hp => by
      simp only [List.mem_cons, List.not_mem_nil, or_false] at hp
      rcases hp with rfl | rfl <;> exact ⟨Nat.zero_le _, Nat.zero_le _⟩⟩ ⟨#[117, 105]⟩ (ob := 3) (by decide) 1
    rw [ex_enc] at this
    exact this)
  have D := fun (W : World) (hb : Below w.heap.size w W) (A : Option Addr) (hs : Sees W (.slice A 8 8) [7, 0, 0, 0, 255, 255, 255, 255]) => Lib.hid (show Calls Tryd.prog 14 #[.string ⟨#[117, 105]⟩, .agg #[.int .u32 3, .int .i64 1, .slice A 8 8]] W (GivesM (⟨3, 1, agL exL⟩, 0) W) from by
    have := p_decode_any (HT.out.tab.below hb) hs ⟨#[117, 105]⟩ 3 1
    rw [ex_dec] at this
    exact this)
  have F := fun (W : World) (hb : Below w.heap.size w W) (ha : Ags W (.slice (some ⟨w.heap.size, 0, none⟩) 2 2) exL) => Lib.hid (show Calls Tryd.prog 17 #[.agg #[.int .u32 3, .int .i64 1, .slice (some ⟨w.heap.size, 0, none⟩) 2 2]] W (Tells [51, 46, 49, 40, 55, 117, 44, 32, 45, 49, 41] W) from by
    have := p_format_any ha (fun p hp => by
      simp only [List.mem_cons, List.not_mem_nil, or_false] at hp
      rcases hp with rfl | rfl <;> exact ⟨⟨by decide, by decide⟩, Nat.zero_le _, Nat.zero_le _⟩) (by simp) (ob := 3) (by decide) (oc := 1) ⟨by decide, by decide⟩ (HT.out.tbp.below hb)
    rw [ex_txt] at this
    exact this)
  have G := fun (W : World) (hb : Below w.heap.size w W) (A : Option Addr) (ha : Ags W (.slice A 1 1) exN) => Lib.hid (show Calls Tryd.prog 12 #[.string ⟨#[110]⟩, .agg #[.int .u32 0, .int .i64 0, .slice A 1 1]] W (GivesE ([], 6) W) from by
    have := p_encode_any (HT.out.tab.below hb) ha ⟨by simp, fun p hp => by
      obtain rfl := List.mem_singleton.1 hp
      exact ⟨Nat.zero_le _, Nat.zero_le _⟩⟩ ⟨#[110]⟩ (ob := 0) (by decide) 0
    rw [ex_not] at this
    exact this)
  have R := fun (W : World) (A : Option Addr) (n c : Nat) (l : List AgV) (ha : Ags W (.slice A n c) l) (ha2 : Ags W (.slice (some ⟨w.heap.size, 0, none⟩) 2 2) exL) (hl : agL l = agL exL) => Lib.hid (show Calls Tryd.prog 16 #[.agg #[.int .u32 3, .int .i64 1, .slice A n c], .agg #[.int .u32 3, .int .i64 1, .slice (some ⟨w.heap.size, 0, none⟩) 2 2]] W (Says true W) from by
    have := equal_any ha ha2 3 3 1 1
    rw [hl, eqM_self] at this
    exact this)
  have Q := fun (W : World) (A : Option Addr) (n c : Nat) (l : List AgV) (ha : Ags W (.slice A n c) l) (ha2 : Ags W (.slice (some ⟨w.heap.size, 0, none⟩) 2 2) exL) (hl : agL l = agL exL) => Lib.hid (show Calls Tryd.prog 19 #[.agg #[.int .u32 3, .int .i64 1, .slice A n c], .agg #[.int .u32 3, .int .i64 1, .slice (some ⟨w.heap.size, 0, none⟩) 2 2]] W (Says true W) from by
    have := p_equal_any ha ha2 3 3 1 1
    rw [hl, eqM_self] at this
    exact this)
  obtain ⟨y0, y1, y2, -, -⟩ := (show Held w _ ([] ++ (w.heap.size + 1, _) :: []) from J.out).tri
  rw [hcs] at HA J HW y0 y1 y2
  clear T HW
  go_enter Tryd.func11, Tryd.ntmps11
  go_wp2_with fail
  refine (C _ J.out.below HA.out).out.mono ?_
  rintro e w1 ⟨v1, rfl, s1, hb⟩
  obtain ⟨A5, c5, rfl, -, -⟩ := s1.shape
  have HB1 := Lib.hid (hb.alloc hb.size (.cells #[.int .u8 7, .int .u8 0, .int .u8 0, .int .u8 0, .int .u8 255, .int .u8 255, .int .u8 255, .int .u8 255] 5))
  replace HA := Lib.hid (HA.out.below HB1.out)
  replace J := Lib.hid (J.out.step HB1.out)
  have S1 := Lib.hid (s1.alloc (.cells #[.int .u8 7, .int .u8 0, .int .u8 0, .int .u8 0, .int .u8 255, .int .u8 255, .int .u8 255, .int .u8 255] 5))
  have S2 := Lib.hid (sees_new w1 #[.int .u8 7, .int .u8 0, .int .u8 0, .int .u8 0, .int .u8 255, .int .u8 255, .int .u8 255, .int .u8 255] (t := 5) [7, 0, 0, 0, 255, 255, 255, 255] 8 rfl rfl (by simp [maxLen]))
  clear hb s1 C HB1 y0 y1 y2
  simp only [List.length_cons, List.length_nil, Nat.zero_add, Nat.reduceAdd] at S1 ⊢
  obtain ⟨y0, y1, y2, -, -⟩ := (show Held w _ ([] ++ (w.heap.size + 1, _) :: []) from J.out).tri
  go_wp2_with fail
  refine (D _ J.out.below _ S2.out).out.mono ?_
  rintro e w2 ⟨v2, l2, rfl, ha2, hl2, hb⟩
  obtain ⟨A6, c6, rfl, -, -⟩ := ha2.shape
  replace HA := Lib.hid (HA.out.below hb)
  replace S1 := Lib.hid (S1.out.below hb)
  replace J := Lib.hid ((J.out.step hb).alloc [.int .u32 3, .int .i64 1, .slice A6 l2.length c6] 25)
  have hb3 : Below w2.heap.size w2 ((w2.alloc (.cells #[.int .u32 3, .int .i64 1, .slice A6 l2.length c6] 25)).alloc (.cells #[.int .i64 6, .int .i64 0, .string ⟨#[]⟩, .slice none 0 0] 43)) := ((Below.refl _ _).alloc (Nat.le_refl _) _).alloc (by simp) _
  replace HA := Lib.hid (HA.out.below hb3)
  replace S1 := Lib.hid (S1.out.below hb3)
  have HA2 := Lib.hid (ha2.below hb3)
  have HL2 := Lib.hid hl2
  replace J := Lib.hid (J.out.made (.cells #[.int .i64 6, .int .i64 0, .string ⟨#[]⟩, .slice none 0 0] 43))
  have HN := Lib.hid (show Ags ((w2.alloc (.cells #[.int .u32 3, .int .i64 1, .slice A6 l2.length c6] 25)).alloc (.cells #[.int .i64 6, .int .i64 0, .string ⟨#[]⟩, .slice none 0 0] 43)) (.slice (some ⟨w2.heap.size + 1, 0, none⟩) 1 1) exN from by
    have := ags_new (W := w2.alloc (.cells #[.int .u32 3, .int .i64 1, .slice A6 l2.length c6] 25)) (l := exN) (fun p hp => by
      obtain rfl := List.mem_singleton.1 hp
      exact nil_ok _ _ _) (by simp) (cs := #[.int .i64 6, .int .i64 0, .string ⟨#[]⟩, .slice none 0 0]) rfl
    rw [World.size_alloc] at this
    exact this)
  clear hb ha2 hl2 hb3 D S2 y0 y1 y2
  generalize l2.length = n2 at *
  dsimp only
  go_wp2_with fail
  refine (G _ J.out.below _ HN.out).out.mono ?_
  rintro e w3 ⟨v3, rfl, s3, hb⟩
  obtain ⟨A7, c7, rfl, -, -⟩ := s3.shape
  replace HA := Lib.hid (HA.out.below hb)
  replace HA2 := Lib.hid (HA2.out.below hb)
  replace S1 := Lib.hid (S1.out.below hb)
  replace J := Lib.hid (J.out.step hb)
  have t1 := run_text (P := Tryd.prog) Tryd.underlying28 Tryd.underlying5 Tryd.underlying9 S1.out
  obtain ⟨T1, hT1⟩ : ∃ T1 : ByteArray, (⟨([3, 0, 0, 0, 1, 0, 16, 0, 7, 0, 0, 0, 255, 255, 255, 255] : List UInt8).toArray⟩ : ByteArray) = T1 := ⟨_, rfl⟩
  have q1 : (T1.toList == ([3, 0, 0, 0, 1, 0, 16, 0, 7, 0, 0, 0, 255, 255, 255, 255] : List UInt8)) = true := by rw [← hT1]; simp
  rw [hT1] at t1
  clear hT1
  clear hb s3 G HN S1
  obtain ⟨y0, y1, y2, -, -⟩ := (show Held w _ ([_] ++ (w.heap.size + 1, _) :: []) from J.out).tri
  obtain ⟨x0, x1, x2, -, -⟩ := (show Held w _ ([] ++ (w2.heap.size, _) :: [_]) from J.out).tri
  go_wp2_with fail
  refine (R _ _ _ _ _ HA2.out HA.out HL2.out).out.mono ?_
  rintro e w4 ⟨rfl, hb⟩
  replace HA := Lib.hid (HA.out.below hb)
  replace HA2 := Lib.hid (HA2.out.below hb)
  replace J := Lib.hid (J.out.step hb)
  clear hb R x0 x1 x2 y0 y1 y2 t1 q1
  obtain ⟨y0, y1, y2, -, -⟩ := (show Held w _ ([_] ++ (w.heap.size + 1, _) :: []) from J.out).tri
  obtain ⟨x0, x1, x2, -, -⟩ := (show Held w _ ([] ++ (w2.heap.size, _) :: [_]) from J.out).tri
  go_wp2_with fail
  refine (Q _ _ _ _ _ HA2.out HA.out HL2.out).out.mono ?_
  rintro e w5 ⟨rfl, hb⟩
  replace HA := Lib.hid (HA.out.below hb)
  replace HA2 := Lib.hid (HA2.out.below hb)
  replace J := Lib.hid (J.out.step hb)
  clear hb Q x0 x1 x2 y0 y1 y2
  obtain ⟨y0, y1, y2, -, -⟩ := (show Held w _ ([_] ++ (w.heap.size + 1, _) :: []) from J.out).tri
  obtain ⟨x0, x1, x2, -, -⟩ := (show Held w _ ([] ++ (w2.heap.size, _) :: [_]) from J.out).tri
  go_wp2_with fail
  refine (F _ J.out.below HA.out).out.mono ?_
  rintro e w6 ⟨rfl, hb⟩
  replace J := Lib.hid (J.out.step hb)
  clear hb F x0 x1 x2 y0 y1 y2
  go_wp2_with fail
  go_ret
  exact ⟨rfl, J.out.below⟩

/-- what the laws ask of the package -/
theorem pk : PK PT where
  below := fun h hb => h.below hb
  tbp := fun h => h.tbp
  ex := fun h => p_example h
  enc := fun h ha hL sg _ _ hob oc => p_encode_any h.tab ha hL sg hob oc
  dec := fun h hs sg _ _ _ _ oc => p_decode_any h.tab hs sg _ oc
  fmt := fun h ha hF hl _ hob _ hoc => p_format_any ha hF (by omega) hob hoc h.tbp
  eql := fun _ ha ha2 ob ob2 oc oc2 => p_equal_any ha ha2 ob ob2 oc oc2

end Go.Proofs.YtmpkjjmgfakomaaDoor
