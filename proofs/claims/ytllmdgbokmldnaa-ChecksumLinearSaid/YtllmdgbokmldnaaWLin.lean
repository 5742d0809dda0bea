/-
  ChecksumLinear: for all triples of byte slices, the CRC-32 of the bytewise exclusive or of three sequences of one length is the exclusive or of their checksums (asked of at most 1,000 bytes): the law returns true and leaves its arguments as they were. No condition.
-/
import Derived.Test.YtllmdgbokmldnaaFlip
import Derived.BigQuiet
import Derived.Deep.QuietTactic
import Derived.Deep.RegionHeld3
import Derived.Deep.AppendLies
namespace Go.Proofs.Ytllmdgbokmldnaa
open Go.ChangeShapes Go.WideShapes Go.ChangeAt Go.RowKit Mem Crc

/-- the smallest of the three lengths and 1000 -/
def least (x y z : Nat) : Nat := min (min (min x y) z) 1000

theorem run_min4 (ts : Array TypeId) (t : TypeId) (x y z : Nat) (W : World) : (Builtin.min_ ts t #[.int .i64 (x : Int), .int .i64 (y : Int), .int .i64 (z : Int), .int .i64 1000]).run Try.prog W = .ok (.int .i64 ((least x y z : Nat) : Int)) W := by
  have e : ((least x y z : Nat) : Int) = (if 1000 < (if (z : Int) < (if (y : Int) < x then (y : Int) else x) then (z : Int) else (if (y : Int) < x then (y : Int) else x)) then 1000 else (if (z : Int) < (if (y : Int) < x then (y : Int) else x) then (z : Int) else (if (y : Int) < x then (y : Int) else x))) := by
    unfold least
    omega
  rw [e]
  simp [Builtin.min_, Builtin.min2]

theorem least_le (x y z : Nat) : least x y z ≤ x ∧ least x y z ≤ y ∧ least x y z ≤ z ∧ least x y z ≤ 1000 := by
  unfold least
  omega

/-- the front of any slice of bytes -/
theorem slice_front {w : World} {A : Option Addr} {n c : Nat} {bs : List UInt8} (hs : Sees w (.slice A n c) bs) (k : Nat) (hk : k ≤ n) :
    ∃ B, (∀ W, (Instr.sliceAt 23 (.slice A n c) none (some (.int .i64 k)) none).run Try.prog W = .ok (.slice B k c) W) ∧ Sees w (.slice B k c) (bs.take k) := by
  by_cases h0 : 0 < n
  · obtain ⟨_, _, hv, h1, h2⟩ := hs.shape
    injection hv with _ e2 e3
    exact ⟨A, fun W => slice_h hs k h0 (by omega) W, hs.take hk⟩
  · obtain rfl : n = 0 := by omega
    obtain rfl : k = 0 := by omega
    obtain ⟨i, hi', _, hsz, _⟩ := info_parts byte_info
    have he : Try.prog.elem 23 = 5 := by kernel_rfl
    have hu : Try.prog.underlying 23 = some (.slice (Try.prog.elem 23)) := by rw [he]; exact Try.underlying23
    refine ⟨if c = 0 then A else A.map (·.add 0), fun W => ?_, ?_⟩
    · rw [run_sliceAt_slice _ _ _ _ _ _ hu, run_slice_h W 23 _ 0 c hu .i64 ((0 : Nat) : Int) (by omega) (by omega), he]
      simp [sizeOf, typeInfo, hi', hsz, sliced, Result.andThen]
    · obtain ⟨_, _, hv, h1, h2⟩ := hs.shape
      injection hv with _ e2 e3
      rw [List.take_zero]
      exact ⟨_, c, rfl, Nat.zero_le _, by subst e3; exact h2, fun hn => absurd hn (by simp)⟩

theorem sees_len {w : World} {A : Option Addr} {n c : Nat} {bs : List UInt8} (h : Sees w (.slice A n c) bs) : n = bs.length ∧ n ≤ c ∧ c ≤ 9223372036854775807 := by
  obtain ⟨_, _, hv, h1, h2⟩ := h.shape
  injection hv with _ e2 e3
  simp only [maxLen] at h2
  omega

/-- what the loop keeps: the bytes so far, and their register -/
def Three (w : World) (p : Nat) (xs ys zs : List UInt8) (k : Nat) (v : Value) (wr : World) : Prop :=
  Below w.heap.size w wr ∧ ∃ ds : List UInt8, ds.length = k ∧ Owns wr w.heap.size v ds ∧ ∀ c, updr p c ds = updr p c (xs.take k) ^^^ updr p c (ys.take k) ^^^ updr p c (zs.take k)

theorem three_start (w W : World) (p : Nat) (xs ys zs : List UInt8) (h : Below w.heap.size w W) : Three w p xs ys zs 0 (.slice none 0 0) W :=
  ⟨h, [], rfl, ⟨rfl, .inl ⟨rfl, rfl⟩⟩, fun c => by
    simp only [List.take_zero, updr_nil]
    rw [Nat.xor_self, Nat.zero_xor]⟩

theorem xor8_lt (x y : Nat) (hx : x < 256) (hy : y < 256) : x ^^^ y < 256 := by
  have e8 : (2 : Nat) ^ 8 = 256 := by decide
  have h := Nat.xor_lt_two_pow (x := x) (y := y) (n := 8) (by rw [e8]; exact hx) (by rw [e8]; exact hy)
  rwa [e8] at h

theorem three_more {p k : Nat} {xs ys zs ds : List UInt8} (hx : k < xs.length) (hy : k < ys.length) (hz : k < zs.length) (h : ∀ c, updr p c ds = updr p c (xs.take k) ^^^ updr p c (ys.take k) ^^^ updr p c (zs.take k)) :
    ∀ c, updr p c (ds ++ [UInt8.ofNat ((xs.getD k 0).toNat ^^^ (ys.getD k 0).toNat ^^^ (zs.getD k 0).toNat)]) = updr p c (xs.take (k + 1)) ^^^ updr p c (ys.take (k + 1)) ^^^ updr p c (zs.take (k + 1)) := by
  intro c
  have hl := xor8_lt _ _ (xor8_lt _ _ (u8_lt (xs.getD k 0)) (u8_lt (ys.getD k 0))) (u8_lt (zs.getD k 0))
  rw [take_snoc xs k hx, take_snoc ys k hy, take_snoc zs k hz, updr_snoc, updr_snoc, updr_snoc, updr_snoc, UInt8.toNat_ofNat', Nat.mod_eq_of_lt hl]
  exact three_step p _ _ _ _ _ _ _ (h c)

theorem three_crc (p : Nat) (xs ys zs ds : List UInt8) (h : ∀ c, updr p c ds = updr p c xs ^^^ updr p c ys ^^^ updr p c zs) : crcu p 0 ds = crcu p 0 xs ^^^ crcu p 0 ys ^^^ crcu p 0 zs := by
  unfold crcu
  exact three_end _ _ _ _ _ (h _)

/-- the byte at place k of a slice that is read -/
theorem cell_of {w W : World} {A : Option Addr} {n c k : Nat} {bs : List UInt8} (h : Sees w (.slice A n c) bs) (hk : k < n) (hb : Below w.heap.size w W) : ∃ b off x : Nat, A = some ⟨b, off, none⟩ ∧ b < w.heap.size ∧ x < 256 ∧ x = (bs.getD k 0).toNat ∧ W.cell? ⟨b, off + k, none⟩ = some (.int .u8 (x : Int)) := by
  obtain ⟨_, _, hv, _, _, h3⟩ := h
  injection hv with e1 e2 e3
  subst e1 e3
  obtain ⟨b, off, rfl, hl, hc⟩ := h3 (by omega)
  exact ⟨b, off, _, rfl, hl, u8_lt _, rfl, (hb.cell (p := ⟨b, off + k, none⟩) hl).trans (hc k (by omega))⟩

theorem three_kept {W W' : World} {row : Option Nat} {x y z a b c : Nat} {u v t : Value} (hg : W.grownBy W' row) (hx : some x ≠ row) (hy : some y ≠ row) (hz : some z ≠ row) (lx : x < W.heap.size) (ly : y < W.heap.size) (lz : z < W.heap.size)
    (h1 : W.cell? ⟨x, a, none⟩ = some u) (h2 : W.cell? ⟨y, b, none⟩ = some v) (h3 : W.cell? ⟨z, c, none⟩ = some t) :
    W'.cell? ⟨x, a, none⟩ = some u ∧ W'.cell? ⟨y, b, none⟩ = some v ∧ W'.cell? ⟨z, c, none⟩ = some t :=
  ⟨(World.cell?_of_block (hg.block x lx hx)).trans h1, (World.cell?_of_block (hg.block y ly hy)).trans h2, (World.cell?_of_block (hg.block z lz hz)).trans h3⟩

set_option maxRecDepth 20000 in
set_option maxHeartbeats 4000000 in
theorem lin_walk {w : World} {A1 A2 A3 : Option Addr} {n1 n2 n3 c1 c2 c3 : Nat} {xs ys zs : List UInt8} (h1 : Sees w (.slice A1 n1 c1) xs) (h2 : Sees w (.slice A2 n2 c2) ys) (h3 : Sees w (.slice A3 n3 c3) zs) :
    Calls Try.prog 8 #[.slice A1 n1 c1, .slice A2 n2 c2, .slice A3 n3 c3] w (Says true w) := by
  obtain ⟨p, hp⟩ := poly
  obtain ⟨i0, hi0, hz0, hz1, hz2⟩ := info_parts byte_info
  have hmin := run_min4 #[3, 3, 3, 3] 3 n1 n2 n3
  obtain ⟨l1, l2, l3, l4⟩ := least_le n1 n2 n3
  generalize least n1 n2 n3 = n at *
  obtain ⟨B1, s1, k1⟩ := slice_front h1 n l1
  obtain ⟨B2, s2, k2⟩ := slice_front h2 n l2
  obtain ⟨B3, s3, k3⟩ := slice_front h3 n l3
  have m1 : c1 ≤ 9223372036854775807 ∧ n1 ≤ c1 := by
    obtain ⟨_, _, hv, q1, q2⟩ := h1.shape
    injection hv with _ e2 e3
    simp only [maxLen] at q2
    omega
  have m2 : c2 ≤ 9223372036854775807 ∧ n2 ≤ c2 := by
    obtain ⟨_, _, hv, q1, q2⟩ := h2.shape
    injection hv with _ e2 e3
    simp only [maxLen] at q2
    omega
  have m3 : c3 ≤ 9223372036854775807 ∧ n3 ≤ c3 := by
    obtain ⟨_, _, hv, q1, q2⟩ := h3.shape
    injection hv with _ e2 e3
    simp only [maxLen] at q2
    omega
  obtain ⟨m1, o1⟩ := m1
  obtain ⟨m2, o2⟩ := m2
  obtain ⟨m3, o3⟩ := m3
  have L1 := (sees_len k1).1
  have L2 := (sees_len k2).1
  have L3 := (sees_len k3).1
  generalize xs.take n = X0 at *
  generalize ys.take n = Y at *
  generalize zs.take n = Z at *
  have K1 := Lib.hid k1
  have K2 := Lib.hid k2
  have K3 := Lib.hid k3
  have HL := Lib.hid (And.intro L1 (And.intro L2 L3))
  clear h1 h2 h3 k1 k2 k3 L1 L2 L3
  go_enter Try.func8, Try.ntmps8
  go_wp2_with fail
  go_quiet (fail)
  go_wp2_with fail
  go_loopw [8, 9] (fun s8 s9 wr => ∃ k : Nat, k ≤ n ∧ s9 = .int .i64 k ∧ Hid (Three w p X0 Y Z k s8 wr)) (fun _ s9 _ => n - (intOf s9).toNat)
  case atStart => exact ⟨0, Nat.zero_le _, rfl, three_start _ _ _ _ _ _ (below_draws (Below.refl _ _) _)⟩
  case round =>
    obtain ⟨k, hk, rfl, htr⟩ := hrel
    by_cases hlt : k < n
    · obtain ⟨hb, ds, hdl, hown, hu⟩ := htr.out
      obtain ⟨b1, of1, x, rfl, lb1, hx8, hx, q1⟩ := cell_of K1.out hlt hb
      obtain ⟨b2, of2, y, rfl, lb2, hy8, hy, q2⟩ := cell_of K2.out hlt hb
      obtain ⟨b3, of3, z, rfl, lb3, hz8, hz, q3⟩ := cell_of K3.out hlt hb
      have hmore := three_more (p := p) (k := k) (by have := HL.out.1; omega) (by have := HL.out.2.1; omega) (by have := HL.out.2.2; omega) hu
      rw [← hx, ← hy, ← hz] at hmore
      have v1 := u8_xor_nat x y hx8 hy8
      have u1 := xor8_lt x y hx8 hy8
      generalize x ^^^ y = xy at *
      have v2 := u8_xor_nat xy z u1 hz8
      have u2 := xor8_lt xy z u1 hz8
      generalize xy ^^^ z = t at *
      obtain ⟨d, hd⟩ : ∃ d, d = UInt8.ofNat t := ⟨_, rfl⟩
      have hdt : t = d.toNat := by rw [hd, UInt8.toNat_ofNat', Nat.mod_eq_of_lt u2]
      rw [← hd] at hmore
      rw [hdt] at v2
      have hown0 : wr.ownsRow w.heap.size 5 1 u8 k (ds.map byte) := by rw [← hdl]; exact hown
      have hbo : ∀ x, x < w.heap.size → some x ≠ u8.ownBlock := fun x hx e => by have := (hown.block x e.symm).1; omega
      have nb1 := hbo b1 lb1
      have nb2 := hbo b2 lb2
      have nb3 := hbo b3 lb3
      have HMORE := Lib.hid hmore
      have HDL := Lib.hid hdl
      have HBY : Hid (byte d = .int .u8 ((d.toNat : Nat) : Int)) := rfl
      generalize hX : ds.map byte = X at hown0
      have HX := Lib.hid hX
      have hWs := hb.size
      have hal : ∀ o, wr.heap.size ≤ (wr.alloc o).drew.heap.size := fun o => by simp
      have HB := Lib.hid hb
      have hba : ∀ o, Below wr.heap.size wr (wr.alloc o).drew := fun o => ((Below.refl _ _).alloc (Nat.le_refl _) _).drew
      have la1 : ∀ o, b1 < (wr.alloc o).drew.heap.size := fun o => by have := hal o; omega
      have la2 : ∀ o, b2 < (wr.alloc o).drew.heap.size := fun o => by have := hal o; omega
      have la3 : ∀ o, b3 < (wr.alloc o).drew.heap.size := fun o => by have := hal o; omega
      generalize d.toNat = dn at *
      clear hmore hd hdt hdl hown hu htr hx hy hz hX hb hbo
      go_wp2_with fail
      go_region_held3 (fun W => W.cell? ⟨b1, of1 + k, none⟩ = some (.int .u8 (x : Int)) ∧ W.cell? ⟨b2, of2 + k, none⟩ = some (.int .u8 (y : Int)) ∧ W.cell? ⟨b3, of3 + k, none⟩ = some (.int .u8 (z : Int)))
        (first
          | go_keep
          | exact s1)
        (first
          | (refine step_append_lies _ (by rfl) _ _ _ (by rfl) w.heap.size 5 i0 _ 1 1 Try.underlying23 hi0 hz0 hz1 hz2 rfl (by omega) u8 k X (by rfl) ((hown0.alloc _).drew) ⟨wr.heap.size, 0, none⟩ 1 1 [.int .u8 (dn : Int)] (by rfl) (by rfl) (World.news_of_block (cs := #[.int .u8 (dn : Int)]) (t := 5) (fr := (0, 0)) (heap_alloc_new wr _)) (by simp [Value.oneCell']) (by omega) (by unfold maxLen; omega) (by omega) (Nat.le_trans hWs (hal _)) (wr.heap.size + 1) (by simp) ?_; intro gg cap w1 hown1 hgrow hat hglt; have s1 := three_kept hgrow nb1 nb2 nb3 (la1 _) (la2 _) (la3 _) ((World.cell?_alloc_past _ _ _ (by omega)).trans q1) ((World.cell?_alloc_past _ _ _ (by omega)).trans q2) ((World.cell?_alloc_past _ _ _ (by omega)).trans q3)))
      have hb2 := HB.out.trans ((hba (.cells #[.int .u8 (dn : Int)] 5)).mono hWs)
      have HN : Hid (Three w p X0 Y Z (k + 1) (.slice (some ⟨gg, 0, none⟩) (k + 1) cap) w1) := by
        refine ⟨hb2.grown hgrow hb2.size (fun x hx => (hown0.lt x hx).1), ds ++ [d], by rw [List.length_append, HDL.out]; rfl, ?_, HMORE.out⟩
        unfold Owns
        rw [List.map_append, HX.out, List.map_singleton, HBY.out, List.length_append, HDL.out]
        exact hown1
      clear hgrow hown1 hb2 s1 hat hglt
      go_wp2_with fail
      go_roundw
      case rel => exact ⟨k + 1, by omega, by go_num, HN.out⟩
      case measure => simp [intOf]; omega
    · obtain rfl : k = n := by omega
      obtain ⟨hb, ds, hdl, hown, hu⟩ := htr.out
      have hw0 := hown.sees
      obtain ⟨Ad, cd, rfl, _, _⟩ := hw0.shape
      have hux : crcu p 0 ds = crcu p 0 X0 ^^^ crcu p 0 Y ^^^ crcu p 0 Z := three_crc p X0 Y Z ds (fun c => by
        have h := hu c
        rw [List.take_of_length_le (by have := HL.out.1; omega), List.take_of_length_le (by have := HL.out.2.1; omega), List.take_of_length_le (by have := HL.out.2.2; omega)] at h
        exact h)
      have CD := Lib.hid (crc_any hp hw0)
      have C1 : Hid (∀ W, Below w.heap.size w W → Calls Try.prog 15 #[.slice B1 k c1] W (Gives W (crcu p 0 X0))) := fun W hW => crc_any hp (K1.out.below hW)
      have C2 : Hid (∀ W, Below w.heap.size w W → Calls Try.prog 15 #[.slice B2 k c2] W (Gives W (crcu p 0 Y))) := fun W hW => crc_any hp (K2.out.below hW)
      have C3 : Hid (∀ W, Below w.heap.size w W → Calls Try.prog 15 #[.slice B3 k c3] W (Gives W (crcu p 0 Z))) := fun W hW => crc_any hp (K3.out.below hW)
      have g1 := crcu_lt hp 0 X0 (by decide)
      have g2 := crcu_lt hp 0 Y (by decide)
      have g3 := crcu_lt hp 0 Z (by decide)
      generalize crcu p 0 X0 = r1 at *
      generalize crcu p 0 Y = r2 at *
      generalize crcu p 0 Z = r3 at *
      generalize crcu p 0 ds = rd at *
      have x1 := u32_xor_nat r1 r2 g1 g2
      have g4 := xor_lt32 r1 r2 g1 g2
      generalize r1 ^^^ r2 = r4 at *
      have x2 := u32_xor_nat r4 r3 g4 g3
      rw [← hux] at x2
      have HB := Lib.hid hb
      rw [hdl] at CD ⊢
      clear hux hdl hown hu hw0 htr hb
      go_wp2_with fail
      refine CD.out.mono ?_
      rintro e w1 ⟨rfl, hb1⟩
      have hb1 := HB.out.trans (hb1.mono HB.out.size)
      go_wp2_with fail
      refine (C1.out w1 hb1).mono ?_
      rintro e w2 ⟨rfl, hb2⟩
      have hb2 := hb1.trans (hb2.mono hb1.size)
      clear hb1
      go_wp2_with fail
      refine (C2.out w2 hb2).mono ?_
      rintro e w3 ⟨rfl, hb3⟩
      have hb3 := hb2.trans (hb3.mono hb2.size)
      clear hb2
      go_wp2_with fail
      refine (C3.out w3 hb3).mono ?_
      rintro e w4 ⟨rfl, hb4⟩
      have hb4 := hb3.trans (hb4.mono hb3.size)
      clear hb3
      go_wp2_with fail
      refine (example_any w4).mono ?_
      rintro e w5 ⟨rfl, hx⟩
      go_wp2_with fail
      go_ret
      exact ⟨rfl, hb4.trans (hx.mono hb4.size)⟩

set_option maxRecDepth 100000 in
theorem lin_lifted (os : Os) (started : os.Started) (H : Type) (enc : TypeId × Value → H) :
    ReturnsInHanded {} Try.checked os 8 .any (Rows.checksumLinearSpec.pre6 enc Try.prog Try.f8 Rows.checksumLinearRow.domain false) (Rows.checksumLinearSpec.post enc Try.prog Try.f8 false true false false) := by
  refine returnsInHanded_of_change (C := Try.checked) own started (by kernel_rfl) Try.func8
    (ChangeSpec.witness6 (enc := enc) (C := Try.checked) false ⟨#[], #[.slice none 0 0, .slice none 0 0, .slice none 0 0], []⟩ 8 (by kernel_rfl) (by kernel_rfl) (by kernel_rfl) (by kernel_rfl)) ?_
  intro W base args ds gs before hval0 hW _ _
  have hval : ∀ (j : Nat) t v, Try.f8.params[j]? = some t → args[j]? = some v → Value.okWide Try.prog W .any base t v := hval0
  have hW' := hW
  obtain ⟨p, q, hA0, hV, rfl, _, _⟩ := hW
  have hA : DataW.TrodAll enc Try.prog W 0 (fun _ => true) true Try.f8.params.toList args.toList ds p := hA0
  rw [Try.params8] at hA hval
  obtain ⟨v0, vs0, d0, ds0, p0, q0, hargs, rfl, rfl, h0, r0⟩ := trodAll_cons hA
  obtain ⟨v1, vs1, d1, ds1, p1, q1, rfl, rfl, rfl, h1, r1⟩ := trodAll_cons r0
  obtain ⟨v2, vs2, d2, ds2, p2, q2, rfl, rfl, rfl, h2, r2⟩ := trodAll_cons r1
  obtain ⟨rfl, rfl, rfl⟩ := trodAll_nil r2
  obtain rfl : args = #[v0, v1, v2] := by cases args; simp_all
  obtain ⟨rfl, rfl⟩ := trodVars_none hV
  clear hA0 hval0
  simp only [List.append_nil] at hW'
  have hlt0 : ∀ x ∈ p0, x.block < W.heap.size := fun x hx => hW'.lt x (by simp [hx])
  have k0 := h0
  have hlt1 : ∀ x ∈ p1, x.block < W.heap.size := fun x hx => hW'.lt x (by simp [hx])
  have k1 := h1
  have hlt2 : ∀ x ∈ p2, x.block < W.heap.size := fun x hx => hW'.lt x (by simp [hx])
  have k2 := h2
  obtain ⟨A0, n0, c0, rfl⟩ := okWide_slice Try.underlying23 (hval 0 23 v0 rfl rfl)
  obtain ⟨fuel0, hf0⟩ := h0
  obtain ⟨bs0, hs0⟩ := open_bytes (by simpa [Value.cells] using hf0)
  obtain ⟨A1, n1, c1, rfl⟩ := okWide_slice Try.underlying23 (hval 1 23 v1 rfl rfl)
  obtain ⟨fuel1, hf1⟩ := h1
  obtain ⟨bs1, hs1⟩ := open_bytes (by simpa [Value.cells] using hf1)
  obtain ⟨A2, n2, c2, rfl⟩ := okWide_slice Try.underlying23 (hval 2 23 v2 rfl rfl)
  obtain ⟨fuel2, hf2⟩ := h2
  obtain ⟨bs2, hs2⟩ := open_bytes (by simpa [Value.cells] using hf2)
  refine (lin_walk hs0 hs1 hs2).mono fun e W' ⟨he, hg⟩ => ?_
  subst he
  exact ⟨_, rfl, _, _, _, [], _, [], hW', trodAll_cons_mk (shut_bool Try.underlying4 _) trodAll_mk0,
    (trodAll_cons_mk (Below.trod laidOut (by kernel_rfl) (of_decide_eq_true (by kernel_rfl)) k0 hg hlt0) (trodAll_cons_mk (Below.trod laidOut (by kernel_rfl) (of_decide_eq_true (by kernel_rfl)) k1 hg hlt1) (trodAll_cons_mk (Below.trod laidOut (by kernel_rfl) (of_decide_eq_true (by kernel_rfl)) k2 hg hlt2) trodAll_mk0))), rfl, hg.frame _, fun h => by cases h⟩

theorem lin_holds : Rows.ChecksumLinearSaid :=
  OpenClaim.holds_of_wide 8 Try.f8 rfl rfl rfl rfl rfl rfl rfl ⟨rfl, rfl, rfl, rfl, rfl⟩ rfl rfl rfl rfl rfl (by kernel_rfl) Try.func8 (by kernel_rfl)
    (of_decide_eq_true (by kernel_rfl)) (by unfold Func.isWrapper; first | (rw [if_pos (by decide +kernel)]; kernel_rfl) | (rw [if_neg (by decide +kernel)]; exact ⟨rfl, rfl⟩))
    (fun os started H enc _ => lin_lifted os started H enc)

end Go.Proofs.Ytllmdgbokmldnaa
