/-
  The reference's Decode.
-/
import Derived.Test.YtmpkjjmgfakomaaDoorMrf
namespace Go.Proofs.YtmpkjjmgfakomaaDoor
open Go.RowKit Mem Wire

def dop4 : Oper := { dst := some 50, op := Go.Op.call { callee := Go.Callee.value (Go.Operand.func 37), args := #[Go.Operand.tmp 49], argTypes := #[5] }, type := 3, pos := "ref.go:168", after := #[{ on := 3, ground := Go.Ground.data }], guard := none }
def dop5 : Oper := { dst := some 51, op := Go.Op.call { callee := Go.Callee.value (Go.Operand.func 36), args := #[Go.Operand.tmp 46, Go.Operand.tmp 50], argTypes := #[58, 3] }, type := 60, pos := "ref.go:168", after := #[{ on := 0, ground := Go.Ground.data }, { on := 4, ground := Go.Ground.data }, { on := 4, ground := Go.Ground.chain }], guard := none }
def dop9 : Oper := { dst := some 9, op := Go.Op.alloc 58, type := 0, pos := "ref.go:168", after := #[], guard := none }
def dop10 : Oper := { dst := some 10, op := Go.Op.alloc 43, type := 0, pos := "ref.go:168", after := #[], guard := none }
def dop11 : Oper := { dst := none, op := Go.Op.store 58 (Go.Operand.tmp 9) (Go.Operand.tmp 52), type := 0, pos := "ref.go:168", after := #[{ on := 9, ground := Go.Ground.data }, { on := 7, ground := Go.Ground.data }, { on := 5, ground := Go.Ground.chain }, { on := 0, ground := Go.Ground.phase }, { on := 1, ground := Go.Ground.phase }, { on := 2, ground := Go.Ground.phase }, { on := 3, ground := Go.Ground.phase }, { on := 4, ground := Go.Ground.phase }, { on := 5, ground := Go.Ground.phase }, { on := 6, ground := Go.Ground.phase }, { on := 7, ground := Go.Ground.phase }, { on := 8, ground := Go.Ground.textOnly Go.Departure.lateStores }, { on := 9, ground := Go.Ground.phase }, { on := 10, ground := Go.Ground.phase }], guard := none }
def dop12 : Oper := { dst := none, op := Go.Op.store 43 (Go.Operand.tmp 10) (Go.Operand.tmp 53), type := 0, pos := "ref.go:168", after := #[{ on := 10, ground := Go.Ground.data }, { on := 8, ground := Go.Ground.data }, { on := 11, ground := Go.Ground.chain }, { on := 0, ground := Go.Ground.phase }, { on := 1, ground := Go.Ground.phase }, { on := 2, ground := Go.Ground.phase }, { on := 3, ground := Go.Ground.phase }, { on := 4, ground := Go.Ground.phase }, { on := 5, ground := Go.Ground.phase }, { on := 6, ground := Go.Ground.phase }, { on := 7, ground := Go.Ground.phase }, { on := 8, ground := Go.Ground.phase }, { on := 9, ground := Go.Ground.phase }, { on := 10, ground := Go.Ground.phase }, { on := 11, ground := Go.Ground.phase }], guard := none }

/-- the boxes of Decode -/
abbrev decB (k4 k3 k1 k0 : Nat) (ob : Nat) (oc : Int) (v3 : Value) (A1 : Option Addr) (n1 c1 : Nat) (AF : Option Addr) (nF cF : Nat) : List (Nat × List Value) :=
  [(k4, [.int .u32 (ob : Int), .int .i64 oc, v3]), (k3, [.slice A1 n1 c1, .int .i64 0]), (k1, [.int .u32 0, .int .i64 0, .slice none 0 0]), (k0, [.int .u32 (ob : Int), .int .i64 oc, .slice AF nF cF])]
/-- what is seen: the reader's bytes, those of the arguments -/
def decV (v : Value) (bs : List UInt8) (l : List AgV) : List (Value × List UInt8) := (v, bs) :: l.map fun p => (p.2, p.1.bb)

theorem count_rest (s : St) (most : Int) (hf : Fine s) : (countS s most).1.1.length ≤ s.1.length := by
  have h1 := num_le s hf
  have hf1 := fine_num hf
  unfold countS
  generalize (numS s).2 = n at *
  generalize (numS s).1 = s1 at *
  have h2 : (limS s1 n most).1.length ≤ s1.1.length := by
    unfold limS
    split
    · exact drop_le s1 5 hf1
    · exact Nat.le_refl _
  have hf2 : Fine (limS s1 n most) := fine_lim hf1 n most
  generalize limS s1 n most = s2 at *
  have h3 : (cutS s2 n).1.1.length ≤ s2.1.length := by
    unfold cutS
    split
    · exact drop_le s2 4 hf2
    · split
      · dsimp only
        rw [List.length_drop]
        omega
      · dsimp only
        unfold failS
        split
        · exact Nat.zero_le _
        · dsimp only
          rw [List.length_drop]
          omega
  omega
theorem str_rest (s : St) (most : Int) (hf : Fine s) : (strS s most).1.1.length ≤ s.1.length := by
  have h := count_rest s most hf
  unfold strS
  split
  · dsimp only
    unfold failS
    split
    · exact Nat.zero_le _
    · exact h
  · exact h
theorem read_le {s : St} (hf : Fine s) (k : Nat) : (readG s k).1.1.length ≤ s.1.length := by
  have h1 := num_le s hf
  have h2 : (strS s 1024).1.1.length ≤ s.1.length := str_rest s 1024 hf
  have h3 : (countS s 1024).1.1.length ≤ s.1.length := count_rest s 1024 hf
  unfold readG
  split
  · exact h1
  · split
    · exact h2
    · split
      · exact h3
      · exact h1
theorem dec_sk {w W : World} {k4 k3 k1 k0 ob : Nat} {oc : Int} {v3 : Value} {A1 : Option Addr} {n1 c1 : Nat} {AF : Option Addr} {nF cF : Nat} (h : Held w W (decB k4 k3 k1 k0 ob oc v3 A1 n1 c1 AF nF cF)) :
    W.cell? ⟨k3, 0, none⟩ = some (.slice A1 n1 c1) ∧ W.cell? ⟨k3, 1, none⟩ = some (.int .i64 0) := by
  obtain ⟨h0, h1, -, -⟩ := (show Held w W ([_] ++ (k3, [.slice A1 n1 c1, .int .i64 0]) :: [_, _]) from h).two
  exact ⟨h0, h1⟩
theorem dec_seen {w W : World} {x y : Option (Nat × List Value)} {bx : List (Nat × List Value)} {v v9 pv v3 : Value} {bs b9 b8 : List UInt8} {l : List AgV} (h : DQ w W x y bx (decV v bs l) v3 l) (h9 : Sees W v9 b9) (h8 : Sees W pv b8) :
    DQ w W x y bx (decV v bs l ++ [(v9, b9), (pv, b8)]) v3 l := h.seen fun q hq => by
  rcases List.mem_append.1 hq with hq | hq
  · exact h.rest.see q hq
  · simp only [List.mem_cons, List.not_mem_nil, or_false] at hq
    rcases hq with rfl | rfl
    · exact h9
    · exact h8

theorem agL_snoc (l : List AgV) (p : AgV) : agL (l ++ [p]) = agL l ++ [p.1] := by simp [agL]
theorem decV_next {P : Value × List UInt8 → Prop} {v v9 : Value} {bs b9 : List UInt8} {l : List AgV} {p : AgV} (h : ∀ q ∈ decV v bs l ++ [(v9, b9), (p.2, p.1.bb)], P q) : ∀ q ∈ decV v9 b9 (l ++ [p]), P q := by
  intro q hq
  refine h q ?_
  unfold decV at hq ⊢
  simp only [List.map_append, List.map_cons, List.map_nil, List.mem_cons, List.mem_append, List.not_mem_nil, or_false] at hq ⊢
  rcases hq with hq | hq | hq
  · exact .inr (.inl hq)
  · exact .inl (.inr hq)
  · exact .inr (.inr hq)
theorem dec_app {w W W' : World} {M N k4 k3 k1 k0 ob kz : Nat} {vz vM vN : List Value} {oc : Int} {A3 : Option Addr} {n3 c3 : Nat} {A1 : Option Addr} {n1 c1 : Nat} {AF : Option Addr} {nF cF : Nat} {v v9 v' : Value} {bs b9 : List UInt8} {l : List AgV} {p : AgV}
    (h : DS w W ((kz, vz) :: (M, vM) :: (N, vN) :: decB k4 k3 k1 k0 ob oc (.slice A3 n3 c3) A1 n1 c1 AF nF cF) (decV v bs l ++ [(v9, b9), (p.2, p.1.bb)]) (.slice A3 n3 c3) l)
    (ho : OwnA W' w.heap.size v' (l ++ [p])) (hn : NoB W' v') (hg : W.grownBy W' (Value.slice A3 n3 c3).ownBlock) (hw : v'.ownBlock = (Value.slice A3 n3 c3).ownBlock ∨ v'.ownBlock = some W.heap.size) :
    (W'.cell? ⟨k4, 2, none⟩ = some (.slice A3 n3 c3) ∧ W'.frozen? ⟨k4, 2, none⟩ = false) ∧ DS w (W'.setCell ⟨k4, 2, none⟩ v') (decB k4 k3 k1 k0 ob oc v' A1 n1 c1 AF nF cF) (decV v9 b9 (l ++ [p])) v' (l ++ [p]) := by
  have hD := h.app ho hn hg hw
  have hE : DS w W' ([] ++ (k4, [.int .u32 (ob : Int), .int .i64 oc, .slice A3 n3 c3]) :: [(k3, [.slice A1 n1 c1, .int .i64 0]), (k1, [.int .u32 0, .int .i64 0, .slice none 0 0]), (k0, [.int .u32 (ob : Int), .int .i64 oc, .slice AF nF cF])]) _ _ _ := hD.sub (List.sublist_append_right [_, _, _] _)
  obtain ⟨-, -, y2, yf, -⟩ := hE.held.tri
  exact ⟨⟨y2, yf 2⟩, (hE.cell (i := 2) rfl (sli_nb _ _ _) v').seen (decV_next (hE.cell (i := 2) rfl (sli_nb _ _ _) v').see)⟩

theorem dec_step {s : St} {acc : List Ag} {k : Nat} {ks : List Nat} {R : List Ag × Int} {s9 : St} {a9 : Ag} (h : decF s acc (k :: ks) = R) (hx : readG s k = (s9, a9)) :
    (s9.2 ≠ 0 → R = ([], s9.2)) ∧ (s9.2 = 0 → rngB a9 = false → R = ([], 6)) ∧ (s9.2 = 0 → rngB a9 = true → decF s9 (acc ++ [a9]) ks = R) := by
  unfold decF at h
  rw [hx] at h
  dsimp only at h
  refine ⟨fun h0 => ?_, fun h0 h1 => ?_, fun h0 h1 => ?_⟩
  · rw [if_pos h0] at h
    exact h.symm
  · rw [if_neg (by simp [h0]), if_pos h1] at h
    exact h.symm
  · rw [if_neg (by simp [h0]), if_neg (by simp [h1])] at h
    exact h

set_option maxRecDepth 100000 in
set_option maxHeartbeats 8000000 in
theorem dec_go {w : World} {AF : Option Addr} {nF cF : Nat} {bs : List UInt8} (hB : Sees w (.slice AF nF cF) bs) (sg : ByteArray) (hs : sigT sg = true) (ob : Nat) {oc : Int} (h0 : ¬ oc < 0) (h1 : ¬ 65535 < oc) (hn : ¬ 4088 < nF) (hz : sg.size ≤ 1000) :
    Calls Tryd.prog 15 #[.string sg, .agg #[.int .u32 (ob : Int), .int .i64 oc, .slice AF nF cF]] w (GivesM (if (decF (bs, 0) [] (kdsT (sl sg))).2 ≠ 0 then (⟨0, 0, []⟩, (decF (bs, 0) [] (kdsT (sl sg))).2) else (⟨ob, oc, (decF (bs, 0) [] (kdsT (sl sg))).1⟩, 0)) w) := by
  have S := fun W => Lib.hid (signed_any sg W)
  rw [hs] at S
  obtain ⟨_, _, hv, hc1, hc2⟩ := hB.shape
  simp only [Value.slice.injEq] at hv
  obtain ⟨rfl, hlen, rfl⟩ := hv
  have F := fun (W : World) (hb : Below w.heap.size w W) => Lib.hid (ref_from (hB.below hb) (by omega))
  have KD := fun c W => Lib.hid (kind13_any c W)
  rw [← hlen] at hc1
  simp only [maxLen] at hc2
  have HLEN := Lib.hid hlen
  obtain ⟨R, hR⟩ : ∃ R, decF (bs, 0) [] (kdsT (sl sg)) = R := ⟨_, rfl⟩
  rw [hR]
  obtain ⟨X, hX⟩ : ∃ X, (if R.2 ≠ 0 then ((⟨0, 0, []⟩ : Ms), R.2) else (⟨ob, oc, R.1⟩, 0)) = X := ⟨_, rfl⟩
  rw [hX]
  have HX := Lib.hid hX
  have HI0 : Hid (decF (bs, 0) (agL []) ((kdsT (sl sg)).drop 0) = R) := Lib.hid hR
  have J := Lib.hid (dec_boxes w ob oc AF nF cF)
  obtain ⟨y0, y1, y2, yf, yl⟩ := (show Held w _ ([] ++ (w.heap.size + 1, _) :: [_]) from J.out).tri
  obtain ⟨x0, x1, x2, -, -⟩ := (show Held w _ ([_] ++ (w.heap.size, _) :: []) from J.out).tri
  have b0 : decide (oc < 0) = false := decide_eq_false h0
  have b1 : decide (65535 < oc) = false := decide_eq_false h1
  have e1 : ¬ (4096 : Int) < (nF : Int) + 8 := by omega
  clear hs hR hX hlen hB
  go_enter Tryd.func15, Tryd.ntmps15
  go_wp2_with fail
  refine (S _).out.mono ?_
  rintro e w1 ⟨rfl, rfl⟩
  clear S
  go_wp2_with fail
  refine (F _ J.out.below).out.mono ?_
  rintro e w1 ⟨v1, rfl, hv1, hb⟩
  replace J := Lib.hid (J.out.step hb)
  obtain ⟨A1, c1, rfl, -, -⟩ := hv1.shape
  unfold rv
  have HV := Lib.hid hv1
  clear F hb hv1 y0 y1 y2 yf yl x0 x1 x2
  dsimp only at HV ⊢
  replace J := Lib.hid (J.out.alloc [.slice A1 bs.length c1, .int .i64 0] 58)
  replace HV := Lib.hid (HV.out.alloc (.cells #[.slice A1 bs.length c1, .int .i64 0] 58))
  obtain ⟨x0, x1, x2, -, -⟩ := (show Held w _ ([_, _] ++ (w.heap.size, _) :: []) from J.out).tri
  replace J := Lib.hid (J.out.alloc [.int .u32 (ob : Int), .int .i64 oc, .slice none 0 0] 25)
  replace HV := Lib.hid (HV.out.alloc (.cells #[.int .u32 (ob : Int), .int .i64 oc, .slice none 0 0] 25))
  rw [World.size_alloc] at J
  go_wp2_with fail
  generalize (w1.alloc (.cells #[.slice A1 bs.length c1, .int .i64 0] 58)).alloc (.cells #[.int .u32 (ob : Int), .int .i64 oc, .slice none 0 0] 25) = wl at *
  generalize w1.heap.size + 1 = k4 at *
  generalize w1.heap.size = k3 at *
  have D0 : Hid (DS w wl (decB k4 k3 (w.heap.size + 1) w.heap.size ob oc (.slice none 0 0) A1 bs.length c1 AF nF cF) (decV (.slice A1 bs.length c1) bs []) (.slice none 0 0) []) :=
    Lib.hid ⟨J.out, fun q hq => by
      obtain rfl := List.mem_singleton.1 hq
      exact HV.out, ownA_nil _ _, noB_nil _ _ _, fun q _ g hg => by cases hg⟩
  have hbs : bs.length ≤ 1000000 := by have := HLEN.out; omega
  have HBS := Lib.hid hbs
  clear J HV hbs b0 b1 e1 x0 x1 x2 HLEN
  go_loopw [8] (fun s8 wr => ∃ (i : Nat) (l : List AgV) (v3 : Value) (s : List UInt8) (A1 : Option Addr) (n1 c1 : Nat), i ≤ sg.size ∧ s8 = .int .i64 (i : Int) ∧ Hid (l.length ≤ i ∧ s.length ≤ 1000000 ∧ ∀ p ∈ l, p.1.ss.size ≤ maxLen) ∧ Hid (decF (s, 0) (agL l) ((kdsT (sl sg)).drop i) = R) ∧ Hid (DS w wr (decB k4 k3 (w.heap.size + 1) w.heap.size ob oc v3 A1 n1 c1 AF nF cF) (decV (.slice A1 n1 c1) s l) v3 l)) (fun s8 _ => leftN sg.size s8)
  case atStart => exact ⟨0, [], _, bs, A1, _, c1, Nat.zero_le _, rfl, Lib.hid ⟨Nat.le_refl _, HBS.out, fun p hp => by cases hp⟩, HI0, D0⟩
  case round =>
    clear D0 HI0
    rename Option Addr => A1'
    clear HBS
    obtain ⟨i, l, v3, s, A1, n1, c1, hi, rfl, HS, HI, J⟩ := hrel
    obtain ⟨g0, g1⟩ := dec_sk J.out.held
    by_cases hlt : i < sg.size
    · have q0 : (0 : Int) ≤ i := by omega
      have q1 : (i : Int) < sg.size := by omega
      have RD0 := fun (W : World) (h : Sees W (.slice A1 n1 c1) s) => read_any (s := (s, 0)) h (fun h => absurd rfl h) HS.out.2.1 (kindN sg[i].toNat)
      have hst := HI.out
      rw [drop_cons (kds_at sg i hlt)] at hst
      obtain ⟨s9, hx9⟩ : ∃ x, readG (s, 0) (kindN sg[i].toNat) = x := ⟨_, rfl⟩
      rw [hx9] at RD0
      obtain ⟨⟨b9, e9⟩, ⟨kd, nn, sS, bB⟩⟩ := s9
      have hst2 := dec_step hst hx9
      have RD := fun W h => Lib.hid (RD0 W h)
      replace hst2 := Lib.hid hst2
      have HLE : Hid (b9.length ≤ 1000000) := Lib.hid (by
        have := read_le (s := (s, 0)) (fun h => absurd rfl h) (kindN sg[i].toNat)
        rw [hx9] at this
        exact Nat.le_trans this HS.out.2.1)
      obtain ⟨n9, hn9⟩ : ∃ n9, b9.length = n9 := ⟨_, rfl⟩
      obtain ⟨n8, hn8⟩ : ∃ n8, bB.length = n8 := ⟨_, rfl⟩
      have HN9 := Lib.hid hn9
      have HN8 := Lib.hid hn8
      clear RD0 hst hx9 hn9 hn8
      dsimp only at RD
      go_upto_region 12 with (fail)
      go_cut [9, 10] from 45 to 53 (fun s9 s10 wx => ∃ M N A9 c9 A8 c8, s9 = .pointer (some ⟨M, 0, none⟩) ∧ s10 = .pointer (some ⟨N, 0, none⟩) ∧ Hid (DQ w wx (some (M, [.slice A9 n9 c9, .int .i64 e9])) (some (N, [.int .i64 kd, .int .i64 nn, .string sS, .slice A8 n8 c8])) (decB k4 k3 (w.heap.size + 1) w.heap.size ob oc v3 A1 n1 c1 AF nF cF) (decV (.slice A1 n1 c1) s l ++ [(.slice A9 n9 c9, b9), (.slice A8 n8 c8, bB)]) v3 l) ∧ Hid (sS.size ≤ maxLen))
      case first =>
        replace J : Hid (DQ w wr.drew none none (decB k4 k3 (w.heap.size + 1) w.heap.size ob oc v3 A1 n1 c1 AF nF cF) (decV (.slice A1 n1 c1) s l) v3 l) := Lib.hid J.out.drew
        have sk := dec_sk J.out.rest.held
        refine wp_region_held_drew (S := (fun W => W.cell? ⟨k3, 0, none⟩ = some (.slice A1 n1 c1) ∧ W.cell? ⟨k3, 1, none⟩ = some (.int .i64 0))) (by kernel_rfl) sk (fun hHeld => ?_)
        generalize wr.drew = u0 at *
        refine wpAnyH_take (i := 0) (oi := ({ dst := some 46, op := Go.Op.load 58 (Go.Operand.tmp 6), type := 58, pos := "ref.go:168", after := #[], guard := none } : Oper)) (v := ?_) rfl (by kernel_rfl) (by kernel_rfl) (by kernel_rfl) (fun _ _ _ h => h) (Or.inl ⟨by kernel_rfl, ?_⟩) hHeld ?_
        rotate_left 1
        · (intro W hSw; (try dsimp only at hSw); go_simp; try with_reducible rfl)
        try simp only [Act.put, List.setIfInBounds_toArray, List.set_cons_zero, List.set_cons_succ]
        refine wpAnyH_take (i := 1) (oi := ({ dst := some 47, op := Go.Op.move (Go.Operand.tmp 0), type := 9, pos := "ref.go:168", after := #[], guard := none } : Oper)) (v := ?_) rfl (by kernel_rfl) (by kernel_rfl) (by kernel_rfl) (fun _ _ _ h => h) (Or.inl ⟨by kernel_rfl, ?_⟩) hHeld ?_
        rotate_left 1
        · (intro W hSw; (try dsimp only at hSw); go_simp; try with_reducible rfl)
        try simp only [Act.put, List.setIfInBounds_toArray, List.set_cons_zero, List.set_cons_succ]
        refine wpAnyH_take (i := 2) (oi := ({ dst := some 48, op := Go.Op.move (Go.Operand.tmp 8), type := 3, pos := "ref.go:168", after := #[], guard := none } : Oper)) (v := ?_) rfl (by kernel_rfl) (by kernel_rfl) (by kernel_rfl) (fun _ _ _ h => h) (Or.inl ⟨by kernel_rfl, ?_⟩) hHeld ?_
        rotate_left 1
        · (intro W hSw; (try dsimp only at hSw); go_simp; try with_reducible rfl)
        try simp only [Act.put, List.setIfInBounds_toArray, List.set_cons_zero, List.set_cons_succ]
        refine wpAnyH_take (i := 3) (oi := ({ dst := some 49, op := Go.Op.index 9 (Go.Operand.tmp 47) (Go.Operand.tmp 48), type := 5, pos := "ref.go:168", after := #[{ on := 1, ground := Go.Ground.data }, { on := 2, ground := Go.Ground.data }], guard := none } : Oper)) (v := ?_) rfl (by kernel_rfl) (by kernel_rfl) (by kernel_rfl) (fun _ _ _ h => h) (Or.inl ⟨by kernel_rfl, ?_⟩) hHeld ?_
        rotate_left 1
        · (intro W hSw; (try dsimp only at hSw); go_simp; try with_reducible rfl)
        try simp only [Act.put, List.setIfInBounds_toArray, List.set_cons_zero, List.set_cons_succ]
        refine wpAnyH_ready (rs := [4, 9, 10]) (by kernel_rfl) (by simp) (AllReadyH.cons (o := dop4) rfl (fun K hK => ?_) (AllReadyH.cons (o := dop9) rfl (fun K hK => ?_) (AllReadyH.cons (o := dop10) rfl (fun K hK => ?_) AllReadyH.nil)))
        · unfold dop4
          go_simp
          refine (KD _ _).out.mono ?_
          rintro e u1 ⟨rfl, hq⟩
          replace hq := hq.symm
          subst hq
          refine hK.out _ _ sk (fun hHeld2 => ?_)
          clear hK K hHeld
          have hHeld := hHeld2
          clear hHeld2
          try simp only [Act.put, List.setIfInBounds_toArray, List.set_cons_zero, List.set_cons_succ]
          refine wpAnyH_ready (rs := [5, 9, 10]) (by kernel_rfl) (by simp) (AllReadyH.cons (o := dop5) rfl (fun K hK => ?_) (AllReadyH.cons (o := dop9) rfl (fun K hK => ?_) (AllReadyH.cons (o := dop10) rfl (fun K hK => ?_) AllReadyH.nil)))
          · unfold dop5
            go_simp
            refine (RD _ (J.out.rest.see _ List.mem_cons_self)).out.mono ?_
            rintro e u2 ⟨v9, pv, rfl, hv, hok, hnew, hb⟩
            obtain ⟨A9, c9, rfl, -, -⟩ := hv.shape
            obtain ⟨A8, c8, hpv, -, -⟩ := hok.shape
            dsimp only at hpv
            subst hpv
            dsimp only [agVal]
            have h8 := hok.1
            dsimp only at h8 hv
            rw [HN9.out] at hv ⊢
            rw [HN8.out] at h8 ⊢
            replace J := Lib.hid (dec_seen (J.out.step hb) hv h8)
            have HNB := Lib.hid hok.2
            (try clear sk)
            have sk := dec_sk J.out.rest.held
            clear hb hv hok hnew h8
            refine hK.out _ _ sk (fun hHeld2 => ?_)
            clear hK K hHeld
            have hHeld := hHeld2
            clear hHeld2
            try simp only [Act.put, List.setIfInBounds_toArray, List.set_cons_zero, List.set_cons_succ]
            refine wpAnyH_take (i := 6) (oi := ({ dst := some 45, op := Go.Op.move (Go.Operand.tmp 51), type := 60, pos := "ref.go:168", after := #[{ on := 5, ground := Go.Ground.data }], guard := none } : Oper)) (v := ?_) rfl (by kernel_rfl) (by kernel_rfl) (by kernel_rfl) (fun _ _ _ h => h) (Or.inl ⟨by kernel_rfl, ?_⟩) hHeld ?_
            rotate_left 1
            · (intro W hSw; (try dsimp only at hSw); go_simp; try with_reducible rfl)
            try simp only [Act.put, List.setIfInBounds_toArray, List.set_cons_zero, List.set_cons_succ]
            refine wpAnyH_take (i := 7) (oi := ({ dst := some 52, op := Go.Op.extract (Go.Operand.tmp 45) 0, type := 58, pos := "ref.go:168", after := #[{ on := 6, ground := Go.Ground.data }], guard := none } : Oper)) (v := ?_) rfl (by kernel_rfl) (by kernel_rfl) (by kernel_rfl) (fun _ _ _ h => h) (Or.inl ⟨by kernel_rfl, ?_⟩) hHeld ?_
            rotate_left 1
            · (intro W hSw; (try dsimp only at hSw); go_simp; try with_reducible rfl)
            try simp only [Act.put, List.setIfInBounds_toArray, List.set_cons_zero, List.set_cons_succ]
            refine wpAnyH_take (i := 8) (oi := ({ dst := some 53, op := Go.Op.extract (Go.Operand.tmp 45) 1, type := 43, pos := "ref.go:168", after := #[{ on := 6, ground := Go.Ground.data }, { on := 11, ground := Go.Ground.gcOnly Go.Departure.lateStores }], guard := none } : Oper)) (v := ?_) rfl (by kernel_rfl) (by kernel_rfl) (by kernel_rfl) (fun _ _ _ h => h) (Or.inl ⟨by kernel_rfl, ?_⟩) hHeld ?_
            rotate_left 1
            · (intro W hSw; (try dsimp only at hSw); go_simp; try with_reducible rfl)
            try simp only [Act.put, List.setIfInBounds_toArray, List.set_cons_zero, List.set_cons_succ]
            refine wpAnyH_ready (rs := [9, 10]) (by kernel_rfl) (by simp) (AllReadyH.cons (o := dop9) rfl (fun K hK => ?_) (AllReadyH.cons (o := dop10) rfl (fun K hK => ?_) AllReadyH.nil))
            · unfold dop9
              go_simp
              replace J := Lib.hid (J.out.newX [.slice none 0 0, .int .i64 0] 58)
              generalize u2.alloc (.cells #[.slice none 0 0, .int .i64 0] 58) = u3 at *
              generalize u2.heap.size = M at *
              (try clear sk)
              have sk := dec_sk J.out.rest.held
              refine hK.out _ _ sk (fun hHeld2 => ?_)
              clear hK K hHeld
              have hHeld := hHeld2
              clear hHeld2
              try simp only [Act.put, List.setIfInBounds_toArray, List.set_cons_zero, List.set_cons_succ]
              refine wpAnyH_ready (rs := [10]) (by kernel_rfl) (by simp) (AllReadyH.cons (o := dop10) rfl (fun K hK => ?_) AllReadyH.nil)
              unfold dop10
              go_simp
              replace J := Lib.hid (J.out.newY [.int .i64 0, .int .i64 0, .string ⟨#[]⟩, .slice none 0 0] 43)
              generalize u3.alloc (.cells #[.int .i64 0, .int .i64 0, .string ⟨#[]⟩, .slice none 0 0] 43) = u4 at *
              generalize u3.heap.size = N at *
              (try clear sk)
              have sk := dec_sk J.out.rest.held
              refine hK.out _ _ sk (fun hHeld2 => ?_)
              clear hK K hHeld
              have hHeld := hHeld2
              clear hHeld2
              try simp only [Act.put, List.setIfInBounds_toArray, List.set_cons_zero, List.set_cons_succ]
              refine wpAnyH_ready (rs := [11]) (by kernel_rfl) (by simp) (AllReadyH.cons (o := dop11) rfl (fun K hK => ?_) AllReadyH.nil)
              unfold dop11
              obtain ⟨z0, z1, zf, _⟩ := J.out.cX
              go_simp
              show K _ ((u4.setCell ⟨M, 0, none⟩ (.slice A9 n9 c9)).setCell ⟨M, 1, none⟩ (.int .i64 e9))
              replace J := Lib.hid (J.out.setX (sli_nb _ _ _) (int_nb _) (.slice A9 n9 c9) (.int .i64 e9))
              clear z0 z1 zf
              generalize ((u4.setCell ⟨M, 0, none⟩ (.slice A9 n9 c9)).setCell ⟨M, 1, none⟩ (.int .i64 e9)) = u5 at *
              (try clear sk)
              have sk := dec_sk J.out.rest.held
              refine hK.out _ _ sk (fun hHeld2 => ?_)
              clear hK K hHeld
              have hHeld := hHeld2
              clear hHeld2
              try simp only [Act.put, List.setIfInBounds_toArray, List.set_cons_zero, List.set_cons_succ]
              refine wpAnyH_ready (rs := [12]) (by kernel_rfl) (by simp) (AllReadyH.cons (o := dop12) rfl (fun K hK => ?_) AllReadyH.nil)
              unfold dop12
              obtain ⟨z0, z1, z2, z3, zf, _⟩ := J.out.cY
              go_simp
              show K _ ((((u5.setCell ⟨N, 0, none⟩ (.int .i64 kd)).setCell ⟨N, 1, none⟩ (.int .i64 nn)).setCell ⟨N, 2, none⟩ (.string sS)).setCell ⟨N, 3, none⟩ (.slice A8 n8 c8))
              replace J := Lib.hid (J.out.setY (int_nb _) (int_nb _) (str_nb _) (sli_nb _ _ _) (.int .i64 kd) (.int .i64 nn) (.string sS) (.slice A8 n8 c8))
              clear z0 z1 z2 z3 zf
              generalize ((((u5.setCell ⟨N, 0, none⟩ (.int .i64 kd)).setCell ⟨N, 1, none⟩ (.int .i64 nn)).setCell ⟨N, 2, none⟩ (.string sS)).setCell ⟨N, 3, none⟩ (.slice A8 n8 c8)) = u6 at *
              (try clear sk)
              have sk := dec_sk J.out.rest.held
              refine hK.out _ _ sk (fun hHeld2 => ?_)
              clear hK K hHeld
              have hHeld := hHeld2
              clear hHeld2
              try simp only [Act.put, List.setIfInBounds_toArray, List.set_cons_zero, List.set_cons_succ]
              refine wpAnyH_done (by kernel_rfl) ?_ _
              go_wp2_with fail
              go_meet
              exact ⟨M, N, A9, c9, A8, c8, rfl, rfl, J, HNB⟩
            · unfold dop10
              go_simp
              replace J := Lib.hid (J.out.newY [.int .i64 0, .int .i64 0, .string ⟨#[]⟩, .slice none 0 0] 43)
              generalize u2.alloc (.cells #[.int .i64 0, .int .i64 0, .string ⟨#[]⟩, .slice none 0 0] 43) = u3 at *
              generalize u2.heap.size = N at *
              (try clear sk)
              have sk := dec_sk J.out.rest.held
              refine hK.out _ _ sk (fun hHeld2 => ?_)
              clear hK K hHeld
              have hHeld := hHeld2
              clear hHeld2
              try simp only [Act.put, List.setIfInBounds_toArray, List.set_cons_zero, List.set_cons_succ]
              refine wpAnyH_ready (rs := [9]) (by kernel_rfl) (by simp) (AllReadyH.cons (o := dop9) rfl (fun K hK => ?_) AllReadyH.nil)
              unfold dop9
              go_simp
              replace J := Lib.hid (J.out.newX [.slice none 0 0, .int .i64 0] 58)
              generalize u3.alloc (.cells #[.slice none 0 0, .int .i64 0] 58) = u4 at *
              generalize u3.heap.size = M at *
              (try clear sk)
              have sk := dec_sk J.out.rest.held
              refine hK.out _ _ sk (fun hHeld2 => ?_)
              clear hK K hHeld
              have hHeld := hHeld2
              clear hHeld2
              try simp only [Act.put, List.setIfInBounds_toArray, List.set_cons_zero, List.set_cons_succ]
              refine wpAnyH_ready (rs := [11]) (by kernel_rfl) (by simp) (AllReadyH.cons (o := dop11) rfl (fun K hK => ?_) AllReadyH.nil)
              unfold dop11
              obtain ⟨z0, z1, zf, _⟩ := J.out.cX
              go_simp
              show K _ ((u4.setCell ⟨M, 0, none⟩ (.slice A9 n9 c9)).setCell ⟨M, 1, none⟩ (.int .i64 e9))
              replace J := Lib.hid (J.out.setX (sli_nb _ _ _) (int_nb _) (.slice A9 n9 c9) (.int .i64 e9))
              clear z0 z1 zf
              generalize ((u4.setCell ⟨M, 0, none⟩ (.slice A9 n9 c9)).setCell ⟨M, 1, none⟩ (.int .i64 e9)) = u5 at *
              (try clear sk)
              have sk := dec_sk J.out.rest.held
              refine hK.out _ _ sk (fun hHeld2 => ?_)
              clear hK K hHeld
              have hHeld := hHeld2
              clear hHeld2
              try simp only [Act.put, List.setIfInBounds_toArray, List.set_cons_zero, List.set_cons_succ]
              refine wpAnyH_ready (rs := [12]) (by kernel_rfl) (by simp) (AllReadyH.cons (o := dop12) rfl (fun K hK => ?_) AllReadyH.nil)
              unfold dop12
              obtain ⟨z0, z1, z2, z3, zf, _⟩ := J.out.cY
              go_simp
              show K _ ((((u5.setCell ⟨N, 0, none⟩ (.int .i64 kd)).setCell ⟨N, 1, none⟩ (.int .i64 nn)).setCell ⟨N, 2, none⟩ (.string sS)).setCell ⟨N, 3, none⟩ (.slice A8 n8 c8))
              replace J := Lib.hid (J.out.setY (int_nb _) (int_nb _) (str_nb _) (sli_nb _ _ _) (.int .i64 kd) (.int .i64 nn) (.string sS) (.slice A8 n8 c8))
              clear z0 z1 z2 z3 zf
              generalize ((((u5.setCell ⟨N, 0, none⟩ (.int .i64 kd)).setCell ⟨N, 1, none⟩ (.int .i64 nn)).setCell ⟨N, 2, none⟩ (.string sS)).setCell ⟨N, 3, none⟩ (.slice A8 n8 c8)) = u6 at *
              (try clear sk)
              have sk := dec_sk J.out.rest.held
              refine hK.out _ _ sk (fun hHeld2 => ?_)
              clear hK K hHeld
              have hHeld := hHeld2
              clear hHeld2
              try simp only [Act.put, List.setIfInBounds_toArray, List.set_cons_zero, List.set_cons_succ]
              refine wpAnyH_done (by kernel_rfl) ?_ _
              go_wp2_with fail
              go_meet
              exact ⟨M, N, A9, c9, A8, c8, rfl, rfl, J, HNB⟩
          · unfold dop9
            go_simp
            replace J := Lib.hid (J.out.newX [.slice none 0 0, .int .i64 0] 58)
            generalize u1.alloc (.cells #[.slice none 0 0, .int .i64 0] 58) = u2 at *
            generalize u1.heap.size = M at *
            (try clear sk)
            have sk := dec_sk J.out.rest.held
            refine hK.out _ _ sk (fun hHeld2 => ?_)
            clear hK K hHeld
            have hHeld := hHeld2
            clear hHeld2
            try simp only [Act.put, List.setIfInBounds_toArray, List.set_cons_zero, List.set_cons_succ]
            refine wpAnyH_ready (rs := [5, 10]) (by kernel_rfl) (by simp) (AllReadyH.cons (o := dop5) rfl (fun K hK => ?_) (AllReadyH.cons (o := dop10) rfl (fun K hK => ?_) AllReadyH.nil))
            · unfold dop5
              go_simp
              refine (RD _ (J.out.rest.see _ List.mem_cons_self)).out.mono ?_
              rintro e u3 ⟨v9, pv, rfl, hv, hok, hnew, hb⟩
              obtain ⟨A9, c9, rfl, -, -⟩ := hv.shape
              obtain ⟨A8, c8, hpv, -, -⟩ := hok.shape
              dsimp only at hpv
              subst hpv
              dsimp only [agVal]
              have h8 := hok.1
              dsimp only at h8 hv
              rw [HN9.out] at hv ⊢
              rw [HN8.out] at h8 ⊢
              replace J := Lib.hid (dec_seen (J.out.step hb) hv h8)
              have HNB := Lib.hid hok.2
              (try clear sk)
              have sk := dec_sk J.out.rest.held
              clear hb hv hok hnew h8
              refine hK.out _ _ sk (fun hHeld2 => ?_)
              clear hK K hHeld
              have hHeld := hHeld2
              clear hHeld2
              try simp only [Act.put, List.setIfInBounds_toArray, List.set_cons_zero, List.set_cons_succ]
              refine wpAnyH_take (i := 6) (oi := ({ dst := some 45, op := Go.Op.move (Go.Operand.tmp 51), type := 60, pos := "ref.go:168", after := #[{ on := 5, ground := Go.Ground.data }], guard := none } : Oper)) (v := ?_) rfl (by kernel_rfl) (by kernel_rfl) (by kernel_rfl) (fun _ _ _ h => h) (Or.inl ⟨by kernel_rfl, ?_⟩) hHeld ?_
              rotate_left 1
              · (intro W hSw; (try dsimp only at hSw); go_simp; try with_reducible rfl)
              try simp only [Act.put, List.setIfInBounds_toArray, List.set_cons_zero, List.set_cons_succ]
              refine wpAnyH_take (i := 7) (oi := ({ dst := some 52, op := Go.Op.extract (Go.Operand.tmp 45) 0, type := 58, pos := "ref.go:168", after := #[{ on := 6, ground := Go.Ground.data }], guard := none } : Oper)) (v := ?_) rfl (by kernel_rfl) (by kernel_rfl) (by kernel_rfl) (fun _ _ _ h => h) (Or.inl ⟨by kernel_rfl, ?_⟩) hHeld ?_
              rotate_left 1
              · (intro W hSw; (try dsimp only at hSw); go_simp; try with_reducible rfl)
              try simp only [Act.put, List.setIfInBounds_toArray, List.set_cons_zero, List.set_cons_succ]
              refine wpAnyH_take (i := 8) (oi := ({ dst := some 53, op := Go.Op.extract (Go.Operand.tmp 45) 1, type := 43, pos := "ref.go:168", after := #[{ on := 6, ground := Go.Ground.data }, { on := 11, ground := Go.Ground.gcOnly Go.Departure.lateStores }], guard := none } : Oper)) (v := ?_) rfl (by kernel_rfl) (by kernel_rfl) (by kernel_rfl) (fun _ _ _ h => h) (Or.inl ⟨by kernel_rfl, ?_⟩) hHeld ?_
              rotate_left 1
              · (intro W hSw; (try dsimp only at hSw); go_simp; try with_reducible rfl)
              try simp only [Act.put, List.setIfInBounds_toArray, List.set_cons_zero, List.set_cons_succ]
              refine wpAnyH_ready (rs := [10]) (by kernel_rfl) (by simp) (AllReadyH.cons (o := dop10) rfl (fun K hK => ?_) AllReadyH.nil)
              unfold dop10
              go_simp
              replace J := Lib.hid (J.out.newY [.int .i64 0, .int .i64 0, .string ⟨#[]⟩, .slice none 0 0] 43)
              generalize u3.alloc (.cells #[.int .i64 0, .int .i64 0, .string ⟨#[]⟩, .slice none 0 0] 43) = u4 at *
              generalize u3.heap.size = N at *
              (try clear sk)
              have sk := dec_sk J.out.rest.held
              refine hK.out _ _ sk (fun hHeld2 => ?_)
              clear hK K hHeld
              have hHeld := hHeld2
              clear hHeld2
              try simp only [Act.put, List.setIfInBounds_toArray, List.set_cons_zero, List.set_cons_succ]
              refine wpAnyH_ready (rs := [11]) (by kernel_rfl) (by simp) (AllReadyH.cons (o := dop11) rfl (fun K hK => ?_) AllReadyH.nil)
              unfold dop11
              obtain ⟨z0, z1, zf, _⟩ := J.out.cX
              go_simp
              show K _ ((u4.setCell ⟨M, 0, none⟩ (.slice A9 n9 c9)).setCell ⟨M, 1, none⟩ (.int .i64 e9))
              replace J := Lib.hid (J.out.setX (sli_nb _ _ _) (int_nb _) (.slice A9 n9 c9) (.int .i64 e9))
              clear z0 z1 zf
              generalize ((u4.setCell ⟨M, 0, none⟩ (.slice A9 n9 c9)).setCell ⟨M, 1, none⟩ (.int .i64 e9)) = u5 at *
              (try clear sk)
              have sk := dec_sk J.out.rest.held
              refine hK.out _ _ sk (fun hHeld2 => ?_)
              clear hK K hHeld
              have hHeld := hHeld2
              clear hHeld2
              try simp only [Act.put, List.setIfInBounds_toArray, List.set_cons_zero, List.set_cons_succ]
              refine wpAnyH_ready (rs := [12]) (by kernel_rfl) (by simp) (AllReadyH.cons (o := dop12) rfl (fun K hK => ?_) AllReadyH.nil)
              unfold dop12
              obtain ⟨z0, z1, z2, z3, zf, _⟩ := J.out.cY
              go_simp
              show K _ ((((u5.setCell ⟨N, 0, none⟩ (.int .i64 kd)).setCell ⟨N, 1, none⟩ (.int .i64 nn)).setCell ⟨N, 2, none⟩ (.string sS)).setCell ⟨N, 3, none⟩ (.slice A8 n8 c8))
              replace J := Lib.hid (J.out.setY (int_nb _) (int_nb _) (str_nb _) (sli_nb _ _ _) (.int .i64 kd) (.int .i64 nn) (.string sS) (.slice A8 n8 c8))
              clear z0 z1 z2 z3 zf
              generalize ((((u5.setCell ⟨N, 0, none⟩ (.int .i64 kd)).setCell ⟨N, 1, none⟩ (.int .i64 nn)).setCell ⟨N, 2, none⟩ (.string sS)).setCell ⟨N, 3, none⟩ (.slice A8 n8 c8)) = u6 at *
              (try clear sk)
              have sk := dec_sk J.out.rest.held
              refine hK.out _ _ sk (fun hHeld2 => ?_)
              clear hK K hHeld
              have hHeld := hHeld2
              clear hHeld2
              try simp only [Act.put, List.setIfInBounds_toArray, List.set_cons_zero, List.set_cons_succ]
              refine wpAnyH_done (by kernel_rfl) ?_ _
              go_wp2_with fail
              go_meet
              exact ⟨M, N, A9, c9, A8, c8, rfl, rfl, J, HNB⟩
            · unfold dop10
              go_simp
              replace J := Lib.hid (J.out.newY [.int .i64 0, .int .i64 0, .string ⟨#[]⟩, .slice none 0 0] 43)
              generalize u2.alloc (.cells #[.int .i64 0, .int .i64 0, .string ⟨#[]⟩, .slice none 0 0] 43) = u3 at *
              generalize u2.heap.size = N at *
              (try clear sk)
              have sk := dec_sk J.out.rest.held
              refine hK.out _ _ sk (fun hHeld2 => ?_)
              clear hK K hHeld
              have hHeld := hHeld2
              clear hHeld2
              try simp only [Act.put, List.setIfInBounds_toArray, List.set_cons_zero, List.set_cons_succ]
              refine wpAnyH_ready (rs := [5]) (by kernel_rfl) (by simp) (AllReadyH.cons (o := dop5) rfl (fun K hK => ?_) AllReadyH.nil)
              unfold dop5
              go_simp
              refine (RD _ (J.out.rest.see _ List.mem_cons_self)).out.mono ?_
              rintro e u4 ⟨v9, pv, rfl, hv, hok, hnew, hb⟩
              obtain ⟨A9, c9, rfl, -, -⟩ := hv.shape
              obtain ⟨A8, c8, hpv, -, -⟩ := hok.shape
              dsimp only at hpv
              subst hpv
              dsimp only [agVal]
              have h8 := hok.1
              dsimp only at h8 hv
              rw [HN9.out] at hv ⊢
              rw [HN8.out] at h8 ⊢
              replace J := Lib.hid (dec_seen (J.out.step hb) hv h8)
              have HNB := Lib.hid hok.2
              (try clear sk)
              have sk := dec_sk J.out.rest.held
              clear hb hv hok hnew h8
              refine hK.out _ _ sk (fun hHeld2 => ?_)
              clear hK K hHeld
              have hHeld := hHeld2
              clear hHeld2
              try simp only [Act.put, List.setIfInBounds_toArray, List.set_cons_zero, List.set_cons_succ]
              refine wpAnyH_take (i := 6) (oi := ({ dst := some 45, op := Go.Op.move (Go.Operand.tmp 51), type := 60, pos := "ref.go:168", after := #[{ on := 5, ground := Go.Ground.data }], guard := none } : Oper)) (v := ?_) rfl (by kernel_rfl) (by kernel_rfl) (by kernel_rfl) (fun _ _ _ h => h) (Or.inl ⟨by kernel_rfl, ?_⟩) hHeld ?_
              rotate_left 1
              · (intro W hSw; (try dsimp only at hSw); go_simp; try with_reducible rfl)
              try simp only [Act.put, List.setIfInBounds_toArray, List.set_cons_zero, List.set_cons_succ]
              refine wpAnyH_take (i := 7) (oi := ({ dst := some 52, op := Go.Op.extract (Go.Operand.tmp 45) 0, type := 58, pos := "ref.go:168", after := #[{ on := 6, ground := Go.Ground.data }], guard := none } : Oper)) (v := ?_) rfl (by kernel_rfl) (by kernel_rfl) (by kernel_rfl) (fun _ _ _ h => h) (Or.inl ⟨by kernel_rfl, ?_⟩) hHeld ?_
              rotate_left 1
              · (intro W hSw; (try dsimp only at hSw); go_simp; try with_reducible rfl)
              try simp only [Act.put, List.setIfInBounds_toArray, List.set_cons_zero, List.set_cons_succ]
              refine wpAnyH_take (i := 8) (oi := ({ dst := some 53, op := Go.Op.extract (Go.Operand.tmp 45) 1, type := 43, pos := "ref.go:168", after := #[{ on := 6, ground := Go.Ground.data }, { on := 11, ground := Go.Ground.gcOnly Go.Departure.lateStores }], guard := none } : Oper)) (v := ?_) rfl (by kernel_rfl) (by kernel_rfl) (by kernel_rfl) (fun _ _ _ h => h) (Or.inl ⟨by kernel_rfl, ?_⟩) hHeld ?_
              rotate_left 1
              · (intro W hSw; (try dsimp only at hSw); go_simp; try with_reducible rfl)
              try simp only [Act.put, List.setIfInBounds_toArray, List.set_cons_zero, List.set_cons_succ]
              refine wpAnyH_ready (rs := [11]) (by kernel_rfl) (by simp) (AllReadyH.cons (o := dop11) rfl (fun K hK => ?_) AllReadyH.nil)
              unfold dop11
              obtain ⟨z0, z1, zf, _⟩ := J.out.cX
              go_simp
              show K _ ((u4.setCell ⟨M, 0, none⟩ (.slice A9 n9 c9)).setCell ⟨M, 1, none⟩ (.int .i64 e9))
              replace J := Lib.hid (J.out.setX (sli_nb _ _ _) (int_nb _) (.slice A9 n9 c9) (.int .i64 e9))
              clear z0 z1 zf
              generalize ((u4.setCell ⟨M, 0, none⟩ (.slice A9 n9 c9)).setCell ⟨M, 1, none⟩ (.int .i64 e9)) = u5 at *
              (try clear sk)
              have sk := dec_sk J.out.rest.held
              refine hK.out _ _ sk (fun hHeld2 => ?_)
              clear hK K hHeld
              have hHeld := hHeld2
              clear hHeld2
              try simp only [Act.put, List.setIfInBounds_toArray, List.set_cons_zero, List.set_cons_succ]
              refine wpAnyH_ready (rs := [12]) (by kernel_rfl) (by simp) (AllReadyH.cons (o := dop12) rfl (fun K hK => ?_) AllReadyH.nil)
              unfold dop12
              obtain ⟨z0, z1, z2, z3, zf, _⟩ := J.out.cY
              go_simp
              show K _ ((((u5.setCell ⟨N, 0, none⟩ (.int .i64 kd)).setCell ⟨N, 1, none⟩ (.int .i64 nn)).setCell ⟨N, 2, none⟩ (.string sS)).setCell ⟨N, 3, none⟩ (.slice A8 n8 c8))
              replace J := Lib.hid (J.out.setY (int_nb _) (int_nb _) (str_nb _) (sli_nb _ _ _) (.int .i64 kd) (.int .i64 nn) (.string sS) (.slice A8 n8 c8))
              clear z0 z1 z2 z3 zf
              generalize ((((u5.setCell ⟨N, 0, none⟩ (.int .i64 kd)).setCell ⟨N, 1, none⟩ (.int .i64 nn)).setCell ⟨N, 2, none⟩ (.string sS)).setCell ⟨N, 3, none⟩ (.slice A8 n8 c8)) = u6 at *
              (try clear sk)
              have sk := dec_sk J.out.rest.held
              refine hK.out _ _ sk (fun hHeld2 => ?_)
              clear hK K hHeld
              have hHeld := hHeld2
              clear hHeld2
              try simp only [Act.put, List.setIfInBounds_toArray, List.set_cons_zero, List.set_cons_succ]
              refine wpAnyH_done (by kernel_rfl) ?_ _
              go_wp2_with fail
              go_meet
              exact ⟨M, N, A9, c9, A8, c8, rfl, rfl, J, HNB⟩
          · unfold dop10
            go_simp
            replace J := Lib.hid (J.out.newY [.int .i64 0, .int .i64 0, .string ⟨#[]⟩, .slice none 0 0] 43)
            generalize u1.alloc (.cells #[.int .i64 0, .int .i64 0, .string ⟨#[]⟩, .slice none 0 0] 43) = u2 at *
            generalize u1.heap.size = N at *
            (try clear sk)
            have sk := dec_sk J.out.rest.held
            refine hK.out _ _ sk (fun hHeld2 => ?_)
            clear hK K hHeld
            have hHeld := hHeld2
            clear hHeld2
            try simp only [Act.put, List.setIfInBounds_toArray, List.set_cons_zero, List.set_cons_succ]
            refine wpAnyH_ready (rs := [5, 9]) (by kernel_rfl) (by simp) (AllReadyH.cons (o := dop5) rfl (fun K hK => ?_) (AllReadyH.cons (o := dop9) rfl (fun K hK => ?_) AllReadyH.nil))
            · unfold dop5
              go_simp
              refine (RD _ (J.out.rest.see _ List.mem_cons_self)).out.mono ?_
              rintro e u3 ⟨v9, pv, rfl, hv, hok, hnew, hb⟩
              obtain ⟨A9, c9, rfl, -, -⟩ := hv.shape
              obtain ⟨A8, c8, hpv, -, -⟩ := hok.shape
              dsimp only at hpv
              subst hpv
              dsimp only [agVal]
              have h8 := hok.1
              dsimp only at h8 hv
              rw [HN9.out] at hv ⊢
              rw [HN8.out] at h8 ⊢
              replace J := Lib.hid (dec_seen (J.out.step hb) hv h8)
              have HNB := Lib.hid hok.2
              (try clear sk)
              have sk := dec_sk J.out.rest.held
              clear hb hv hok hnew h8
              refine hK.out _ _ sk (fun hHeld2 => ?_)
              clear hK K hHeld
              have hHeld := hHeld2
              clear hHeld2
              try simp only [Act.put, List.setIfInBounds_toArray, List.set_cons_zero, List.set_cons_succ]
              refine wpAnyH_take (i := 6) (oi := ({ dst := some 45, op := Go.Op.move (Go.Operand.tmp 51), type := 60, pos := "ref.go:168", after := #[{ on := 5, ground := Go.Ground.data }], guard := none } : Oper)) (v := ?_) rfl (by kernel_rfl) (by kernel_rfl) (by kernel_rfl) (fun _ _ _ h => h) (Or.inl ⟨by kernel_rfl, ?_⟩) hHeld ?_
              rotate_left 1
              · (intro W hSw; (try dsimp only at hSw); go_simp; try with_reducible rfl)
              try simp only [Act.put, List.setIfInBounds_toArray, List.set_cons_zero, List.set_cons_succ]
              refine wpAnyH_take (i := 7) (oi := ({ dst := some 52, op := Go.Op.extract (Go.Operand.tmp 45) 0, type := 58, pos := "ref.go:168", after := #[{ on := 6, ground := Go.Ground.data }], guard := none } : Oper)) (v := ?_) rfl (by kernel_rfl) (by kernel_rfl) (by kernel_rfl) (fun _ _ _ h => h) (Or.inl ⟨by kernel_rfl, ?_⟩) hHeld ?_
              rotate_left 1
              · (intro W hSw; (try dsimp only at hSw); go_simp; try with_reducible rfl)
              try simp only [Act.put, List.setIfInBounds_toArray, List.set_cons_zero, List.set_cons_succ]
              refine wpAnyH_take (i := 8) (oi := ({ dst := some 53, op := Go.Op.extract (Go.Operand.tmp 45) 1, type := 43, pos := "ref.go:168", after := #[{ on := 6, ground := Go.Ground.data }, { on := 11, ground := Go.Ground.gcOnly Go.Departure.lateStores }], guard := none } : Oper)) (v := ?_) rfl (by kernel_rfl) (by kernel_rfl) (by kernel_rfl) (fun _ _ _ h => h) (Or.inl ⟨by kernel_rfl, ?_⟩) hHeld ?_
              rotate_left 1
              · (intro W hSw; (try dsimp only at hSw); go_simp; try with_reducible rfl)
              try simp only [Act.put, List.setIfInBounds_toArray, List.set_cons_zero, List.set_cons_succ]
              refine wpAnyH_ready (rs := [9]) (by kernel_rfl) (by simp) (AllReadyH.cons (o := dop9) rfl (fun K hK => ?_) AllReadyH.nil)
              unfold dop9
              go_simp
              replace J := Lib.hid (J.out.newX [.slice none 0 0, .int .i64 0] 58)
              generalize u3.alloc (.cells #[.slice none 0 0, .int .i64 0] 58) = u4 at *
              generalize u3.heap.size = M at *
              (try clear sk)
              have sk := dec_sk J.out.rest.held
              refine hK.out _ _ sk (fun hHeld2 => ?_)
              clear hK K hHeld
              have hHeld := hHeld2
              clear hHeld2
              try simp only [Act.put, List.setIfInBounds_toArray, List.set_cons_zero, List.set_cons_succ]
              refine wpAnyH_ready (rs := [11]) (by kernel_rfl) (by simp) (AllReadyH.cons (o := dop11) rfl (fun K hK => ?_) AllReadyH.nil)
              unfold dop11
              obtain ⟨z0, z1, zf, _⟩ := J.out.cX
              go_simp
              show K _ ((u4.setCell ⟨M, 0, none⟩ (.slice A9 n9 c9)).setCell ⟨M, 1, none⟩ (.int .i64 e9))
              replace J := Lib.hid (J.out.setX (sli_nb _ _ _) (int_nb _) (.slice A9 n9 c9) (.int .i64 e9))
              clear z0 z1 zf
              generalize ((u4.setCell ⟨M, 0, none⟩ (.slice A9 n9 c9)).setCell ⟨M, 1, none⟩ (.int .i64 e9)) = u5 at *
              (try clear sk)
              have sk := dec_sk J.out.rest.held
              refine hK.out _ _ sk (fun hHeld2 => ?_)
              clear hK K hHeld
              have hHeld := hHeld2
              clear hHeld2
              try simp only [Act.put, List.setIfInBounds_toArray, List.set_cons_zero, List.set_cons_succ]
              refine wpAnyH_ready (rs := [12]) (by kernel_rfl) (by simp) (AllReadyH.cons (o := dop12) rfl (fun K hK => ?_) AllReadyH.nil)
              unfold dop12
              obtain ⟨z0, z1, z2, z3, zf, _⟩ := J.out.cY
              go_simp
              show K _ ((((u5.setCell ⟨N, 0, none⟩ (.int .i64 kd)).setCell ⟨N, 1, none⟩ (.int .i64 nn)).setCell ⟨N, 2, none⟩ (.string sS)).setCell ⟨N, 3, none⟩ (.slice A8 n8 c8))
              replace J := Lib.hid (J.out.setY (int_nb _) (int_nb _) (str_nb _) (sli_nb _ _ _) (.int .i64 kd) (.int .i64 nn) (.string sS) (.slice A8 n8 c8))
              clear z0 z1 z2 z3 zf
              generalize ((((u5.setCell ⟨N, 0, none⟩ (.int .i64 kd)).setCell ⟨N, 1, none⟩ (.int .i64 nn)).setCell ⟨N, 2, none⟩ (.string sS)).setCell ⟨N, 3, none⟩ (.slice A8 n8 c8)) = u6 at *
              (try clear sk)
              have sk := dec_sk J.out.rest.held
              refine hK.out _ _ sk (fun hHeld2 => ?_)
              clear hK K hHeld
              have hHeld := hHeld2
              clear hHeld2
              try simp only [Act.put, List.setIfInBounds_toArray, List.set_cons_zero, List.set_cons_succ]
              refine wpAnyH_done (by kernel_rfl) ?_ _
              go_wp2_with fail
              go_meet
              exact ⟨M, N, A9, c9, A8, c8, rfl, rfl, J, HNB⟩
            · unfold dop9
              go_simp
              replace J := Lib.hid (J.out.newX [.slice none 0 0, .int .i64 0] 58)
              generalize u2.alloc (.cells #[.slice none 0 0, .int .i64 0] 58) = u3 at *
              generalize u2.heap.size = M at *
              (try clear sk)
              have sk := dec_sk J.out.rest.held
              refine hK.out _ _ sk (fun hHeld2 => ?_)
              clear hK K hHeld
              have hHeld := hHeld2
              clear hHeld2
              try simp only [Act.put, List.setIfInBounds_toArray, List.set_cons_zero, List.set_cons_succ]
              refine wpAnyH_ready (rs := [5]) (by kernel_rfl) (by simp) (AllReadyH.cons (o := dop5) rfl (fun K hK => ?_) AllReadyH.nil)
              unfold dop5
              go_simp
              refine (RD _ (J.out.rest.see _ List.mem_cons_self)).out.mono ?_
              rintro e u4 ⟨v9, pv, rfl, hv, hok, hnew, hb⟩
              obtain ⟨A9, c9, rfl, -, -⟩ := hv.shape
              obtain ⟨A8, c8, hpv, -, -⟩ := hok.shape
              dsimp only at hpv
              subst hpv
              dsimp only [agVal]
              have h8 := hok.1
              dsimp only at h8 hv
              rw [HN9.out] at hv ⊢
              rw [HN8.out] at h8 ⊢
              replace J := Lib.hid (dec_seen (J.out.step hb) hv h8)
              have HNB := Lib.hid hok.2
              (try clear sk)
              have sk := dec_sk J.out.rest.held
              clear hb hv hok hnew h8
              refine hK.out _ _ sk (fun hHeld2 => ?_)
              clear hK K hHeld
              have hHeld := hHeld2
              clear hHeld2
              try simp only [Act.put, List.setIfInBounds_toArray, List.set_cons_zero, List.set_cons_succ]
              refine wpAnyH_take (i := 6) (oi := ({ dst := some 45, op := Go.Op.move (Go.Operand.tmp 51), type := 60, pos := "ref.go:168", after := #[{ on := 5, ground := Go.Ground.data }], guard := none } : Oper)) (v := ?_) rfl (by kernel_rfl) (by kernel_rfl) (by kernel_rfl) (fun _ _ _ h => h) (Or.inl ⟨by kernel_rfl, ?_⟩) hHeld ?_
              rotate_left 1
              · (intro W hSw; (try dsimp only at hSw); go_simp; try with_reducible rfl)
              try simp only [Act.put, List.setIfInBounds_toArray, List.set_cons_zero, List.set_cons_succ]
              refine wpAnyH_take (i := 7) (oi := ({ dst := some 52, op := Go.Op.extract (Go.Operand.tmp 45) 0, type := 58, pos := "ref.go:168", after := #[{ on := 6, ground := Go.Ground.data }], guard := none } : Oper)) (v := ?_) rfl (by kernel_rfl) (by kernel_rfl) (by kernel_rfl) (fun _ _ _ h => h) (Or.inl ⟨by kernel_rfl, ?_⟩) hHeld ?_
              rotate_left 1
              · (intro W hSw; (try dsimp only at hSw); go_simp; try with_reducible rfl)
              try simp only [Act.put, List.setIfInBounds_toArray, List.set_cons_zero, List.set_cons_succ]
              refine wpAnyH_take (i := 8) (oi := ({ dst := some 53, op := Go.Op.extract (Go.Operand.tmp 45) 1, type := 43, pos := "ref.go:168", after := #[{ on := 6, ground := Go.Ground.data }, { on := 11, ground := Go.Ground.gcOnly Go.Departure.lateStores }], guard := none } : Oper)) (v := ?_) rfl (by kernel_rfl) (by kernel_rfl) (by kernel_rfl) (fun _ _ _ h => h) (Or.inl ⟨by kernel_rfl, ?_⟩) hHeld ?_
              rotate_left 1
              · (intro W hSw; (try dsimp only at hSw); go_simp; try with_reducible rfl)
              try simp only [Act.put, List.setIfInBounds_toArray, List.set_cons_zero, List.set_cons_succ]
              refine wpAnyH_ready (rs := [11]) (by kernel_rfl) (by simp) (AllReadyH.cons (o := dop11) rfl (fun K hK => ?_) AllReadyH.nil)
              unfold dop11
              obtain ⟨z0, z1, zf, _⟩ := J.out.cX
              go_simp
              show K _ ((u4.setCell ⟨M, 0, none⟩ (.slice A9 n9 c9)).setCell ⟨M, 1, none⟩ (.int .i64 e9))
              replace J := Lib.hid (J.out.setX (sli_nb _ _ _) (int_nb _) (.slice A9 n9 c9) (.int .i64 e9))
              clear z0 z1 zf
              generalize ((u4.setCell ⟨M, 0, none⟩ (.slice A9 n9 c9)).setCell ⟨M, 1, none⟩ (.int .i64 e9)) = u5 at *
              (try clear sk)
              have sk := dec_sk J.out.rest.held
              refine hK.out _ _ sk (fun hHeld2 => ?_)
              clear hK K hHeld
              have hHeld := hHeld2
              clear hHeld2
              try simp only [Act.put, List.setIfInBounds_toArray, List.set_cons_zero, List.set_cons_succ]
              refine wpAnyH_ready (rs := [12]) (by kernel_rfl) (by simp) (AllReadyH.cons (o := dop12) rfl (fun K hK => ?_) AllReadyH.nil)
              unfold dop12
              obtain ⟨z0, z1, z2, z3, zf, _⟩ := J.out.cY
              go_simp
              show K _ ((((u5.setCell ⟨N, 0, none⟩ (.int .i64 kd)).setCell ⟨N, 1, none⟩ (.int .i64 nn)).setCell ⟨N, 2, none⟩ (.string sS)).setCell ⟨N, 3, none⟩ (.slice A8 n8 c8))
              replace J := Lib.hid (J.out.setY (int_nb _) (int_nb _) (str_nb _) (sli_nb _ _ _) (.int .i64 kd) (.int .i64 nn) (.string sS) (.slice A8 n8 c8))
              clear z0 z1 z2 z3 zf
              generalize ((((u5.setCell ⟨N, 0, none⟩ (.int .i64 kd)).setCell ⟨N, 1, none⟩ (.int .i64 nn)).setCell ⟨N, 2, none⟩ (.string sS)).setCell ⟨N, 3, none⟩ (.slice A8 n8 c8)) = u6 at *
              (try clear sk)
              have sk := dec_sk J.out.rest.held
              refine hK.out _ _ sk (fun hHeld2 => ?_)
              clear hK K hHeld
              have hHeld := hHeld2
              clear hHeld2
              try simp only [Act.put, List.setIfInBounds_toArray, List.set_cons_zero, List.set_cons_succ]
              refine wpAnyH_done (by kernel_rfl) ?_ _
              go_wp2_with fail
              go_meet
              exact ⟨M, N, A9, c9, A8, c8, rfl, rfl, J, HNB⟩
        · unfold dop9
          go_simp
          replace J := Lib.hid (J.out.newX [.slice none 0 0, .int .i64 0] 58)
          generalize u0.alloc (.cells #[.slice none 0 0, .int .i64 0] 58) = u1 at *
          generalize u0.heap.size = M at *
          (try clear sk)
          have sk := dec_sk J.out.rest.held
          refine hK.out _ _ sk (fun hHeld2 => ?_)
          clear hK K hHeld
          have hHeld := hHeld2
          clear hHeld2
          try simp only [Act.put, List.setIfInBounds_toArray, List.set_cons_zero, List.set_cons_succ]
          refine wpAnyH_ready (rs := [4, 10]) (by kernel_rfl) (by simp) (AllReadyH.cons (o := dop4) rfl (fun K hK => ?_) (AllReadyH.cons (o := dop10) rfl (fun K hK => ?_) AllReadyH.nil))
          · unfold dop4
            go_simp
            refine (KD _ _).out.mono ?_
            rintro e u2 ⟨rfl, hq⟩
            replace hq := hq.symm
            subst hq
            refine hK.out _ _ sk (fun hHeld2 => ?_)
            clear hK K hHeld
            have hHeld := hHeld2
            clear hHeld2
            try simp only [Act.put, List.setIfInBounds_toArray, List.set_cons_zero, List.set_cons_succ]
            refine wpAnyH_ready (rs := [5, 10]) (by kernel_rfl) (by simp) (AllReadyH.cons (o := dop5) rfl (fun K hK => ?_) (AllReadyH.cons (o := dop10) rfl (fun K hK => ?_) AllReadyH.nil))
            · unfold dop5
              go_simp
              refine (RD _ (J.out.rest.see _ List.mem_cons_self)).out.mono ?_
              rintro e u3 ⟨v9, pv, rfl, hv, hok, hnew, hb⟩
              obtain ⟨A9, c9, rfl, -, -⟩ := hv.shape
              obtain ⟨A8, c8, hpv, -, -⟩ := hok.shape
              dsimp only at hpv
              subst hpv
              dsimp only [agVal]
              have h8 := hok.1
              dsimp only at h8 hv
              rw [HN9.out] at hv ⊢
              rw [HN8.out] at h8 ⊢
              replace J := Lib.hid (dec_seen (J.out.step hb) hv h8)
              have HNB := Lib.hid hok.2
              (try clear sk)
              have sk := dec_sk J.out.rest.held
              clear hb hv hok hnew h8
              refine hK.out _ _ sk (fun hHeld2 => ?_)
              clear hK K hHeld
              have hHeld := hHeld2
              clear hHeld2
              try simp only [Act.put, List.setIfInBounds_toArray, List.set_cons_zero, List.set_cons_succ]
              refine wpAnyH_take (i := 6) (oi := ({ dst := some 45, op := Go.Op.move (Go.Operand.tmp 51), type := 60, pos := "ref.go:168", after := #[{ on := 5, ground := Go.Ground.data }], guard := none } : Oper)) (v := ?_) rfl (by kernel_rfl) (by kernel_rfl) (by kernel_rfl) (fun _ _ _ h => h) (Or.inl ⟨by kernel_rfl, ?_⟩) hHeld ?_
              rotate_left 1
              · (intro W hSw; (try dsimp only at hSw); go_simp; try with_reducible rfl)
              try simp only [Act.put, List.setIfInBounds_toArray, List.set_cons_zero, List.set_cons_succ]
              refine wpAnyH_take (i := 7) (oi := ({ dst := some 52, op := Go.Op.extract (Go.Operand.tmp 45) 0, type := 58, pos := "ref.go:168", after := #[{ on := 6, ground := Go.Ground.data }], guard := none } : Oper)) (v := ?_) rfl (by kernel_rfl) (by kernel_rfl) (by kernel_rfl) (fun _ _ _ h => h) (Or.inl ⟨by kernel_rfl, ?_⟩) hHeld ?_
              rotate_left 1
              · (intro W hSw; (try dsimp only at hSw); go_simp; try with_reducible rfl)
              try simp only [Act.put, List.setIfInBounds_toArray, List.set_cons_zero, List.set_cons_succ]
              refine wpAnyH_take (i := 8) (oi := ({ dst := some 53, op := Go.Op.extract (Go.Operand.tmp 45) 1, type := 43, pos := "ref.go:168", after := #[{ on := 6, ground := Go.Ground.data }, { on := 11, ground := Go.Ground.gcOnly Go.Departure.lateStores }], guard := none } : Oper)) (v := ?_) rfl (by kernel_rfl) (by kernel_rfl) (by kernel_rfl) (fun _ _ _ h => h) (Or.inl ⟨by kernel_rfl, ?_⟩) hHeld ?_
              rotate_left 1
              · (intro W hSw; (try dsimp only at hSw); go_simp; try with_reducible rfl)
              try simp only [Act.put, List.setIfInBounds_toArray, List.set_cons_zero, List.set_cons_succ]
              refine wpAnyH_ready (rs := [10]) (by kernel_rfl) (by simp) (AllReadyH.cons (o := dop10) rfl (fun K hK => ?_) AllReadyH.nil)
              unfold dop10
              go_simp
              replace J := Lib.hid (J.out.newY [.int .i64 0, .int .i64 0, .string ⟨#[]⟩, .slice none 0 0] 43)
              generalize u3.alloc (.cells #[.int .i64 0, .int .i64 0, .string ⟨#[]⟩, .slice none 0 0] 43) = u4 at *
              generalize u3.heap.size = N at *
              (try clear sk)
              have sk := dec_sk J.out.rest.held
              refine hK.out _ _ sk (fun hHeld2 => ?_)
              clear hK K hHeld
              have hHeld := hHeld2
              clear hHeld2
              try simp only [Act.put, List.setIfInBounds_toArray, List.set_cons_zero, List.set_cons_succ]
              refine wpAnyH_ready (rs := [11]) (by kernel_rfl) (by simp) (AllReadyH.cons (o := dop11) rfl (fun K hK => ?_) AllReadyH.nil)
              unfold dop11
              obtain ⟨z0, z1, zf, _⟩ := J.out.cX
              go_simp
              show K _ ((u4.setCell ⟨M, 0, none⟩ (.slice A9 n9 c9)).setCell ⟨M, 1, none⟩ (.int .i64 e9))
              replace J := Lib.hid (J.out.setX (sli_nb _ _ _) (int_nb _) (.slice A9 n9 c9) (.int .i64 e9))
              clear z0 z1 zf
              generalize ((u4.setCell ⟨M, 0, none⟩ (.slice A9 n9 c9)).setCell ⟨M, 1, none⟩ (.int .i64 e9)) = u5 at *
              (try clear sk)
              have sk := dec_sk J.out.rest.held
              refine hK.out _ _ sk (fun hHeld2 => ?_)
              clear hK K hHeld
              have hHeld := hHeld2
              clear hHeld2
              try simp only [Act.put, List.setIfInBounds_toArray, List.set_cons_zero, List.set_cons_succ]
              refine wpAnyH_ready (rs := [12]) (by kernel_rfl) (by simp) (AllReadyH.cons (o := dop12) rfl (fun K hK => ?_) AllReadyH.nil)
              unfold dop12
              obtain ⟨z0, z1, z2, z3, zf, _⟩ := J.out.cY
              go_simp
              show K _ ((((u5.setCell ⟨N, 0, none⟩ (.int .i64 kd)).setCell ⟨N, 1, none⟩ (.int .i64 nn)).setCell ⟨N, 2, none⟩ (.string sS)).setCell ⟨N, 3, none⟩ (.slice A8 n8 c8))
              replace J := Lib.hid (J.out.setY (int_nb _) (int_nb _) (str_nb _) (sli_nb _ _ _) (.int .i64 kd) (.int .i64 nn) (.string sS) (.slice A8 n8 c8))
              clear z0 z1 z2 z3 zf
              generalize ((((u5.setCell ⟨N, 0, none⟩ (.int .i64 kd)).setCell ⟨N, 1, none⟩ (.int .i64 nn)).setCell ⟨N, 2, none⟩ (.string sS)).setCell ⟨N, 3, none⟩ (.slice A8 n8 c8)) = u6 at *
              (try clear sk)
              have sk := dec_sk J.out.rest.held
              refine hK.out _ _ sk (fun hHeld2 => ?_)
              clear hK K hHeld
              have hHeld := hHeld2
              clear hHeld2
              try simp only [Act.put, List.setIfInBounds_toArray, List.set_cons_zero, List.set_cons_succ]
              refine wpAnyH_done (by kernel_rfl) ?_ _
              go_wp2_with fail
              go_meet
              exact ⟨M, N, A9, c9, A8, c8, rfl, rfl, J, HNB⟩
            · unfold dop10
              go_simp
              replace J := Lib.hid (J.out.newY [.int .i64 0, .int .i64 0, .string ⟨#[]⟩, .slice none 0 0] 43)
              generalize u2.alloc (.cells #[.int .i64 0, .int .i64 0, .string ⟨#[]⟩, .slice none 0 0] 43) = u3 at *
              generalize u2.heap.size = N at *
              (try clear sk)
              have sk := dec_sk J.out.rest.held
              refine hK.out _ _ sk (fun hHeld2 => ?_)
              clear hK K hHeld
              have hHeld := hHeld2
              clear hHeld2
              try simp only [Act.put, List.setIfInBounds_toArray, List.set_cons_zero, List.set_cons_succ]
              refine wpAnyH_ready (rs := [5]) (by kernel_rfl) (by simp) (AllReadyH.cons (o := dop5) rfl (fun K hK => ?_) AllReadyH.nil)
              unfold dop5
              go_simp
              refine (RD _ (J.out.rest.see _ List.mem_cons_self)).out.mono ?_
              rintro e u4 ⟨v9, pv, rfl, hv, hok, hnew, hb⟩
              obtain ⟨A9, c9, rfl, -, -⟩ := hv.shape
              obtain ⟨A8, c8, hpv, -, -⟩ := hok.shape
              dsimp only at hpv
              subst hpv
              dsimp only [agVal]
              have h8 := hok.1
              dsimp only at h8 hv
              rw [HN9.out] at hv ⊢
              rw [HN8.out] at h8 ⊢
              replace J := Lib.hid (dec_seen (J.out.step hb) hv h8)
              have HNB := Lib.hid hok.2
              (try clear sk)
              have sk := dec_sk J.out.rest.held
              clear hb hv hok hnew h8
              refine hK.out _ _ sk (fun hHeld2 => ?_)
              clear hK K hHeld
              have hHeld := hHeld2
              clear hHeld2
              try simp only [Act.put, List.setIfInBounds_toArray, List.set_cons_zero, List.set_cons_succ]
              refine wpAnyH_take (i := 6) (oi := ({ dst := some 45, op := Go.Op.move (Go.Operand.tmp 51), type := 60, pos := "ref.go:168", after := #[{ on := 5, ground := Go.Ground.data }], guard := none } : Oper)) (v := ?_) rfl (by kernel_rfl) (by kernel_rfl) (by kernel_rfl) (fun _ _ _ h => h) (Or.inl ⟨by kernel_rfl, ?_⟩) hHeld ?_
              rotate_left 1
              · (intro W hSw; (try dsimp only at hSw); go_simp; try with_reducible rfl)
              try simp only [Act.put, List.setIfInBounds_toArray, List.set_cons_zero, List.set_cons_succ]
              refine wpAnyH_take (i := 7) (oi := ({ dst := some 52, op := Go.Op.extract (Go.Operand.tmp 45) 0, type := 58, pos := "ref.go:168", after := #[{ on := 6, ground := Go.Ground.data }], guard := none } : Oper)) (v := ?_) rfl (by kernel_rfl) (by kernel_rfl) (by kernel_rfl) (fun _ _ _ h => h) (Or.inl ⟨by kernel_rfl, ?_⟩) hHeld ?_
              rotate_left 1
              · (intro W hSw; (try dsimp only at hSw); go_simp; try with_reducible rfl)
              try simp only [Act.put, List.setIfInBounds_toArray, List.set_cons_zero, List.set_cons_succ]
              refine wpAnyH_take (i := 8) (oi := ({ dst := some 53, op := Go.Op.extract (Go.Operand.tmp 45) 1, type := 43, pos := "ref.go:168", after := #[{ on := 6, ground := Go.Ground.data }, { on := 11, ground := Go.Ground.gcOnly Go.Departure.lateStores }], guard := none } : Oper)) (v := ?_) rfl (by kernel_rfl) (by kernel_rfl) (by kernel_rfl) (fun _ _ _ h => h) (Or.inl ⟨by kernel_rfl, ?_⟩) hHeld ?_
              rotate_left 1
              · (intro W hSw; (try dsimp only at hSw); go_simp; try with_reducible rfl)
              try simp only [Act.put, List.setIfInBounds_toArray, List.set_cons_zero, List.set_cons_succ]
              refine wpAnyH_ready (rs := [11]) (by kernel_rfl) (by simp) (AllReadyH.cons (o := dop11) rfl (fun K hK => ?_) AllReadyH.nil)
              unfold dop11
              obtain ⟨z0, z1, zf, _⟩ := J.out.cX
              go_simp
              show K _ ((u4.setCell ⟨M, 0, none⟩ (.slice A9 n9 c9)).setCell ⟨M, 1, none⟩ (.int .i64 e9))
              replace J := Lib.hid (J.out.setX (sli_nb _ _ _) (int_nb _) (.slice A9 n9 c9) (.int .i64 e9))
              clear z0 z1 zf
              generalize ((u4.setCell ⟨M, 0, none⟩ (.slice A9 n9 c9)).setCell ⟨M, 1, none⟩ (.int .i64 e9)) = u5 at *
              (try clear sk)
              have sk := dec_sk J.out.rest.held
              refine hK.out _ _ sk (fun hHeld2 => ?_)
              clear hK K hHeld
              have hHeld := hHeld2
              clear hHeld2
              try simp only [Act.put, List.setIfInBounds_toArray, List.set_cons_zero, List.set_cons_succ]
              refine wpAnyH_ready (rs := [12]) (by kernel_rfl) (by simp) (AllReadyH.cons (o := dop12) rfl (fun K hK => ?_) AllReadyH.nil)
              unfold dop12
              obtain ⟨z0, z1, z2, z3, zf, _⟩ := J.out.cY
              go_simp
              show K _ ((((u5.setCell ⟨N, 0, none⟩ (.int .i64 kd)).setCell ⟨N, 1, none⟩ (.int .i64 nn)).setCell ⟨N, 2, none⟩ (.string sS)).setCell ⟨N, 3, none⟩ (.slice A8 n8 c8))
              replace J := Lib.hid (J.out.setY (int_nb _) (int_nb _) (str_nb _) (sli_nb _ _ _) (.int .i64 kd) (.int .i64 nn) (.string sS) (.slice A8 n8 c8))
              clear z0 z1 z2 z3 zf
              generalize ((((u5.setCell ⟨N, 0, none⟩ (.int .i64 kd)).setCell ⟨N, 1, none⟩ (.int .i64 nn)).setCell ⟨N, 2, none⟩ (.string sS)).setCell ⟨N, 3, none⟩ (.slice A8 n8 c8)) = u6 at *
              (try clear sk)
              have sk := dec_sk J.out.rest.held
              refine hK.out _ _ sk (fun hHeld2 => ?_)
              clear hK K hHeld
              have hHeld := hHeld2
              clear hHeld2
              try simp only [Act.put, List.setIfInBounds_toArray, List.set_cons_zero, List.set_cons_succ]
              refine wpAnyH_done (by kernel_rfl) ?_ _
              go_wp2_with fail
              go_meet
              exact ⟨M, N, A9, c9, A8, c8, rfl, rfl, J, HNB⟩
          · unfold dop10
            go_simp
            replace J := Lib.hid (J.out.newY [.int .i64 0, .int .i64 0, .string ⟨#[]⟩, .slice none 0 0] 43)
            generalize u1.alloc (.cells #[.int .i64 0, .int .i64 0, .string ⟨#[]⟩, .slice none 0 0] 43) = u2 at *
            generalize u1.heap.size = N at *
            (try clear sk)
            have sk := dec_sk J.out.rest.held
            refine hK.out _ _ sk (fun hHeld2 => ?_)
            clear hK K hHeld
            have hHeld := hHeld2
            clear hHeld2
            try simp only [Act.put, List.setIfInBounds_toArray, List.set_cons_zero, List.set_cons_succ]
            refine wpAnyH_ready (rs := [4]) (by kernel_rfl) (by simp) (AllReadyH.cons (o := dop4) rfl (fun K hK => ?_) AllReadyH.nil)
            unfold dop4
            go_simp
            refine (KD _ _).out.mono ?_
            rintro e u3 ⟨rfl, hq⟩
            replace hq := hq.symm
            subst hq
            refine hK.out _ _ sk (fun hHeld2 => ?_)
            clear hK K hHeld
            have hHeld := hHeld2
            clear hHeld2
            try simp only [Act.put, List.setIfInBounds_toArray, List.set_cons_zero, List.set_cons_succ]
            refine wpAnyH_ready (rs := [5]) (by kernel_rfl) (by simp) (AllReadyH.cons (o := dop5) rfl (fun K hK => ?_) AllReadyH.nil)
            unfold dop5
            go_simp
            refine (RD _ (J.out.rest.see _ List.mem_cons_self)).out.mono ?_
            rintro e u4 ⟨v9, pv, rfl, hv, hok, hnew, hb⟩
            obtain ⟨A9, c9, rfl, -, -⟩ := hv.shape
            obtain ⟨A8, c8, hpv, -, -⟩ := hok.shape
            dsimp only at hpv
            subst hpv
            dsimp only [agVal]
            have h8 := hok.1
            dsimp only at h8 hv
            rw [HN9.out] at hv ⊢
            rw [HN8.out] at h8 ⊢
            replace J := Lib.hid (dec_seen (J.out.step hb) hv h8)
            have HNB := Lib.hid hok.2
            (try clear sk)
            have sk := dec_sk J.out.rest.held
            clear hb hv hok hnew h8
            refine hK.out _ _ sk (fun hHeld2 => ?_)
            clear hK K hHeld
            have hHeld := hHeld2
            clear hHeld2
            try simp only [Act.put, List.setIfInBounds_toArray, List.set_cons_zero, List.set_cons_succ]
            refine wpAnyH_take (i := 6) (oi := ({ dst := some 45, op := Go.Op.move (Go.Operand.tmp 51), type := 60, pos := "ref.go:168", after := #[{ on := 5, ground := Go.Ground.data }], guard := none } : Oper)) (v := ?_) rfl (by kernel_rfl) (by kernel_rfl) (by kernel_rfl) (fun _ _ _ h => h) (Or.inl ⟨by kernel_rfl, ?_⟩) hHeld ?_
            rotate_left 1
            · (intro W hSw; (try dsimp only at hSw); go_simp; try with_reducible rfl)
            try simp only [Act.put, List.setIfInBounds_toArray, List.set_cons_zero, List.set_cons_succ]
            refine wpAnyH_take (i := 7) (oi := ({ dst := some 52, op := Go.Op.extract (Go.Operand.tmp 45) 0, type := 58, pos := "ref.go:168", after := #[{ on := 6, ground := Go.Ground.data }], guard := none } : Oper)) (v := ?_) rfl (by kernel_rfl) (by kernel_rfl) (by kernel_rfl) (fun _ _ _ h => h) (Or.inl ⟨by kernel_rfl, ?_⟩) hHeld ?_
            rotate_left 1
            · (intro W hSw; (try dsimp only at hSw); go_simp; try with_reducible rfl)
            try simp only [Act.put, List.setIfInBounds_toArray, List.set_cons_zero, List.set_cons_succ]
            refine wpAnyH_take (i := 8) (oi := ({ dst := some 53, op := Go.Op.extract (Go.Operand.tmp 45) 1, type := 43, pos := "ref.go:168", after := #[{ on := 6, ground := Go.Ground.data }, { on := 11, ground := Go.Ground.gcOnly Go.Departure.lateStores }], guard := none } : Oper)) (v := ?_) rfl (by kernel_rfl) (by kernel_rfl) (by kernel_rfl) (fun _ _ _ h => h) (Or.inl ⟨by kernel_rfl, ?_⟩) hHeld ?_
            rotate_left 1
            · (intro W hSw; (try dsimp only at hSw); go_simp; try with_reducible rfl)
            try simp only [Act.put, List.setIfInBounds_toArray, List.set_cons_zero, List.set_cons_succ]
            refine wpAnyH_ready (rs := [11]) (by kernel_rfl) (by simp) (AllReadyH.cons (o := dop11) rfl (fun K hK => ?_) AllReadyH.nil)
            unfold dop11
            obtain ⟨z0, z1, zf, _⟩ := J.out.cX
            go_simp
            show K _ ((u4.setCell ⟨M, 0, none⟩ (.slice A9 n9 c9)).setCell ⟨M, 1, none⟩ (.int .i64 e9))
            replace J := Lib.hid (J.out.setX (sli_nb _ _ _) (int_nb _) (.slice A9 n9 c9) (.int .i64 e9))
            clear z0 z1 zf
            generalize ((u4.setCell ⟨M, 0, none⟩ (.slice A9 n9 c9)).setCell ⟨M, 1, none⟩ (.int .i64 e9)) = u5 at *
            (try clear sk)
            have sk := dec_sk J.out.rest.held
            refine hK.out _ _ sk (fun hHeld2 => ?_)
            clear hK K hHeld
            have hHeld := hHeld2
            clear hHeld2
            try simp only [Act.put, List.setIfInBounds_toArray, List.set_cons_zero, List.set_cons_succ]
            refine wpAnyH_ready (rs := [12]) (by kernel_rfl) (by simp) (AllReadyH.cons (o := dop12) rfl (fun K hK => ?_) AllReadyH.nil)
            unfold dop12
            obtain ⟨z0, z1, z2, z3, zf, _⟩ := J.out.cY
            go_simp
            show K _ ((((u5.setCell ⟨N, 0, none⟩ (.int .i64 kd)).setCell ⟨N, 1, none⟩ (.int .i64 nn)).setCell ⟨N, 2, none⟩ (.string sS)).setCell ⟨N, 3, none⟩ (.slice A8 n8 c8))
            replace J := Lib.hid (J.out.setY (int_nb _) (int_nb _) (str_nb _) (sli_nb _ _ _) (.int .i64 kd) (.int .i64 nn) (.string sS) (.slice A8 n8 c8))
            clear z0 z1 z2 z3 zf
            generalize ((((u5.setCell ⟨N, 0, none⟩ (.int .i64 kd)).setCell ⟨N, 1, none⟩ (.int .i64 nn)).setCell ⟨N, 2, none⟩ (.string sS)).setCell ⟨N, 3, none⟩ (.slice A8 n8 c8)) = u6 at *
            (try clear sk)
            have sk := dec_sk J.out.rest.held
            refine hK.out _ _ sk (fun hHeld2 => ?_)
            clear hK K hHeld
            have hHeld := hHeld2
            clear hHeld2
            try simp only [Act.put, List.setIfInBounds_toArray, List.set_cons_zero, List.set_cons_succ]
            refine wpAnyH_done (by kernel_rfl) ?_ _
            go_wp2_with fail
            go_meet
            exact ⟨M, N, A9, c9, A8, c8, rfl, rfl, J, HNB⟩
        · unfold dop10
          go_simp
          replace J := Lib.hid (J.out.newY [.int .i64 0, .int .i64 0, .string ⟨#[]⟩, .slice none 0 0] 43)
          generalize u0.alloc (.cells #[.int .i64 0, .int .i64 0, .string ⟨#[]⟩, .slice none 0 0] 43) = u1 at *
          generalize u0.heap.size = N at *
          (try clear sk)
          have sk := dec_sk J.out.rest.held
          refine hK.out _ _ sk (fun hHeld2 => ?_)
          clear hK K hHeld
          have hHeld := hHeld2
          clear hHeld2
          try simp only [Act.put, List.setIfInBounds_toArray, List.set_cons_zero, List.set_cons_succ]
          refine wpAnyH_ready (rs := [4, 9]) (by kernel_rfl) (by simp) (AllReadyH.cons (o := dop4) rfl (fun K hK => ?_) (AllReadyH.cons (o := dop9) rfl (fun K hK => ?_) AllReadyH.nil))
          · unfold dop4
            go_simp
            refine (KD _ _).out.mono ?_
            rintro e u2 ⟨rfl, hq⟩
            replace hq := hq.symm
            subst hq
            refine hK.out _ _ sk (fun hHeld2 => ?_)
            clear hK K hHeld
            have hHeld := hHeld2
            clear hHeld2
            try simp only [Act.put, List.setIfInBounds_toArray, List.set_cons_zero, List.set_cons_succ]
            refine wpAnyH_ready (rs := [5, 9]) (by kernel_rfl) (by simp) (AllReadyH.cons (o := dop5) rfl (fun K hK => ?_) (AllReadyH.cons (o := dop9) rfl (fun K hK => ?_) AllReadyH.nil))
            · unfold dop5
              go_simp
              refine (RD _ (J.out.rest.see _ List.mem_cons_self)).out.mono ?_
              rintro e u3 ⟨v9, pv, rfl, hv, hok, hnew, hb⟩
              obtain ⟨A9, c9, rfl, -, -⟩ := hv.shape
              obtain ⟨A8, c8, hpv, -, -⟩ := hok.shape
              dsimp only at hpv
              subst hpv
              dsimp only [agVal]
              have h8 := hok.1
              dsimp only at h8 hv
              rw [HN9.out] at hv ⊢
              rw [HN8.out] at h8 ⊢
              replace J := Lib.hid (dec_seen (J.out.step hb) hv h8)
              have HNB := Lib.hid hok.2
              (try clear sk)
              have sk := dec_sk J.out.rest.held
              clear hb hv hok hnew h8
              refine hK.out _ _ sk (fun hHeld2 => ?_)
              clear hK K hHeld
              have hHeld := hHeld2
              clear hHeld2
              try simp only [Act.put, List.setIfInBounds_toArray, List.set_cons_zero, List.set_cons_succ]
              refine wpAnyH_take (i := 6) (oi := ({ dst := some 45, op := Go.Op.move (Go.Operand.tmp 51), type := 60, pos := "ref.go:168", after := #[{ on := 5, ground := Go.Ground.data }], guard := none } : Oper)) (v := ?_) rfl (by kernel_rfl) (by kernel_rfl) (by kernel_rfl) (fun _ _ _ h => h) (Or.inl ⟨by kernel_rfl, ?_⟩) hHeld ?_
              rotate_left 1
              · (intro W hSw; (try dsimp only at hSw); go_simp; try with_reducible rfl)
              try simp only [Act.put, List.setIfInBounds_toArray, List.set_cons_zero, List.set_cons_succ]
              refine wpAnyH_take (i := 7) (oi := ({ dst := some 52, op := Go.Op.extract (Go.Operand.tmp 45) 0, type := 58, pos := "ref.go:168", after := #[{ on := 6, ground := Go.Ground.data }], guard := none } : Oper)) (v := ?_) rfl (by kernel_rfl) (by kernel_rfl) (by kernel_rfl) (fun _ _ _ h => h) (Or.inl ⟨by kernel_rfl, ?_⟩) hHeld ?_
              rotate_left 1
              · (intro W hSw; (try dsimp only at hSw); go_simp; try with_reducible rfl)
              try simp only [Act.put, List.setIfInBounds_toArray, List.set_cons_zero, List.set_cons_succ]
              refine wpAnyH_take (i := 8) (oi := ({ dst := some 53, op := Go.Op.extract (Go.Operand.tmp 45) 1, type := 43, pos := "ref.go:168", after := #[{ on := 6, ground := Go.Ground.data }, { on := 11, ground := Go.Ground.gcOnly Go.Departure.lateStores }], guard := none } : Oper)) (v := ?_) rfl (by kernel_rfl) (by kernel_rfl) (by kernel_rfl) (fun _ _ _ h => h) (Or.inl ⟨by kernel_rfl, ?_⟩) hHeld ?_
              rotate_left 1
              · (intro W hSw; (try dsimp only at hSw); go_simp; try with_reducible rfl)
              try simp only [Act.put, List.setIfInBounds_toArray, List.set_cons_zero, List.set_cons_succ]
              refine wpAnyH_ready (rs := [9]) (by kernel_rfl) (by simp) (AllReadyH.cons (o := dop9) rfl (fun K hK => ?_) AllReadyH.nil)
              unfold dop9
              go_simp
              replace J := Lib.hid (J.out.newX [.slice none 0 0, .int .i64 0] 58)
              generalize u3.alloc (.cells #[.slice none 0 0, .int .i64 0] 58) = u4 at *
              generalize u3.heap.size = M at *
              (try clear sk)
              have sk := dec_sk J.out.rest.held
              refine hK.out _ _ sk (fun hHeld2 => ?_)
              clear hK K hHeld
              have hHeld := hHeld2
              clear hHeld2
              try simp only [Act.put, List.setIfInBounds_toArray, List.set_cons_zero, List.set_cons_succ]
              refine wpAnyH_ready (rs := [11]) (by kernel_rfl) (by simp) (AllReadyH.cons (o := dop11) rfl (fun K hK => ?_) AllReadyH.nil)
              unfold dop11
              obtain ⟨z0, z1, zf, _⟩ := J.out.cX
              go_simp
              show K _ ((u4.setCell ⟨M, 0, none⟩ (.slice A9 n9 c9)).setCell ⟨M, 1, none⟩ (.int .i64 e9))
              replace J := Lib.hid (J.out.setX (sli_nb _ _ _) (int_nb _) (.slice A9 n9 c9) (.int .i64 e9))
              clear z0 z1 zf
              generalize ((u4.setCell ⟨M, 0, none⟩ (.slice A9 n9 c9)).setCell ⟨M, 1, none⟩ (.int .i64 e9)) = u5 at *
              (try clear sk)
              have sk := dec_sk J.out.rest.held
              refine hK.out _ _ sk (fun hHeld2 => ?_)
              clear hK K hHeld
              have hHeld := hHeld2
              clear hHeld2
              try simp only [Act.put, List.setIfInBounds_toArray, List.set_cons_zero, List.set_cons_succ]
              refine wpAnyH_ready (rs := [12]) (by kernel_rfl) (by simp) (AllReadyH.cons (o := dop12) rfl (fun K hK => ?_) AllReadyH.nil)
              unfold dop12
              obtain ⟨z0, z1, z2, z3, zf, _⟩ := J.out.cY
              go_simp
              show K _ ((((u5.setCell ⟨N, 0, none⟩ (.int .i64 kd)).setCell ⟨N, 1, none⟩ (.int .i64 nn)).setCell ⟨N, 2, none⟩ (.string sS)).setCell ⟨N, 3, none⟩ (.slice A8 n8 c8))
              replace J := Lib.hid (J.out.setY (int_nb _) (int_nb _) (str_nb _) (sli_nb _ _ _) (.int .i64 kd) (.int .i64 nn) (.string sS) (.slice A8 n8 c8))
              clear z0 z1 z2 z3 zf
              generalize ((((u5.setCell ⟨N, 0, none⟩ (.int .i64 kd)).setCell ⟨N, 1, none⟩ (.int .i64 nn)).setCell ⟨N, 2, none⟩ (.string sS)).setCell ⟨N, 3, none⟩ (.slice A8 n8 c8)) = u6 at *
              (try clear sk)
              have sk := dec_sk J.out.rest.held
              refine hK.out _ _ sk (fun hHeld2 => ?_)
              clear hK K hHeld
              have hHeld := hHeld2
              clear hHeld2
              try simp only [Act.put, List.setIfInBounds_toArray, List.set_cons_zero, List.set_cons_succ]
              refine wpAnyH_done (by kernel_rfl) ?_ _
              go_wp2_with fail
              go_meet
              exact ⟨M, N, A9, c9, A8, c8, rfl, rfl, J, HNB⟩
            · unfold dop9
              go_simp
              replace J := Lib.hid (J.out.newX [.slice none 0 0, .int .i64 0] 58)
              generalize u2.alloc (.cells #[.slice none 0 0, .int .i64 0] 58) = u3 at *
              generalize u2.heap.size = M at *
              (try clear sk)
              have sk := dec_sk J.out.rest.held
              refine hK.out _ _ sk (fun hHeld2 => ?_)
              clear hK K hHeld
              have hHeld := hHeld2
              clear hHeld2
              try simp only [Act.put, List.setIfInBounds_toArray, List.set_cons_zero, List.set_cons_succ]
              refine wpAnyH_ready (rs := [5]) (by kernel_rfl) (by simp) (AllReadyH.cons (o := dop5) rfl (fun K hK => ?_) AllReadyH.nil)
              unfold dop5
              go_simp
              refine (RD _ (J.out.rest.see _ List.mem_cons_self)).out.mono ?_
              rintro e u4 ⟨v9, pv, rfl, hv, hok, hnew, hb⟩
              obtain ⟨A9, c9, rfl, -, -⟩ := hv.shape
              obtain ⟨A8, c8, hpv, -, -⟩ := hok.shape
              dsimp only at hpv
              subst hpv
              dsimp only [agVal]
              have h8 := hok.1
              dsimp only at h8 hv
              rw [HN9.out] at hv ⊢
              rw [HN8.out] at h8 ⊢
              replace J := Lib.hid (dec_seen (J.out.step hb) hv h8)
              have HNB := Lib.hid hok.2
              (try clear sk)
              have sk := dec_sk J.out.rest.held
              clear hb hv hok hnew h8
              refine hK.out _ _ sk (fun hHeld2 => ?_)
              clear hK K hHeld
              have hHeld := hHeld2
              clear hHeld2
              try simp only [Act.put, List.setIfInBounds_toArray, List.set_cons_zero, List.set_cons_succ]
              refine wpAnyH_take (i := 6) (oi := ({ dst := some 45, op := Go.Op.move (Go.Operand.tmp 51), type := 60, pos := "ref.go:168", after := #[{ on := 5, ground := Go.Ground.data }], guard := none } : Oper)) (v := ?_) rfl (by kernel_rfl) (by kernel_rfl) (by kernel_rfl) (fun _ _ _ h => h) (Or.inl ⟨by kernel_rfl, ?_⟩) hHeld ?_
              rotate_left 1
              · (intro W hSw; (try dsimp only at hSw); go_simp; try with_reducible rfl)
              try simp only [Act.put, List.setIfInBounds_toArray, List.set_cons_zero, List.set_cons_succ]
              refine wpAnyH_take (i := 7) (oi := ({ dst := some 52, op := Go.Op.extract (Go.Operand.tmp 45) 0, type := 58, pos := "ref.go:168", after := #[{ on := 6, ground := Go.Ground.data }], guard := none } : Oper)) (v := ?_) rfl (by kernel_rfl) (by kernel_rfl) (by kernel_rfl) (fun _ _ _ h => h) (Or.inl ⟨by kernel_rfl, ?_⟩) hHeld ?_
              rotate_left 1
              · (intro W hSw; (try dsimp only at hSw); go_simp; try with_reducible rfl)
              try simp only [Act.put, List.setIfInBounds_toArray, List.set_cons_zero, List.set_cons_succ]
              refine wpAnyH_take (i := 8) (oi := ({ dst := some 53, op := Go.Op.extract (Go.Operand.tmp 45) 1, type := 43, pos := "ref.go:168", after := #[{ on := 6, ground := Go.Ground.data }, { on := 11, ground := Go.Ground.gcOnly Go.Departure.lateStores }], guard := none } : Oper)) (v := ?_) rfl (by kernel_rfl) (by kernel_rfl) (by kernel_rfl) (fun _ _ _ h => h) (Or.inl ⟨by kernel_rfl, ?_⟩) hHeld ?_
              rotate_left 1
              · (intro W hSw; (try dsimp only at hSw); go_simp; try with_reducible rfl)
              try simp only [Act.put, List.setIfInBounds_toArray, List.set_cons_zero, List.set_cons_succ]
              refine wpAnyH_ready (rs := [11]) (by kernel_rfl) (by simp) (AllReadyH.cons (o := dop11) rfl (fun K hK => ?_) AllReadyH.nil)
              unfold dop11
              obtain ⟨z0, z1, zf, _⟩ := J.out.cX
              go_simp
              show K _ ((u4.setCell ⟨M, 0, none⟩ (.slice A9 n9 c9)).setCell ⟨M, 1, none⟩ (.int .i64 e9))
              replace J := Lib.hid (J.out.setX (sli_nb _ _ _) (int_nb _) (.slice A9 n9 c9) (.int .i64 e9))
              clear z0 z1 zf
              generalize ((u4.setCell ⟨M, 0, none⟩ (.slice A9 n9 c9)).setCell ⟨M, 1, none⟩ (.int .i64 e9)) = u5 at *
              (try clear sk)
              have sk := dec_sk J.out.rest.held
              refine hK.out _ _ sk (fun hHeld2 => ?_)
              clear hK K hHeld
              have hHeld := hHeld2
              clear hHeld2
              try simp only [Act.put, List.setIfInBounds_toArray, List.set_cons_zero, List.set_cons_succ]
              refine wpAnyH_ready (rs := [12]) (by kernel_rfl) (by simp) (AllReadyH.cons (o := dop12) rfl (fun K hK => ?_) AllReadyH.nil)
              unfold dop12
              obtain ⟨z0, z1, z2, z3, zf, _⟩ := J.out.cY
              go_simp
              show K _ ((((u5.setCell ⟨N, 0, none⟩ (.int .i64 kd)).setCell ⟨N, 1, none⟩ (.int .i64 nn)).setCell ⟨N, 2, none⟩ (.string sS)).setCell ⟨N, 3, none⟩ (.slice A8 n8 c8))
              replace J := Lib.hid (J.out.setY (int_nb _) (int_nb _) (str_nb _) (sli_nb _ _ _) (.int .i64 kd) (.int .i64 nn) (.string sS) (.slice A8 n8 c8))
              clear z0 z1 z2 z3 zf
              generalize ((((u5.setCell ⟨N, 0, none⟩ (.int .i64 kd)).setCell ⟨N, 1, none⟩ (.int .i64 nn)).setCell ⟨N, 2, none⟩ (.string sS)).setCell ⟨N, 3, none⟩ (.slice A8 n8 c8)) = u6 at *
              (try clear sk)
              have sk := dec_sk J.out.rest.held
              refine hK.out _ _ sk (fun hHeld2 => ?_)
              clear hK K hHeld
              have hHeld := hHeld2
              clear hHeld2
              try simp only [Act.put, List.setIfInBounds_toArray, List.set_cons_zero, List.set_cons_succ]
              refine wpAnyH_done (by kernel_rfl) ?_ _
              go_wp2_with fail
              go_meet
              exact ⟨M, N, A9, c9, A8, c8, rfl, rfl, J, HNB⟩
          · unfold dop9
            go_simp
            replace J := Lib.hid (J.out.newX [.slice none 0 0, .int .i64 0] 58)
            generalize u1.alloc (.cells #[.slice none 0 0, .int .i64 0] 58) = u2 at *
            generalize u1.heap.size = M at *
            (try clear sk)
            have sk := dec_sk J.out.rest.held
            refine hK.out _ _ sk (fun hHeld2 => ?_)
            clear hK K hHeld
            have hHeld := hHeld2
            clear hHeld2
            try simp only [Act.put, List.setIfInBounds_toArray, List.set_cons_zero, List.set_cons_succ]
            refine wpAnyH_ready (rs := [4]) (by kernel_rfl) (by simp) (AllReadyH.cons (o := dop4) rfl (fun K hK => ?_) AllReadyH.nil)
            unfold dop4
            go_simp
            refine (KD _ _).out.mono ?_
            rintro e u3 ⟨rfl, hq⟩
            replace hq := hq.symm
            subst hq
            refine hK.out _ _ sk (fun hHeld2 => ?_)
            clear hK K hHeld
            have hHeld := hHeld2
            clear hHeld2
            try simp only [Act.put, List.setIfInBounds_toArray, List.set_cons_zero, List.set_cons_succ]
            refine wpAnyH_ready (rs := [5]) (by kernel_rfl) (by simp) (AllReadyH.cons (o := dop5) rfl (fun K hK => ?_) AllReadyH.nil)
            unfold dop5
            go_simp
            refine (RD _ (J.out.rest.see _ List.mem_cons_self)).out.mono ?_
            rintro e u4 ⟨v9, pv, rfl, hv, hok, hnew, hb⟩
            obtain ⟨A9, c9, rfl, -, -⟩ := hv.shape
            obtain ⟨A8, c8, hpv, -, -⟩ := hok.shape
            dsimp only at hpv
            subst hpv
            dsimp only [agVal]
            have h8 := hok.1
            dsimp only at h8 hv
            rw [HN9.out] at hv ⊢
            rw [HN8.out] at h8 ⊢
            replace J := Lib.hid (dec_seen (J.out.step hb) hv h8)
            have HNB := Lib.hid hok.2
            (try clear sk)
            have sk := dec_sk J.out.rest.held
            clear hb hv hok hnew h8
            refine hK.out _ _ sk (fun hHeld2 => ?_)
            clear hK K hHeld
            have hHeld := hHeld2
            clear hHeld2
            try simp only [Act.put, List.setIfInBounds_toArray, List.set_cons_zero, List.set_cons_succ]
            refine wpAnyH_take (i := 6) (oi := ({ dst := some 45, op := Go.Op.move (Go.Operand.tmp 51), type := 60, pos := "ref.go:168", after := #[{ on := 5, ground := Go.Ground.data }], guard := none } : Oper)) (v := ?_) rfl (by kernel_rfl) (by kernel_rfl) (by kernel_rfl) (fun _ _ _ h => h) (Or.inl ⟨by kernel_rfl, ?_⟩) hHeld ?_
            rotate_left 1
            · (intro W hSw; (try dsimp only at hSw); go_simp; try with_reducible rfl)
            try simp only [Act.put, List.setIfInBounds_toArray, List.set_cons_zero, List.set_cons_succ]
            refine wpAnyH_take (i := 7) (oi := ({ dst := some 52, op := Go.Op.extract (Go.Operand.tmp 45) 0, type := 58, pos := "ref.go:168", after := #[{ on := 6, ground := Go.Ground.data }], guard := none } : Oper)) (v := ?_) rfl (by kernel_rfl) (by kernel_rfl) (by kernel_rfl) (fun _ _ _ h => h) (Or.inl ⟨by kernel_rfl, ?_⟩) hHeld ?_
            rotate_left 1
            · (intro W hSw; (try dsimp only at hSw); go_simp; try with_reducible rfl)
            try simp only [Act.put, List.setIfInBounds_toArray, List.set_cons_zero, List.set_cons_succ]
            refine wpAnyH_take (i := 8) (oi := ({ dst := some 53, op := Go.Op.extract (Go.Operand.tmp 45) 1, type := 43, pos := "ref.go:168", after := #[{ on := 6, ground := Go.Ground.data }, { on := 11, ground := Go.Ground.gcOnly Go.Departure.lateStores }], guard := none } : Oper)) (v := ?_) rfl (by kernel_rfl) (by kernel_rfl) (by kernel_rfl) (fun _ _ _ h => h) (Or.inl ⟨by kernel_rfl, ?_⟩) hHeld ?_
            rotate_left 1
            · (intro W hSw; (try dsimp only at hSw); go_simp; try with_reducible rfl)
            try simp only [Act.put, List.setIfInBounds_toArray, List.set_cons_zero, List.set_cons_succ]
            refine wpAnyH_ready (rs := [11]) (by kernel_rfl) (by simp) (AllReadyH.cons (o := dop11) rfl (fun K hK => ?_) AllReadyH.nil)
            unfold dop11
            obtain ⟨z0, z1, zf, _⟩ := J.out.cX
            go_simp
            show K _ ((u4.setCell ⟨M, 0, none⟩ (.slice A9 n9 c9)).setCell ⟨M, 1, none⟩ (.int .i64 e9))
            replace J := Lib.hid (J.out.setX (sli_nb _ _ _) (int_nb _) (.slice A9 n9 c9) (.int .i64 e9))
            clear z0 z1 zf
            generalize ((u4.setCell ⟨M, 0, none⟩ (.slice A9 n9 c9)).setCell ⟨M, 1, none⟩ (.int .i64 e9)) = u5 at *
            (try clear sk)
            have sk := dec_sk J.out.rest.held
            refine hK.out _ _ sk (fun hHeld2 => ?_)
            clear hK K hHeld
            have hHeld := hHeld2
            clear hHeld2
            try simp only [Act.put, List.setIfInBounds_toArray, List.set_cons_zero, List.set_cons_succ]
            refine wpAnyH_ready (rs := [12]) (by kernel_rfl) (by simp) (AllReadyH.cons (o := dop12) rfl (fun K hK => ?_) AllReadyH.nil)
            unfold dop12
            obtain ⟨z0, z1, z2, z3, zf, _⟩ := J.out.cY
            go_simp
            show K _ ((((u5.setCell ⟨N, 0, none⟩ (.int .i64 kd)).setCell ⟨N, 1, none⟩ (.int .i64 nn)).setCell ⟨N, 2, none⟩ (.string sS)).setCell ⟨N, 3, none⟩ (.slice A8 n8 c8))
            replace J := Lib.hid (J.out.setY (int_nb _) (int_nb _) (str_nb _) (sli_nb _ _ _) (.int .i64 kd) (.int .i64 nn) (.string sS) (.slice A8 n8 c8))
            clear z0 z1 z2 z3 zf
            generalize ((((u5.setCell ⟨N, 0, none⟩ (.int .i64 kd)).setCell ⟨N, 1, none⟩ (.int .i64 nn)).setCell ⟨N, 2, none⟩ (.string sS)).setCell ⟨N, 3, none⟩ (.slice A8 n8 c8)) = u6 at *
            (try clear sk)
            have sk := dec_sk J.out.rest.held
            refine hK.out _ _ sk (fun hHeld2 => ?_)
            clear hK K hHeld
            have hHeld := hHeld2
            clear hHeld2
            try simp only [Act.put, List.setIfInBounds_toArray, List.set_cons_zero, List.set_cons_succ]
            refine wpAnyH_done (by kernel_rfl) ?_ _
            go_wp2_with fail
            go_meet
            exact ⟨M, N, A9, c9, A8, c8, rfl, rfl, J, HNB⟩

      case rest =>
        obtain ⟨M, N, A9, c9, A8, c8, rfl, rfl, J9, HSZ⟩ := hcut
        clear J RD KD g0 g1
        have ER0 := fun (W : World) => @rerr_any W A9 n9 c9 e9
        unfold rv at ER0
        have ER := fun W => Lib.hid (ER0 W)
        clear ER0
        obtain ⟨z0, z1, -, -⟩ := J9.out.cX
        by_cases he : e9 = 0
        · subst he
          go_wp2_with fail
          refine (ER _).out.mono ?_
          rintro e wq ⟨rfl, hbq⟩
          replace J9 := Lib.hid (J9.out.step hbq)
          clear hbq z0 z1 ER
          have IR0 := range_any ((⟨kd, nn, sS, bB⟩, .slice A8 n8 c8) : AgV) (w := wq) ⟨J9.out.rest.see (.slice A8 n8 c8, bB) (by simp [decV]), HSZ.out⟩
          dsimp only [agVal] at IR0
          obtain ⟨t, ht⟩ : ∃ t, rngB ⟨kd, nn, sS, bB⟩ = t := ⟨_, rfl⟩
          rw [ht] at IR0
          have HT := Lib.hid ht
          have IR := Lib.hid IR0
          clear IR0 ht
          obtain ⟨z0, z1, z2, z3, -, -⟩ := J9.out.cY
          cases t with
          | false =>
            have hR := hst2.out.2.1 (by simp) HT.out
            have hx := HX.out
            rw [hR, if_pos (by decide)] at hx
            subst hx
            clear hst2 HX HI hR
            go_wp2_with fail
            refine IR.out.mono ?_
            rintro e wq2 ⟨rfl, hbq⟩
            replace J9 := Lib.hid (J9.out.step hbq)
            clear hbq z0 z1 z2 z3 IR
            obtain ⟨y0, y1, y2, yf, -⟩ := (show Held w wq2 ([_, _] ++ (w.heap.size + 1, _) :: [_]) from J9.out.rest.held).tri
            have K := Lib.hid ((show Held w wq2 ([_, _] ++ (w.heap.size + 1, zero3) :: [_]) from J9.out.rest.held).set3 (.int .u32 0) (.int .i64 0) (.slice none 0 0))
            clear J9
            go_wp2_with fail
            have hK := K.out
            unfold Go.Proofs.YtmpkjjmgfakomaaDoor.set3 at hK
            obtain ⟨y0, y1, y2, -, -⟩ := (show Held w _ ([_, _] ++ (w.heap.size + 1, _) :: [_]) from hK).tri
            exact bodyPost_ret (v := .tuple #[.agg #[.int .u32 0, .int .i64 0, .slice none 0 0], .int .i64 6]) (by simp [results, Tryd.results15, go_sem, y0, y1, y2]) rfl ⟨_, [], rfl, ags_nil _, rfl, hK.below⟩
          | true =>
            have HI2 := Lib.hid (hst2.out.2.2 (by simp) HT.out)
            clear hst2 HI
            go_wp2_with fail
            refine IR.out.mono ?_
            rintro e wq2 ⟨rfl, hbq⟩
            replace J9 := Lib.hid (J9.out.step hbq)
            clear hbq z0 z1 z2 z3 IR
            obtain ⟨z0, z1, -, -⟩ := J9.out.cX
            obtain ⟨y0, y1, yf, -⟩ := (show Held w wq2 ([_] ++ (k3, _) :: [_, _]) from J9.out.rest.held).two
            have J10 : Hid (DS w ((wq2.setCell ⟨k3, 0, none⟩ (.slice A9 n9 c9)).setCell ⟨k3, 1, none⟩ (.int .i64 0)) ([(M, [.slice A9 n9 c9, .int .i64 0]), (N, [.int .i64 kd, .int .i64 nn, .string sS, .slice A8 n8 c8]), (k4, [.int .u32 (ob : Int), .int .i64 oc, v3])] ++ (k3, [.slice A9 n9 c9, .int .i64 0]) :: [(w.heap.size + 1, [.int .u32 0, .int .i64 0, .slice none 0 0]), (w.heap.size, [.int .u32 (ob : Int), .int .i64 oc, .slice AF nF cF])]) (decV (.slice A1 n1 c1) s l ++ [(.slice A9 n9 c9, b9), (.slice A8 n8 c8, bB)]) v3 l) :=
              Lib.hid (((show DS w wq2 ([_, _, _] ++ (k3, [.slice A1 n1 c1, .int .i64 0]) :: [_, _]) _ v3 l from J9.out).cell (i := 0) rfl (sli_nb _ _ _) (.slice A9 n9 c9)).cell (i := 1) rfl (int_nb _) (.int .i64 0))
            clear J9
            go_upto_region 18 with (fail)
            obtain ⟨A3, c3, rfl, -, -⟩ := J10.out.own.agk.shape
            generalize (wq2.setCell ⟨k3, 0, none⟩ (.slice A9 n9 c9)).setCell ⟨k3, 1, none⟩ (.int .i64 0) = wz at *
            clear z0 z1 y0 y1 yf
            obtain ⟨z0, z1, z2, z3, -, -⟩ := (show Held w wz ([_] ++ (N, [.int .i64 kd, .int .i64 nn, .string sS, .slice A8 n8 c8]) :: [_, _, _, _]) from J10.out.held).four
            obtain ⟨y0, y1, y2, -, -⟩ := (show Held w wz ([_, _] ++ (k4, [.int .u32 (ob : Int), .int .i64 oc, .slice A3 l.length c3]) :: [_, _, _]) from J10.out.held).tri
            have hl1 : l.length + 1 ≤ 4000000 := by have := HS.out.1; omega
            have DB := Lib.hid (J10.out.alloc [.int .i64 kd, .int .i64 nn, .string sS, .slice A8 n8 c8] 43)
            have HS2 : Hid ((l ++ [((⟨kd, nn, sS, bB⟩, .slice A8 n8 c8) : AgV)]).length ≤ i + 1 ∧ b9.length ≤ 1000000 ∧ ∀ p ∈ l ++ [((⟨kd, nn, sS, bB⟩, .slice A8 n8 c8) : AgV)], p.1.ss.size ≤ maxLen) := Lib.hid ⟨by
              have := HS.out.1
              rw [List.length_append, List.length_singleton]
              omega, HLE.out, fun p hp => by
              rcases List.mem_append.1 hp with hp | hp
              · exact HS.out.2.2 p hp
              · rw [List.mem_singleton.1 hp]
                exact HSZ.out⟩
            replace HI2 : Hid (decF (b9, 0) (agL (l ++ [((⟨kd, nn, sS, bB⟩, .slice A8 n8 c8) : AgV)])) ((kdsT (sl sg)).drop (i + 1)) = R) := Lib.hid (by
              rw [agL_snoc]
              exact HI2.out)
            clear J10 HS HLE HSZ HT
            go_wp2_with (at_builtin; refine wpList_appN rfl _ _ rfl (base := w.heap.size) (l := l) (p := ((⟨kd, nn, sS, bB⟩, .slice A8 n8 c8) : AgV)) rfl DB.out.own DB.out.nob rfl (agk_one wz ((⟨kd, nn, sS, bB⟩, .slice A8 n8 c8) : AgV)) (sli_nb _ _ _) rfl hl1 DB.out.held.below.size ?_; intro v1 w1 ho1 hn1 hg1 hw1; have DN0 := dec_app (p := ((⟨kd, nn, sS, bB⟩, .slice A8 n8 c8) : AgV)) DB.out ho1 hn1 hg1 hw1; obtain ⟨A7, c7, rfl, -, -⟩ := ho1.agk.shape; obtain ⟨⟨x2, xf⟩, DN1⟩ := DN0; have DN := Lib.hid DN1; clear DB DN1 ho1 hn1 hg1 hw1)
            all_goals
              rw [show (l ++ [((⟨kd, nn, sS, bB⟩, .slice A8 n8 c8) : AgV)]).length = l.length + 1 by simp] at DN
              go_roundw
              case rel => exact ⟨i + 1, _, _, b9, A9, n9, c9, by omega, by go_num, HS2, HI2, DN⟩
              case measure =>
                unfold leftN
                simp [intOf]
                omega
        · have hR := hst2.out.1 he
          have hx := HX.out
          rw [hR, if_pos he] at hx
          subst hx
          clear hst2 HX HI hR
          go_wp2_with fail
          refine (ER _).out.mono ?_
          rintro e wq ⟨rfl, hbq⟩
          replace J9 := Lib.hid (J9.out.step hbq)
          clear hbq z0 z1
          obtain ⟨z0, z1, -, -⟩ := J9.out.cX
          go_wp2_with fail
          refine (ER _).out.mono ?_
          rintro e wq2 ⟨rfl, hbq⟩
          replace J9 := Lib.hid (J9.out.step hbq)
          clear hbq z0 z1 ER
          obtain ⟨y0, y1, y2, yf, -⟩ := (show Held w wq2 ([_, _] ++ (w.heap.size + 1, _) :: [_]) from J9.out.rest.held).tri
          have K := Lib.hid ((show Held w wq2 ([_, _] ++ (w.heap.size + 1, zero3) :: [_]) from J9.out.rest.held).set3 (.int .u32 0) (.int .i64 0) (.slice none 0 0))
          clear J9
          go_wp2_with fail
          have hK := K.out
          unfold Go.Proofs.YtmpkjjmgfakomaaDoor.set3 at hK
          obtain ⟨y0, y1, y2, -, -⟩ := (show Held w _ ([_, _] ++ (w.heap.size + 1, _) :: [_]) from hK).tri
          exact bodyPost_ret (v := .tuple #[.agg #[.int .u32 0, .int .i64 0, .slice none 0 0], .int .i64 e9]) (by simp [results, Tryd.results15, go_sem, y0, y1, y2]) rfl ⟨_, [], rfl, ags_nil _, rfl, hK.below⟩
    · obtain rfl : i = sg.size := by omega
      have RE := fun (W : World) (h : Sees W (.slice A1 n1 c1) s) => Lib.hid (rend_any (s := (s, 0)) h)
      unfold rv at RE
      have hst := HI.out
      rw [List.drop_eq_nil_of_le (Nat.le_of_eq (kds_len sg))] at hst
      clear HI KD
      go_wp2_with fail
      refine (RE _ (J.out.see _ List.mem_cons_self)).out.mono ?_
      rintro e wq ⟨rfl, hb⟩
      replace J := Lib.hid (J.out.step hb)
      obtain ⟨A3, c3, rfl, -, -⟩ := J.out.own.agk.shape
      obtain ⟨en, hen⟩ : ∃ en, endS (s, 0) = en := ⟨_, rfl⟩
      rw [hen]
      unfold decF at hst
      rw [hen] at hst
      replace hst := Lib.hid hst
      clear hb g0 g1 hen RE
      by_cases he : en = 0
      · have hR := hst.out
        rw [if_neg (by simp [he])] at hR
        subst hR
        have hx := HX.out
        rw [if_neg (by simp)] at hx
        subst hx
        subst he
        clear hst HX
        obtain ⟨y0, y1, y2, -, -⟩ := (show Held w wq ([] ++ (k4, _) :: [_, _, _]) from J.out.held).tri
        obtain ⟨x0, x1, x2, xf, -⟩ := (show Held w wq ([_, _] ++ (w.heap.size + 1, _) :: [_]) from J.out.held).tri
        have K := Lib.hid ((((show DS w wq ([_, _] ++ (w.heap.size + 1, [.int .u32 0, .int .i64 0, .slice none 0 0]) :: [_]) _ _ _ from J.out).cell (i := 0) rfl (u32_nb _) (.int .u32 (ob : Int))).cell (i := 1) rfl (int_nb _) (.int .i64 oc)).cell (i := 2) rfl (sli_nb _ _ _) (.slice A3 l.length c3))
        clear J
        go_wp2_with fail
        obtain ⟨y0, y1, y2, -, -⟩ := (show Held w _ ([_, _] ++ (w.heap.size + 1, [.int .u32 (ob : Int), .int .i64 oc, .slice A3 l.length c3]) :: [_]) from K.out.held).tri
        exact bodyPost_ret (v := .tuple #[.agg #[.int .u32 (ob : Int), .int .i64 oc, .slice A3 l.length c3], .int .i64 0]) (by simp [results, Tryd.results15, go_sem, y0, y1, y2]) rfl ⟨_, l, rfl, ⟨K.out.own.agk, fun p hp => ⟨K.out.see (p.2, p.1.bb) (List.mem_cons_of_mem _ (List.mem_map.2 ⟨p, hp, rfl⟩)), HS.out.2.2 p hp⟩⟩, rfl, K.out.held.below⟩
      · have hR := hst.out
        rw [if_pos he] at hR
        subst hR
        have hx := HX.out
        rw [if_pos he] at hx
        subst hx
        clear hst HX
        obtain ⟨y0, y1, y2, yf, -⟩ := (show Held w wq ([_, _] ++ (w.heap.size + 1, _) :: [_]) from J.out.held).tri
        have K := Lib.hid ((show Held w wq ([_, _] ++ (w.heap.size + 1, zero3) :: [_]) from J.out.held).set3 (.int .u32 0) (.int .i64 0) (.slice none 0 0))
        clear J
        go_wp2_with fail
        have hK := K.out
        unfold Go.Proofs.YtmpkjjmgfakomaaDoor.set3 at hK
        obtain ⟨y0, y1, y2, -, -⟩ := (show Held w _ ([_, _] ++ (w.heap.size + 1, _) :: [_]) from hK).tri
        exact bodyPost_ret (v := .tuple #[.agg #[.int .u32 0, .int .i64 0, .slice none 0 0], .int .i64 en]) (by simp [results, Tryd.results15, go_sem, y0, y1, y2]) rfl ⟨_, [], rfl, ags_nil _, rfl, hK.below⟩

end Go.Proofs.YtmpkjjmgfakomaaDoor
