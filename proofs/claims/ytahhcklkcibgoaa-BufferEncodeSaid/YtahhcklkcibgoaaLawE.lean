/-
  The walk of the law BufferEncode.
-/
import Derived.Test.YtahhcklkcibgoaaLawC
namespace Go.Proofs.Ytahhcklkcibgoaa
open Go.RowKit Mem


theorem enc_at (l : List Px) : ∀ (k i : Nat), k < l.length → i < 4 → (encL l).getD (4 * k + i) 0 = (encP (l.getD k zeroPx)).getD i 0 := by
  induction l with
  | nil => intro k i h; simp at h
  | cons p l ih =>
    intro k i hk hi
    have e : encL (p :: l) = encP p ++ encL l := rfl
    have e4 : (encP p).length = 4 := rfl
    rw [e]
    match k with
    | 0 =>
      simp only [List.getD_eq_getElem?_getD, List.getElem?_cons_zero, Option.getD_some]
      rw [Nat.mul_zero, Nat.zero_add, List.getElem?_append_left (by omega)]
    | k + 1 =>
      have := ih k i (by simpa using hk) hi
      simp only [List.getD_eq_getElem?_getD, List.getElem?_cons_succ] at this ⊢
      rw [List.getElem?_append_right (by omega), e4, show 4 * (k + 1) + i - 4 = 4 * k + i by omega]
      exact this

theorem nat_byte {n : Nat} (h : n < 256) : (UInt8.ofNat n).toNat = n := by
  simp
  omega

/-- the bytes of pixels, read back -/
theorem dec_enc {a b : Nat} {l : List Px} (hv : Vld a b l) (hlb : ∀ p ∈ l, Byt p) : decL 1 a b (4 * a) (encL l) = l := by
  refine eq_of_getD (by rw [dec_len, hv.len]) fun k hk => ?_
  rw [dec_len] at hk
  unfold decL
  rw [tab_getD _ _ hk]
  have e : k / a * (4 * a) + 4 * (k % a) = 4 * k := by
    have := idx_of (a := a) k
    have h2 : k / a * (4 * a) = 4 * (k / a * a) := by rw [Nat.mul_left_comm]
    omega
  rw [e]
  have hkl : k < l.length := by rw [hv.len]; exact hk
  have e0 := enc_at l k 0 hkl (by omega)
  have e1 := enc_at l k 1 hkl (by omega)
  have e2 := enc_at l k 2 hkl (by omega)
  have e3 := enc_at l k 3 hkl (by omega)
  have hb := all_byt hlb k
  have ho := all_ok hv.ok k
  unfold decP rawP
  rw [Nat.add_zero] at e0
  rw [e0, e1, e2, e3]
  generalize l.getD k zeroPx = p at *
  have x0 : (encP p).getD 0 0 = UInt8.ofNat p.b := rfl
  have x1 : (encP p).getD 1 0 = UInt8.ofNat p.g := rfl
  have x2 : (encP p).getD 2 0 = UInt8.ofNat p.r := rfl
  have x3 : (encP p).getD 3 0 = UInt8.ofNat p.a := rfl
  rw [x0, x1, x2, x3, nat_byte hb.1, nat_byte hb.2.1, nat_byte hb.2.2.1, nat_byte hb.2.2.2, if_neg (by decide)]
  exact clamp_id ho

theorem byte_eql (x : UInt8) : decide ((x.toNat : Int) = (x.toNat : Int)) = true := by simp

theorem enc_four {x X : Nat} (h : 4 * x = X) (hb : X ≤ 1000000) : IntKind.i64.wrap (4 * (x : Int)) = (X : Int) := enc_wrap h hb

theorem Mem.Sees.cellj {W : World} {A : Option Addr} {n c : Nat} {bs : List UInt8} (h : Sees W (.slice A n c) bs) {j : Nat} (hj : j < bs.length) : ∃ b off, A = some ⟨b, off, none⟩ ∧ W.cell? ⟨b, off + j, none⟩ = some (.int .u8 ((bs.getD j 0).toNat : Int)) := by
  obtain ⟨A', c', hv, _, _, hc⟩ := h
  injection hv with e
  subst e
  obtain ⟨b, off, rfl, _, hcs⟩ := hc (by omega)
  exact ⟨b, off, rfl, hcs j hj⟩

set_option maxRecDepth 100000 in
set_option maxHeartbeats 4000000 in
theorem encode_walk (a b : Int) {v : Value} {l : List Px} {w : World} (hv : Pxs w v l) (hlb : ∀ p ∈ l, Byt p) : Calls Try.prog 6 #[.agg #[.int .i64 a, .int .i64 b, v]] w (Says true w) := by
  have H := Lib.hid hv
  obtain ⟨A, c, rfl, _⟩ := hv.shape
  have J := Lib.hid (((Held.nil w).toX.addP hv).alloc [.int .i64 a, .int .i64 b, .slice A l.length c] 24)
  have C14 := fun W => Lib.hid (example_any W)
  clear hv
  by_cases hs : l.length ≤ 400
  · have C13 := fun W => Lib.hid (few_any hs a b A c W)
    obtain ⟨bs, h1, h2, h3⟩ := both_enc a b hlb
    have C25 := fun W (hb : Below w.heap.size w W) => Lib.hid (h1 W _ (H.out.below hb))
    have C26 := fun W (hb : Below w.heap.size w W) => Lib.hid (h2 W _ (H.out.below hb))
    have C16 := fun W (hb : Below w.heap.size w W) => Lib.hid (rvalid_any a b (H.out.below hb))
    have HE := Lib.hid h3
    have HB := Lib.hid hlb
    have HS := Lib.hid hs
    obtain ⟨n, hn⟩ : ∃ n, l.length = n := ⟨_, rfl⟩
    have HN := Lib.hid hn
    obtain ⟨k, hk⟩ : ∃ k, bs.length = k := ⟨_, rfl⟩
    have HKK := Lib.hid hk
    have hk6 : k ≤ 1600 := by
      rcases h3 with ⟨_, rfl⟩ | ⟨_, rfl⟩
      · simp at hk; omega
      · rw [enc_len] at hk; omega
    rw [hn] at H J C13 C25 C26 C16 ⊢
    clear h1 h2 h3 hs hlb hn hk
    go_enter Try.func6, Try.ntmps6
    go_wp2_with fail
    refine (C13 _).out.mono ?_
    rintro e wq ⟨rfl, hb⟩
    replace J := Lib.hid (J.out.step hb)
    clear hb
    go_upto_region 3 with fail
    go_cut [3, 4] from 12 to 15 (fun s3 s4 wx => ∃ A1 A2 c1 c2, s3 = .slice A1 k c1 ∧ s4 = .slice A2 k c2 ∧ Hid (HeldX w wx [(w.heap.size, [.int .i64 a, .int .i64 b, .slice A n c])] (fun V => Sees V (.slice A1 k c1) bs ∧ Sees V (.slice A2 k c2) bs ∧ Pxs V (.slice A n c) l ∧ True)))
    case first =>
      replace J := Lib.hid J.out.drew
      have sk := J.out.held.three (l1 := [])
      go_region_held3 (fun W => W.cell? ⟨w.heap.size, 0, none⟩ = some (.int .i64 a) ∧ W.cell? ⟨w.heap.size, 1, none⟩ = some (.int .i64 b) ∧ W.cell? ⟨w.heap.size, 2, none⟩ = some (.slice A n c))
        (first
          | go_keep
          | exact sk)
        (first
          | (go_at_call 25; (with_reducible refine (C25 _ J.out.below).out.mono ?_); rintro e wq ⟨v1, rfl, hp, hb⟩; obtain ⟨A1, c1, rfl, _⟩ := hp.shape; rw [HKK.out] at hp ⊢; replace J := Lib.hid (J.out.step hb); (try replace K2 := Lib.hid (K2.out.below hb)); have K1 := Lib.hid hp; (try clear sk); have sk := J.out.held.three (l1 := []); clear hb hp)
          | (go_at_call 26; (with_reducible refine (C26 _ J.out.below).out.mono ?_); rintro e wq ⟨v2, rfl, hp, hb⟩; obtain ⟨A2, c2, rfl, _⟩ := hp.shape; rw [HKK.out] at hp ⊢; replace J := Lib.hid (J.out.step hb); (try replace K1 := Lib.hid (K1.out.below hb)); have K2 := Lib.hid hp; (try clear sk); have sk := J.out.held.three (l1 := []); clear hb hp)
          | fail)
      all_goals
        go_wp2_with fail
        go_meet
        exact ⟨A1, A2, c1, c2, rfl, rfl, Lib.hid ((J.out.addS K2.out).addS K1.out)⟩
    case rest =>
      obtain ⟨A1, A2, c1, c2, rfl, rfl, HR⟩ := hcut
      clear J C25 C26 C13
      have J := HR
      clear HR
      go_wp2_with fail
      go_loopw [5] (fun s5 wr => ∃ j : Nat, j ≤ k ∧ s5 = .int .i64 (j : Int) ∧ Hid (HeldX w wr [(w.heap.size, [.int .i64 a, .int .i64 b, .slice A n c])] (fun V => Sees V (.slice A1 k c1) bs ∧ Sees V (.slice A2 k c2) bs ∧ Pxs V (.slice A n c) l ∧ True))) (fun s5 _ => leftN k s5)
      case atStart => exact ⟨0, Nat.zero_le _, rfl, J⟩
      case round =>
        obtain ⟨j, hj, rfl, HR⟩ := hrel
        by_cases hlt : j < k
        · have q0 : (j : Int) < k := by omega
          have q1 : (0 : Int) ≤ j := by omega
          obtain ⟨b1, o1, rfl, x1⟩ := HR.out.fact.1.cellj (j := j) (by rw [HKK.out]; exact hlt)
          obtain ⟨b2, o2, rfl, x2⟩ := HR.out.fact.2.1.cellj (j := j) (by rw [HKK.out]; exact hlt)
          generalize (bs.getD j 0).toNat = X at *
          go_wp2_with fail
          go_quiet (fail)
          clear x1 x2
          go_wp2_with fail
          have Z := Lib.hid (HR.out.drews nq)
          go_roundw
          case rel => exact ⟨j + 1, by omega, by go_num, Z⟩
          case measure =>
            unfold leftN
            simp [intOf]
            omega
        · obtain rfl : k = j := by omega
          have q0 : ¬ (k : Int) < k := by omega
          clear J
          have J := HR
          clear HR
          rcases HE.out with ⟨hf, hbs⟩ | ⟨ht, hbs⟩
          · subst hbs
            rw [hf] at C16
            have hk0 := HKK.out
            simp only [List.length_nil] at hk0
            subst hk0
            obtain ⟨b0, b1, b2⟩ := J.out.held.three (l1 := [])
            clear hf HE
            go_wp2_with fail
            refine (C16 _ J.out.below).out.mono ?_
            rintro e wq ⟨rfl, hb⟩
            replace J := Lib.hid (J.out.step hb)
            clear hb
            clear b0 b1 b2
            go_wp2_with fail
            refine (C14 _).out.mono ?_
            rintro e wq ⟨rfl, hb⟩
            replace J := Lib.hid (J.out.step hb)
            clear hb
            go_wp2_with fail
            go_ret
            exact ⟨rfl, J.out.below⟩
          · rw [ht] at C16
            obtain ⟨A0, B0, rfl, rfl, hV⟩ := vld_of ht
            have HV := Lib.hid hV
            have ha2 := hV.a2
            obtain ⟨X, hX⟩ : ∃ X, 4 * A0 = X := ⟨_, rfl⟩
            have HXW := Lib.hid (enc_four hX (by omega))
            have HX := Lib.hid hX
            have HBS := Lib.hid hbs
            obtain ⟨b0, b1, b2⟩ := J.out.held.three (l1 := [])
            clear ht HE hbs hX ha2 hV
            go_wp2_with fail
            refine (C16 _ J.out.below).out.mono ?_
            rintro e wq ⟨rfl, hb⟩
            replace J := Lib.hid (J.out.step hb)
            clear hb
            clear b0 b1 b2
            obtain ⟨b0, b1, b2⟩ := J.out.held.three (l1 := [])
            have hxw := HXW.out
            go_wp2_with fail
            clear b0 b1 b2 hxw
            have C23 := (dec_good (f := 1) (a := A0) (b := B0) (st := X) J.out.fact.1 (.inl rfl) ⟨HV.out.a1, HV.out.a2⟩ ⟨HV.out.b1, HV.out.b2⟩ (by have := HX.out; omega) (by have := HX.out; omega) (by
              rw [HBS.out, enc_len, ← HX.out, HV.out.len, Nat.mul_left_comm, Nat.mul_comm B0 A0]
              exact Nat.le_refl _) (by rw [HKK.out]; omega)).mono fun _ _ => outB
            rw [← HX.out, HBS.out, dec_enc HV.out HB.out] at C23
            rw [HX.out] at C23
            refine C23.mono ?_
            rintro e w3 ⟨A3, n3, c3, rfl, hp, hb⟩
            replace J := Lib.hid ((J.out.step hb).addP hp)
            clear hb hp C23
            obtain ⟨b0, b1, b2, _, bt⟩ := J.out.held.tri (l1 := [])
            go_wp2_with fail
            clear b0 b1 b2 bt
            replace J := Lib.hid (J.out.made (.cells #[.int .i64 (A0 : Int), .int .i64 (B0 : Int), .slice A3 n3 c3] 24))
            refine (Lib.hid (equal_self (oa := (A0 : Int)) (ob := (B0 : Int)) J.out.fact.2.2.2.1 J.out.fact.1)).out.mono ?_
            rintro e wq ⟨rfl, hb⟩
            replace J := Lib.hid (J.out.step hb)
            clear hb
            go_wp2_with fail
            refine (C14 _).out.mono ?_
            rintro e wq ⟨rfl, hb⟩
            replace J := Lib.hid (J.out.step hb)
            clear hb
            go_wp2_with fail
            go_ret
            exact ⟨rfl, J.out.below⟩
  · have C13 := fun W => Lib.hid (many_any hs a b A c W)
    generalize l.length = n at *
    clear H hs hlb
    go_enter Try.func6, Try.ntmps6
    go_wp2_with fail
    refine (C13 _).out.mono ?_
    rintro e wq ⟨rfl, hb⟩
    replace J := Lib.hid (J.out.step hb)
    clear hb
    go_wp2_with fail
    refine (C14 _).out.mono ?_
    rintro e wq ⟨rfl, hb⟩
    replace J := Lib.hid (J.out.step hb)
    clear hb
    go_wp2_with fail
    go_ret
    exact ⟨rfl, J.out.below⟩

end Go.Proofs.Ytahhcklkcibgoaa
