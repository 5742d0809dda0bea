/-
  The law IfaceTable.
-/
import Derived.Test.YtjefalkcolmjcaaDoorLba
import Derived.Test.YtjefalkcolmjcaaDoorLbb
import Derived.Test.YtjefalkcolmjcaaDoorLbc
namespace Go.Proofs.YtjefalkcolmjcaaDoor
open Go.RowKit

theorem int_beq (x y : Nat) : ((x : Int) == (y : Int)) = decide (x = y) := by
  by_cases h : x = y
  · subst h
    simp
  · rw [decide_eq_false h, beq_eq_false_iff_ne]
    omega

theorem table_walk {d g h : Nat} (hd : d < 256) (hg : g < 256) (hh : h < 256) {w : World} (T : Tab w) : Calls Tryd.prog 10 #[.int .u8 (d : Int), .int .u8 (g : Int), .int .u8 (h : Int)] w (Says true w) := by
  obtain ⟨i, hi'⟩ : ∃ i, d % 15 = i := ⟨_, rfl⟩
  obtain ⟨j, hj'⟩ : ∃ j, g % 15 = j := ⟨_, rfl⟩
  obtain ⟨x, hx'⟩ : ∃ x, g % 14 = x := ⟨_, rfl⟩
  obtain ⟨y, hy'⟩ : ∃ y, h % 14 = y := ⟨_, rfl⟩
  have qi : (d : Int) % 15 = i := by omega
  have qj : (g : Int) % 15 = j := by omega
  have qx : (g : Int) % 14 = x := by omega
  have qy : (h : Int) % 14 = y := by omega
  have hi : i < 15 := by omega
  have hj : j < 15 := by omega
  have hx : x < 14 := by omega
  have hy : y < 14 := by omega
  have GR := good_req i hi x hx y hy
  have GE := good_evt i hi x hx y hy
  have e0 := str_ne (nmI_some i hi)
  have e1 : ((nmI i).toList == (nmI j).toList) = decide (i = j) := by
    by_cases h : i = j
    · subst h
      simp
    · rw [decide_eq_false h]
      exact str_ne (fun e => h (nmI_inj i hi j hj e))
  have e4 : ¬ verT (nmI i) < 1 := by
    rw [ver_hit i hi]
    by_cases h1 : nmI i = s_shell
    · rw [if_pos h1]
      omega
    · rw [if_neg h1]
      by_cases h2 : nmI i = s_surface
      · rw [if_pos h2]
        omega
      · rw [if_neg h2]
        omega
  obtain ⟨n, hn⟩ : ∃ n, nmI i = n := ⟨_, rfl⟩
  rw [hn] at GR GE e0 e1 e4
  have V := fun W (T : Tab W) => Lib.hid (p_version_any T n)
  have A := fun W (T : Tab W) => Lib.hid (p_request_any T n x (verT n))
  have B := fun W (T : Tab W) => Lib.hid (p_request_any T n y (verT n))
  have C := fun W (T : Tab W) => Lib.hid (p_event_any T n x (verT n))
  have D := fun W (T : Tab W) => Lib.hid (p_event_any T n y (verT n))
  obtain ⟨⟨⟨a1, a2, a3⟩, ra⟩, ha⟩ : ∃ p, pickT n (reqT n) x (verT n) = p := ⟨_, rfl⟩
  obtain ⟨⟨⟨b1, b2, b3⟩, rb⟩, hb⟩ : ∃ p, pickT n (reqT n) y (verT n) = p := ⟨_, rfl⟩
  obtain ⟨⟨⟨c1, c2, c3⟩, rc⟩, hc⟩ : ∃ p, pickT n (evtT n) x (verT n) = p := ⟨_, rfl⟩
  obtain ⟨⟨⟨d1, d2, d3⟩, rd⟩, he⟩ : ∃ p, pickT n (evtT n) y (verT n) = p := ⟨_, rfl⟩
  rw [ha] at A
  rw [hb] at B
  rw [hc] at C
  rw [he] at D
  simp only [ByteArray.toList_mk] at e0
  have P : ra = 0 → rb = 0 → (∀ W, Tab W → Hid (Calls Tryd.prog 27 #[.agg #[.string a1, .string a2, .int .i64 a3], .agg #[.string b1, .string b2, .int .i64 b3], .bool ((x : Int) == (y : Int)), .int .i64 (verT n)] W (Says true W))) ∧ (x < y → a3 ≤ b3) := by
    rintro rfl rfl
    obtain ⟨u1, u2, u3, u4, u5, u6⟩ := good_out GR ha hb
    rw [int_beq]
    exact ⟨fun W T => Lib.hid (sound_any u1 u2 u3 u4 u5 T), u6⟩
  have Q : rc = 0 → rd = 0 → (∀ W, Tab W → Hid (Calls Tryd.prog 27 #[.agg #[.string c1, .string c2, .int .i64 c3], .agg #[.string d1, .string d2, .int .i64 d3], .bool ((x : Int) == (y : Int)), .int .i64 (verT n)] W (Says true W))) ∧ (x < y → c3 ≤ d3) := by
    rintro rfl rfl
    obtain ⟨u1, u2, u3, u4, u5, u6⟩ := good_out GE hc he
    rw [int_beq]
    exact ⟨fun W T => Lib.hid (sound_any u1 u2 u3 u4 u5 T), u6⟩
  have e2 := int_beq i j
  by_cases exy : x < y
  · by_cases f1 : ra = 0
    · by_cases f2 : rb = 0
      · by_cases g1 : rc = 0
        · by_cases g2 : rd = 0
          · exact tab_LL hd hg hh qi qj qx qy hi hj hn rfl e0 e1 e2 e4 (by omega) V A B C D f1 f2 g1 g2 (P f1 f2).1 (Int.not_lt.2 ((P f1 f2).2 exy)) (Q g1 g2).1 (Int.not_lt.2 ((Q g1 g2).2 exy)) T
          · exact tab_LF hd hg hh qi qj qx qy hi hj hn rfl e0 e1 e2 e4 (by omega) V A B C D f1 f2 g1 g2 (P f1 f2).1 (Int.not_lt.2 ((P f1 f2).2 exy)) T
        · exact tab_LX hd hg hh qi qj qx qy hi hj hn rfl e0 e1 e2 e4 (by omega) V A B C D f1 f2 g1 (P f1 f2).1 (Int.not_lt.2 ((P f1 f2).2 exy)) T
      · by_cases g1 : rc = 0
        · by_cases g2 : rd = 0
          · exact tab_FL hd hg hh qi qj qx qy hi hj hn rfl e0 e1 e2 e4 (by omega) V A B C D f1 f2 g1 g2 (Q g1 g2).1 (Int.not_lt.2 ((Q g1 g2).2 exy)) T
          · exact tab_FF hd hg hh qi qj qx qy hi hj hn rfl e0 e1 e2 e4 V A B C D f1 f2 g1 g2 T
        · exact tab_FX hd hg hh qi qj qx qy hi hj hn rfl e0 e1 e2 e4 V A B C D f1 f2 g1 T
    · by_cases g1 : rc = 0
      · by_cases g2 : rd = 0
        · exact tab_XL hd hg hh qi qj qx qy hi hj hn rfl e0 e1 e2 e4 (by omega) V A B C D f1 g1 g2 (Q g1 g2).1 (Int.not_lt.2 ((Q g1 g2).2 exy)) T
        · exact tab_XF hd hg hh qi qj qx qy hi hj hn rfl e0 e1 e2 e4 V A B C D f1 g1 g2 T
      · exact tab_XX hd hg hh qi qj qx qy hi hj hn rfl e0 e1 e2 e4 V A B C D f1 g1 T
  · by_cases f1 : ra = 0
    · by_cases f2 : rb = 0
      · by_cases g1 : rc = 0
        · by_cases g2 : rd = 0
          · exact tab_GG hd hg hh qi qj qx qy hi hj hn rfl e0 e1 e2 e4 (by omega) V A B C D f1 f2 g1 g2 (P f1 f2).1 (Q g1 g2).1 T
          · exact tab_GF hd hg hh qi qj qx qy hi hj hn rfl e0 e1 e2 e4 (by omega) V A B C D f1 f2 g1 g2 (P f1 f2).1 T
        · exact tab_GX hd hg hh qi qj qx qy hi hj hn rfl e0 e1 e2 e4 (by omega) V A B C D f1 f2 g1 (P f1 f2).1 T
      · by_cases g1 : rc = 0
        · by_cases g2 : rd = 0
          · exact tab_FG hd hg hh qi qj qx qy hi hj hn rfl e0 e1 e2 e4 (by omega) V A B C D f1 f2 g1 g2 (Q g1 g2).1 T
          · exact tab_FF hd hg hh qi qj qx qy hi hj hn rfl e0 e1 e2 e4 V A B C D f1 f2 g1 g2 T
        · exact tab_FX hd hg hh qi qj qx qy hi hj hn rfl e0 e1 e2 e4 V A B C D f1 f2 g1 T
    · by_cases g1 : rc = 0
      · by_cases g2 : rd = 0
        · exact tab_XG hd hg hh qi qj qx qy hi hj hn rfl e0 e1 e2 e4 (by omega) V A B C D f1 g1 g2 (Q g1 g2).1 T
        · exact tab_XF hd hg hh qi qj qx qy hi hj hn rfl e0 e1 e2 e4 V A B C D f1 g1 g2 T
      · exact tab_XX hd hg hh qi qj qx qy hi hj hn rfl e0 e1 e2 e4 V A B C D f1 g1 T

end Go.Proofs.YtjefalkcolmjcaaDoor
