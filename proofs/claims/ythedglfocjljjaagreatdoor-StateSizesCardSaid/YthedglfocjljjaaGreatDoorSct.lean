/-
  The contents of a surface: what Content computes.
-/
import Derived.Test.YthedglfocjljjaaGreatDoorSuz
import Derived.Test.YthedglfocjljjaaGreatDoorSpx
import Derived.Test.YthedglfocjljjaaGreatDoorMge
import Derived.Test.YthedglfocjljjaaGreatDoorMgg
import Derived.Test.YthedglfocjljjaaGreatDoorTrc
import Derived.Test.YthedglfocjljjaaGreatDoorTrd
namespace Go.Proofs.YthedglfocjljjaaGreatDoor
open Go.RowKit

def imgS (s : St) (x : Bf) : List Px := imgN (Trf.inv s.tr) x.a x.b x.l
def conL (s : St) : List Px := match s.bf with
  | [] => []
  | x :: _ => nearL (Trf.siW (Trf.inv s.tr) x.a x.b).toNat (Trf.siH (Trf.inv s.tr) x.a x.b).toNat (imgS s x) (sizS s).1.toNat (sizS s).2.toNat
def hasC (s : St) : Bool := decide (chkS s = 0) && decide (s.bf ≠ [])
def conR (s : St) : List Px := if hasC s = true then conL s else []

theorem con_facts {s : St} {x : Bf} (hc : chkS s = 0) (hx : s.bf = [x]) : ∃ A B p q : Nat, Trf.siW (Trf.inv s.tr) x.a x.b = A ∧ Trf.siH (Trf.inv s.tr) x.a x.b = B ∧ Vld A B (imgS s x) ∧ sizS s = ((p : Int), (q : Int)) ∧ (1 ≤ p ∧ p ≤ 256) ∧ (1 ≤ q ∧ q ≤ 256) ∧ conL s = nearL A B (imgS s x) p q ∧ vBuf x.a x.b x.l = true := by
  obtain ⟨a1, a2, a3, -⟩ := chk_ok hc
  obtain ⟨⟨s0, s1⟩, -, -⟩ := arg_ok a1
  rw [bufB, hx] at a2
  simp only [List.all_cons, List.all_nil, Bool.and_true, bfB, Bool.and_eq_true, decide_eq_true_eq] at a2
  obtain ⟨hv, hm1, hm2⟩ := a2
  have hv2 : vBuf (Trf.siW (Trf.inv s.tr) x.a x.b) (Trf.siH (Trf.inv s.tr) x.a x.b) (imgS s x) = true := by
    have h := Trf.img_valid (Trf.inv s.tr) (w := x.a) (h := x.b) (l := x.l.map toT) (by rw [vBuf_T]; exact hv)
    rw [imgN_T, vBuf_T] at h
    exact h
  obtain ⟨A, B, hA, hB, hV⟩ := vld_of hv2
  obtain ⟨⟨hA1, hA2⟩, ⟨hB1, hB2⟩, -, -⟩ := vBuf_iff.1 hv
  have hsz : ∃ p q : Nat, sizS s = ((p : Int), (q : Int)) ∧ (1 ≤ p ∧ p ≤ 256) ∧ (1 ≤ q ∧ q ≤ 256) := by
    have hd1 : ∀ n : Int, 1 ≤ n → n ≤ 256 → n % s.sc = 0 → 1 ≤ n / s.sc ∧ n / s.sc ≤ 256 := by
      intro n h1 h2 h3
      have h4 := Int.mul_ediv_add_emod n s.sc
      have h5 := Int.ediv_nonneg (show 0 ≤ n by omega) (show 0 ≤ s.sc by omega)
      have h6 := Int.ediv_le_self s.sc (show 0 ≤ n by omega)
      refine ⟨?_, by omega⟩
      rcases Int.lt_or_le (n / s.sc) 1 with h7 | h7
      · have h8 : n / s.sc = 0 := by omega
        rw [h8] at h4
        simp at h4
        omega
      · exact h7
    have e : sizS s = if s.dx = 0 ∧ s.dy = 0 then (Trf.siW s.tr x.a x.b / s.sc, Trf.siH s.tr x.a x.b / s.sc) else (s.dx, s.dy) := by
      unfold sizS
      rw [if_neg (by simpa using hc), hx]
    have hall : ∃ P Q : Int, sizS s = (P, Q) ∧ (1 ≤ P ∧ P ≤ 256) ∧ (1 ≤ Q ∧ Q ≤ 256) := by
      rw [e]
      by_cases hd : s.dx = 0 ∧ s.dy = 0
      · rw [if_pos hd]
        have e1 := hd1 x.a hA1 hA2 hm1
        have e2 := hd1 x.b hB1 hB2 hm2
        unfold Trf.siW Trf.siH
        cases Trf.odd s.tr
        · exact ⟨_, _, rfl, by simpa using e1, by simpa using e2⟩
        · exact ⟨_, _, rfl, by simpa using e2, by simpa using e1⟩
      · rw [if_neg hd]
        simp only [sidB, Bool.or_eq_true, Bool.and_eq_true, decide_eq_true_eq] at a3
        exact ⟨_, _, rfl, by omega, by omega⟩
    obtain ⟨P, Q, h1, h2, h3⟩ := hall
    refine ⟨P.toNat, Q.toNat, ?_, by omega, by omega⟩
    rw [h1]
    simp only [Prod.mk.injEq]
    omega
  obtain ⟨p, q, hpq, hp, hq⟩ := hsz
  refine ⟨A, B, p, q, hA, hB, hV, hpq, hp, hq, ?_, hv⟩
  unfold conL
  rw [hx]
  simp only [hA, hB, hpq, Int.toNat_natCast]

def PixO (A B : Nat) (l : List Px) (w : World) (e : Ending) (w' : World) : Prop := ∃ A' c, e = .returned (.agg #[.int .i64 (A : Int), .int .i64 (B : Int), .slice A' l.length c]) ∧ Pxs w' (.slice A' l.length c) l ∧ Below w.heap.size w w' ∧ ∀ ad, A' = some ad → w.heap.size ≤ ad.block
theorem pixO_of {t a b : Int} {A B : Nat} {l : List Px} {w w' : World} {e : Ending} (hv : vBuf a b l = true) (hA : Trf.siW t a b = A) (hB : Trf.siH t a b = B) (h : Trf.Gives (Trf.oW t a b (l.map toT)) (Trf.oH t a b (l.map toT)) (Trf.oL t a b (l.map toT)) w e w') : PixO A B (imgN t a b l) w e w' := by
  obtain ⟨e1, e2, e3⟩ := Trf.full_out (t := t) (a := a) (b := b) (l := l.map toT) (by rw [vBuf_T]; exact hv)
  rw [e1, e2, e3, imgN_T, hA, hB] at h
  obtain ⟨A', c, he, hp, hb, hn⟩ := h
  rw [List.length_map] at he hp
  exact ⟨A', c, he, T_pxs hp, hb, hn⟩
theorem pix_any {t a b : Int} {A B : Nat} {v : Value} {l : List Px} {w : World} (h : Pxs w v l) (hv : vBuf a b l = true) (hA : Trf.siW t a b = A) (hB : Trf.siH t a b = B) : Calls Tryz.prog 52 #[.int .i64 t, .agg #[.int .i64 a, .int .i64 b, v]] w (PixO A B (imgN t a b l) w) :=
  (Trf.pixels_any t a b (pxs_T h)).mono fun _ _ hp => pixO_of hv hA hB hp
theorem rpix_any {t a b : Int} {A B : Nat} {v : Value} {l : List Px} {w : World} (h : Pxs w v l) (hv : vBuf a b l = true) (hA : Trf.siW t a b = A) (hB : Trf.siH t a b = B) : Calls Tryz.prog 56 #[.int .i64 t, .agg #[.int .i64 a, .int .i64 b, v]] w (PixO A B (imgN t a b l) w) :=
  (Trf.rpixels_any t a b (pxs_T h)).mono fun _ _ hp => pixO_of hv hA hB hp
def pxO1 (v : Value) (l : List Px) : Ob := ⟨fun W => Pxs W v l, fun k => 0 < l.length ∧ ∃ o sp n c, v = .slice (some ⟨k, o, sp⟩) n c⟩
theorem pxO1_keeps (v : Value) (l : List Px) : (pxO1 v l).Keeps := by
  intro W W' hz hk hp
  obtain ⟨A, c, hv, h1, h2, h4⟩ := hp
  refine ⟨A, c, hv, h1, h2, fun hn => ?_⟩
  obtain ⟨b, off, hA, hlt, hc⟩ := h4 hn
  have hb := hk b ⟨hn, off, none, _, _, by rw [hv, hA]⟩
  refine ⟨b, off, hA, Nat.lt_of_lt_of_le hlt hz, fun j r hj => ?_⟩
  obtain ⟨c0, c1, c2, c3⟩ := hc j r hj
  exact ⟨(cell_of_block hb _).trans c0, (cell_of_block hb _).trans c1, (cell_of_block hb _).trans c2, (cell_of_block hb _).trans c3⟩
theorem HO.pxs {w W W' : World} {l : List Ob} {A : Option Addr} {n c : Nat} {px : List Px} (h : HO w W l) (hb : Below W.heap.size W W') (hp : Pxs W' (.slice A n c) px) (hn : ∀ ad, A = some ad → W.heap.size ≤ ad.block) : HO w W' (pxO1 (.slice A n c) px :: l) := by
  refine h.new hb _ hp (pxO1_keeps _ _) fun k hk => ?_
  obtain ⟨h0, o, sp, n', c', e⟩ := hk
  injection e with e1 e2 e3
  refine ⟨hn _ e1, ?_⟩
  obtain ⟨A2, c2, hv, -, -, h4⟩ := hp
  obtain ⟨b, off, hA, hlt, -⟩ := h4 h0
  injection hv with f1 f2 f3
  rw [← f1, e1] at hA
  injection hA with hA
  have := congrArg Addr.block hA
  dsimp only at this
  omega
theorem res_shape {w w' : World} {v : Value} {l : List Px} (h : Res w w' v l) : ∃ A c, v = .slice A l.length c ∧ ∀ ad, A = some ad → w.heap.size ≤ ad.block := by
  rcases h with ⟨rfl, rfl⟩ | ⟨g, c, rfl, -, -, hg, -⟩
  · exact ⟨none, 0, rfl, fun _ h => by cases h⟩
  · exact ⟨_, _, rfl, fun ad h => by injection h with h; subst h; exact hg⟩
def ConO (s : St) (w : World) (e : Ending) (w' : World) : Prop := ∃ v, e = .returned (.tuple #[.agg #[.int .i64 (sizS s).1, .int .i64 (sizS s).2, v], .bool (hasC s)]) ∧ Pxs w' v (conR s) ∧ Below w.heap.size w w'

end Go.Proofs.YthedglfocjljjaaGreatDoor
