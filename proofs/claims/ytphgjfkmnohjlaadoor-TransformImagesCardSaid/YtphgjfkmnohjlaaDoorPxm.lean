/-
  Lists of pixels in a world: what a slice of pixels holds, rows of pixels of a call's own that are written pixel by pixel. Types: 38 a slice of pixels, 60 a pixel, 40 a buffer.
-/
import Derived.Test.YtphgjfkmnohjlaaDoorImg
import Derived.Test.YtphgjfkmnohjlaaDoorAppl
import Derived.Laws.MakeOwn
import Derived.Laws.Entries
namespace Go.Proofs.YtphgjfkmnohjlaaDoor
open Go.RowKit

/-- the four cells of pixel j of a row that begins at off -/
def At4 (w : World) (b off j : Nat) (p : Px) : Prop :=
  w.cell? ⟨b, off + j * 4, none⟩ = some (.int .u8 p.r) ∧ w.cell? ⟨b, off + j * 4 + 1, none⟩ = some (.int .u8 p.g) ∧ w.cell? ⟨b, off + j * 4 + 2, none⟩ = some (.int .u8 p.b) ∧ w.cell? ⟨b, off + j * 4 + 3, none⟩ = some (.int .u8 p.a)

theorem At4.keep {w w1 : World} {B b off j : Nat} {p : Px} (h : At4 w b off j p) (hb : Below B w w1) (hk : b < B) : At4 w1 b off j p :=
  ⟨(hb.cell (p := ⟨b, off + j * 4, none⟩) hk).trans h.1, (hb.cell (p := ⟨b, off + j * 4 + 1, none⟩) hk).trans h.2.1, (hb.cell (p := ⟨b, off + j * 4 + 2, none⟩) hk).trans h.2.2.1, (hb.cell (p := ⟨b, off + j * 4 + 3, none⟩) hk).trans h.2.2.2⟩

/-- the slice value v holds the pixels l -/
def Pxs (w : World) (v : Value) (l : List Px) : Prop :=
  ∃ (A : Option Addr) (cap : Nat), v = .slice A l.length cap ∧ l.length ≤ cap ∧ cap ≤ maxLen ∧
    (0 < l.length → ∃ b off, A = some ⟨b, off, none⟩ ∧ b < w.heap.size ∧ ∀ (j : Nat) (p : Px), l[j]? = some p → At4 w b off j p)

theorem Pxs.below {w w' : World} {v : Value} {l : List Px} (h : Pxs w v l) (hb : Below w.heap.size w w') : Pxs w' v l := by
  obtain ⟨A, cap, hv, h1, h2, h4⟩ := h
  refine ⟨A, cap, hv, h1, h2, fun hn => ?_⟩
  obtain ⟨b, off, hA, hlt, hc⟩ := h4 hn
  exact ⟨b, off, hA, Nat.lt_of_lt_of_le hlt hb.size, fun j t ht => (hc j t ht).keep hb hlt⟩

theorem pxs_nil (w : World) : Pxs w (.slice none 0 0) [] := ⟨none, 0, rfl, Nat.le_refl _, by simp [maxLen], fun h => by simp at h⟩

theorem Pxs.shape {w : World} {v : Value} {l : List Px} (h : Pxs w v l) : ∃ A cap, v = .slice A l.length cap ∧ l.length ≤ cap ∧ cap ≤ maxLen := by
  obtain ⟨A, cap, hv, h1, h2, _⟩ := h
  exact ⟨A, cap, hv, h1, h2⟩

/-- block g holds the pixels l and may be written -/
def RowP (w : World) (g : Nat) (l : List Px) : Prop := (∀ (j : Nat) (p : Px), l[j]? = some p → At4 w g 0 j p) ∧ (∀ i, w.frozen? ⟨g, i, none⟩ = false) ∧ g < w.heap.size

theorem RowP.keep {w w1 : World} {B g : Nat} {l : List Px} (h : RowP w g l) (hb : Below B w w1) (hk : g < B) : RowP w1 g l :=
  ⟨fun j p hj => (h.1 j p hj).keep hb hk, fun i => (hb.frozen (p := ⟨g, i, none⟩) hk).trans (h.2.1 i), Nat.lt_of_lt_of_le h.2.2 hb.size⟩

theorem RowP.pxs {w : World} {g : Nat} {l : List Px} (h : RowP w g l) (hl : l.length ≤ 65536) : Pxs w (.slice (some ⟨g, 0, none⟩) l.length l.length) l :=
  ⟨_, _, rfl, Nat.le_refl _, by simp only [maxLen]; omega, fun _ => ⟨g, 0, rfl, h.2.2, fun j p hj => h.1 j p hj⟩⟩

/-- pixel j written -/
def setP (w : World) (g j : Nat) (p : Px) : World :=
  (((w.setCell ⟨g, j * 4, none⟩ (.int .u8 p.r)).setCell ⟨g, j * 4 + 1, none⟩ (.int .u8 p.g)).setCell ⟨g, j * 4 + 2, none⟩ (.int .u8 p.b)).setCell ⟨g, j * 4 + 3, none⟩ (.int .u8 p.a)

theorem setP_size (w : World) (g j : Nat) (p : Px) : (setP w g j p).heap.size = w.heap.size := by simp [setP]

theorem below_setP {B g : Nat} {w w1 : World} (h : Below B w w1) (hb : B ≤ g) (j : Nat) (p : Px) : Below B w (setP w1 g j p) :=
  (((h.setCell (p := ⟨g, j * 4, none⟩) hb _).setCell (p := ⟨g, j * 4 + 1, none⟩) hb _).setCell (p := ⟨g, j * 4 + 2, none⟩) hb _).setCell (p := ⟨g, j * 4 + 3, none⟩) hb _

theorem RowP.set {w : World} {g : Nat} {l : List Px} (h : RowP w g l) {j : Nat} (hj : j < l.length) (p : Px) : RowP (setP w g j p) g (l.set j p) := by
  refine ⟨fun k q hk => ?_, fun i => ?_, by rw [setP_size]; exact h.2.2⟩
  · obtain ⟨o, ho⟩ : ∃ o, l[j]? = some o := ⟨_, List.getElem?_eq_getElem hj⟩
    obtain ⟨a0, a1, a2, a3⟩ := h.1 j o ho
    rw [Nat.zero_add] at a0 a1 a2 a3
    unfold At4 setP
    rw [Nat.zero_add]
    by_cases e : k = j
    · subst e
      rw [List.getElem?_set_self hj] at hk
      simp only [Option.some.injEq] at hk
      subst hk
      simp [go_sem, a0, a1, a2, a3]
    · rw [List.getElem?_set_ne (by omega)] at hk
      obtain ⟨b0, b1, b2, b3⟩ := h.1 k q hk
      rw [Nat.zero_add] at b0 b1 b2 b3
      have n0 : k * 4 ≠ j * 4 := by omega
      have n1 : k * 4 ≠ j * 4 + 1 := by omega
      have n2 : k * 4 ≠ j * 4 + 2 := by omega
      have n3 : k * 4 ≠ j * 4 + 3 := by omega
      have m0 : k * 4 + 1 ≠ j * 4 := by omega
      have m2 : k * 4 + 1 ≠ j * 4 + 2 := by omega
      have m3 : k * 4 + 1 ≠ j * 4 + 3 := by omega
      have u0 : k * 4 + 2 ≠ j * 4 := by omega
      have u1 : k * 4 + 2 ≠ j * 4 + 1 := by omega
      have u3 : k * 4 + 2 ≠ j * 4 + 3 := by omega
      have v0 : k * 4 + 3 ≠ j * 4 := by omega
      have v1 : k * 4 + 3 ≠ j * 4 + 1 := by omega
      have v2 : k * 4 + 3 ≠ j * 4 + 2 := by omega
      simp [go_sem, b0, b1, b2, b3]
  · unfold setP
    simp [go_sem, h.2.1]

/-- the cells of n zero pixels -/
def zerosP (n : Nat) : Array Value := madeCells #[.int .u8 0, .int .u8 0, .int .u8 0, .int .u8 0] (n * 4)

theorem make_px (n : Nat) (hn : n ≤ 65536) (w : World) : (Instr.makeSlice 38 (.int .i64 (n : Int)) (.int .i64 (n : Int))).run Tryd.prog w = .ok (.slice (some ⟨w.heap.size, 0, none⟩) n n) (w.alloc (.cells (zerosP n) 60)) := by
  obtain ⟨i, hi, hz, hs, hb⟩ : ∃ i, Tryd.prog.info? 60 = some i ∧ i.zero = some (.agg #[.int .u8 0, .int .u8 0, .int .u8 0, .int .u8 0]) ∧ i.size = 4 ∧ i.bytes = 4 := by
    have h : (Tryd.prog.info? 60).map (fun i => (i.zero, i.size, i.bytes)) = some (some (.agg #[.int .u8 0, .int .u8 0, .int .u8 0, .int .u8 0]), 4, 4) := by kernel_rfl
    cases he : Tryd.prog.info? 60 with
    | none => rw [he] at h; cases h
    | some i =>
      rw [he] at h
      simp only [Option.map_some, Option.some.injEq, Prod.mk.injEq] at h
      exact ⟨i, rfl, h.1, h.2.1, h.2.2⟩
  have hr := run_make (P := Tryd.prog) w 38 60 i _ Tryd.underlying38 hi hz .i64 .i64 n n (by omega) (by omega) (by rw [hb]; omega) (by omega)
  rw [hs, Int.toNat_natCast] at hr
  exact hr

theorem zerosP_at (n j : Nat) (hj : j < n * 4) : (zerosP n)[j]? = some (.int .u8 0) := by
  unfold zerosP madeCells
  have hm : j % 4 < 4 := Nat.mod_lt _ (by omega)
  rw [Array.getElem?_map]
  simp only [Array.getElem?_range, hj, if_true, Option.map_some, Option.some.injEq]
  have : j % 4 = 0 ∨ j % 4 = 1 ∨ j % 4 = 2 ∨ j % 4 = 3 := by omega
  rcases this with e | e | e | e <;> simp [e]

theorem RowP.new (w : World) (n : Nat) : RowP (w.alloc (.cells (zerosP n) 60)) w.heap.size (List.replicate n zeroPx) := by
  refine ⟨fun j p hj => ?_, fun i => by simp [go_sem], by rw [World.size_alloc]; exact Nat.lt_succ_self _⟩
  obtain ⟨hjn, hp⟩ := List.getElem?_eq_some_iff.1 hj
  rw [List.getElem_replicate] at hp
  subst hp
  rw [List.length_replicate] at hjn
  unfold At4
  rw [Nat.zero_add]
  simp only [zeroPx]
  refine ⟨?_, ?_, ?_, ?_⟩ <;> (simp [go_sem]; exact zerosP_at _ _ (by omega))

end Go.Proofs.YtphgjfkmnohjlaaDoor
