/-
  A map of numbers of 32 bits to bools, all true, as the list of its keys.
-/
import Derived.Test.YtnefcmikeeadhaaDoorHasu
import Derived.Maps.OwnSet
namespace Go.Proofs.YtnefcmikeeadhaaDoor
open Go.RowKit Go.Maps

theorem lawK : Keyed Tryd.prog 23 := int_keyed Tryd.underlying23
theorem zeroB (w : World) : (zeroValue 4).run Tryd.prog w = .ok (.bool false) w := by kernel_rfl

theorem plainElem_bool_inv {P : Program} {e : TypeId} (he : P.underlying e = some .bool) {v : Value} {x : Bool} {ps : List MemPlace} (h : plainElem (H := Unit) P e v = some (.lit (.bool x), ps)) : v = .bool x := by
  unfold plainElem at h
  rw [he] at h
  cases v <;> simp at h
  rw [h.1]

/-- block b is a map whose keys are the numbers l, each to true -/
def MapU (w : World) (b : Nat) (l : List Nat) : Prop :=
  ∃ D : DataW Unit, w.ownsMap Tryd.prog 23 (plainElem Tryd.prog 4) b l.length D ∧ Maps.size D = l.length ∧ l.Nodup ∧
    (∀ n : Nat, n < 4294967296 → Maps.has D (.int .u32 n) = decide (n ∈ l)) ∧ (∀ n : Nat, n ∈ l → n < 4294967296 ∧ D.atKey (.int .u32 n) (.lit (.bool false)) = .lit (.bool true))

theorem ownsMap_tight {P : Program} {k : TypeId} {R : Value → Option (DataW Unit × List MemPlace)} {w : World} {b n : Nat} {D : DataW Unit} (h : w.ownsMap P k R b n D) : w.ownsMap P k R b (Maps.size D) D := by
  obtain ⟨es, clock, hb, F, _, rfl⟩ := h
  refine ⟨es, clock, hb, F, ?_, rfl⟩
  simp [Maps.size, length_sorted]

theorem MapU.lt {w : World} {b : Nat} {l : List Nat} (h : MapU w b l) : b < w.heap.size := by
  obtain ⟨D, h, _⟩ := h
  exact h.lt

/-- block b is a map -/
theorem MapU.obj {w : World} {b : Nat} {l : List Nat} (h : MapU w b l) : ∃ es clock, w.heap[b]? = some (.map es clock) := by
  obtain ⟨D, ⟨es, clock, hb, _⟩, _⟩ := h
  exact ⟨es, clock, hb⟩

theorem MapU.nd {w : World} {b : Nat} {l : List Nat} (h : MapU w b l) : l.Nodup := by
  obtain ⟨D, _, _, h, _⟩ := h
  exact h

theorem MapU.block {w w' : World} {b : Nat} {l : List Nat} (h : MapU w b l) (hb : w'.heap[b]? = w.heap[b]?) : MapU w' b l := by
  obtain ⟨D, ⟨es, clock, hb', r⟩, h2⟩ := h
  exact ⟨D, ⟨es, clock, hb.trans hb', r⟩, h2⟩

theorem MapU.grown {w w' : World} {b : Nat} {l : List Nat} (h : MapU w b l) {row : Option Nat} (hg : w.grownBy w' row) (hne : some b ≠ row) : MapU w' b l := h.block (hg.block b h.lt hne)
theorem MapU.below {w w' : World} {b : Nat} {l : List Nat} (h : MapU w b l) (hb : Below w.heap.size w w') : MapU w' b l := h.block (hb.block b h.lt)

theorem mapU_made (w : World) : MapU (w.alloc (.map #[] 0)) w.heap.size [] :=
  ⟨.map [], World.ownsMap_made w _ _ _, rfl, List.nodup_nil, fun n _ => by simp [Maps.has], fun n h => by simp at h⟩

theorem wf_u32 {n : Nat} (h : n < 4294967296) : (Lit.int .u32 (n : Int)).wf = true := by
  simp [Lit.wf, IntKind.min, IntKind.max, IntKind.signed, IntKind.bits]
  omega

theorem MapU.look {w : World} {b : Nat} {l : List Nat} (h : MapU w b l) {n : Nat} (hn : n < 4294967296) : (Instr.lookup 49 (.map (some b)) (.int .u32 (n : Int)) false).run Tryd.prog w = .ok (.bool (decide (n ∈ l))) w := by
  obtain ⟨D, hD, _, _, hh, ha⟩ := h
  obtain ⟨v, ps, hrun, hv⟩ := hD.lookup lawK Tryd.underlying49 (zeroB w) (plainElem_bool Tryd.underlying4 false) (keyOf_int_mk Tryd.underlying23 (wf_u32 hn))
  rw [hrun]
  by_cases hm : n ∈ l
  · rw [(ha n hm).2] at hv
    rw [plainElem_bool_inv Tryd.underlying4 hv, decide_eq_true hm]
  · have e : Maps.has D (.int .u32 n) = false := by rw [hh n hn, decide_eq_false hm]
    rw [Maps.atKey_of_not_has e] at hv
    rw [plainElem_bool_inv Tryd.underlying4 hv, decide_eq_false hm]

theorem MapU.len {w : World} {b : Nat} {l : List Nat} (h : MapU w b l) (ty : TypeId) : (Builtin.len_ #[49] ty #[.map (some b)]).run Tryd.prog w = .ok (.int .i64 (l.length : Int)) w := by
  obtain ⟨D, hD, hs, _⟩ := h
  rw [hD.len Tryd.underlying49 ty, hs]

theorem lit_ne {m n : Nat} (h : m ≠ n) : (Lit.int .u32 (m : Int)) ≠ .int .u32 (n : Int) := by
  intro e
  injection e with _ e
  omega

theorem wou_mem {l : List Nat} {m n : Nat} : m ∈ wouN l n ↔ m ∈ l ∧ m ≠ n := by
  unfold wouN
  simp
theorem wou_nodup {l : List Nat} (h : l.Nodup) (n : Nat) : (wouN l n).Nodup := h.filter _

theorem wou_len {l : List Nat} (h : l.Nodup) (n : Nat) : (wouN l n).length + (if n ∈ l then 1 else 0) = l.length := by
  induction l with
  | nil => simp [wouN]
  | cons a l ih =>
    rw [List.nodup_cons] at h
    have := ih h.2
    unfold wouN at *
    rw [List.filter_cons]
    by_cases e : a = n
    · subst e
      simp [h.1] at *
      exact this
    · simp [e, Ne.symm e] at *
      by_cases hm : n ∈ l
      · simp [hm] at *
        omega
      · simp [hm] at *
        omega

theorem MapU.del {w : World} {b : Nat} {l : List Nat} (h : MapU w b l) {n : Nat} (hn : n < 4294967296) (ty : TypeId) :
    ∃ w', (Builtin.delete_ #[49, 23] ty #[.map (some b), .int .u32 (n : Int)]).run Tryd.prog w = .ok (.tuple #[]) w' ∧ MapU w' b (wouN l n) ∧ w.grownBy w' (some b) := by
  obtain ⟨D, hD, hs, hnd, hh, ha⟩ := h
  obtain ⟨w', hrun, hD', ht⟩ := hD.drop lawK Tryd.underlying49 (keyOf_int_mk Tryd.underlying23 (wf_u32 hn)) ty
  refine ⟨w', hrun, ⟨D.del (.int .u32 (n : Int)), ?_, ?_, wou_nodup hnd n, fun m hm => ?_, fun m hm => ?_⟩, ht.grown⟩
  · have e := Maps.size_del (k := .int .u32 (n : Int)) (hD.tidy lawK)
    have e2 := wou_len hnd n
    rw [hh n hn, hs] at e
    have e3 : Maps.size (D.del (.int .u32 (n : Int))) = (wouN l n).length := by
      by_cases hm : n ∈ l <;> simp [hm] at e e2 <;> omega
    rw [← e3]
    exact ownsMap_tight hD'
  · have e := Maps.size_del (k := .int .u32 (n : Int)) (hD.tidy lawK)
    have e2 := wou_len hnd n
    rw [hh n hn, hs] at e
    by_cases hm : n ∈ l <;> simp [hm] at e e2 <;> omega
  · by_cases e : m = n
    · subst e
      rw [Maps.has_del_same]
      exact (decide_eq_false (by rw [wou_mem]; exact fun h => h.2 rfl)).symm
    · rw [Maps.has_del_other (lit_ne e), hh m hm]
      exact decide_eq_decide.2 (by rw [wou_mem]; exact ⟨fun h => ⟨h, e⟩, fun h => h.1⟩)
  · obtain ⟨h1, h2⟩ := wou_mem.1 hm
    refine ⟨(ha m h1).1, ?_⟩
    rw [Maps.atKey_del_other (lit_ne h2)]
    exact (ha m h1).2

theorem MapU.put {w : World} {b : Nat} {l : List Nat} (h : MapU w b l) {n : Nat} (hn : n < 4294967296) (hno : n ∉ l) (hl : l.length ≤ 100000) :
    ∃ w', (Instr.mapUpdate 49 (.map (some b)) (.int .u32 (n : Int)) (.bool true)).run Tryd.prog w = .ok () w' ∧ MapU w' b (l ++ [n]) ∧ w.grownBy w' (some b) := by
  obtain ⟨D, hD, hs, hnd, hh, ha⟩ := h
  obtain ⟨w', hrun, hD', ht⟩ := hD.update lawK Tryd.underlying49 (by simp only [maxLen]; omega) (keyOf_int_mk Tryd.underlying23 (wf_u32 hn)) (plainElem_bool Tryd.underlying4 true)
  have hz : Maps.size (D.put (.int .u32 (n : Int)) (.lit (.bool true))) = (l ++ [n]).length := by
    rw [Maps.size_put (hD.tidy lawK), hh n hn, hs]
    simp [hno]
  refine ⟨w', hrun, ⟨D.put (.int .u32 (n : Int)) (.lit (.bool true)), by rw [← hz]; exact ownsMap_tight hD', hz, ?_, fun m hm => ?_, fun m hm => ?_⟩, ht⟩
  · rw [List.nodup_append]
    exact ⟨hnd, by simp, fun a h1 c h2 => by simp at h2; subst h2; rintro rfl; exact hno h1⟩
  · by_cases e : m = n
    · subst e
      rw [Maps.has_put_same (k := .int .u32 (m : Int)) hD.isMap trivial]
      simp
    · rw [Maps.has_put_other (lit_ne e), hh m hm]
      simp [e]
  · by_cases e : m = n
    · subst e
      exact ⟨hn, Maps.atKey_put_same (k := .int .u32 (m : Int)) hD.isMap trivial _ _⟩
    · have h1 : m ∈ l := by simpa [e] using hm
      refine ⟨(ha m h1).1, ?_⟩
      rw [Maps.atKey_put_other (lit_ne e)]
      exact (ha m h1).2

end Go.Proofs.YtnefcmikeeadhaaDoor
