/-
  frame.Put, of a frame whose opcode is in range and whose body fills fours.
-/
import Derived.Test.YtmpkjjmgfakomaaDoorPmp
namespace Go.Proofs.YtmpkjjmgfakomaaDoor
open Go.RowKit Mem Wire

theorem pad_four (n : Nat) : (4 + n + pad n) % 4 = 0 := by unfold pad; omega
theorem encA_four (b : List UInt8) : (encA b).length % 4 = 0 := by
  have := pad_four b.length
  unfold encA
  simp only [List.length_append, List.length_replicate, show ∀ n, (enc4 n).length = 4 from fun _ => rfl]
  omega
theorem encG_four (a : Ag) : (encG a).length % 4 = 0 := by
  unfold encG
  split
  · exact encA_four _
  · split
    · exact encA_four _
    · simp [enc4]
theorem bod_four : ∀ l : List Ag, (bodT l).length % 4 = 0
  | [] => rfl
  | a :: l => by
    have h1 := encG_four a
    have h2 := bod_four l
    show (encG a ++ bodT l).length % 4 = 0
    rw [List.length_append]
    omega

set_option maxRecDepth 100000 in
set_option maxHeartbeats 4000000 in
theorem p_frame_put {w : World} {A : Option Addr} {n c : Nat} {b : List UInt8} (hs : Sees w (.slice A n c) b) {ob : Nat} (hob : ob < 4294967296) {oc : Int} (h0 : 0 ≤ oc) (h1 : oc ≤ 65535) (h4 : b.length % 4 = 0) (hlen : b.length ≤ 1000000) :
    Calls Tryd.prog 22 #[.agg #[.int .u32 (ob : Int), .int .i64 oc, .slice A n c]] w (GivesE (if 4088 < b.length then ([], 5) else (enc4 ob ++ enc4 (headT b.length oc) ++ b, 0)) w) := by
  have hn : n = b.length := by
    obtain ⟨_, _, hv, _⟩ := hs.shape
    injection hv
  have HS := Lib.hid hs
  have J := Lib.hid ((Held.nil w).alloc [.int .u32 (ob : Int), .int .i64 oc, .slice A n c] 33)
  have hi4 : (n : Int) % 4 = 0 := by omega
  have HN := Lib.hid hn
  rw [← hn]
  rw [← hn] at hlen
  clear hs hn h4
  obtain ⟨y0, y1, y2, -, -⟩ := (show Held w _ ([] ++ (w.heap.size, _) :: []) from J.out).tri
  have g1 : ¬ oc < 0 := by omega
  have g2 : ¬ (65536 : Int) ≤ oc := by omega
  by_cases hbig : 4088 < n
  · rw [if_pos hbig]
    have g3 : (4096 : Int) < 8 + (n : Int) := by omega
    go_enter Tryd.func22, Tryd.ntmps22
    go_wp2_with fail
    exact bodyPost_ret (v := .tuple #[.slice none 0 0, .int .i64 5]) (by simp [results, Tryd.results22, go_sem]) rfl ⟨_, rfl, sees_nil _, J.out.below⟩
  · rw [if_neg hbig]
    have g3 : ¬ (4096 : Int) < 8 + (n : Int) := by omega
    obtain ⟨hd, hhd⟩ : ∃ hd, headT n oc = hd := ⟨_, rfl⟩
    have HF : (hd : Int) = (8 + (n : Int)) * 65536 + oc := by
      rw [← hhd]
      unfold headT
      omega
    have hsl : hd < 4294967296 := by omega
    rw [hhd]
    clear hhd
    have P1 : ∀ W, Hid (Calls Tryd.prog 56 #[.slice none 0 0, .int .u32 (ob : Int)] W (Puts W (enc4 ob))) := fun W => Lib.hid (by
      have := uint_put (w := W) ob hob (sees_nil _) (by omega)
      rwa [List.nil_append] at this)
    go_enter Tryd.func22, Tryd.ntmps22
    go_wp2_with fail
    refine (P1 _).out.mono ?_
    rintro e w2 ⟨v2, rfl, ho2, hb2⟩
    replace J := Lib.hid (J.out.step hb2)
    have hz := J.out.below.size
    obtain ⟨A2, c2, rfl, _, _⟩ := ho2.sees.shape
    have P2 := Lib.hid (uint_put hd hsl ho2.sees (by simp [enc4]))
    rw [HF] at P2
    have e4 : (enc4 ob).length = 4 := rfl
    rw [e4] at P2
    rw [e4]
    have HH := Lib.hid HF
    clear e4 ho2 hb2 y0 y1 y2 HF
    obtain ⟨y0, y1, y2, -, -⟩ := (show Held w _ ([] ++ (w.heap.size, _) :: []) from J.out).tri
    go_wp2_with fail
    refine P2.out.mono ?_
    rintro e w3 ⟨v3, rfl, ho3, hb3⟩
    replace J := Lib.hid (J.out.step hb3)
    have HS3 := Lib.hid (HS.out.below J.out.below)
    have H3 := Lib.hid (ho3.mono hz)
    clear ho3 hb3 y0 y1 y2
    obtain ⟨y0, y1, y2, -, -⟩ := (show Held w _ ([] ++ (w.heap.size, _) :: []) from J.out).tri
    go_wp2_with (at_builtin; refine wpList_app rfl (.tmp 39) (.tmp 41) rfl rfl H3.out rfl HS3.out (by have := HN.out; simp [enc4]; omega) J.out.below.size ?_; intro v5 w5 ho5 hg5 _)
    obtain ⟨A6, c6, rfl, -, -⟩ := ho5.sees.shape
    have HB5 := Lib.hid (J.out.below.grown hg5 J.out.below.size (fun k e => (H3.out.block k e).1))
    have HS5 := Lib.hid ho5.sees
    clear ho5 hg5
    go_wp2_with fail
    exact bodyPost_ret (v := .tuple #[.slice A6 (enc4 ob ++ enc4 hd ++ b).length c6, .int .i64 0]) (by simp [results, Tryd.results22, go_sem]) rfl ⟨_, rfl, HS5.out, HB5.out⟩

end Go.Proofs.YtmpkjjmgfakomaaDoor
