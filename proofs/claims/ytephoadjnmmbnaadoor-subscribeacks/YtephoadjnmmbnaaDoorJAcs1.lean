/-
  The document's answers of layer 8, read: bodies without properties. (No statement: contracts that the proofs of the statements use.)
-/
import Derived.Test.YtephoadjnmmbnaaDoorJProp29
import Derived.Test.YtephoadjnmmbnaaDoorJSub8
import Derived.Test.YtephoadjnmmbnaaDoorJMay4
namespace Go.Proofs.YtephoadjnmmbnaaDoor
open Go.RowKit

/-- What lies where in begin. -/
structure BgJ (w : World) (b : Nat) (s : ByteArray) (x : Int) (V : World) : Prop where
  c4 : V.heap[w.heap.size]? = some (.cells #[.string ⟨#[]⟩, .int .i64 0] 39 (0, 0))
  c7 : V.heap[b]? = some (.cells #[.string s, .int .i64 x] 39 (0, 0))
  hb : w.heap.size < b
  bel : Below w.heap.size w V
theorem BgJ.below {w : World} {b : Nat} {s : ByteArray} {x : Int} {V V' : World} (h : BgJ w b s x V) (hb : Below V.heap.size V V') : BgJ w b s x V' :=
  ⟨(hb.block _ (lt_of_block h.c4)).trans h.c4, (hb.block _ (lt_of_block h.c7)).trans h.c7, h.hb, Below.next h.bel hb⟩
theorem BgJ.set {w : World} {b : Nat} {s : ByteArray} {x : Int} {V : World} (h : BgJ w b s x V) (s' : ByteArray) (x' : Int) : BgJ w b s' x' ((V.setCell ⟨b, 0, none⟩ (.string s')).setCell ⟨b, 1, none⟩ (.int .i64 x')) := by
  have hb := h.hb
  exact ⟨(far_set (by omega)).trans h.c4, pair_set h.c7, hb, (h.bel.setCell (by show w.heap.size ≤ b; omega) _).setCell (by show w.heap.size ≤ b; omega) _⟩
theorem BgJ.sete {w : World} {b : Nat} {s : ByteArray} {x : Int} {V : World} (h : BgJ w b s x V) (x' : Int) : BgJ w b s x' (V.setCell ⟨b, 1, none⟩ (.int .i64 x')) := by
  have hb := h.hb
  have hl := lt_of_block h.c7
  refine ⟨(Below.heap_setCell _ _ _ _ (by show w.heap.size ≠ b; omega)).trans h.c4, ?_, hb, h.bel.setCell (by show w.heap.size ≤ b; omega) _⟩
  have := h.c7
  simp [World.setCell, Array.getElem?_modify, this]

set_option maxRecDepth 100000 in
set_option maxHeartbeats 4000000 in
theorem r8begin_calls (w : World) (K M : Int) (C : List UInt8) (hM1 : 1 ≤ M) (hM2 : M ≤ 65535) (x : Int) (hx : (if C = [] then 3 else 0) = x) :
    Calls Tryd.prog 145 #[.string (str (two M ++ 0 :: C)), .int .i64 K] w fun e w' => ∃ a c, e = .returned (.tuple #[cur (str C) x, .int .u32 M, .slice a 0 c]) ∧ Below w.heap.size w w' := by
  have hr : rawT (str (two M ++ 0 :: C)) 0 2 = (str (two M), str (0 :: C), 0) := rawT_app _ _ _ rfl
  have hnum : ((numL (str (two M)).data.toList : Nat) : Int) = M := by rw [str_data, numL_two _ (by omega)]; omega
  have HN := Lib.hid (show ∀ W, Calls Tryd.prog 161 #[cur (str (two M ++ 0 :: C)) 0, .int .i64 2] W fun e w' => e = .returned (.tuple #[cur (str (0 :: C)) 0, .int .u32 M]) ∧ Below W.heap.size W w' from fun W => by
    have := r1number_calls W _ 0 2 _ _ 0 hr (by decide)
    rw [hnum] at this
    exact this)
  have HT := Lib.hid (show ∀ W, Calls Tryd.prog 30 #[cur (str (0 :: C)) 0, .int .i64 K, .bool false] W (TookT W ([], str C, 0)) from fun W => by
    have := r3TakeAll_calls W (str (0 :: C)) 0 K false
    rw [show takeR (placeN K false) (str (0 :: C)) 0 = ([], str C, 0) from take_nil1 _ C] at this
    exact this)
  have hm : (M == 0) = false := by simp; omega
  have hm' : ¬ M = 0 := by omega
  have HX := Lib.hid hx
  have hes : (str C).toList.isEmpty = decide (C = []) := by rw [str_list]; cases C <;> simp
  generalize str (two M ++ 0 :: C) = BODY at *
  generalize str (0 :: C) = B1 at *
  clear hr hnum hx
  have h4 := heap_alloc_new w (.cells #[.string ⟨#[]⟩, .int .i64 0] 39)
  have B0 := below_one w (.cells #[.string ⟨#[]⟩, .int .i64 0] 39)
  go_enter Tryd.func145, Tryd.ntmps145
  go_wp2_with fail
  generalize w.alloc (.cells #[.string ⟨#[]⟩, .int .i64 0] 39) = W0 at *
  refine (HN.out _).mono ?_
  rintro e W1 ⟨rfl, b1⟩
  have bn := below_one W1 (.cells #[.string B1, .int .i64 0] 39)
  have b01 := b1.trans (bn.mono b1.size)
  have hl4 := lt_of_block h4
  have J := Lib.hid (show BgJ w W1.heap.size B1 0 (W1.alloc (.cells #[.string B1, .int .i64 0] 39)) from ⟨(b01.block _ hl4).trans h4, heap_alloc_new W1 _, Nat.lt_of_lt_of_le hl4 b1.size, Below.next B0 b01⟩)
  clear bn b01 hl4 b1 B0 h4
  go_wp2_with fail
  generalize W1.alloc (.cells #[.string B1, .int .i64 0] 39) = W2 at *
  generalize W1.heap.size = b at *
  obtain ⟨c0, c1, f0, f1⟩ := pair_cells J.out.c7
  obtain ⟨d0, d1, g0, g1⟩ := pair_cells J.out.c4
  have hlb := lt_of_block J.out.c7
  have hl4 := lt_of_block J.out.c4
  go_wp2_with fail
  refine (HT.out _).mono ?_
  rintro e W3 ⟨v, rfl, hown, b3⟩
  obtain ⟨a, c, rfl⟩ := hown.form
  have J3 := Lib.hid (J.out.below b3)
  have J4 := Lib.hid (J3.out.set (str C) 0)
  clear hown b3 J c0 c1 f0 f1 d0 d1 g0 g1 hlb hl4
  dsimp only
  obtain ⟨c0, c1, f0, f1⟩ := pair_cells J3.out.c7
  obtain ⟨d0, d1, g0, g1⟩ := pair_cells J3.out.c4
  have hlb := lt_of_block J3.out.c7
  have hl4 := lt_of_block J3.out.c4
  have hne : w.heap.size ≠ b := Nat.ne_of_lt J3.out.hb
  by_cases hC : C = []
  · have hx := HX.out
    rw [if_pos hC] at hx
    subst hx
    rw [decide_eq_true hC] at hes
    clear hC HX
    have J5 := Lib.hid (J4.out.sete 3)
    obtain ⟨k0, k1, kf0, kf1⟩ := pair_cells J5.out.c7
    go_wp2
    refine bodyPost_ret (v := .tuple #[cur (str C) 3, .int .u32 M, .slice a 0 c]) ?_ rfl ⟨a, c, rfl, ?_⟩
    · simp [results, Tryd.results145, go_sem, d0, d1]
    · exact (J5.out.bel.setCell (Nat.le_refl _) _).setCell (Nat.le_refl _) _
  · have hx := HX.out
    rw [if_neg hC] at hx
    subst hx
    rw [decide_eq_false hC] at hes
    clear hC HX
    go_wp2
    refine bodyPost_ret (v := .tuple #[cur (str C) 0, .int .u32 M, .slice a 0 c]) ?_ rfl ⟨a, c, rfl, ?_⟩
    · simp [results, Tryd.results145, go_sem, d0, d1]
    · exact (J4.out.bel.setCell (Nat.le_refl _) _).setCell (Nat.le_refl _) _

theorem r6want3_calls (w : World) : Calls Tryd.prog 176 #[.int .i64 3] w fun e w' => e = .returned (.int .i64 3) ∧ w' = w := by
  go_enter Tryd.func176, Tryd.ntmps176
  go_wp2
  go_ret
  exact ⟨rfl, rfl⟩
set_option maxHeartbeats 1000000 in
theorem r6end3_calls (w : World) (s : ByteArray) : Calls Tryd.prog 146 #[cur s 3] w fun e w' => e = .returned (.int .i64 3) ∧ Below w.heap.size w w' := by
  have B0 := Lib.hid (below_one w (.cells #[.string s, .int .i64 3] 39))
  go_enter Tryd.func146, Tryd.ntmps146
  go_wp2_with (go_at_call 176; refine (r6want3_calls _).mono ?_; rintro e v ⟨rfl, hw⟩; rw [hw]; clear hw)
  go_ret
  exact ⟨rfl, B0.out⟩

#print axioms r8begin_calls
end Go.Proofs.YtephoadjnmmbnaaDoor
