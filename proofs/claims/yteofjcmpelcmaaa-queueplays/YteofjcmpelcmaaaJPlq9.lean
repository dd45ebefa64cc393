/-
  The document's Push on a queue that is full. (No statement: contracts that the proofs of the statements use.)
-/
import Derived.Test.YteofjcmpelcmaaaJPlq8
namespace Go.Proofs.Yteofjcmpelcmaaa
open Go.RowKit

/-- A box that is older than the row that is written. -/
structure XBox (xb : Nat) (y : Ms) (vy : Value) (bl : Nat) (V : World) : Prop where
  box : V.heap[xb]? = some (mC y vy)
  lt : xb < bl
theorem XBox.below {xb bl : Nat} {y : Ms} {vy : Value} {V V' : World} (h : XBox xb y vy bl V) (hb : Below V.heap.size V V') : XBox xb y vy bl V' := ⟨(hb.block _ (lt_of_block h.box)).trans h.box, h.lt⟩
theorem XBox.app {xb bl b' o' c' n : Nat} {y : Ms} {vy : Value} {V V' : World} {cs : List Value} (h : XBox xb y vy bl V) (ha : AppS V V' bl b' o' c' n cs) : XBox xb y vy b' V' := by
  have h1 := h.lt
  have h2 := lt_of_block h.box
  refine ⟨(ha.mv.block _ h2 (by omega)).trans h.box, ?_⟩
  rcases ha.at' with e | e <;> omega

theorem drew_heap {V : World} {b : Nat} {o : Option Obj} (h : V.heap[b]? = o) : V.drew.heap[b]? = o := h
theorem row_left {w : World} {A : Option Addr} {b off cap : Nat} {Y1 Y2 : List (Ms × Value)} (h : RowQ w A b off cap (cellsQ (Y1 ++ Y2))) : ∀ j u, (cellsQ Y1)[j]? = some u → w.cell? ⟨b, off + j, none⟩ = some u := fun j u hj => by
  refine h.holds j u ?_
  rw [cellsQ_app, List.getElem?_append_left (List.getElem?_eq_some_iff.1 hj).1]
  exact hj
theorem row_right {w : World} {A : Option Addr} {b off cap : Nat} {Y1 Y2 : List (Ms × Value)} (h : RowQ w A b off cap (cellsQ (Y1 ++ Y2))) : ∀ j u, (cellsQ Y2)[j]? = some u → w.cell? ⟨b, off + Y1.length * 7 + j, none⟩ = some u := fun j u hj => by
  rw [Nat.add_assoc]
  refine h.holds _ u ?_
  rw [cellsQ_app, List.getElem?_append_right (by rw [cellsQ_len]; omega), cellsQ_len, Nat.add_sub_cancel_left]
  exact hj

set_option maxRecDepth 100000 in
set_option maxHeartbeats 400000 in
theorem rPush_zero (w : World) (b off cap : Nat) (Y : List (Ms × Value)) (n : Nat) (m : Ms) (v : Value) (most : Int) (hY : Y.length = n) (hm : MsAt w m v) (hr : ¬ (n : Int) < most) (hq : m.q = 0) :
    Calls Try.prog 31 #[.slice (some ⟨b, off, none⟩) n cap, msV m v, .int .i64 most] w (RPush w b off cap Y m v most) := by
  obtain ⟨Am, cm, rfl⟩ := hm.ps.form
  have hb0 := (below_one w (mC m (.slice Am m.ps.length cm))).alloc (by simp) zC
  have hx0 := (Below.heap_alloc (w.alloc (mC m (.slice Am m.ps.length cm))) zC w.heap.size (by simp)).trans (heap_alloc_new w (mC m (.slice Am m.ps.length cm)))
  have hx1 : ((w.alloc (mC m (.slice Am m.ps.length cm))).alloc zC).heap[w.heap.size + 1]? = some zC := by
    have := heap_alloc_new (w.alloc (mC m (.slice Am m.ps.length cm))) zC
    rwa [World.size_alloc] at this
  have HB0 := Lib.hid hb0
  have HX1 := Lib.hid hx1
  have hqb : (m.q == 0) = true := by rw [hq]; rfl
  obtain ⟨d0, d1, d2, d3, d4, d5, d6, df⟩ := cells7 hx0
  obtain ⟨z0, z1, z2, z3, z4, z5, z6, zf⟩ := cells7 hx1
  have HY := Lib.hid hY
  have HQ := Lib.hid hq
  clear hY hm hb0 hx0 hx1 hq
  generalize hnm : m.ps.length = nm at *
  go_enter Try.func31, Try.ntmps31
  go_wp2_with fail
  generalize (w.alloc (mC m (.slice Am nm cm))).alloc zC = W0 at *
  have HF := Lib.hid (show RPush w b off cap Y m (.slice Am nm cm) most (.returned (.tuple #[.slice (some ⟨b, off, none⟩) n cap, msV m (.slice Am nm cm), .bool true])) (put7 W0 (w.heap.size + 1) 0 (.string m.src) (.int .i64 m.tick) (.int .u8 m.q) (.bool m.rt) (.slice Am nm cm) (.string m.tp) (.string m.pl)).drew from
    .inr (.inl ⟨by rw [HY.out]; omega, .inl HQ.out, by rw [HY.out], (put7_below HB0.out (by omega)).drew⟩))
  go_wp2_with fail
  go_region
  all_goals
    go_wp2
    change bodyPost _ _ _ _ _ (put7 W0 (w.heap.size + 1) 0 _ _ _ _ _ _ _).drew
    have hfin := put7_block (W := W0) (a0 := .string m.src) (a1 := .int .i64 m.tick) (a2 := .int .u8 m.q) (a3 := .bool m.rt) (a4 := .slice Am nm cm) (a5 := .string m.tp) (a6 := .string m.pl) HX1.out
    obtain ⟨t0, t1, t2, t3, t4, t5, t6, tf⟩ := cells7 (drew_heap hfin)
    refine bodyPost_ret (v := .tuple #[.slice (some ⟨b, off, none⟩) n cap, msV m (.slice Am nm cm), .bool true]) ?_ rfl HF.out
    simp [results, Try.results31, go_sem, t0, t1, t2, t3, t4, t5, t6]

#print axioms rPush_zero
end Go.Proofs.Yteofjcmpelcmaaa
