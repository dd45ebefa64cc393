/-
  The calls of queue.Queue: New, Len, Weigh, add. (No statement: contracts that the proofs of the statements use.)
-/
import Derived.Test.YteofjcmpelcmaaaJQue1
namespace Go.Proofs.Yteofjcmpelcmaaa
open Go.RowKit

/-- Block p is a queue: how many may wait, those that wait (their row in block b, or none). -/
structure QLst (w : World) (p b : Nat) (most : Int) (L : List (Ms × Value)) (A : Option Addr) (off cap : Nat) : Prop where
  cells : w.heap[p]? = some (.cells #[.int .i64 most, .slice A L.length cap, wV (lightL (L.map Prod.fst)) (heavyL (L.map Prod.fst))] 131 (0, 0))
  row : RowQ w A b off cap (cellsQ L)
  ne : 0 < cap → b ≠ p
  lt : b < w.heap.size
  each : ∀ e ∈ L, MsAt w e.1 e.2
  far : ∀ e ∈ L, ∀ g, e.2.ownBlock = some g → g < w.heap.size ∧ g ≠ p ∧ (0 < cap → g ≠ b)
/-- .. told by the messages. -/
def QAt (w : World) (p b : Nat) (most : Int) (X : List Ms) : Prop := ∃ L A off cap, L.map Prod.fst = X ∧ QLst w p b most L A off cap

theorem QLst.keep {w w' : World} {p b : Nat} {most : Int} {L : List (Ms × Value)} {A : Option Addr} {off cap : Nat} (h : QLst w p b most L A off cap) (hb : Below w.heap.size w w') : QLst w' p b most L A off cap :=
  ⟨(hb.block p (lt_of_block h.cells)).trans h.cells, h.row.keep (fun _ => hb.block b h.lt), h.ne, Nat.lt_of_lt_of_le h.lt hb.size, fun e he => (h.each e he).below hb, fun e he g hg => ⟨Nat.lt_of_lt_of_le (h.far e he g hg).1 hb.size, (h.far e he g hg).2⟩⟩
theorem QAt.below {w w' : World} {p b : Nat} {most : Int} {X : List Ms} (h : QAt w p b most X) (hb : Below w.heap.size w w') : QAt w' p b most X := by
  obtain ⟨L, A, off, cap, hX, h⟩ := h
  exact ⟨L, A, off, cap, hX, h.keep hb⟩
theorem QAt.lt {w : World} {p b : Nat} {most : Int} {X : List Ms} (h : QAt w p b most X) : p < w.heap.size ∧ b < w.heap.size := by
  obtain ⟨L, A, off, cap, hX, h⟩ := h
  exact ⟨lt_of_block h.cells, h.lt⟩

theorem three_c {w : World} {b : Nat} {u v x : Value} {t : TypeId} (h : w.heap[b]? = some (.cells #[u, v, x] t (0, 0))) : (w.cell? ⟨b, 0, none⟩ = some u ∧ w.cell? ⟨b, 1, none⟩ = some v ∧ w.cell? ⟨b, 2, none⟩ = some x) ∧ w.frozen? ⟨b, 0, none⟩ = false ∧ w.frozen? ⟨b, 1, none⟩ = false ∧ w.frozen? ⟨b, 2, none⟩ = false := by
  simp [World.cell?, World.frozen?, h]
theorem fl_0 : floatOfInt .f64 ((0 : Nat) : Int) = 0 := by decide +kernel

/-- What New leaves. -/
def QNew (w : World) (most : Int) (e : Ending) (w' : World) : Prop := ∃ p, e = .returned (.pointer (some ⟨p, 0, none⟩)) ∧ QAt w' p p most [] ∧ w.heap.size ≤ p ∧ Below w.heap.size w w'

theorem qNew_calls (w : World) (most : Int) : Calls Try.prog 27 #[.int .i64 most] w (QNew w most) := by
  have H : Hid (QNew w most (.returned (.pointer (some ⟨w.heap.size, 0, none⟩))) (w.alloc (.cells #[.int .i64 most, .slice none 0 0, .complex .f64 0 0] 131))) := by
    refine ⟨_, rfl, ⟨[], none, 0, 0, rfl, ⟨?_, ⟨fun h => absurd h (by omega), fun j u hj => by simp [cellsQ] at hj, fun j hj => by omega, by simp [cellsQ], by unfold maxLen; omega⟩, fun h => absurd h (by omega), by simp, (fun e he => by cases he), (fun e he => by cases he)⟩⟩, Nat.le_refl _, below_one w _⟩
    have := heap_alloc_new w (.cells #[.int .i64 most, .slice none 0 0, .complex .f64 0 0] 131)
    rw [this]
    show _ = some (Obj.cells #[.int .i64 most, .slice none 0 0, .complex .f64 (floatOfInt .f64 ((0 : Nat) : Int)) (floatOfInt .f64 ((0 : Nat) : Int))] 131 (0, 0))
    rw [fl_0]
  go_enter Try.func27, Try.ntmps27
  go_wp2
  go_ret
  exact H.out

theorem qLen_calls (w : World) (p b : Nat) (most : Int) (X : List Ms) (h : QAt w p b most X) :
    Calls Try.prog 40 #[.pointer (some ⟨p, 0, none⟩)] w fun e w' => e = .returned (.int .i64 X.length) ∧ w = w' := by
  obtain ⟨L, A, off, cap, rfl, h⟩ := h
  obtain ⟨⟨c0, c1, c2⟩, f0, f1, f2⟩ := three_c h.cells
  have hl : (L.map Prod.fst).length = L.length := by simp
  clear h
  rw [hl]
  go_enter Try.func40, Try.ntmps40
  go_wp2
  go_ret
  exact ⟨rfl, rfl⟩

/-- So many light ones, so many heavy ones, as one number of fewer bits. -/
def wV32 (a b : Nat) : Value := .complex .f32 (floatOfInt .f32 a) (floatOfInt .f32 b)
theorem run_conv_w (w : World) (X : List Ms) (hX : X.length ≤ 64) : (convert 37 93 (wV (lightL X) (heavyL X))).run Try.prog w = .ok (wV32 (lightL X) (heavyL X)) w := by
  have hlh := light_heavy X
  have e1 := fl_32 ⟨lightL X, by omega⟩
  have e2 := fl_32 ⟨heavyL X, by omega⟩
  dsimp only at e1 e2
  unfold wV wV32
  exact run_convert_complex w _ _ _ _ _ _ _ _ (by kernel_rfl) Try.underlying93 (by unfold cConvBits; rw [e1, e2]; rfl)

theorem qWeigh_calls (w : World) (p b : Nat) (most : Int) (X : List Ms) (h : QAt w p b most X) (hX : X.length ≤ 64) :
    Calls Try.prog 42 #[.pointer (some ⟨p, 0, none⟩)] w fun e w' => e = .returned (wV32 (lightL X) (heavyL X)) ∧ w = w' := by
  obtain ⟨L, A, off, cap, rfl, h⟩ := h
  obtain ⟨⟨c0, c1, c2⟩, f0, f1, f2⟩ := three_c h.cells
  have hc := fun w => run_conv_w w (L.map Prod.fst) hX
  clear h
  generalize wV (lightL (L.map Prod.fst)) (heavyL (L.map Prod.fst)) = u at *
  generalize wV32 (lightL (L.map Prod.fst)) (heavyL (L.map Prod.fst)) = v at *
  clear hX
  go_enter Try.func42, Try.ntmps42
  go_wp2
  go_ret
  exact ⟨rfl, rfl⟩

#print axioms qWeigh_calls
end Go.Proofs.Yteofjcmpelcmaaa
