/-
  The calls of reason. (No statement: contracts that the proofs of the statements use.)
-/
import Derived.Test.YtacffjimkplieaaDoorJShelf
import Derived.Test.YtacffjimkplieaaDoorRows
import Derived.WalkKit
import Derived.WalkSpells
import Derived.Lib.Hide
import Derived.Lib.ConvBytes
import Derived.Deep.QuietTactic
import Derived.BigQuiet
import Derived.IntWalk
import Derived.Laws.OwnMore
namespace Go.Proofs.YtacffjimkplieaaDoor
open Go.RowKit

/-- The codes of a packet, as the document's table has them. -/
def rowL (k : Int) : List UInt8 :=
  if k = 2 then [0, 128, 129, 130, 131, 132, 133, 134, 135, 136, 137, 138, 140, 144, 149, 151, 153, 154, 155, 156, 157, 159]
  else if k = 4 ∨ k = 5 then [0, 16, 128, 131, 135, 144, 145, 151, 153]
  else if k = 6 ∨ k = 7 then [0, 146]
  else if k = 9 then [0, 1, 2, 128, 131, 135, 143, 145, 151, 158, 161, 162]
  else if k = 11 then [0, 17, 128, 131, 135, 143, 145]
  else if k = 14 then [0, 4, 128, 129, 130, 131, 135, 137, 139, 141, 142, 143, 144, 147, 148, 149, 150, 151, 152, 153, 154, 155, 156, 157, 158, 159, 160, 161, 162]
  else if k = 15 then [0, 24, 25]
  else []

/-- Which packets have codes. -/
theorem kinds (k : Int) : (k = 2 ∨ k = 4 ∨ k = 5 ∨ k = 6 ∨ k = 7 ∨ k = 9 ∨ k = 11 ∨ k = 14 ∨ k = 15) ∨ (((k == 2) = false ∧ (k == 4) = false ∧ (k == 5) = false ∧ (k == 6) = false ∧ (k == 7) = false ∧ (k == 9) = false ∧ (k == 11) = false ∧ (k == 14) = false ∧ (k == 15) = false) ∧ rowL k = []) := by
  by_cases h : k = 2 ∨ k = 4 ∨ k = 5 ∨ k = 6 ∨ k = 7 ∨ k = 9 ∨ k = 11 ∨ k = 14 ∨ k = 15
  · exact .inl h
  · refine .inr ⟨by simp; omega, ?_⟩
    unfold rowL
    rw [if_neg (by omega), if_neg (by omega), if_neg (by omega), if_neg (by omega), if_neg (by omega), if_neg (by omega), if_neg (by omega)]

theorem row_calls (w : World) (k : Int) :
    Calls Tryd.prog 103 #[.int .i64 k] w fun e w' => e = .returned (.string ⟨(rowL k).toArray⟩) ∧ w = w' := by
  rcases kinds k with h | ⟨⟨h1, h2, h3, h4, h5, h6, h7, h8, h9⟩, h⟩
  · rcases h with rfl | rfl | rfl | rfl | rfl | rfl | rfl | rfl | rfl
    all_goals
      go_enter Tryd.func103, Tryd.ntmps103
      go_wp2
      go_ret
      exact ⟨rfl, rfl⟩
  · rw [h]
    clear h
    go_enter Tryd.func103, Tryd.ntmps103
    go_wp2
    go_ret
    exact ⟨rfl, rfl⟩

/-- May a packet say a code? -/
def mayB (k c : Int) : Bool := decide (0 ≤ Lib.indexByte (rowL k) c.toNat.toUInt8)

theorem may_calls (w : World) (k c : Int) :
    Calls Tryd.prog 81 #[.int .i64 k, .int .u8 c] w fun e w' => e = .returned (.bool (mayB k c)) ∧ w = w' := by
  unfold mayB
  generalize hi : Lib.indexByte (rowL k) c.toNat.toUInt8 = i
  have HI := Lib.hid hi
  clear hi
  go_enter Tryd.func81, Tryd.ntmps81
  go_wp2_with fail
  refine (row_calls _ k).mono ?_
  rintro e w1 ⟨rfl, rfl⟩
  go_wp2_with fail
  refine (Tryd.strings_IndexByte _ c w).mono ?_
  rintro e w1 ⟨rfl, rfl⟩
  rw [List.toList_toArray, HI.out]
  go_wp2
  go_ret
  exact ⟨rfl, rfl⟩

/-- Bytes of a row of its own: block p. -/
def RowAt (w : World) (p : Nat) (l : List UInt8) : Prop := p < w.heap.size ∧ ∀ j, j < l.length → w.cell? ⟨p, j, none⟩ = some (.int .u8 (l.getD j 0).toNat) ∧ w.frozen? ⟨p, j, none⟩ = false

theorem RowAt.keep {w w' : World} {p : Nat} {l : List UInt8} (h : RowAt w p l) (hs : w.heap.size ≤ w'.heap.size) (hb : w'.heap[p]? = w.heap[p]?) : RowAt w' p l :=
  ⟨Nat.lt_of_lt_of_le h.1 hs, fun j hj => ⟨(World.cell?_of_block (w := w) hb).trans (h.2 j hj).1, (World.frozen?_of_block (w := w) hb).trans (h.2 j hj).2⟩⟩
theorem RowAt.below {w w' : World} {p : Nat} {l : List UInt8} (h : RowAt w p l) (hb : Below w.heap.size w w') : RowAt w' p l := h.keep hb.size (hb.block p h.1)

theorem bytesWorld_below (w : World) (e : TypeId) (s : ByteArray) : Below w.heap.size w (Lib.bytesWorld w e s) := by
  refine ⟨?_, ?_, ?_, ?_, fun k hk => Lib.bytesWorld_at_old w e s k hk⟩
  · simp [Lib.bytesWorld, World.freeze, World.alloc, World.drew, -World.alloc_eq, -World.drew_eq]
  · simp [Lib.bytesWorld, World.freeze, World.alloc, World.drew, -World.alloc_eq, -World.drew_eq]
  · simp [Lib.bytesWorld, World.freeze, World.alloc, World.drew, -World.alloc_eq, -World.drew_eq]
  · rw [Lib.bytesWorld_size]; omega

theorem bytesWorld_row (w : World) (e : TypeId) (s : ByteArray) : RowAt (Lib.bytesWorld w e s) w.heap.size s.data.toList := by
  refine ⟨by rw [Lib.bytesWorld_size]; omega, fun j hj => ⟨Lib.bytesWorld_cell w e s j (by simpa using hj), ?_⟩⟩
  have h := Lib.bytesWorld_at_new w e s
  have hz : s.size ≤ (Lib.bytesCells w e s).size := by simp [Lib.bytesCells]
  have hj' : j < s.size := by simpa using hj
  unfold World.frozen?
  simp only [h]
  simp
  omega

/-- What Codes answers: a new row. -/
def CodesOf (w : World) (k : Int) (e : Ending) (w' : World) : Prop := ∃ c : Nat, e = .returned (.slice (some ⟨w.heap.size, 0, none⟩) (rowL k).length c) ∧ RowAt w' w.heap.size (rowL k) ∧ Below w.heap.size w w'

theorem codes_calls (w : World) (k : Int) : Calls Tryd.prog 41 #[.int .i64 k] w (CodesOf w k) := by
  go_enter Tryd.func41, Tryd.ntmps41
  go_wp2_with fail
  refine (row_calls _ k).mono ?_
  rintro e w1 ⟨rfl, rfl⟩
  have hc := Lib.run_convert_string_bytes (P := Tryd.prog) w 9 87 5 ⟨(rowL k).toArray⟩ Tryd.underlying9 Tryd.underlying87 Tryd.underlying5
  have HB := Lib.hid (bytesWorld_below w 5 ⟨(rowL k).toArray⟩)
  have HR := Lib.hid (bytesWorld_row w 5 ⟨(rowL k).toArray⟩)
  have hz : (⟨(rowL k).toArray⟩ : ByteArray).size = (rowL k).length := by simp [ByteArray.size]
  rw [hz] at hc
  have HZ := Lib.hid hz
  clear hz
  generalize Lib.bytesWorld w 5 ⟨(rowL k).toArray⟩ = w1 at *
  generalize grownCap w (rowL k).length 0 5 = c at *
  go_wp2
  go_ret
  refine ⟨c, rfl, ?_, HB.out⟩
  have := HR.out
  simpa using this

/-- The code of an error. -/
def ofN (e : Int) : Nat :=
  if e = 0 then 0 else if e = 1 ∨ e = 2 then 129 else if e = 3 then 130 else if e = 4 then 149 else if e = 9 then 144 else if e = 10 then 143
  else if e = 11 then 148 else if e = 12 then 147 else if e = 14 then 132 else 128

theorem errs (e : Int) : (e = 0 ∨ e = 1 ∨ e = 2 ∨ e = 3 ∨ e = 4 ∨ e = 9 ∨ e = 10 ∨ e = 11 ∨ e = 12 ∨ e = 14) ∨ (((e == 0) = false ∧ (e == 1) = false ∧ (e == 2) = false ∧ (e == 3) = false ∧ (e == 4) = false ∧ (e == 9) = false ∧ (e == 10) = false ∧ (e == 11) = false ∧ (e == 12) = false ∧ (e == 14) = false) ∧ ofN e = 128) := by
  by_cases h : e = 0 ∨ e = 1 ∨ e = 2 ∨ e = 3 ∨ e = 4 ∨ e = 9 ∨ e = 10 ∨ e = 11 ∨ e = 12 ∨ e = 14
  · exact .inl h
  · refine .inr ⟨by simp; omega, ?_⟩
    unfold ofN
    rw [if_neg (by omega), if_neg (by omega), if_neg (by omega), if_neg (by omega), if_neg (by omega), if_neg (by omega), if_neg (by omega), if_neg (by omega), if_neg (by omega)]

end Go.Proofs.YtacffjimkplieaaDoor
