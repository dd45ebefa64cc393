/-
  A body with another byte of flags. (No statement: what the proofs of the statements use.)
-/
import Derived.Test.YtdhdjkpocdfjbabDoorCon10
import Derived.Test.YtdhdjkpocdfjbabDoorReason
namespace Go.Proofs.YtdhdjkpocdfjbabDoor
open Go.RowKit

/-- One byte of a row is stored. -/
theorem RowAt.set {w : World} {p : Nat} {l : List UInt8} (h : RowAt w p l) (j : Nat) (hj : j < l.length) (c : UInt8) : RowAt (w.setCell ⟨p, j, none⟩ (.int .u8 c.toNat)) p (l.set j c) := by
  refine ⟨by have := h.1; simpa [World.setCell] using this, fun i hi => ?_⟩
  rw [List.length_set] at hi
  have h1 := h.2 i hi
  have hfz : ∀ q : Addr, (w.setCell ⟨p, j, none⟩ (.int .u8 c.toNat)).frozen? q = w.frozen? q := fun q => by simp
  refine ⟨?_, by rw [hfz]; exact h1.2⟩
  by_cases e : i = j
  · subst e
    rw [World.cell?_setCell_same' w ⟨p, i, none⟩ _ (by rw [h1.1]; rfl)]
    simp [List.getD, hi]
  · rw [World.cell?_setCell_other w ⟨p, j, none⟩ ⟨p, i, none⟩ _ (fun e' => e (by injection e' with _ e' _; exact e'.symm)), h1.1]
    simp [List.getD, Ne.symm e]

/-- A row as a string. -/
theorem RowAt.conv {w : World} {p : Nat} {l : List UInt8} (h : RowAt w p l) (c : Nat) : (convert 61 9 (.slice (some ⟨p, 0, none⟩) l.length c)).run Tryd.prog w = .ok (.string (str l)) w := by
  rw [run_convert_bytes_arg w 61 5 Tryd.underlying61 Tryd.underlying5 p 0 l.length c (l.map fun c => (c.toNat : Int)) (by simp) ?_ 9 Tryd.underlying9]
  · congr 2
    simp only [strOfNums, str, List.map_map]
    congr 2
    conv => rhs; rw [← List.map_id l]
    apply List.map_congr_left
    intro c _
    simp
  · intro i hi
    rw [Nat.zero_add, (h.2 i hi).1]
    simp [List.getD, hi]

/-- A Connect of no more than its flags. -/
def cnX (f : Int) : Cn := ⟨false, 0, [], ⟨#[]⟩, flB f 4, [], ⟨#[]⟩, ⟨#[]⟩, 0, false, flB f 128, flB f 64, ⟨#[]⟩, ⟨#[]⟩⟩
theorem cnX_ok (f : Int) : (cnX f).ok := ⟨by show (0 : Int) ≤ 0; decide, by show (0 : Int) < 4294967296; decide, by show (0 : Int) ≤ 0; decide, by show (0 : Int) < 256; decide, by show (0 : Nat) ≤ 65535; decide, by show (0 : Nat) ≤ 65535; decide, by show (0 : Nat) ≤ 65535; decide, by show (0 : Nat) ≤ 65535; decide, by show (0 : Nat) ≤ 65535; decide, (fun p hp => by cases hp), (fun p hp => by cases hp), by show 0 ≤ 1000; decide, by show 0 ≤ 1000; decide⟩
def bodyX (f : Nat) : List UInt8 := (textL (cnX f)).set 7 (UInt8.ofNat f)
theorem bodyX_all : ∀ k : Fin 256, (partsF (str (bodyX k.val))).err = (if mayF (k.val : Int) = true then 0 else 2) ∧ 8 ≤ (textL (cnX (k.val : Int))).length := by decide +kernel
/-- The statement's own test of the flags. -/
def lawF (f : Int) : Bool := if (bits .and .u8 f 1 == 0) = false then false else if decide (bits .and .u8 (f / 8) 3 < 3) = false then false else if decide (0 < bits .and .u8 f 4) = true then true else (bits .and .u8 f 56 == 0)
theorem lawF_all : ∀ k : Fin 256, lawF (k.val : Int) = mayF (k.val : Int) ∧ decide (0 < bits .and .u8 (k.val : Int) 4) = flB (k.val : Int) 4 ∧ decide (0 < bits .and .u8 (k.val : Int) 128) = flB (k.val : Int) 128 ∧ decide (0 < bits .and .u8 (k.val : Int) 64) = flB (k.val : Int) 64 := by decide +kernel

#print axioms bodyX_all
end Go.Proofs.YtdhdjkpocdfjbabDoor
