/-
  The calls of word. (No statement: contracts that the proofs of the statements use.)
-/
import Derived.Test.YtehnpnlbfcajaaaDoorJShelf
import Derived.Test.YtehnpnlbfcajaaaDoorJBase
namespace Go.Proofs.YtehnpnlbfcajaaaDoor
open Go.RowKit

/-- The two tables of the library, as their text lays them. -/
def Tabs (w : World) : Prop := Lib.Utf8Tabs (Tryd.lays196_ren.g 3) (Tryd.lays196_ren.g 4) w

theorem Tabs.below {w w' : World} (h : Tabs w) (hb : Below w.heap.size w w') : Tabs w' := Utf8Tabs_below h hb

/-- The sign at the beginning of a text, and how many bytes; 0, 0: none. -/
def sgn (s : ByteArray) : Nat × Nat := if (Lib.decodeGo s).1 = 65533 ∧ (Lib.decodeGo s).2 ≤ 1 then (0, 0) else Lib.decodeGo s

/-- Is a text a string of a packet? -/
def goodB (s : ByteArray) : Bool := decide (s.size ≤ 65535) && (Lib.validD s.data.toList && decide (Lib.indexByte s.data.toList 0 < 0))

theorem good_calls (w : World) (s : ByteArray) (hs : s.size ≤ maxLen) (hT : Tabs w) :
    Calls Tryd.prog 46 #[.string s] w fun e w' => e = .returned (.bool (goodB s)) ∧ Below w.heap.size w w' := by
  unfold maxLen at hs
  by_cases h1 : s.size ≤ 65535
  · cases hv : Lib.validD s.data.toList with
    | true =>
      have e : goodB s = decide (Lib.indexByte s.data.toList 0 < 0) := by simp [goodB, h1, hv]
      rw [e]
      have HT := Lib.hid hT
      have HV := Lib.hid hv
      clear hT hv e
      generalize hi : Lib.indexByte s.data.toList 0 = i
      have HI := Lib.hid hi
      clear hi
      go_enter Tryd.func46, Tryd.ntmps46
      go_wp2_with fail
      refine (Tryd.utf8_ValidString s w (by omega) HT.out).mono ?_
      rw [HV.out]
      rintro e w1 ⟨rfl, hb⟩
      have HB := Lib.hid hb
      clear hb HT HV
      go_wp2_with fail
      refine (Tryd.strings_IndexByte s 0 w1).mono ?_
      rintro e w2 ⟨rfl, rfl⟩
      rw [show Lib.indexByte s.data.toList (0 : Int).toNat.toUInt8 = i from HI.out]
      go_wp2
      go_ret
      exact ⟨rfl, HB.out⟩
    | false =>
      have e : goodB s = false := by simp [goodB, hv]
      rw [e]
      have HT := Lib.hid hT
      have HV := Lib.hid hv
      clear hT hv e
      go_enter Tryd.func46, Tryd.ntmps46
      go_wp2_with fail
      refine (Tryd.utf8_ValidString s w (by omega) HT.out).mono ?_
      rw [HV.out]
      rintro e w1 ⟨rfl, hb⟩
      have HB := Lib.hid hb
      clear hb HT HV
      go_wp2
      go_ret
      exact ⟨rfl, HB.out⟩
  · have e : goodB s = false := by simp [goodB, h1]
    rw [e]
    clear hT e
    go_enter Tryd.func46, Tryd.ntmps46
    go_wp2
    go_ret
    exact ⟨rfl, Below.refl _ _⟩

#print axioms good_calls
end Go.Proofs.YtehnpnlbfcajaaaDoor
