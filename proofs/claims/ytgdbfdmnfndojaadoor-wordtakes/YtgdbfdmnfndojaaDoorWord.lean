/-
  The calls of word. (No statement: contracts that the proofs of the statements use.)
-/
import Derived.Test.YtgdbfdmnfndojaaDoorShelf
import Derived.Test.YtgdbfdmnfndojaaDoorRef1b
namespace Go.Proofs.YtgdbfdmnfndojaaDoor
open Go.RowKit

/-- The two tables of the library, as their text lays them. -/
def Tabs (w : World) : Prop := Lib.Utf8Tabs (Tryd.lays196_ren.g 3) (Tryd.lays196_ren.g 4) w

theorem Tabs.below {w w' : World} (h : Tabs w) (hb : Below w.heap.size w w') : Tabs w' := Utf8Tabs_below h hb

/-- The sign at the beginning of a text, and how many bytes; 0, 0: none. -/
def sgn (s : ByteArray) : Nat × Nat := if (Lib.decodeGo s).1 = 65533 ∧ (Lib.decodeGo s).2 ≤ 1 then (0, 0) else Lib.decodeGo s

theorem sign_calls (w : World) (s : ByteArray) (hT : Tabs w) :
    Calls Tryd.prog 9 #[.string s] w fun e w' => e = .returned (.tuple #[.int .i32 (sgn s).1, .int .i64 (sgn s).2]) ∧ Below w.heap.size w w' := by
  unfold sgn
  by_cases h : (Lib.decodeGo s).1 = 65533 ∧ (Lib.decodeGo s).2 ≤ 1
  · rw [if_pos h]
    have HH := Lib.hid h
    have HT := Lib.hid hT
    clear h hT
    go_enter Tryd.func9, Tryd.ntmps9
    go_wp2_with fail
    refine (Tryd.utf8_DecodeRuneInString s w HT.out).mono ?_
    rintro e w1 ⟨rfl, hb⟩
    have h1 := HH.out.1
    have h2 := HH.out.2
    rw [h1]
    have HB := Lib.hid hb
    clear hb h1 HT HH
    generalize (Lib.decodeGo s).2 = k at *
    go_wp2
    go_ret2
    exact ⟨rfl, HB.out⟩
  · rw [if_neg h]
    have HT := Lib.hid hT
    clear hT
    generalize hd : Lib.decodeGo s = d at *
    obtain ⟨a, k⟩ := d
    have HD := Lib.hid hd
    clear hd
    simp only at h
    go_enter Tryd.func9, Tryd.ntmps9
    go_wp2_with fail
    refine (Tryd.utf8_DecodeRuneInString s w HT.out).mono ?_
    rw [HD.out]
    rintro e w1 ⟨rfl, hb⟩
    have HB := Lib.hid hb
    clear hb HT HD
    by_cases ha : a = 65533
    · subst ha
      have hk : ¬ k ≤ 1 := fun hk => h ⟨rfl, hk⟩
      clear h
      go_wp2
      go_ret2
      exact ⟨rfl, HB.out⟩
    · have hb : ((a : Int) == 65533) = false := by simp; omega
      clear h ha
      go_wp2
      go_ret2
      exact ⟨rfl, HB.out⟩

/-- Is a text a string of a packet? -/
def goodB (s : ByteArray) : Bool := decide (s.size ≤ 65535) && (Lib.validD s.data.toList && decide (Lib.indexByte s.data.toList 0 < 0))

theorem good_calls (w : World) (s : ByteArray) (hs : s.size ≤ maxLen) (hT : Tabs w) :
    Calls Tryd.prog 13 #[.string s] w fun e w' => e = .returned (.bool (goodB s)) ∧ Below w.heap.size w w' := by
  unfold maxLen at hs
  by_cases h1 : s.size ≤ 65535
  · cases hv : Lib.validD s.data.toList with
    | true =>
      have e : goodB s = decide (Lib.indexByte s.data.toList 0 < 0) := by simp [goodB, h1, hv]
      rw [e]
      have HT := Lib.hid hT
      have HV := Lib.hid hv
      clear hT hv e
      generalize hi : Lib.indexByte s.data.toList 0 = i
      have HI := Lib.hid hi
      clear hi
      go_enter Tryd.func13, Tryd.ntmps13
      go_wp2_with fail
      refine (Tryd.utf8_ValidString s w (by omega) HT.out).mono ?_
      rw [HV.out]
      rintro e w1 ⟨rfl, hb⟩
      have HB := Lib.hid hb
      clear hb HT HV
      go_wp2_with fail
      refine (Tryd.strings_IndexByte s 0 w1).mono ?_
      rintro e w2 ⟨rfl, rfl⟩
      rw [show Lib.indexByte s.data.toList (0 : Int).toNat.toUInt8 = i from HI.out]
      go_wp2
      go_ret
      exact ⟨rfl, HB.out⟩
    | false =>
      have e : goodB s = false := by simp [goodB, hv]
      rw [e]
      have HT := Lib.hid hT
      have HV := Lib.hid hv
      clear hT hv e
      go_enter Tryd.func13, Tryd.ntmps13
      go_wp2_with fail
      refine (Tryd.utf8_ValidString s w (by omega) HT.out).mono ?_
      rw [HV.out]
      rintro e w1 ⟨rfl, hb⟩
      have HB := Lib.hid hb
      clear hb HT HV
      go_wp2
      go_ret
      exact ⟨rfl, HB.out⟩
  · have e : goodB s = false := by simp [goodB, h1]
    rw [e]
    clear hT e
    go_enter Tryd.func13, Tryd.ntmps13
    go_wp2
    go_ret
    exact ⟨rfl, Below.refl _ _⟩

#print axioms good_calls
end Go.Proofs.YtgdbfdmnfndojaaDoor
