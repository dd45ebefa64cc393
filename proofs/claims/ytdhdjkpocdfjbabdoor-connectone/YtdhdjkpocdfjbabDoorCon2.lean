/-
  A Connect's beginning: the version, the flags. (No statement: contracts that the proofs of the statements use.)
-/
import Derived.Test.YtdhdjkpocdfjbabDoorCon1
namespace Go.Proofs.YtdhdjkpocdfjbabDoor
open Go.RowKit

/-- The document's string. -/
abbrev mqtt : ByteArray := ⟨#[77, 81, 84, 84]⟩

/-- What takeVersion leaves: what is left, the error. -/
def verA (s : ByteArray) (x : Int) : ByteArray × Int := ((strT s x).2.1, if (strT s x).1 = mqtt then (strT s x).2.2 else failed (strT s x).2.2 14)
def verT (s : ByteArray) (x : Int) : ByteArray × Int :=
  ((rawT (verA s x).1 (verA s x).2 1).2.1, if numL (rawT (verA s x).1 (verA s x).2 1).1.data.toList = 5 then (rawT (verA s x).1 (verA s x).2 1).2.2 else failed (rawT (verA s x).1 (verA s x).2 1).2.2 14)

theorem verA_ok {s a s1 : ByteArray} {x x1 : Int} (h : strT s x = (a, s1, x1)) (ha : a = mqtt) : verA s x = (s1, x1) := by
  unfold verA; rw [h]; dsimp only; rw [if_pos ha]
theorem verA_no {s a s1 : ByteArray} {x x1 : Int} (h : strT s x = (a, s1, x1)) (ha : a ≠ mqtt) : verA s x = (s1, failed x1 14) := by
  unfold verA; rw [h]; dsimp only; rw [if_neg ha]
theorem verT_ok {s t s1 s2 : ByteArray} {x x1 x2 : Int} (h : verA s x = (s1, x1)) (hr : rawT s1 x1 1 = (t, s2, x2)) (h5 : numL t.data.toList = 5) : verT s x = (s2, x2) := by
  unfold verT; rw [h]; dsimp only; rw [hr]; dsimp only; rw [if_pos h5]
theorem verT_no {s t s1 s2 : ByteArray} {x x1 x2 : Int} (h : verA s x = (s1, x1)) (hr : rawT s1 x1 1 = (t, s2, x2)) (h5 : numL t.data.toList ≠ 5) : verT s x = (s2, failed x2 14) := by
  unfold verT; rw [h]; dsimp only; rw [hr]; dsimp only; rw [if_neg h5]

/-- What a call on an In leaves. -/
def LeftS (w : World) (p : Nat) (s : ByteArray) (x : Int) (e : Ending) (w' : World) : Prop := e = .returned (.tuple #[]) ∧ TookS w p s x w'

theorem TookS.of {w w' : World} {p : Nat} {s : ByteArray} {x : Int} (h : Took w p s x w') : TookS w p s x w' := ⟨h.1, Chg.of_only h.2⟩
theorem TookS.trans {w1 w2 w3 : World} {p : Nat} {s s' : ByteArray} {x x' : Int} (h : TookS w1 p s x w2) (k : TookS w2 p s' x' w3) : TookS w1 p s' x' w3 := ⟨k.1, h.2.trans k.2⟩

set_option maxHeartbeats 1000000 in
theorem version_calls (w : World) (p : Nat) (s : ByteArray) (x : Int) (h : InAt w p s x) (hT : Tabs w) (S2 : ByteArray) (X2 : Int) (hR : verT s x = (S2, X2)) :
    Calls Tryd.prog 26 #[.pointer (some ⟨p, 0, none⟩)] w (LeftS w p S2 X2) := by
  have hk := strT_tak s x
  generalize hA : strT s x = AA at hk
  obtain ⟨a, s1, x1⟩ := AA
  dsimp only at hk
  have HK := Lib.hid hk
  have HR := Lib.hid hR
  have HT := Lib.hid hT
  have HA := Lib.hid hA
  clear hk hR hT hA
  by_cases ha : a = mqtt
  · subst ha
    have hva := verA_ok HA.out rfl
    rcases hr : rawT s1 x1 1 with ⟨t, s2, x2⟩
    have HVA := Lib.hid hva
    have HRW := Lib.hid hr
    clear hva hr
    by_cases h5 : numL t.data.toList = 5
    · have hvt := verT_ok HVA.out HRW.out h5
      rw [HR.out] at hvt
      injection hvt with e1 e2
      subst e1 e2
      have H5 := Lib.hid h5
      clear h5
      go_enter Tryd.func26, Tryd.ntmps26
      go_wp2_with fail
      refine (takeS_calls _ p s x _ s1 x1 HK.out h HT.out).mono ?_
      rintro e w1 ⟨rfl, h1⟩
      have H1 := Lib.hid h1
      have i1 := h1.1
      clear h1 h
      go_wp2_with fail
      refine (byteIn_calls _ p s1 x1 t _ _ HRW.out i1).mono ?_
      rw [H5.out]
      rintro e w2 ⟨rfl, h2⟩
      have HL := Lib.hid (show LeftS w p _ _ (.returned (.tuple #[])) w2 from ⟨rfl, H1.out.trans (TookS.of h2)⟩)
      clear h2 i1 H1
      go_wp2
      go_end0
      exact HL.out
    · have hvt := verT_no HVA.out HRW.out h5
      rw [HR.out] at hvt
      injection hvt with e1 e2
      subst e1 e2
      generalize hc : numL t.data.toList = c at h5
      have HC := Lib.hid hc
      have h5b : ((c : Int) != 5) = true := by simp; omega
      clear hc h5
      go_enter Tryd.func26, Tryd.ntmps26
      go_wp2_with fail
      refine (takeS_calls _ p s x _ s1 x1 HK.out h HT.out).mono ?_
      rintro e w1 ⟨rfl, h1⟩
      have H1 := Lib.hid h1
      have i1 := h1.1
      clear h1 h
      go_wp2_with fail
      refine (byteIn_calls _ p s1 x1 t _ _ HRW.out i1).mono ?_
      rw [HC.out]
      rintro e w2 ⟨rfl, h2⟩
      have H2 := Lib.hid (H1.out.trans (TookS.of h2))
      have i2 := h2.1
      clear h2 i1 H1
      go_wp2_with fail
      refine (fail_calls _ p _ _ 14 i2).mono ?_
      rintro e w3 ⟨rfl, i3, o3⟩
      have HL := Lib.hid (show LeftS w p _ _ (.returned (.tuple #[])) w3 from ⟨rfl, H2.out.trans (TookS.of ⟨i3, o3⟩)⟩)
      clear i2 i3 o3 H2
      go_wp2
      go_end0
      exact HL.out
  · have hva := verA_no HA.out ha
    have hl : a.toList ≠ [77, 81, 84, 84] := by
      intro e
      apply ha
      rw [ByteArray.toList_eq] at e
      exact ba_ext e
    have hl1 : (a.toList != [77, 81, 84, 84]) = true := by simpa using hl
    have hl2 : (a.toList == [77, 81, 84, 84]) = false := by simpa using hl
    rcases hr : rawT s1 (failed x1 14) 1 with ⟨t, s2, x2⟩
    have HVA := Lib.hid hva
    have HRW := Lib.hid hr
    have HAM := Lib.hid ha
    clear hva hr ha
    by_cases h5 : numL t.data.toList = 5
    · have hvt := verT_ok HVA.out HRW.out h5
      rw [HR.out] at hvt
      injection hvt with e1 e2
      subst e1 e2
      have H5 := Lib.hid h5
      clear h5
      go_enter Tryd.func26, Tryd.ntmps26
      go_wp2_with fail
      refine (takeS_calls _ p s x _ s1 x1 HK.out h HT.out).mono ?_
      rintro e w1 ⟨rfl, h1⟩
      have H1 := Lib.hid h1
      have i1 := h1.1
      clear h1 h
      go_wp2_with fail
      refine (fail_calls _ p _ _ 14 i1).mono ?_
      rintro e w1' ⟨rfl, i1', o1'⟩
      have H1' := Lib.hid (H1.out.trans (TookS.of ⟨i1', o1'⟩))
      clear i1 o1' H1
      have i1 := i1'
      have H1 := H1'
      clear i1' H1'
      go_wp2_with fail
      refine (byteIn_calls _ p s1 _ t _ _ HRW.out i1).mono ?_
      rw [H5.out]
      rintro e w2 ⟨rfl, h2⟩
      have HL := Lib.hid (show LeftS w p _ _ (.returned (.tuple #[])) w2 from ⟨rfl, H1.out.trans (TookS.of h2)⟩)
      clear h2 i1 H1
      go_wp2
      go_end0
      exact HL.out
    · have hvt := verT_no HVA.out HRW.out h5
      rw [HR.out] at hvt
      injection hvt with e1 e2
      subst e1 e2
      generalize hc : numL t.data.toList = c at h5
      have HC := Lib.hid hc
      have h5b : ((c : Int) != 5) = true := by simp; omega
      clear hc h5
      go_enter Tryd.func26, Tryd.ntmps26
      go_wp2_with fail
      refine (takeS_calls _ p s x _ s1 x1 HK.out h HT.out).mono ?_
      rintro e w1 ⟨rfl, h1⟩
      have H1 := Lib.hid h1
      have i1 := h1.1
      clear h1 h
      go_wp2_with fail
      refine (fail_calls _ p _ _ 14 i1).mono ?_
      rintro e w1' ⟨rfl, i1', o1'⟩
      have H1' := Lib.hid (H1.out.trans (TookS.of ⟨i1', o1'⟩))
      clear i1 o1' H1
      have i1 := i1'
      have H1 := H1'
      clear i1' H1'
      go_wp2_with fail
      refine (byteIn_calls _ p s1 _ t _ _ HRW.out i1).mono ?_
      rw [HC.out]
      rintro e w2 ⟨rfl, h2⟩
      have H2 := Lib.hid (H1.out.trans (TookS.of h2))
      have i2 := h2.1
      clear h2 i1 H1
      go_wp2_with fail
      refine (fail_calls _ p _ _ 14 i2).mono ?_
      rintro e w3 ⟨rfl, i3, o3⟩
      have HL := Lib.hid (show LeftS w p _ _ (.returned (.tuple #[])) w3 from ⟨rfl, H2.out.trans (TookS.of ⟨i3, o3⟩)⟩)
      clear i2 i3 o3 H2
      go_wp2
      go_end0
      exact HL.out

#print axioms version_calls
end Go.Proofs.YtdhdjkpocdfjbabDoor
