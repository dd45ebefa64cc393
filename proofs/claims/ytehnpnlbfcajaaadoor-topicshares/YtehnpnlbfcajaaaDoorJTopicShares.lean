/-
  A shared filter tells its group and its filter.
  Its conditions: none beside those of the row itself (the two tables of unicode/utf8 start as the library's text lays them: the card ties them).
-/
import Derived.Test.YtehnpnlbfcajaaaDoorCards
import Derived.Test.YtehnpnlbfcajaaaDoorTie
import Derived.Test.YtehnpnlbfcajaaaDoorJTopicSharesw
import Derived.Test.YtehnpnlbfcajaaaDoorJTopicSharesf
import Derived.Test.YtehnpnlbfcajaaaDoorJTop6
import Derived.ProofKit
import Derived.OpenShut
import Derived.ShutString
import Derived.ChangeOld
import Derived.Deep.DeepHandedRow
import Derived.Deep.DeepWitnessRowRef
import Derived.Lib.LaidU8T
import Derived.Lib.LaidTab
import Derived.Lib.LaidIn
namespace Go.Proofs.YtehnpnlbfcajaaaDoor.topicShares
open Go.ChangeShapes Go.WideShapes Go.ChangeAt Go.RowKit Go.Lib
open Go.ChangeMaps (open_string shut_string)
set_option linter.unusedVariables false

theorem idx_mem (c : UInt8) : ∀ l : List UInt8, decide (0 ≤ indexByte l c) = decide (c ∈ l)
  | [] => by simp [indexByte]
  | x :: l => by
    have ih := idx_mem c l
    have hg := indexByte_ge l c
    unfold indexByte
    by_cases h : x = c
    · subst h; simp
    · rw [if_neg (by simpa using h)]
      by_cases h1 : indexByte l c = -1
      · rw [if_pos (by simp [h1])]
        rw [h1] at ih
        simp at ih
        rw [decide_eq_false (by decide), decide_eq_false]
        intro e
        cases e with
        | head => exact h rfl
        | tail _ e => exact ih e
      · rw [if_neg (by simp [h1])]
        have h2 : 0 ≤ indexByte l c := by omega
        rw [decide_eq_true h2] at ih
        have h3 : c ∈ l := of_decide_eq_true ih.symm
        rw [decide_eq_true (show 0 ≤ indexByte l c + 1 by omega), decide_eq_true (show c ∈ x :: l from .tail _ h3)]
theorem take_all : ∀ (G F : List UInt8), (47 : UInt8) ∉ G → (G ++ 47 :: F).takeWhile (· != 47) = G ∧ ((G ++ 47 :: F).dropWhile (· != 47)).drop 1 = F
  | [], F, _ => by simp
  | x :: G, F, h => by
    have h1 : x ≠ 47 := fun e => h (by rw [e]; exact .head _)
    have h2 := take_all G F (fun e => h (.tail _ e))
    have hx : (x != 47) = true := by simp [h1]
    rw [List.cons_append, List.takeWhile_cons, List.dropWhile_cons, hx]
    simp only [if_true]
    exact ⟨by rw [h2.1], h2.2⟩
theorem take_less : ∀ (G F : List UInt8), (47 : UInt8) ∈ G → (G ++ 47 :: F).takeWhile (· != 47) ≠ G
  | [], F, h => by cases h
  | x :: G, F, h => by
    by_cases h1 : x = 47
    · subst h1; simp
    · have h2 := take_less G F (by cases h with | head => exact absurd rfl h1 | tail _ h => exact h)
      have hx : (x != 47) = true := by simp [h1]
      rw [List.cons_append, List.takeWhile_cons, hx]
      simp only [if_true]
      intro e
      exact h2 (by injection e)
theorem grp_name (G : List UInt8) (h : (47 : UInt8) ∉ G) : nameB G = grpB G := by
  unfold nameB grpB mayB
  rw [List.count_eq_zero_of_not_mem h]
  simp [Bool.and_assoc]
theorem share_split (G F : List UInt8) : splitT (shareL ++ (G ++ 47 :: F)) = if grpB ((G ++ 47 :: F).takeWhile (· != 47)) && filtB (((G ++ 47 :: F).dropWhile (· != 47)).drop 1) then ((G ++ 47 :: F).takeWhile (· != 47), ((G ++ 47 :: F).dropWhile (· != 47)).drop 1, true) else ([], [], false) := by
  unfold splitT
  rw [if_pos (by simp [shareL, List.isPrefixOf])]
  rfl

theorem share_str (G F : List UInt8) : (((⟨#[36, 115, 104, 97, 114, 101, 47]⟩ : ByteArray) ++ str G) ++ ⟨#[47]⟩) ++ str F = str (shareL ++ (G ++ 47 :: F)) := by
  apply ByteArray.ext
  simp [str, ByteArray.data_append, shareL]

set_option maxRecDepth 100000 in
set_option maxHeartbeats 1000000 in
theorem w1 (a0 : ByteArray) (w0 : a0.size ≤ maxLen) (a1 : ByteArray) (w1 : a1.size ≤ maxLen) (w : World) (HT : Hid (T10 w)) (s1 s2 g f : ByteArray) (hs1 : a0.extract 0 20 = s1) (hs2 : a1.extract 0 60 = s2) (z1 : s1.size ≤ 20) (z2 : s2.size ≤ 60)
    (cs : ∀ w, T10 w → Calls Tryd.prog 10 #[.string ((((⟨#[36, 115, 104, 97, 114, 101, 47]⟩ : ByteArray) ++ s1) ++ ⟨#[47]⟩) ++ s2)] w fun e w' => e = .returned (.tuple #[.string g, .string f, .bool false]) ∧ Below w.heap.size w w')
    (cn : ∀ w, T10 w → Calls Tryd.prog 16 #[.string s1] w fun e w' => e = .returned (.bool false) ∧ Below w.heap.size w w')
    (eg : g.toList = []) (ef : f.toList = []) :
    Calls Tryd.prog 8 #[.string a0, .string a1] w fun e w' => e = .returned (.bool true) ∧ Below w.heap.size w w' := by
  have CS := Lib.hid cs
  have CN := Lib.hid cn
  clear cs cn
  go_enter Tryd.func8, Tryd.ntmps8
  go_wp2_with fail
  refine (cut_calls _ a0 20 w0).mono ?_
  rintro e v3 ⟨rfl, rfl⟩
  rw [hs1]
  go_wp2_with fail
  refine (cut_calls _ a1 60 w1).mono ?_
  rintro e v3 ⟨rfl, rfl⟩
  rw [hs2]
  clear w0 w1 hs1 hs2
  go_wp2_with fail
  refine (CS.out _ HT.out).mono ?_
  rintro e v1 ⟨rfl, b1⟩
  go_wp2_with fail
  refine (awake10_calls _ (HT.out.below b1)).mono ?_
  rintro e v2 ⟨rfl, b⟩
  have b2 := b1.trans (b.mono b1.size)
  clear b b1
  go_wp2_with fail
  refine (CN.out _ (HT.out.below b2)).mono ?_
  rintro e v3 ⟨rfl, b⟩
  have b3 := b2.trans (b.mono b2.size)
  clear b b2
  go_wp2
  go_ret
  exact ⟨rfl, b3⟩

set_option maxRecDepth 100000 in
set_option maxHeartbeats 1000000 in
theorem w2 (a0 : ByteArray) (w0 : a0.size ≤ maxLen) (a1 : ByteArray) (w1 : a1.size ≤ maxLen) (w : World) (HT : Hid (T10 w)) (s1 s2 g f : ByteArray) (hs1 : a0.extract 0 20 = s1) (hs2 : a1.extract 0 60 = s2) (z1 : s1.size ≤ 20) (z2 : s2.size ≤ 60)
    (cs : ∀ w, T10 w → Calls Tryd.prog 10 #[.string ((((⟨#[36, 115, 104, 97, 114, 101, 47]⟩ : ByteArray) ++ s1) ++ ⟨#[47]⟩) ++ s2)] w fun e w' => e = .returned (.tuple #[.string g, .string f, .bool true]) ∧ Below w.heap.size w w')
    (cn : ∀ w, T10 w → Calls Tryd.prog 16 #[.string s1] w fun e w' => e = .returned (.bool false) ∧ Below w.heap.size w w')
    (cd : ∀ w, T10 w → Calls Tryd.prog 18 #[.string f] w fun e w' => e = .returned (.bool true) ∧ Below w.heap.size w w') (hne : g.toList ≠ s1.toList) :
    Calls Tryd.prog 8 #[.string a0, .string a1] w fun e w' => e = .returned (.bool true) ∧ Below w.heap.size w w' := by
  have CS := Lib.hid cs
  have CN := Lib.hid cn
  clear cs cn
  go_enter Tryd.func8, Tryd.ntmps8
  go_wp2_with fail
  refine (cut_calls _ a0 20 w0).mono ?_
  rintro e v3 ⟨rfl, rfl⟩
  rw [hs1]
  go_wp2_with fail
  refine (cut_calls _ a1 60 w1).mono ?_
  rintro e v3 ⟨rfl, rfl⟩
  rw [hs2]
  clear w0 w1 hs1 hs2
  go_wp2_with fail
  refine (CS.out _ HT.out).mono ?_
  rintro e v1 ⟨rfl, b1⟩
  go_wp2_with fail
  refine (awake10_calls _ (HT.out.below b1)).mono ?_
  rintro e v2 ⟨rfl, b⟩
  have b2 := b1.trans (b.mono b1.size)
  clear b b1
  go_wp2_with fail
  refine (CN.out _ (HT.out.below b2)).mono ?_
  rintro e v3 ⟨rfl, b⟩
  have b3 := b2.trans (b.mono b2.size)
  clear b b2
  go_wp2_with fail
  refine (cd _ (HT.out.below b3)).mono ?_
  rintro e v4 ⟨rfl, b⟩
  have b4 := b3.trans (b.mono b3.size)
  clear b b3
  go_wp2
  go_ret
  exact ⟨by simp [hne], b4⟩

set_option maxRecDepth 100000 in
set_option maxHeartbeats 1000000 in
theorem w3 (a0 : ByteArray) (w0 : a0.size ≤ maxLen) (a1 : ByteArray) (w1 : a1.size ≤ maxLen) (w : World) (HT : Hid (T10 w)) (s1 s2 g f : ByteArray) (hs1 : a0.extract 0 20 = s1) (hs2 : a1.extract 0 60 = s2) (z1 : s1.size ≤ 20) (z2 : s2.size ≤ 60)
    (cs : ∀ w, T10 w → Calls Tryd.prog 10 #[.string ((((⟨#[36, 115, 104, 97, 114, 101, 47]⟩ : ByteArray) ++ s1) ++ ⟨#[47]⟩) ++ s2)] w fun e w' => e = .returned (.tuple #[.string g, .string f, .bool true]) ∧ Below w.heap.size w w')
    (cn : ∀ w, T10 w → Calls Tryd.prog 16 #[.string s1] w fun e w' => e = .returned (.bool true) ∧ Below w.heap.size w w')
    (cc : ∀ w, Calls Tryd.prog 25 #[.string s1, .string ⟨#[47]⟩] w fun e w' => e = .returned (.bool false) ∧ w' = w)
    (cf : ∀ w, T10 w → Calls Tryd.prog 18 #[.string s2] w fun e w' => e = .returned (.bool true) ∧ Below w.heap.size w w')
    (eg : g = s1) (ef : f = s2) :
    Calls Tryd.prog 8 #[.string a0, .string a1] w fun e w' => e = .returned (.bool true) ∧ Below w.heap.size w w' := by
  have CS := Lib.hid cs
  have CN := Lib.hid cn
  clear cs cn
  go_enter Tryd.func8, Tryd.ntmps8
  go_wp2_with fail
  refine (cut_calls _ a0 20 w0).mono ?_
  rintro e v3 ⟨rfl, rfl⟩
  rw [hs1]
  go_wp2_with fail
  refine (cut_calls _ a1 60 w1).mono ?_
  rintro e v3 ⟨rfl, rfl⟩
  rw [hs2]
  clear w0 w1 hs1 hs2
  subst eg ef
  go_wp2_with fail
  refine (CS.out _ HT.out).mono ?_
  rintro e v1 ⟨rfl, b1⟩
  go_wp2_with fail
  refine (awake10_calls _ (HT.out.below b1)).mono ?_
  rintro e v2 ⟨rfl, b⟩
  have b2 := b1.trans (b.mono b1.size)
  clear b b1
  go_wp2_with fail
  refine (CN.out _ (HT.out.below b2)).mono ?_
  rintro e v3 ⟨rfl, b⟩
  have b3 := b2.trans (b.mono b2.size)
  clear b b2
  go_wp2_with fail
  refine (cc _).mono ?_
  rintro e v ⟨rfl, hv⟩
  subst hv
  go_wp2_with fail
  refine (cf _ (HT.out.below b3)).mono ?_
  rintro e v4 ⟨rfl, b⟩
  have b4 := b3.trans (b.mono b3.size)
  clear b b3
  go_wp2
  go_ret
  exact ⟨rfl, b4⟩

set_option maxRecDepth 100000 in
set_option maxHeartbeats 1000000 in
theorem w4 (a0 : ByteArray) (w0 : a0.size ≤ maxLen) (a1 : ByteArray) (w1 : a1.size ≤ maxLen) (w : World) (HT : Hid (T10 w)) (s1 s2 g f : ByteArray) (hs1 : a0.extract 0 20 = s1) (hs2 : a1.extract 0 60 = s2) (z1 : s1.size ≤ 20) (z2 : s2.size ≤ 60)
    (cs : ∀ w, T10 w → Calls Tryd.prog 10 #[.string ((((⟨#[36, 115, 104, 97, 114, 101, 47]⟩ : ByteArray) ++ s1) ++ ⟨#[47]⟩) ++ s2)] w fun e w' => e = .returned (.tuple #[.string g, .string f, .bool false]) ∧ Below w.heap.size w w')
    (cn : ∀ w, T10 w → Calls Tryd.prog 16 #[.string s1] w fun e w' => e = .returned (.bool true) ∧ Below w.heap.size w w')
    (cc : ∀ w, Calls Tryd.prog 25 #[.string s1, .string ⟨#[47]⟩] w fun e w' => e = .returned (.bool false) ∧ w' = w)
    (cf : ∀ w, T10 w → Calls Tryd.prog 18 #[.string s2] w fun e w' => e = .returned (.bool false) ∧ Below w.heap.size w w')
    (eg : g.toList = []) (ef : f.toList = []) :
    Calls Tryd.prog 8 #[.string a0, .string a1] w fun e w' => e = .returned (.bool true) ∧ Below w.heap.size w w' := by
  have CS := Lib.hid cs
  have CN := Lib.hid cn
  clear cs cn
  go_enter Tryd.func8, Tryd.ntmps8
  go_wp2_with fail
  refine (cut_calls _ a0 20 w0).mono ?_
  rintro e v3 ⟨rfl, rfl⟩
  rw [hs1]
  go_wp2_with fail
  refine (cut_calls _ a1 60 w1).mono ?_
  rintro e v3 ⟨rfl, rfl⟩
  rw [hs2]
  clear w0 w1 hs1 hs2
  go_wp2_with fail
  refine (CS.out _ HT.out).mono ?_
  rintro e v1 ⟨rfl, b1⟩
  go_wp2_with fail
  refine (awake10_calls _ (HT.out.below b1)).mono ?_
  rintro e v2 ⟨rfl, b⟩
  have b2 := b1.trans (b.mono b1.size)
  clear b b1
  go_wp2_with fail
  refine (CN.out _ (HT.out.below b2)).mono ?_
  rintro e v3 ⟨rfl, b⟩
  have b3 := b2.trans (b.mono b2.size)
  clear b b2
  go_wp2_with fail
  refine (cc _).mono ?_
  rintro e v ⟨rfl, hv⟩
  subst hv
  go_wp2_with fail
  refine (cf _ (HT.out.below b3)).mono ?_
  rintro e v4 ⟨rfl, b⟩
  have b4 := b3.trans (b.mono b3.size)
  clear b b3
  go_wp2
  go_ret
  exact ⟨rfl, b4⟩

set_option maxRecDepth 100000 in
set_option maxHeartbeats 1000000 in
theorem w5 (a0 : ByteArray) (w0 : a0.size ≤ maxLen) (a1 : ByteArray) (w1 : a1.size ≤ maxLen) (w : World) (HT : Hid (T10 w)) (s1 s2 g f : ByteArray) (hs1 : a0.extract 0 20 = s1) (hs2 : a1.extract 0 60 = s2) (z1 : s1.size ≤ 20) (z2 : s2.size ≤ 60)
    (cs : ∀ w, T10 w → Calls Tryd.prog 10 #[.string ((((⟨#[36, 115, 104, 97, 114, 101, 47]⟩ : ByteArray) ++ s1) ++ ⟨#[47]⟩) ++ s2)] w fun e w' => e = .returned (.tuple #[.string g, .string f, .bool false]) ∧ Below w.heap.size w w')
    (cn : ∀ w, T10 w → Calls Tryd.prog 16 #[.string s1] w fun e w' => e = .returned (.bool true) ∧ Below w.heap.size w w')
    (cc : ∀ w, Calls Tryd.prog 25 #[.string s1, .string ⟨#[47]⟩] w fun e w' => e = .returned (.bool true) ∧ w' = w)
    (eg : g.toList = []) (ef : f.toList = []) :
    Calls Tryd.prog 8 #[.string a0, .string a1] w fun e w' => e = .returned (.bool true) ∧ Below w.heap.size w w' := by
  have CS := Lib.hid cs
  have CN := Lib.hid cn
  clear cs cn
  go_enter Tryd.func8, Tryd.ntmps8
  go_wp2_with fail
  refine (cut_calls _ a0 20 w0).mono ?_
  rintro e v3 ⟨rfl, rfl⟩
  rw [hs1]
  go_wp2_with fail
  refine (cut_calls _ a1 60 w1).mono ?_
  rintro e v3 ⟨rfl, rfl⟩
  rw [hs2]
  clear w0 w1 hs1 hs2
  go_wp2_with fail
  refine (CS.out _ HT.out).mono ?_
  rintro e v1 ⟨rfl, b1⟩
  go_wp2_with fail
  refine (awake10_calls _ (HT.out.below b1)).mono ?_
  rintro e v2 ⟨rfl, b⟩
  have b2 := b1.trans (b.mono b1.size)
  clear b b1
  go_wp2_with fail
  refine (CN.out _ (HT.out.below b2)).mono ?_
  rintro e v3 ⟨rfl, b⟩
  have b3 := b2.trans (b.mono b2.size)
  clear b b2
  go_wp2_with fail
  refine (cc _).mono ?_
  rintro e v ⟨rfl, hv⟩
  subst hv
  go_wp2
  go_ret
  exact ⟨rfl, b3⟩

set_option maxRecDepth 100000 in
set_option maxHeartbeats 1000000 in
theorem w6 (a0 : ByteArray) (w0 : a0.size ≤ maxLen) (a1 : ByteArray) (w1 : a1.size ≤ maxLen) (w : World) (HT : Hid (T10 w)) (s1 s2 g f : ByteArray) (hs1 : a0.extract 0 20 = s1) (hs2 : a1.extract 0 60 = s2) (z1 : s1.size ≤ 20) (z2 : s2.size ≤ 60)
    (cs : ∀ w, T10 w → Calls Tryd.prog 10 #[.string ((((⟨#[36, 115, 104, 97, 114, 101, 47]⟩ : ByteArray) ++ s1) ++ ⟨#[47]⟩) ++ s2)] w fun e w' => e = .returned (.tuple #[.string g, .string f, .bool true]) ∧ Below w.heap.size w w')
    (cn : ∀ w, T10 w → Calls Tryd.prog 16 #[.string s1] w fun e w' => e = .returned (.bool true) ∧ Below w.heap.size w w')
    (cc : ∀ w, Calls Tryd.prog 25 #[.string s1, .string ⟨#[47]⟩] w fun e w' => e = .returned (.bool true) ∧ w' = w)
    (cd : ∀ w, T10 w → Calls Tryd.prog 18 #[.string f] w fun e w' => e = .returned (.bool true) ∧ Below w.heap.size w w') (hne : g.toList ≠ s1.toList) :
    Calls Tryd.prog 8 #[.string a0, .string a1] w fun e w' => e = .returned (.bool true) ∧ Below w.heap.size w w' := by
  have CS := Lib.hid cs
  have CN := Lib.hid cn
  clear cs cn
  go_enter Tryd.func8, Tryd.ntmps8
  go_wp2_with fail
  refine (cut_calls _ a0 20 w0).mono ?_
  rintro e v3 ⟨rfl, rfl⟩
  rw [hs1]
  go_wp2_with fail
  refine (cut_calls _ a1 60 w1).mono ?_
  rintro e v3 ⟨rfl, rfl⟩
  rw [hs2]
  clear w0 w1 hs1 hs2
  go_wp2_with fail
  refine (CS.out _ HT.out).mono ?_
  rintro e v1 ⟨rfl, b1⟩
  go_wp2_with fail
  refine (awake10_calls _ (HT.out.below b1)).mono ?_
  rintro e v2 ⟨rfl, b⟩
  have b2 := b1.trans (b.mono b1.size)
  clear b b1
  go_wp2_with fail
  refine (CN.out _ (HT.out.below b2)).mono ?_
  rintro e v3 ⟨rfl, b⟩
  have b3 := b2.trans (b.mono b2.size)
  clear b b2
  go_wp2_with fail
  refine (cc _).mono ?_
  rintro e v ⟨rfl, hv⟩
  subst hv
  go_wp2_with fail
  refine (cd _ (HT.out.below b3)).mono ?_
  rintro e v4 ⟨rfl, b⟩
  have b4 := b3.trans (b.mono b3.size)
  clear b b3
  go_wp2
  go_ret
  exact ⟨by simp [hne], b4⟩

theorem walk (a0 : ByteArray) (w0 : a0.size ≤ maxLen) (a1 : ByteArray) (q1 : a1.size ≤ maxLen) (w : World) (hT : T10 w) :
    Calls Tryd.prog 8 #[.string a0, .string a1] w fun e w' => e = .returned (.bool true) ∧ Below w.heap.size w w' := by
  have z1 : (a0.extract 0 20).size ≤ 20 := by simp; omega
  have z2 : (a1.extract 0 60).size ≤ 60 := by simp; omega
  obtain ⟨G, hs1⟩ : ∃ l, a0.extract 0 20 = str l := ⟨_, ba_str _⟩
  obtain ⟨F, hs2⟩ : ∃ l, a1.extract 0 60 = str l := ⟨_, ba_str _⟩
  rw [hs1] at z1
  rw [hs2] at z2
  have hG : G.length ≤ 20 := by rw [str_size] at z1; exact z1
  have hF : F.length ≤ 60 := by rw [str_size] at z2; exact z2
  have cs := fun w h => split_calls w (shareL ++ (G ++ 47 :: F)) (by simp [shareL]; omega) h
  rw [← share_str, share_split] at cs
  have cn := fun w h => name_calls w G (by omega) h
  have cf := fun w h => filter_calls w F (by omega) h
  have cc := fun w => Tryd.strings_Contains_one (str G) 47 w
  rw [str_data, idx_mem] at cc
  have dl : ((((G ++ 47 :: F).dropWhile (· != 47)).drop 1)).length ≤ 1000000 := by
    have := dropWhile_len (G ++ 47 :: F)
    simp only [List.length_append, List.length_cons] at this
    omega
  have cd := fun w h => filter_calls w (((G ++ 47 :: F).dropWhile (· != 47)).drop 1) dl h
  have em : (str []).toList = [] := str_list []
  by_cases hm : (47 : UInt8) ∈ G
  · have hne := take_less G F hm
    rw [decide_eq_true hm] at cc
    generalize (G ++ 47 :: F).takeWhile (· != 47) = TK at *
    generalize ((G ++ 47 :: F).dropWhile (· != 47)).drop 1 = DR at *
    cases ho : grpB TK && filtB DR with
    | false =>
      rw [ho] at cs
      simp only [Bool.false_eq_true, if_false] at cs
      cases hn : nameB G with
      | false => rw [hn] at cn; exact w1 a0 w0 a1 q1 w (Lib.hid hT) _ _ _ _ hs1 hs2 z1 z2 cs cn em em
      | true => rw [hn] at cn; exact w5 a0 w0 a1 q1 w (Lib.hid hT) _ _ _ _ hs1 hs2 z1 z2 cs cn cc em em
    | true =>
      rw [ho] at cs
      simp only [if_true] at cs
      rw [Bool.and_eq_true] at ho
      rw [ho.2] at cd
      have hne' : (str TK).toList ≠ (str G).toList := by rw [str_list, str_list]; exact hne
      cases hn : nameB G with
      | false => rw [hn] at cn; exact w2 a0 w0 a1 q1 w (Lib.hid hT) _ _ _ _ hs1 hs2 z1 z2 cs cn cd hne'
      | true => rw [hn] at cn; exact w6 a0 w0 a1 q1 w (Lib.hid hT) _ _ _ _ hs1 hs2 z1 z2 cs cn cc cd hne'
  · rw [decide_eq_false hm] at cc
    rw [(take_all G F hm).1, (take_all G F hm).2, ← grp_name G hm] at cs
    cases hn : nameB G with
    | false =>
      rw [hn] at cn cs
      rw [Bool.false_and] at cs
      simp only [Bool.false_eq_true, if_false] at cs
      exact w1 a0 w0 a1 q1 w (Lib.hid hT) _ _ _ _ hs1 hs2 z1 z2 cs cn em em
    | true =>
      rw [hn] at cn cs
      rw [Bool.true_and] at cs
      cases hf : filtB F with
      | false =>
        rw [hf] at cf cs
        simp only [Bool.false_eq_true, if_false] at cs
        exact w4 a0 w0 a1 q1 w (Lib.hid hT) _ _ _ _ hs1 hs2 z1 z2 cs cn cc cf em em
      | true =>
        rw [hf] at cf cs
        simp only [if_true] at cs
        exact w3 a0 w0 a1 q1 w (Lib.hid hT) _ _ _ _ hs1 hs2 z1 z2 cs cn cc cf rfl rfl

set_option maxRecDepth 100000 in
set_option maxHeartbeats 2000000 in
theorem lifted (os : Os) (started : os.Started) (H : Type) (enc : TypeId × Value → H) (F : Stop.Interp) :
    ReturnsInHanded {} Tryd.checked os 8 .any ((OpenSpec.ofChange Rows.topicSharesSpec).preRow enc Tryd.prog Tryd.f8 Rows.topicSharesRow.domain false Rows.topicSharesRow.laid) (((OpenSpec.ofChange Rows.topicSharesSpec).at F).post enc Tryd.prog Tryd.f8 false true false false) := by
  obtain ⟨places, hx⟩ := reads os enc
  refine returnsInHanded_of_row (C := Tryd.checked) (s := OpenSpec.ofChange Rows.topicSharesSpec) own started (by kernel_rfl) Tryd.func8
    (witness_row_at (enc := enc) (C := Tryd.checked) false (laidWorld os) #[.string ByteArray.empty, .string ByteArray.empty] rfl (by kernel_rfl) (by kernel_rfl) (by kernel_rfl)
      (OpenSpec.preRow_of_cond 8 hx (by kernel_rfl) (fun k hk => by cases hk) (by kernel_rfl) (laid_met os))) ?_
  intro W base args ds gs before hval0 hW _ _ _ hL hShp _
  have hval : ∀ (j : Nat) t v, Tryd.f8.params[j]? = some t → args[j]? = some v → Value.okWide Tryd.prog W .any base t v := hval0
  have hW' := hW
  obtain ⟨p, q, hA0, hV, rfl, hfz, hnd⟩ := hW
  have hA : DataW.TrodAll enc Tryd.prog W 0 (fun _ => true) true Tryd.f8.params.toList args.toList ds p := hA0
  rw [Tryd.params8] at hA hval
  obtain ⟨v0, vs0, d0, ds0, p0, q0, hargs, rfl, rfl, h0, r0⟩ := trodAll_cons hA
  obtain ⟨v1, vs1, d1, ds1, p1, q1, rfl, rfl, rfl, h1, r1⟩ := trodAll_cons r0
  obtain ⟨rfl, rfl, rfl⟩ := trodAll_nil r1
  obtain rfl : args = #[v0, v1] := by cases args; simp_all
  obtain ⟨rfl, rfl⟩ := trodVars_none hV
  obtain ⟨a0, rfl, rfl, rfl, w0⟩ := open_string Tryd.underlying9 (hval 0 9 v0 rfl rfl) h0
  obtain ⟨a1, rfl, rfl, rfl, w1⟩ := open_string Tryd.underlying9 (hval 1 9 v1 rfl rfl) h1
  clear hA0 hval0
  have hT : Tabs W := utf8Tabs_of_readsT (U8Types.of196 Tryd.lays196) ⟨by kernel_rfl, by kernel_rfl, by kernel_rfl, by kernel_rfl, by kernel_rfl, by kernel_rfl, by kernel_rfl⟩ (first_eq ▸ Lib.laidMet.reads hL (.tail _ (.head _))) (accept_eq ▸ Lib.laidMet.reads hL (.head _))
  have hT10 : T10 W := ⟨hT, Tryd.laysM145.s1_3 W hShp⟩
  refine (walk a0 w0 a1 w1 W  hT10).mono fun e W' ⟨he, bel⟩ => ?_
  subst he
  exact ⟨_, rfl, _, _, _, [], _, [], hW', trodAll_mk1 (shut_bool Tryd.underlying4 _), (trodAll_cons_mk (shut_string Tryd.underlying9 w0) (trodAll_cons_mk (shut_string Tryd.underlying9 w1) trodAll_mk0)), rfl, bel.frame _, fun h => by cases h⟩

theorem said : Rows.TopicSharesSaid :=
  OpenClaim.holds_of_cond 8 Tryd.f8 rfl rfl rfl rfl rfl rfl rfl ⟨rfl, rfl, rfl, rfl, rfl⟩ rfl rfl rfl rfl rfl (by kernel_rfl) Tryd.func8 closed
    (of_decide_eq_true (by kernel_rfl)) (by unfold Func.isWrapper; first | (rw [if_pos (by decide +kernel)]; kernel_rfl) | (rw [if_neg (by decide +kernel)]; exact ⟨rfl, rfl⟩))
    (fun os started H enc _ F => by rw [OpenClaim.pre_eq_preRow]; exact lifted os started H enc F)

theorem plain (f : FuncId) (fn : Func) (hf : Tryd.pinned.checked.prog.funcNamed Tryd.f8.name = some f) (hfn : Tryd.pinned.checked.prog.funcs[f]? = some fn) :
    false = Tryd.pinned.checked.prog.looks [] ∧ ∀ (j : Nat) t, fn.params[j]? = some t → Tryd.pinned.checked.prog.wantsStandIn t = false := by
  obtain rfl : f = 8 := Option.some.inj ((show Tryd.prog.funcNamed Tryd.f8.name = some 8 by kernel_rfl).symm.trans hf) |>.symm
  obtain rfl : fn = Tryd.f8 := (Option.some.inj (Tryd.func8.symm.trans hfn)).symm
  refine ⟨fac_looks, fun j t ht => ?_⟩
  rw [Tryd.params8] at ht
  have hm : t = 9 := by simpa using Array.mem_of_getElem? ht
  subst hm
  exact (show Tryd.prog.wantsStandIn 9 = false by kernel_rfl)

end Go.Proofs.YtehnpnlbfcajaaaDoor.topicShares
namespace Go.Proofs.YtehnpnlbfcajaaaDoor
/-- The statement. -/
theorem topicShares_holds : Rows.TopicSharesCardSaid :=
  Claim7.holds_tied_plain_at .later [] _ _ _ _ topicShares.said (fun _ h => by cases h) topicShares.wft (fun _ h => by cases h) topicShares_row_tie rfl ⟨rfl, rfl⟩ fac_main rfl topicShares.plain topicShares.goes
#print axioms topicShares_holds
end Go.Proofs.YtehnpnlbfcajaaaDoor
