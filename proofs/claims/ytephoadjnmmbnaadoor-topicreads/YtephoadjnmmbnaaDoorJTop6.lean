/-
  Shared filters; awake of layer 10's statements. (No statement: contracts that the proofs of the statements use.)
-/
import Derived.Test.YtephoadjnmmbnaaDoorJTop5
namespace Go.Proofs.YtephoadjnmmbnaaDoor
open Go.RowKit Go.Lib

/-- What a shared filter begins with. -/
def shareL : List UInt8 := [36, 115, 104, 97, 114, 101, 47]
/-- The group, the filter; may it be? -/
def splitT (l : List UInt8) : List UInt8 × List UInt8 × Bool :=
  if shareL.isPrefixOf l then
    if grpB ((l.drop 7).takeWhile (· != 47)) && filtB (((l.drop 7).dropWhile (· != 47)).drop 1) then ((l.drop 7).takeWhile (· != 47), ((l.drop 7).dropWhile (· != 47)).drop 1, true) else ([], [], false)
  else ([], l, filtB l)

theorem takeWhile_len (l : List UInt8) : (l.takeWhile (· != 47)).length ≤ l.length := (List.takeWhile_prefix _).length_le
theorem dropWhile_len (l : List UInt8) : ((l.dropWhile (· != 47)).drop 1).length ≤ l.length := by
  have := (List.dropWhile_suffix (l := l) (p := (· != 47))).length_le
  rw [List.length_drop]; omega

set_option maxHeartbeats 2000000 in
set_option maxRecDepth 100000 in
theorem split_calls (w : World) (l : List UInt8) (hl : l.length ≤ 1000000) (hT : T10 w) :
    Calls Tryd.prog 14 #[.string (str l)] w fun e w' => e = .returned (.tuple #[.string (str (splitT l).1), .string (str (splitT l).2.1), .bool (splitT l).2.2]) ∧ Below w.heap.size w w' := by
  have c := fun w => Tryd.strings_CutPrefix (str l) ⟨#[36, 115, 104, 97, 114, 101, 47]⟩ w
  rw [str_data] at c
  unfold Lib.trimPrefix Lib.hasPrefix at c
  have HL := Lib.hid hl
  have HT := Lib.hid hT
  clear hl hT
  cases hp : shareL.isPrefixOf l with
  | false =>
    have e : splitT l = ([], l, filtB l) := by unfold splitT; rw [hp]; rfl
    rw [e]
    have c1 : ∀ w, Calls Tryd.prog 84 #[.string (str l), .string ⟨#[36, 115, 104, 97, 114, 101, 47]⟩] w fun e w' => e = .returned (.tuple #[.string (str l), .bool false]) ∧ w' = w := fun w => by
      have := c w
      rw [show ((⟨#[36, 115, 104, 97, 114, 101, 47]⟩ : ByteArray).data.toList.isPrefixOf l) = false from hp] at this
      exact this
    clear c e hp
    have c2 := filter_calls w l HL.out HT.out
    generalize filtB l = b at *
    dsimp only
    go_enter Tryd.func14, Tryd.ntmps14
    go_wp2_with (first
      | (go_at_call 84; refine (c1 _).mono ?_; rintro e v1 ⟨rfl, hw⟩; rw [hw]; clear hw)
      | (go_at_call 22; refine c2.mono ?_; rintro e v2 ⟨rfl, hw⟩))
    go_ret3
    exact ⟨rfl, hw⟩
  | true =>
    obtain ⟨L, hL⟩ : ∃ L, l.drop 7 = L := ⟨_, rfl⟩
    have hLl : L.length ≤ 1000000 := by rw [← hL, List.length_drop]; have := HL.out; omega
    have c1 : ∀ w, Calls Tryd.prog 84 #[.string (str l), .string ⟨#[36, 115, 104, 97, 114, 101, 47]⟩] w fun e w' => e = .returned (.tuple #[.string (str L), .bool true]) ∧ w' = w := fun w => by
      have := c w
      rw [show ((⟨#[36, 115, 104, 97, 114, 101, 47]⟩ : ByteArray).data.toList.isPrefixOf l) = true from hp] at this
      rw [← hL]
      exact this
    obtain ⟨m, hm⟩ := HT.out.most
    have c2 := Tryd.strings_Cut (str L) ⟨#[47]⟩ m w (by rw [str_size]; omega) hm
    rw [str_data, show (⟨#[47]⟩ : ByteArray).data.toList = [47] from rfl, (cut_slash L).1, (cut_slash L).2] at c2
    change Calls Tryd.prog _ _ w fun e w' => e = .returned (.tuple #[.string (str (L.takeWhile (· != 47))), .string (str ((L.dropWhile (· != 47)).drop 1)), .bool _]) ∧ ∃ n, w' = w.drewN n at c2
    have hg := Lib.hid (Nat.le_trans (takeWhile_len L) hLl)
    have hf := Lib.hid (Nat.le_trans (dropWhile_len L) hLl)
    have e : splitT l = if grpB (L.takeWhile (· != 47)) && filtB ((L.dropWhile (· != 47)).drop 1) then (L.takeWhile (· != 47), (L.dropWhile (· != 47)).drop 1, true) else ([], [], false) := by unfold splitT; rw [hp, hL]; rfl
    rw [e]
    clear e hp c hm hLl hL
    generalize L.takeWhile (· != 47) = G at *
    generalize (L.dropWhile (· != 47)).drop 1 = F at *
    generalize (Lib.cut L [47]).2.2 = b0 at *
    cases hG : grpB G with
    | false =>
      rw [Bool.false_and]
      rw [if_neg (by decide)]
      go_enter Tryd.func14, Tryd.ntmps14
      go_wp2_with (first
        | (go_at_call 84; refine (c1 _).mono ?_; rintro e v1 ⟨rfl, hw⟩; rw [hw]; clear hw)
        | (go_at_call 85; refine c2.mono ?_; rintro e v2 ⟨rfl, n2, hw⟩; have b2 := Lib.hid (show Below w.heap.size w v2 from by rw [hw]; exact (Below.refl _ w).drewN' n2); clear hw)
        | (go_at_call 86; refine (isGroup_calls _ G hg.out (HT.out.below b2.out)).mono ?_; rw [hG]; rintro e v3 ⟨rfl, hw⟩; have b3 := Lib.hid (b2.out.trans (hw.mono b2.out.size)); clear hw))
      go_ret3
      exact ⟨rfl, b3.out⟩
    | true =>
      rw [Bool.true_and]
      cases hF : filtB F with
      | false =>
        rw [if_neg (by decide)]
        go_enter Tryd.func14, Tryd.ntmps14
        go_wp2_with (first
          | (go_at_call 84; refine (c1 _).mono ?_; rintro e v1 ⟨rfl, hw⟩; rw [hw]; clear hw)
          | (go_at_call 85; refine c2.mono ?_; rintro e v2 ⟨rfl, n2, hw⟩; have b2 := Lib.hid (show Below w.heap.size w v2 from by rw [hw]; exact (Below.refl _ w).drewN' n2); clear hw)
          | (go_at_call 86; refine (isGroup_calls _ G hg.out (HT.out.below b2.out)).mono ?_; rw [hG]; rintro e v3 ⟨rfl, hw⟩; have b3 := Lib.hid (b2.out.trans (hw.mono b2.out.size)); clear hw)
          | (go_at_call 22; refine (filter_calls _ F hf.out (HT.out.below b3.out)).mono ?_; rw [hF]; rintro e v4 ⟨rfl, hw⟩; have b4 := Lib.hid (b3.out.trans (hw.mono b3.out.size)); clear hw))
        go_ret3
        exact ⟨rfl, b4.out⟩
      | true =>
        rw [if_pos rfl]
        go_enter Tryd.func14, Tryd.ntmps14
        go_wp2_with (first
          | (go_at_call 84; refine (c1 _).mono ?_; rintro e v1 ⟨rfl, hw⟩; rw [hw]; clear hw)
          | (go_at_call 85; refine c2.mono ?_; rintro e v2 ⟨rfl, n2, hw⟩; have b2 := Lib.hid (show Below w.heap.size w v2 from by rw [hw]; exact (Below.refl _ w).drewN' n2); clear hw)
          | (go_at_call 86; refine (isGroup_calls _ G hg.out (HT.out.below b2.out)).mono ?_; rw [hG]; rintro e v3 ⟨rfl, hw⟩; have b3 := Lib.hid (b2.out.trans (hw.mono b2.out.size)); clear hw)
          | (go_at_call 22; refine (filter_calls _ F hf.out (HT.out.below b3.out)).mono ?_; rw [hF]; rintro e v4 ⟨rfl, hw⟩; have b4 := Lib.hid (b3.out.trans (hw.mono b3.out.size)); clear hw))
        go_ret3
        exact ⟨rfl, b4.out⟩

theorem aw1 : splitT [36, 115, 104, 97, 114, 101, 47, 103, 47, 97, 47, 43] = ([103], [97, 47, 43], true) := by decide +kernel
theorem aw2 : matchB [97, 47, 43] [97, 47, 98] = true := by decide +kernel
theorem aw3 : matchB [97, 47, 43] [97] = false := by decide +kernel
theorem aw4 : matchB [97, 47, 35] [97] = true := by decide +kernel
theorem aw5 : matchB [35] [36, 120] = false := by decide +kernel
theorem aw6 : nameB [97] = true := by decide +kernel
theorem aw7 : nameB [97, 47, 35] = false := by decide +kernel

set_option maxHeartbeats 2000000 in
set_option maxRecDepth 100000 in
theorem awake10_calls (w : World) (hT : T10 w) : Calls Tryd.prog 16 #[] w fun e w' => e = .returned (.bool true) ∧ Below w.heap.size w w' := by
  have c1 := split_calls w [36, 115, 104, 97, 114, 101, 47, 103, 47, 97, 47, 43] (by decide) hT
  rw [aw1] at c1
  have c2 := fun w (h : T10 w) => match_calls w [97, 47, 43] [97, 47, 98] (by decide) (by decide) h
  rw [aw2] at c2
  have c3 := fun w (h : T10 w) => match_calls w [97, 47, 43] [97] (by decide) (by decide) h
  rw [aw3] at c3
  have c4 := fun w (h : T10 w) => match_calls w [97, 47, 35] [97] (by decide) (by decide) h
  rw [aw4] at c4
  have c5 := fun w (h : T10 w) => match_calls w [35] [36, 120] (by decide) (by decide) h
  rw [aw5] at c5
  have c6 := fun w (h : T10 w) => name_calls w [97] (by decide) h
  rw [aw6] at c6
  have c7 := fun w (h : T10 w) => name_calls w [97, 47, 35] (by decide) h
  rw [aw7] at c7
  have e1 : (str [103]).toList = [103] := str_list _
  have e2 : (str [97, 47, 43]).toList = [97, 47, 43] := str_list _
  go_enter Tryd.func16, Tryd.ntmps16
  go_wp2_with fail
  refine c1.mono ?_
  rintro e w1 ⟨rfl, b1⟩
  go_wp2_with fail
  refine (c2 _ (hT.below b1)).mono ?_
  rintro e w2 ⟨rfl, b⟩
  have b2 := b1.trans (b.mono b1.size)
  clear b b1
  go_wp2_with fail
  refine (c3 _ (hT.below b2)).mono ?_
  rintro e w3 ⟨rfl, b⟩
  have b3 := b2.trans (b.mono b2.size)
  clear b b2
  go_wp2_with fail
  refine (c4 _ (hT.below b3)).mono ?_
  rintro e w4 ⟨rfl, b⟩
  have b4 := b3.trans (b.mono b3.size)
  clear b b3
  go_wp2_with fail
  refine (c5 _ (hT.below b4)).mono ?_
  rintro e w5 ⟨rfl, b⟩
  have b5 := b4.trans (b.mono b4.size)
  clear b b4
  go_wp2_with fail
  refine (c6 _ (hT.below b5)).mono ?_
  rintro e w6 ⟨rfl, b⟩
  have b6 := b5.trans (b.mono b5.size)
  clear b b5
  go_wp2_with fail
  refine (c7 _ (hT.below b6)).mono ?_
  rintro e w7 ⟨rfl, b⟩
  have b7 := Lib.hid (b6.trans (b.mono b6.size))
  clear b b6
  go_wp2
  go_ret
  exact ⟨rfl, b7.out⟩

#print axioms split_calls
end Go.Proofs.YtephoadjnmmbnaaDoor
