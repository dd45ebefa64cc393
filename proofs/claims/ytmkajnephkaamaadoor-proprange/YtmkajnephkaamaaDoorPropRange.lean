/-
  PropRange answers true for every identifier, number, kind of a packet and will: numbers that may not be said are told, and others are taken as they were put.
  Its conditions: none beside those of the row itself (the two tables of unicode/utf8 start as the library's text lays them: the card ties them).
-/
import Derived.Test.YtmkajnephkaamaaDoorCards
import Derived.Test.YtmkajnephkaamaaDoorTie
import Derived.Test.YtmkajnephkaamaaDoorProp13
import Derived.ProofKit
import Derived.OpenShut
import Derived.ShutString
import Derived.ChangeOld
import Derived.Deep.DeepHandedRow
import Derived.Deep.DeepWitnessRowRef
import Derived.Lib.LaidU8T
import Derived.Lib.LaidTab
import Derived.Lib.LaidIn
namespace Go.Proofs.YtmkajnephkaamaaDoor.propRange
open Go.ChangeShapes Go.WideShapes Go.ChangeAt Go.RowKit Go.Lib
open Go.ChangeMaps (open_string shut_string)
set_option linter.unusedVariables false

theorem own : ownKnob Tryd.prog.godebug = none := by kernel_rfl

theorem walk_no (a0 : Int) (a1 : Int) (a2 : Int) (a3 : Bool) (w : World) (hT : Tabs w) (hm : mayP a0 a2 a3 = false) :
    Calls Tryd.prog 7 #[.int .i64 a0, .int .u32 a1, .int .i64 a2, .bool a3] w fun e w' => e = .returned (.bool true) ∧ Below w.heap.size w w' := by
  have HM := Lib.hid hm
  have HT := Lib.hid hT
  clear hm hT
  go_enter Tryd.func7, Tryd.ntmps7
  go_wp2_with fail
  refine (awake3_calls _ HT.out).mono ?_
  rintro e w1 ⟨rfl, b1⟩
  go_wp2_with fail
  refine (r3may_calls _ _ _ _).mono ?_
  rw [HM.out]
  rintro e w2 ⟨rfl, rfl⟩
  have HB := Lib.hid b1
  clear b1
  go_wp2_with fail
  refine (awake3_calls _ (HT.out.below HB.out)).mono ?_
  rintro e w2 ⟨rfl, b2⟩
  have HB2 := Lib.hid (Below.next HB.out b2)
  clear b2 HB
  go_wp2
  go_ret
  exact ⟨rfl, HB2.out⟩

theorem walk_text (a0 : Int) (a1 : Int) (a2 : Int) (a3 : Bool) (w : World) (hT : Tabs w) (hm : mayP a0 a2 a3 = true) (hk : 4 < (ruleL a0).kind) :
    Calls Tryd.prog 7 #[.int .i64 a0, .int .u32 a1, .int .i64 a2, .bool a3] w fun e w' => e = .returned (.bool true) ∧ Below w.heap.size w w' := by
  have HM := Lib.hid hm
  have HT := Lib.hid hT
  generalize hq : (ruleL a0).kind = q at hk
  have HQ := Lib.hid hq
  clear hm hT hq
  go_enter Tryd.func7, Tryd.ntmps7
  go_wp2_with fail
  refine (awake3_calls _ HT.out).mono ?_
  rintro e w1 ⟨rfl, b1⟩
  go_wp2_with fail
  refine (r3may_calls _ _ _ _).mono ?_
  rw [HM.out]
  rintro e w2 ⟨rfl, rfl⟩
  have HB := Lib.hid b1
  clear b1
  go_wp2_with fail
  refine (r3kind_calls _ _).mono ?_
  rw [HQ.out]
  rintro e w2 ⟨rfl, rfl⟩
  go_wp2_with fail
  refine (awake3_calls _ (HT.out.below HB.out)).mono ?_
  rintro e w2 ⟨rfl, b2⟩
  have HB2 := Lib.hid (Below.next HB.out b2)
  clear b2 HB
  go_wp2
  go_ret
  exact ⟨rfl, HB2.out⟩

set_option maxRecDepth 100000 in
set_option maxHeartbeats 2000000 in
theorem walk_k1a (a0 : Int) (a1 : Int) (a2 : Int) (a3 : Bool) (w : World) (hT : Tabs w) (hmay : mayP a0 a2 a3 = true) (hk : (ruleL a0).kind = 1) (hr : bits .and .u32 a1 255 = 0) (f0 : (a0 == 11) = false) (f1 : (a0 == 33) = false) (f2 : (a0 == 39) = false)
    (hok : Pr.ok ⟨a0, 0, ⟨#[]⟩, ⟨#[]⟩⟩) (htk : takeR (placeN a2 a3) (str ([] ++ propsL [⟨a0, 0, ⟨#[]⟩, ⟨#[]⟩⟩])) 0 = ([⟨a0, 0, ⟨#[]⟩, ⟨#[]⟩⟩], str [], 0)) :
    Calls Tryd.prog 7 #[.int .i64 a0, .int .u32 a1, .int .i64 a2, .bool a3] w fun e w' => e = .returned (.bool true) ∧ Below w.heap.size w w' := by
  have HM := Lib.hid hmay
  have HT := Lib.hid hT
  have HK := Lib.hid hk
  have HTK := Lib.hid htk
  have HOK := Lib.hid hok
  clear hmay hT hk htk hok
  go_enter Tryd.func7, Tryd.ntmps7
  go_wp2_with fail
  refine (awake3_calls _ HT.out).mono ?_
  rintro e w1 ⟨rfl, b1⟩
  go_wp2_with fail
  refine (r3may_calls _ _ _ _).mono ?_
  rw [HM.out]
  rintro e w2 ⟨rfl, rfl⟩
  have HB := Lib.hid b1
  clear b1 HM
  go_wp2_with fail
  refine (r3kind_calls _ _).mono ?_
  rw [HK.out]
  rintro e w2 ⟨rfl, rfl⟩
  go_wp2_with fail
  refine (r3kind_calls _ _).mono ?_
  rw [HK.out]
  rintro e w2 ⟨rfl, rfl⟩
  go_wp2_with fail
  have ho := (OutAt.new w1).alloc (.cells #[.int .i64 a0, .int .u32 0, .string ⟨#[]⟩, .string ⟨#[]⟩] 47)
  have hp : PropsAt ((w1.alloc (.cells #[.slice none 0 0] 42)).alloc (.cells #[.int .i64 a0, .int .u32 0, .string ⟨#[]⟩, .string ⟨#[]⟩] 47)) (.slice (some ⟨w1.heap.size + 1, 0, none⟩) 1 1) [⟨a0, 0, ⟨#[]⟩, ⟨#[]⟩⟩] := by
    have h := PropsAt.lit (w1.alloc (.cells #[.slice none 0 0] 42)) ⟨a0, 0, ⟨#[]⟩, ⟨#[]⟩⟩ 47 1
    rw [show (w1.alloc (.cells #[.slice none 0 0] 42)).heap.size = w1.heap.size + 1 by simp] at h
    exact h
  have b0 := below_two w1 (.cells #[.slice none 0 0] 42) (.cells #[.int .i64 a0, .int .u32 0, .string ⟨#[]⟩, .string ⟨#[]⟩] 47)
  have hok : ∀ p ∈ [(⟨a0, 0, ⟨#[]⟩, ⟨#[]⟩⟩ : Pr)], p.ok := fun p hp => by simp at hp; subst hp; exact HOK.out
  refine (put3_calls _ w1.heap.size none [] _ [⟨a0, 0, ⟨#[]⟩, ⟨#[]⟩⟩] hp hok (by simp) ho (by decide)).mono ?_
  rintro e w3 ⟨rfl, r1, h1, s1⟩
  have hb1 : Below w1.heap.size w1 w3 := b0.trans (s1.below (by simp; omega) (Nat.le_refl _) (fun g hg => by cases hg))
  have HB1 := Lib.hid (Below.next HB.out hb1)
  clear ho hp b0 hok s1 hb1 HB HOK
  generalize [] ++ propsL [⟨a0, 0, ⟨#[]⟩, ⟨#[]⟩⟩] = D at *
  go_wp2_with fail
  refine (text_calls _ _ r1 _ h1).mono ?_
  rintro e w2 ⟨rfl, rfl⟩
  clear h1
  go_wp2_with fail
  refine (over_calls _ _).mono ?_
  rintro e w2 ⟨rfl, rfl⟩
  have i2 := InAt.new w3 (str D)
  have HB2 := Lib.hid (Below.next HB1.out (below_one w3 (.cells #[.string (str D), .int .i64 0] 63)))
  have ht2 := HT.out.below HB2.out
  have hz1 := HB1.out.size
  clear HB1 HT
  generalize w3.alloc (.cells #[.string (str D), .int .i64 0] 63) = w2 at *
  generalize w3.heap.size = p at *
  go_wp2_with fail
  refine (take3_calls _ p _ 0 a2 a3 i2 ht2).mono ?_
  rw [HTK.out]
  rintro e w4 ⟨v, rfl, hown, hnil, i4, c4⟩
  have HB4 := Lib.hid (HB2.out.trans (c4.below HB2.out.size hz1))
  dsimp only at hown hnil i4
  clear HB2 c4 i2 ht2
  obtain ⟨g, c, rfl, c0, c1⟩ := hown.one
  dsimp only at c0 c1
  clear hown hnil c0
  go_wp2_with fail
  refine (r3kind_calls _ _).mono ?_
  rw [HK.out]
  rintro e w5 ⟨rfl, rfl⟩
  clear HK
  go_wp2_with fail
  refine (err_calls _ p (str []) 0 i4).mono ?_
  rintro e w5 ⟨rfl, rfl⟩
  clear i4
  go_wp2
  go_ret
  exact ⟨rfl, HB4.out⟩

set_option maxRecDepth 100000 in
set_option maxHeartbeats 2000000 in
theorem walk_k1b (a0 : Int) (a1 : Int) (a2 : Int) (a3 : Bool) (w : World) (hT : Tabs w) (hmay : mayP a0 a2 a3 = true) (hk : (ruleL a0).kind = 1) (hr : bits .and .u32 a1 255 = 1) 
    (hok : Pr.ok ⟨a0, 1, ⟨#[]⟩, ⟨#[]⟩⟩) (htk : takeR (placeN a2 a3) (str ([] ++ propsL [⟨a0, 1, ⟨#[]⟩, ⟨#[]⟩⟩])) 0 = ([⟨a0, 1, ⟨#[]⟩, ⟨#[]⟩⟩], str [], 0)) :
    Calls Tryd.prog 7 #[.int .i64 a0, .int .u32 a1, .int .i64 a2, .bool a3] w fun e w' => e = .returned (.bool true) ∧ Below w.heap.size w w' := by
  have HM := Lib.hid hmay
  have HT := Lib.hid hT
  have HK := Lib.hid hk
  have HTK := Lib.hid htk
  have HOK := Lib.hid hok
  clear hmay hT hk htk hok
  go_enter Tryd.func7, Tryd.ntmps7
  go_wp2_with fail
  refine (awake3_calls _ HT.out).mono ?_
  rintro e w1 ⟨rfl, b1⟩
  go_wp2_with fail
  refine (r3may_calls _ _ _ _).mono ?_
  rw [HM.out]
  rintro e w2 ⟨rfl, rfl⟩
  have HB := Lib.hid b1
  clear b1 HM
  go_wp2_with fail
  refine (r3kind_calls _ _).mono ?_
  rw [HK.out]
  rintro e w2 ⟨rfl, rfl⟩
  go_wp2_with fail
  refine (r3kind_calls _ _).mono ?_
  rw [HK.out]
  rintro e w2 ⟨rfl, rfl⟩
  go_wp2_with fail
  have ho := (OutAt.new w1).alloc (.cells #[.int .i64 a0, .int .u32 1, .string ⟨#[]⟩, .string ⟨#[]⟩] 47)
  have hp : PropsAt ((w1.alloc (.cells #[.slice none 0 0] 42)).alloc (.cells #[.int .i64 a0, .int .u32 1, .string ⟨#[]⟩, .string ⟨#[]⟩] 47)) (.slice (some ⟨w1.heap.size + 1, 0, none⟩) 1 1) [⟨a0, 1, ⟨#[]⟩, ⟨#[]⟩⟩] := by
    have h := PropsAt.lit (w1.alloc (.cells #[.slice none 0 0] 42)) ⟨a0, 1, ⟨#[]⟩, ⟨#[]⟩⟩ 47 1
    rw [show (w1.alloc (.cells #[.slice none 0 0] 42)).heap.size = w1.heap.size + 1 by simp] at h
    exact h
  have b0 := below_two w1 (.cells #[.slice none 0 0] 42) (.cells #[.int .i64 a0, .int .u32 1, .string ⟨#[]⟩, .string ⟨#[]⟩] 47)
  have hok : ∀ p ∈ [(⟨a0, 1, ⟨#[]⟩, ⟨#[]⟩⟩ : Pr)], p.ok := fun p hp => by simp at hp; subst hp; exact HOK.out
  refine (put3_calls _ w1.heap.size none [] _ [⟨a0, 1, ⟨#[]⟩, ⟨#[]⟩⟩] hp hok (by simp) ho (by decide)).mono ?_
  rintro e w3 ⟨rfl, r1, h1, s1⟩
  have hb1 : Below w1.heap.size w1 w3 := b0.trans (s1.below (by simp; omega) (Nat.le_refl _) (fun g hg => by cases hg))
  have HB1 := Lib.hid (Below.next HB.out hb1)
  clear ho hp b0 hok s1 hb1 HB HOK
  generalize [] ++ propsL [⟨a0, 1, ⟨#[]⟩, ⟨#[]⟩⟩] = D at *
  go_wp2_with fail
  refine (text_calls _ _ r1 _ h1).mono ?_
  rintro e w2 ⟨rfl, rfl⟩
  clear h1
  go_wp2_with fail
  refine (over_calls _ _).mono ?_
  rintro e w2 ⟨rfl, rfl⟩
  have i2 := InAt.new w3 (str D)
  have HB2 := Lib.hid (Below.next HB1.out (below_one w3 (.cells #[.string (str D), .int .i64 0] 63)))
  have ht2 := HT.out.below HB2.out
  have hz1 := HB1.out.size
  clear HB1 HT
  generalize w3.alloc (.cells #[.string (str D), .int .i64 0] 63) = w2 at *
  generalize w3.heap.size = p at *
  go_wp2_with fail
  refine (take3_calls _ p _ 0 a2 a3 i2 ht2).mono ?_
  rw [HTK.out]
  rintro e w4 ⟨v, rfl, hown, hnil, i4, c4⟩
  have HB4 := Lib.hid (HB2.out.trans (c4.below HB2.out.size hz1))
  dsimp only at hown hnil i4
  clear HB2 c4 i2 ht2
  obtain ⟨g, c, rfl, c0, c1⟩ := hown.one
  dsimp only at c0 c1
  clear hown hnil c0
  go_wp2_with fail
  refine (r3kind_calls _ _).mono ?_
  rw [HK.out]
  rintro e w5 ⟨rfl, rfl⟩
  clear HK
  go_wp2_with fail
  refine (err_calls _ p (str []) 0 i4).mono ?_
  rintro e w5 ⟨rfl, rfl⟩
  clear i4
  go_wp2
  go_ret
  exact ⟨rfl, HB4.out⟩

set_option maxRecDepth 100000 in
set_option maxHeartbeats 2000000 in
theorem walk_k1c (a0 : Int) (a1 : Int) (a2 : Int) (a3 : Bool) (m : Int) (w : World) (hT : Tabs w) (hmay : mayP a0 a2 a3 = true) (hk : (ruleL a0).kind = 1) (hr : bits .and .u32 a1 255 = m) (hm1 : 1 < m) 
    (hok : Pr.ok ⟨a0, m, ⟨#[]⟩, ⟨#[]⟩⟩) (htk : takeR (placeN a2 a3) (str ([] ++ propsL [⟨a0, m, ⟨#[]⟩, ⟨#[]⟩⟩])) 0 = ([], str [], 3)) :
    Calls Tryd.prog 7 #[.int .i64 a0, .int .u32 a1, .int .i64 a2, .bool a3] w fun e w' => e = .returned (.bool true) ∧ Below w.heap.size w w' := by
  have HM := Lib.hid hmay
  have HT := Lib.hid hT
  have HK := Lib.hid hk
  have HTK := Lib.hid htk
  have HOK := Lib.hid hok
  clear hmay hT hk htk hok
  go_enter Tryd.func7, Tryd.ntmps7
  go_wp2_with fail
  refine (awake3_calls _ HT.out).mono ?_
  rintro e w1 ⟨rfl, b1⟩
  go_wp2_with fail
  refine (r3may_calls _ _ _ _).mono ?_
  rw [HM.out]
  rintro e w2 ⟨rfl, rfl⟩
  have HB := Lib.hid b1
  clear b1 HM
  go_wp2_with fail
  refine (r3kind_calls _ _).mono ?_
  rw [HK.out]
  rintro e w2 ⟨rfl, rfl⟩
  go_wp2_with fail
  refine (r3kind_calls _ _).mono ?_
  rw [HK.out]
  rintro e w2 ⟨rfl, rfl⟩
  go_wp2_with fail
  have ho := (OutAt.new w1).alloc (.cells #[.int .i64 a0, .int .u32 m, .string ⟨#[]⟩, .string ⟨#[]⟩] 47)
  have hp : PropsAt ((w1.alloc (.cells #[.slice none 0 0] 42)).alloc (.cells #[.int .i64 a0, .int .u32 m, .string ⟨#[]⟩, .string ⟨#[]⟩] 47)) (.slice (some ⟨w1.heap.size + 1, 0, none⟩) 1 1) [⟨a0, m, ⟨#[]⟩, ⟨#[]⟩⟩] := by
    have h := PropsAt.lit (w1.alloc (.cells #[.slice none 0 0] 42)) ⟨a0, m, ⟨#[]⟩, ⟨#[]⟩⟩ 47 1
    rw [show (w1.alloc (.cells #[.slice none 0 0] 42)).heap.size = w1.heap.size + 1 by simp] at h
    exact h
  have b0 := below_two w1 (.cells #[.slice none 0 0] 42) (.cells #[.int .i64 a0, .int .u32 m, .string ⟨#[]⟩, .string ⟨#[]⟩] 47)
  have hok : ∀ p ∈ [(⟨a0, m, ⟨#[]⟩, ⟨#[]⟩⟩ : Pr)], p.ok := fun p hp => by simp at hp; subst hp; exact HOK.out
  refine (put3_calls _ w1.heap.size none [] _ [⟨a0, m, ⟨#[]⟩, ⟨#[]⟩⟩] hp hok (by simp) ho (by decide)).mono ?_
  rintro e w3 ⟨rfl, r1, h1, s1⟩
  have hb1 : Below w1.heap.size w1 w3 := b0.trans (s1.below (by simp; omega) (Nat.le_refl _) (fun g hg => by cases hg))
  have HB1 := Lib.hid (Below.next HB.out hb1)
  clear ho hp b0 hok s1 hb1 HB HOK
  generalize [] ++ propsL [⟨a0, m, ⟨#[]⟩, ⟨#[]⟩⟩] = D at *
  go_wp2_with fail
  refine (text_calls _ _ r1 _ h1).mono ?_
  rintro e w2 ⟨rfl, rfl⟩
  clear h1
  go_wp2_with fail
  refine (over_calls _ _).mono ?_
  rintro e w2 ⟨rfl, rfl⟩
  have i2 := InAt.new w3 (str D)
  have HB2 := Lib.hid (Below.next HB1.out (below_one w3 (.cells #[.string (str D), .int .i64 0] 63)))
  have ht2 := HT.out.below HB2.out
  have hz1 := HB1.out.size
  clear HB1 HT
  generalize w3.alloc (.cells #[.string (str D), .int .i64 0] 63) = w2 at *
  generalize w3.heap.size = p at *
  go_wp2_with fail
  refine (take3_calls _ p _ 0 a2 a3 i2 ht2).mono ?_
  rw [HTK.out]
  rintro e w4 ⟨v, rfl, hown, hnil, i4, c4⟩
  have HB4 := Lib.hid (HB2.out.trans (c4.below HB2.out.size hz1))
  dsimp only at hown hnil i4
  clear HB2 c4 i2 ht2
  obtain rfl := hnil (by decide)
  clear hown hnil
  have hq := fun wx => Lib.run_eql_slice_nil (P := Tryd.prog) wx 27 47 none 0 0 0 0 Tryd.underlying27
  go_wp2_with fail
  refine (r3kind_calls _ _).mono ?_
  rw [HK.out]
  rintro e w5 ⟨rfl, rfl⟩
  clear HK
  go_wp2_with fail
  refine (err_calls _ p (str []) 3 i4).mono ?_
  rintro e w5 ⟨rfl, rfl⟩
  clear i4
  go_wp2
  go_ret
  exact ⟨rfl, HB4.out⟩

set_option maxRecDepth 100000 in
set_option maxHeartbeats 2000000 in
theorem walk_k2a (a0 : Int) (a1 : Int) (a2 : Int) (a3 : Bool) (w : World) (hT : Tabs w) (hmay : mayP a0 a2 a3 = true) (hk : (ruleL a0).kind = 2) (hr : bits .and .u32 a1 65535 = 0) (f0 : (a0 == 11) = false) (f1 : (a0 == 33) = false) (f2 : (a0 == 39) = false)
    (hok : Pr.ok ⟨a0, 0, ⟨#[]⟩, ⟨#[]⟩⟩) (htk : takeR (placeN a2 a3) (str ([] ++ propsL [⟨a0, 0, ⟨#[]⟩, ⟨#[]⟩⟩])) 0 = ([⟨a0, 0, ⟨#[]⟩, ⟨#[]⟩⟩], str [], 0)) :
    Calls Tryd.prog 7 #[.int .i64 a0, .int .u32 a1, .int .i64 a2, .bool a3] w fun e w' => e = .returned (.bool true) ∧ Below w.heap.size w w' := by
  have HM := Lib.hid hmay
  have HT := Lib.hid hT
  have HK := Lib.hid hk
  have HTK := Lib.hid htk
  have HOK := Lib.hid hok
  clear hmay hT hk htk hok
  go_enter Tryd.func7, Tryd.ntmps7
  go_wp2_with fail
  refine (awake3_calls _ HT.out).mono ?_
  rintro e w1 ⟨rfl, b1⟩
  go_wp2_with fail
  refine (r3may_calls _ _ _ _).mono ?_
  rw [HM.out]
  rintro e w2 ⟨rfl, rfl⟩
  have HB := Lib.hid b1
  clear b1 HM
  go_wp2_with fail
  refine (r3kind_calls _ _).mono ?_
  rw [HK.out]
  rintro e w2 ⟨rfl, rfl⟩
  go_wp2_with fail
  refine (r3kind_calls _ _).mono ?_
  rw [HK.out]
  rintro e w2 ⟨rfl, rfl⟩
  go_wp2_with fail
  have ho := (OutAt.new w1).alloc (.cells #[.int .i64 a0, .int .u32 0, .string ⟨#[]⟩, .string ⟨#[]⟩] 47)
  have hp : PropsAt ((w1.alloc (.cells #[.slice none 0 0] 42)).alloc (.cells #[.int .i64 a0, .int .u32 0, .string ⟨#[]⟩, .string ⟨#[]⟩] 47)) (.slice (some ⟨w1.heap.size + 1, 0, none⟩) 1 1) [⟨a0, 0, ⟨#[]⟩, ⟨#[]⟩⟩] := by
    have h := PropsAt.lit (w1.alloc (.cells #[.slice none 0 0] 42)) ⟨a0, 0, ⟨#[]⟩, ⟨#[]⟩⟩ 47 1
    rw [show (w1.alloc (.cells #[.slice none 0 0] 42)).heap.size = w1.heap.size + 1 by simp] at h
    exact h
  have b0 := below_two w1 (.cells #[.slice none 0 0] 42) (.cells #[.int .i64 a0, .int .u32 0, .string ⟨#[]⟩, .string ⟨#[]⟩] 47)
  have hok : ∀ p ∈ [(⟨a0, 0, ⟨#[]⟩, ⟨#[]⟩⟩ : Pr)], p.ok := fun p hp => by simp at hp; subst hp; exact HOK.out
  refine (put3_calls _ w1.heap.size none [] _ [⟨a0, 0, ⟨#[]⟩, ⟨#[]⟩⟩] hp hok (by simp) ho (by decide)).mono ?_
  rintro e w3 ⟨rfl, r1, h1, s1⟩
  have hb1 : Below w1.heap.size w1 w3 := b0.trans (s1.below (by simp; omega) (Nat.le_refl _) (fun g hg => by cases hg))
  have HB1 := Lib.hid (Below.next HB.out hb1)
  clear ho hp b0 hok s1 hb1 HB HOK
  generalize [] ++ propsL [⟨a0, 0, ⟨#[]⟩, ⟨#[]⟩⟩] = D at *
  go_wp2_with fail
  refine (text_calls _ _ r1 _ h1).mono ?_
  rintro e w2 ⟨rfl, rfl⟩
  clear h1
  go_wp2_with fail
  refine (over_calls _ _).mono ?_
  rintro e w2 ⟨rfl, rfl⟩
  have i2 := InAt.new w3 (str D)
  have HB2 := Lib.hid (Below.next HB1.out (below_one w3 (.cells #[.string (str D), .int .i64 0] 63)))
  have ht2 := HT.out.below HB2.out
  have hz1 := HB1.out.size
  clear HB1 HT
  generalize w3.alloc (.cells #[.string (str D), .int .i64 0] 63) = w2 at *
  generalize w3.heap.size = p at *
  go_wp2_with fail
  refine (take3_calls _ p _ 0 a2 a3 i2 ht2).mono ?_
  rw [HTK.out]
  rintro e w4 ⟨v, rfl, hown, hnil, i4, c4⟩
  have HB4 := Lib.hid (HB2.out.trans (c4.below HB2.out.size hz1))
  dsimp only at hown hnil i4
  clear HB2 c4 i2 ht2
  obtain ⟨g, c, rfl, c0, c1⟩ := hown.one
  dsimp only at c0 c1
  clear hown hnil c0
  go_wp2_with fail
  refine (r3kind_calls _ _).mono ?_
  rw [HK.out]
  rintro e w5 ⟨rfl, rfl⟩
  clear HK
  go_wp2_with fail
  refine (err_calls _ p (str []) 0 i4).mono ?_
  rintro e w5 ⟨rfl, rfl⟩
  clear i4
  go_wp2
  go_ret
  exact ⟨rfl, HB4.out⟩

set_option maxRecDepth 100000 in
set_option maxHeartbeats 2000000 in
theorem walk_k2b (a0 : Int) (a1 : Int) (a2 : Int) (a3 : Bool) (m : Int) (w : World) (hT : Tabs w) (hmay : mayP a0 a2 a3 = true) (hk : (ruleL a0).kind = 2) (hr : bits .and .u32 a1 65535 = m) (hm1 : 0 < m) (f0 : (m == 0) = false)
    (hok : Pr.ok ⟨a0, m, ⟨#[]⟩, ⟨#[]⟩⟩) (htk : takeR (placeN a2 a3) (str ([] ++ propsL [⟨a0, m, ⟨#[]⟩, ⟨#[]⟩⟩])) 0 = ([⟨a0, m, ⟨#[]⟩, ⟨#[]⟩⟩], str [], 0)) :
    Calls Tryd.prog 7 #[.int .i64 a0, .int .u32 a1, .int .i64 a2, .bool a3] w fun e w' => e = .returned (.bool true) ∧ Below w.heap.size w w' := by
  have HM := Lib.hid hmay
  have HT := Lib.hid hT
  have HK := Lib.hid hk
  have HTK := Lib.hid htk
  have HOK := Lib.hid hok
  clear hmay hT hk htk hok
  go_enter Tryd.func7, Tryd.ntmps7
  go_wp2_with fail
  refine (awake3_calls _ HT.out).mono ?_
  rintro e w1 ⟨rfl, b1⟩
  go_wp2_with fail
  refine (r3may_calls _ _ _ _).mono ?_
  rw [HM.out]
  rintro e w2 ⟨rfl, rfl⟩
  have HB := Lib.hid b1
  clear b1 HM
  go_wp2_with fail
  refine (r3kind_calls _ _).mono ?_
  rw [HK.out]
  rintro e w2 ⟨rfl, rfl⟩
  go_wp2_with fail
  refine (r3kind_calls _ _).mono ?_
  rw [HK.out]
  rintro e w2 ⟨rfl, rfl⟩
  go_wp2_with fail
  have ho := (OutAt.new w1).alloc (.cells #[.int .i64 a0, .int .u32 m, .string ⟨#[]⟩, .string ⟨#[]⟩] 47)
  have hp : PropsAt ((w1.alloc (.cells #[.slice none 0 0] 42)).alloc (.cells #[.int .i64 a0, .int .u32 m, .string ⟨#[]⟩, .string ⟨#[]⟩] 47)) (.slice (some ⟨w1.heap.size + 1, 0, none⟩) 1 1) [⟨a0, m, ⟨#[]⟩, ⟨#[]⟩⟩] := by
    have h := PropsAt.lit (w1.alloc (.cells #[.slice none 0 0] 42)) ⟨a0, m, ⟨#[]⟩, ⟨#[]⟩⟩ 47 1
    rw [show (w1.alloc (.cells #[.slice none 0 0] 42)).heap.size = w1.heap.size + 1 by simp] at h
    exact h
  have b0 := below_two w1 (.cells #[.slice none 0 0] 42) (.cells #[.int .i64 a0, .int .u32 m, .string ⟨#[]⟩, .string ⟨#[]⟩] 47)
  have hok : ∀ p ∈ [(⟨a0, m, ⟨#[]⟩, ⟨#[]⟩⟩ : Pr)], p.ok := fun p hp => by simp at hp; subst hp; exact HOK.out
  refine (put3_calls _ w1.heap.size none [] _ [⟨a0, m, ⟨#[]⟩, ⟨#[]⟩⟩] hp hok (by simp) ho (by decide)).mono ?_
  rintro e w3 ⟨rfl, r1, h1, s1⟩
  have hb1 : Below w1.heap.size w1 w3 := b0.trans (s1.below (by simp; omega) (Nat.le_refl _) (fun g hg => by cases hg))
  have HB1 := Lib.hid (Below.next HB.out hb1)
  clear ho hp b0 hok s1 hb1 HB HOK
  generalize [] ++ propsL [⟨a0, m, ⟨#[]⟩, ⟨#[]⟩⟩] = D at *
  go_wp2_with fail
  refine (text_calls _ _ r1 _ h1).mono ?_
  rintro e w2 ⟨rfl, rfl⟩
  clear h1
  go_wp2_with fail
  refine (over_calls _ _).mono ?_
  rintro e w2 ⟨rfl, rfl⟩
  have i2 := InAt.new w3 (str D)
  have HB2 := Lib.hid (Below.next HB1.out (below_one w3 (.cells #[.string (str D), .int .i64 0] 63)))
  have ht2 := HT.out.below HB2.out
  have hz1 := HB1.out.size
  clear HB1 HT
  generalize w3.alloc (.cells #[.string (str D), .int .i64 0] 63) = w2 at *
  generalize w3.heap.size = p at *
  go_wp2_with fail
  refine (take3_calls _ p _ 0 a2 a3 i2 ht2).mono ?_
  rw [HTK.out]
  rintro e w4 ⟨v, rfl, hown, hnil, i4, c4⟩
  have HB4 := Lib.hid (HB2.out.trans (c4.below HB2.out.size hz1))
  dsimp only at hown hnil i4
  clear HB2 c4 i2 ht2
  obtain ⟨g, c, rfl, c0, c1⟩ := hown.one
  dsimp only at c0 c1
  clear hown hnil c0
  go_wp2_with fail
  refine (r3kind_calls _ _).mono ?_
  rw [HK.out]
  rintro e w5 ⟨rfl, rfl⟩
  clear HK
  go_wp2_with fail
  refine (err_calls _ p (str []) 0 i4).mono ?_
  rintro e w5 ⟨rfl, rfl⟩
  clear i4
  go_wp2
  go_ret
  exact ⟨rfl, HB4.out⟩

set_option maxRecDepth 100000 in
set_option maxHeartbeats 2000000 in
theorem walk_k2c (a0 : Int) (a1 : Int) (a2 : Int) (a3 : Bool) (w : World) (hT : Tabs w) (hmay : mayP a0 a2 a3 = true) (hk : (ruleL a0).kind = 2) (hr : bits .and .u32 a1 65535 = 0) (f0 : (a0 == 11) = false) (f1 : (a0 == 33) = true)
    (hok : Pr.ok ⟨a0, 0, ⟨#[]⟩, ⟨#[]⟩⟩) (htk : takeR (placeN a2 a3) (str ([] ++ propsL [⟨a0, 0, ⟨#[]⟩, ⟨#[]⟩⟩])) 0 = ([], str [], 3)) :
    Calls Tryd.prog 7 #[.int .i64 a0, .int .u32 a1, .int .i64 a2, .bool a3] w fun e w' => e = .returned (.bool true) ∧ Below w.heap.size w w' := by
  have HM := Lib.hid hmay
  have HT := Lib.hid hT
  have HK := Lib.hid hk
  have HTK := Lib.hid htk
  have HOK := Lib.hid hok
  clear hmay hT hk htk hok
  go_enter Tryd.func7, Tryd.ntmps7
  go_wp2_with fail
  refine (awake3_calls _ HT.out).mono ?_
  rintro e w1 ⟨rfl, b1⟩
  go_wp2_with fail
  refine (r3may_calls _ _ _ _).mono ?_
  rw [HM.out]
  rintro e w2 ⟨rfl, rfl⟩
  have HB := Lib.hid b1
  clear b1 HM
  go_wp2_with fail
  refine (r3kind_calls _ _).mono ?_
  rw [HK.out]
  rintro e w2 ⟨rfl, rfl⟩
  go_wp2_with fail
  refine (r3kind_calls _ _).mono ?_
  rw [HK.out]
  rintro e w2 ⟨rfl, rfl⟩
  go_wp2_with fail
  have ho := (OutAt.new w1).alloc (.cells #[.int .i64 a0, .int .u32 0, .string ⟨#[]⟩, .string ⟨#[]⟩] 47)
  have hp : PropsAt ((w1.alloc (.cells #[.slice none 0 0] 42)).alloc (.cells #[.int .i64 a0, .int .u32 0, .string ⟨#[]⟩, .string ⟨#[]⟩] 47)) (.slice (some ⟨w1.heap.size + 1, 0, none⟩) 1 1) [⟨a0, 0, ⟨#[]⟩, ⟨#[]⟩⟩] := by
    have h := PropsAt.lit (w1.alloc (.cells #[.slice none 0 0] 42)) ⟨a0, 0, ⟨#[]⟩, ⟨#[]⟩⟩ 47 1
    rw [show (w1.alloc (.cells #[.slice none 0 0] 42)).heap.size = w1.heap.size + 1 by simp] at h
    exact h
  have b0 := below_two w1 (.cells #[.slice none 0 0] 42) (.cells #[.int .i64 a0, .int .u32 0, .string ⟨#[]⟩, .string ⟨#[]⟩] 47)
  have hok : ∀ p ∈ [(⟨a0, 0, ⟨#[]⟩, ⟨#[]⟩⟩ : Pr)], p.ok := fun p hp => by simp at hp; subst hp; exact HOK.out
  refine (put3_calls _ w1.heap.size none [] _ [⟨a0, 0, ⟨#[]⟩, ⟨#[]⟩⟩] hp hok (by simp) ho (by decide)).mono ?_
  rintro e w3 ⟨rfl, r1, h1, s1⟩
  have hb1 : Below w1.heap.size w1 w3 := b0.trans (s1.below (by simp; omega) (Nat.le_refl _) (fun g hg => by cases hg))
  have HB1 := Lib.hid (Below.next HB.out hb1)
  clear ho hp b0 hok s1 hb1 HB HOK
  generalize [] ++ propsL [⟨a0, 0, ⟨#[]⟩, ⟨#[]⟩⟩] = D at *
  go_wp2_with fail
  refine (text_calls _ _ r1 _ h1).mono ?_
  rintro e w2 ⟨rfl, rfl⟩
  clear h1
  go_wp2_with fail
  refine (over_calls _ _).mono ?_
  rintro e w2 ⟨rfl, rfl⟩
  have i2 := InAt.new w3 (str D)
  have HB2 := Lib.hid (Below.next HB1.out (below_one w3 (.cells #[.string (str D), .int .i64 0] 63)))
  have ht2 := HT.out.below HB2.out
  have hz1 := HB1.out.size
  clear HB1 HT
  generalize w3.alloc (.cells #[.string (str D), .int .i64 0] 63) = w2 at *
  generalize w3.heap.size = p at *
  go_wp2_with fail
  refine (take3_calls _ p _ 0 a2 a3 i2 ht2).mono ?_
  rw [HTK.out]
  rintro e w4 ⟨v, rfl, hown, hnil, i4, c4⟩
  have HB4 := Lib.hid (HB2.out.trans (c4.below HB2.out.size hz1))
  dsimp only at hown hnil i4
  clear HB2 c4 i2 ht2
  obtain rfl := hnil (by decide)
  clear hown hnil
  have hq := fun wx => Lib.run_eql_slice_nil (P := Tryd.prog) wx 27 47 none 0 0 0 0 Tryd.underlying27
  go_wp2_with fail
  refine (r3kind_calls _ _).mono ?_
  rw [HK.out]
  rintro e w5 ⟨rfl, rfl⟩
  clear HK
  go_wp2_with fail
  refine (err_calls _ p (str []) 3 i4).mono ?_
  rintro e w5 ⟨rfl, rfl⟩
  clear i4
  go_wp2
  go_ret
  exact ⟨rfl, HB4.out⟩

set_option maxRecDepth 100000 in
set_option maxHeartbeats 2000000 in
theorem walk_k3a (a0 : Int) (a1 : Int) (a2 : Int) (a3 : Bool) (w : World) (hT : Tabs w) (hmay : mayP a0 a2 a3 = true) (hk : (ruleL a0).kind = 3) (hr : a1 = 0) (f0 : (a0 == 11) = false) (f1 : (a0 == 33) = false) (f2 : (a0 == 39) = false)
    (hok : Pr.ok ⟨a0, 0, ⟨#[]⟩, ⟨#[]⟩⟩) (htk : takeR (placeN a2 a3) (str ([] ++ propsL [⟨a0, 0, ⟨#[]⟩, ⟨#[]⟩⟩])) 0 = ([⟨a0, 0, ⟨#[]⟩, ⟨#[]⟩⟩], str [], 0)) :
    Calls Tryd.prog 7 #[.int .i64 a0, .int .u32 a1, .int .i64 a2, .bool a3] w fun e w' => e = .returned (.bool true) ∧ Below w.heap.size w w' := by
  have HM := Lib.hid hmay
  have HT := Lib.hid hT
  have HK := Lib.hid hk
  have HTK := Lib.hid htk
  have HOK := Lib.hid hok
  clear hmay hT hk htk hok
  subst hr
  go_enter Tryd.func7, Tryd.ntmps7
  go_wp2_with fail
  refine (awake3_calls _ HT.out).mono ?_
  rintro e w1 ⟨rfl, b1⟩
  go_wp2_with fail
  refine (r3may_calls _ _ _ _).mono ?_
  rw [HM.out]
  rintro e w2 ⟨rfl, rfl⟩
  have HB := Lib.hid b1
  clear b1 HM
  go_wp2_with fail
  refine (r3kind_calls _ _).mono ?_
  rw [HK.out]
  rintro e w2 ⟨rfl, rfl⟩
  go_wp2_with fail
  refine (r3kind_calls _ _).mono ?_
  rw [HK.out]
  rintro e w2 ⟨rfl, rfl⟩
  go_wp2_with fail
  have ho := (OutAt.new w1).alloc (.cells #[.int .i64 a0, .int .u32 0, .string ⟨#[]⟩, .string ⟨#[]⟩] 47)
  have hp : PropsAt ((w1.alloc (.cells #[.slice none 0 0] 42)).alloc (.cells #[.int .i64 a0, .int .u32 0, .string ⟨#[]⟩, .string ⟨#[]⟩] 47)) (.slice (some ⟨w1.heap.size + 1, 0, none⟩) 1 1) [⟨a0, 0, ⟨#[]⟩, ⟨#[]⟩⟩] := by
    have h := PropsAt.lit (w1.alloc (.cells #[.slice none 0 0] 42)) ⟨a0, 0, ⟨#[]⟩, ⟨#[]⟩⟩ 47 1
    rw [show (w1.alloc (.cells #[.slice none 0 0] 42)).heap.size = w1.heap.size + 1 by simp] at h
    exact h
  have b0 := below_two w1 (.cells #[.slice none 0 0] 42) (.cells #[.int .i64 a0, .int .u32 0, .string ⟨#[]⟩, .string ⟨#[]⟩] 47)
  have hok : ∀ p ∈ [(⟨a0, 0, ⟨#[]⟩, ⟨#[]⟩⟩ : Pr)], p.ok := fun p hp => by simp at hp; subst hp; exact HOK.out
  refine (put3_calls _ w1.heap.size none [] _ [⟨a0, 0, ⟨#[]⟩, ⟨#[]⟩⟩] hp hok (by simp) ho (by decide)).mono ?_
  rintro e w3 ⟨rfl, r1, h1, s1⟩
  have hb1 : Below w1.heap.size w1 w3 := b0.trans (s1.below (by simp; omega) (Nat.le_refl _) (fun g hg => by cases hg))
  have HB1 := Lib.hid (Below.next HB.out hb1)
  clear ho hp b0 hok s1 hb1 HB HOK
  generalize [] ++ propsL [⟨a0, 0, ⟨#[]⟩, ⟨#[]⟩⟩] = D at *
  go_wp2_with fail
  refine (text_calls _ _ r1 _ h1).mono ?_
  rintro e w2 ⟨rfl, rfl⟩
  clear h1
  go_wp2_with fail
  refine (over_calls _ _).mono ?_
  rintro e w2 ⟨rfl, rfl⟩
  have i2 := InAt.new w3 (str D)
  have HB2 := Lib.hid (Below.next HB1.out (below_one w3 (.cells #[.string (str D), .int .i64 0] 63)))
  have ht2 := HT.out.below HB2.out
  have hz1 := HB1.out.size
  clear HB1 HT
  generalize w3.alloc (.cells #[.string (str D), .int .i64 0] 63) = w2 at *
  generalize w3.heap.size = p at *
  go_wp2_with fail
  refine (take3_calls _ p _ 0 a2 a3 i2 ht2).mono ?_
  rw [HTK.out]
  rintro e w4 ⟨v, rfl, hown, hnil, i4, c4⟩
  have HB4 := Lib.hid (HB2.out.trans (c4.below HB2.out.size hz1))
  dsimp only at hown hnil i4
  clear HB2 c4 i2 ht2
  obtain ⟨g, c, rfl, c0, c1⟩ := hown.one
  dsimp only at c0 c1
  clear hown hnil c0
  go_wp2_with fail
  refine (r3kind_calls _ _).mono ?_
  rw [HK.out]
  rintro e w5 ⟨rfl, rfl⟩
  clear HK
  go_wp2_with fail
  refine (err_calls _ p (str []) 0 i4).mono ?_
  rintro e w5 ⟨rfl, rfl⟩
  clear i4
  go_wp2
  go_ret
  exact ⟨rfl, HB4.out⟩

set_option maxRecDepth 100000 in
set_option maxHeartbeats 2000000 in
theorem walk_k3b (a0 : Int) (a1 : Int) (a2 : Int) (a3 : Bool) (w : World) (hT : Tabs w) (hmay : mayP a0 a2 a3 = true) (hk : (ruleL a0).kind = 3) (hm1 : 0 < a1) (f0 : (a1 == 0) = false)
    (hok : Pr.ok ⟨a0, a1, ⟨#[]⟩, ⟨#[]⟩⟩) (htk : takeR (placeN a2 a3) (str ([] ++ propsL [⟨a0, a1, ⟨#[]⟩, ⟨#[]⟩⟩])) 0 = ([⟨a0, a1, ⟨#[]⟩, ⟨#[]⟩⟩], str [], 0)) :
    Calls Tryd.prog 7 #[.int .i64 a0, .int .u32 a1, .int .i64 a2, .bool a3] w fun e w' => e = .returned (.bool true) ∧ Below w.heap.size w w' := by
  have HM := Lib.hid hmay
  have HT := Lib.hid hT
  have HK := Lib.hid hk
  have HTK := Lib.hid htk
  have HOK := Lib.hid hok
  clear hmay hT hk htk hok
  go_enter Tryd.func7, Tryd.ntmps7
  go_wp2_with fail
  refine (awake3_calls _ HT.out).mono ?_
  rintro e w1 ⟨rfl, b1⟩
  go_wp2_with fail
  refine (r3may_calls _ _ _ _).mono ?_
  rw [HM.out]
  rintro e w2 ⟨rfl, rfl⟩
  have HB := Lib.hid b1
  clear b1 HM
  go_wp2_with fail
  refine (r3kind_calls _ _).mono ?_
  rw [HK.out]
  rintro e w2 ⟨rfl, rfl⟩
  go_wp2_with fail
  refine (r3kind_calls _ _).mono ?_
  rw [HK.out]
  rintro e w2 ⟨rfl, rfl⟩
  go_wp2_with fail
  have ho := (OutAt.new w1).alloc (.cells #[.int .i64 a0, .int .u32 a1, .string ⟨#[]⟩, .string ⟨#[]⟩] 47)
  have hp : PropsAt ((w1.alloc (.cells #[.slice none 0 0] 42)).alloc (.cells #[.int .i64 a0, .int .u32 a1, .string ⟨#[]⟩, .string ⟨#[]⟩] 47)) (.slice (some ⟨w1.heap.size + 1, 0, none⟩) 1 1) [⟨a0, a1, ⟨#[]⟩, ⟨#[]⟩⟩] := by
    have h := PropsAt.lit (w1.alloc (.cells #[.slice none 0 0] 42)) ⟨a0, a1, ⟨#[]⟩, ⟨#[]⟩⟩ 47 1
    rw [show (w1.alloc (.cells #[.slice none 0 0] 42)).heap.size = w1.heap.size + 1 by simp] at h
    exact h
  have b0 := below_two w1 (.cells #[.slice none 0 0] 42) (.cells #[.int .i64 a0, .int .u32 a1, .string ⟨#[]⟩, .string ⟨#[]⟩] 47)
  have hok : ∀ p ∈ [(⟨a0, a1, ⟨#[]⟩, ⟨#[]⟩⟩ : Pr)], p.ok := fun p hp => by simp at hp; subst hp; exact HOK.out
  refine (put3_calls _ w1.heap.size none [] _ [⟨a0, a1, ⟨#[]⟩, ⟨#[]⟩⟩] hp hok (by simp) ho (by decide)).mono ?_
  rintro e w3 ⟨rfl, r1, h1, s1⟩
  have hb1 : Below w1.heap.size w1 w3 := b0.trans (s1.below (by simp; omega) (Nat.le_refl _) (fun g hg => by cases hg))
  have HB1 := Lib.hid (Below.next HB.out hb1)
  clear ho hp b0 hok s1 hb1 HB HOK
  generalize [] ++ propsL [⟨a0, a1, ⟨#[]⟩, ⟨#[]⟩⟩] = D at *
  go_wp2_with fail
  refine (text_calls _ _ r1 _ h1).mono ?_
  rintro e w2 ⟨rfl, rfl⟩
  clear h1
  go_wp2_with fail
  refine (over_calls _ _).mono ?_
  rintro e w2 ⟨rfl, rfl⟩
  have i2 := InAt.new w3 (str D)
  have HB2 := Lib.hid (Below.next HB1.out (below_one w3 (.cells #[.string (str D), .int .i64 0] 63)))
  have ht2 := HT.out.below HB2.out
  have hz1 := HB1.out.size
  clear HB1 HT
  generalize w3.alloc (.cells #[.string (str D), .int .i64 0] 63) = w2 at *
  generalize w3.heap.size = p at *
  go_wp2_with fail
  refine (take3_calls _ p _ 0 a2 a3 i2 ht2).mono ?_
  rw [HTK.out]
  rintro e w4 ⟨v, rfl, hown, hnil, i4, c4⟩
  have HB4 := Lib.hid (HB2.out.trans (c4.below HB2.out.size hz1))
  dsimp only at hown hnil i4
  clear HB2 c4 i2 ht2
  obtain ⟨g, c, rfl, c0, c1⟩ := hown.one
  dsimp only at c0 c1
  clear hown hnil c0
  go_wp2_with fail
  refine (r3kind_calls _ _).mono ?_
  rw [HK.out]
  rintro e w5 ⟨rfl, rfl⟩
  clear HK
  go_wp2_with fail
  refine (err_calls _ p (str []) 0 i4).mono ?_
  rintro e w5 ⟨rfl, rfl⟩
  clear i4
  go_wp2
  go_ret
  exact ⟨rfl, HB4.out⟩

set_option maxRecDepth 100000 in
set_option maxHeartbeats 2000000 in
theorem walk_k3c (a0 : Int) (a1 : Int) (a2 : Int) (a3 : Bool) (w : World) (hT : Tabs w) (hmay : mayP a0 a2 a3 = true) (hk : (ruleL a0).kind = 3) (hr : a1 = 0) (f0 : (a0 == 11) = false) (f1 : (a0 == 33) = false) (f2 : (a0 == 39) = true)
    (hok : Pr.ok ⟨a0, 0, ⟨#[]⟩, ⟨#[]⟩⟩) (htk : takeR (placeN a2 a3) (str ([] ++ propsL [⟨a0, 0, ⟨#[]⟩, ⟨#[]⟩⟩])) 0 = ([], str [], 3)) :
    Calls Tryd.prog 7 #[.int .i64 a0, .int .u32 a1, .int .i64 a2, .bool a3] w fun e w' => e = .returned (.bool true) ∧ Below w.heap.size w w' := by
  have HM := Lib.hid hmay
  have HT := Lib.hid hT
  have HK := Lib.hid hk
  have HTK := Lib.hid htk
  have HOK := Lib.hid hok
  clear hmay hT hk htk hok
  subst hr
  go_enter Tryd.func7, Tryd.ntmps7
  go_wp2_with fail
  refine (awake3_calls _ HT.out).mono ?_
  rintro e w1 ⟨rfl, b1⟩
  go_wp2_with fail
  refine (r3may_calls _ _ _ _).mono ?_
  rw [HM.out]
  rintro e w2 ⟨rfl, rfl⟩
  have HB := Lib.hid b1
  clear b1 HM
  go_wp2_with fail
  refine (r3kind_calls _ _).mono ?_
  rw [HK.out]
  rintro e w2 ⟨rfl, rfl⟩
  go_wp2_with fail
  refine (r3kind_calls _ _).mono ?_
  rw [HK.out]
  rintro e w2 ⟨rfl, rfl⟩
  go_wp2_with fail
  have ho := (OutAt.new w1).alloc (.cells #[.int .i64 a0, .int .u32 0, .string ⟨#[]⟩, .string ⟨#[]⟩] 47)
  have hp : PropsAt ((w1.alloc (.cells #[.slice none 0 0] 42)).alloc (.cells #[.int .i64 a0, .int .u32 0, .string ⟨#[]⟩, .string ⟨#[]⟩] 47)) (.slice (some ⟨w1.heap.size + 1, 0, none⟩) 1 1) [⟨a0, 0, ⟨#[]⟩, ⟨#[]⟩⟩] := by
    have h := PropsAt.lit (w1.alloc (.cells #[.slice none 0 0] 42)) ⟨a0, 0, ⟨#[]⟩, ⟨#[]⟩⟩ 47 1
    rw [show (w1.alloc (.cells #[.slice none 0 0] 42)).heap.size = w1.heap.size + 1 by simp] at h
    exact h
  have b0 := below_two w1 (.cells #[.slice none 0 0] 42) (.cells #[.int .i64 a0, .int .u32 0, .string ⟨#[]⟩, .string ⟨#[]⟩] 47)
  have hok : ∀ p ∈ [(⟨a0, 0, ⟨#[]⟩, ⟨#[]⟩⟩ : Pr)], p.ok := fun p hp => by simp at hp; subst hp; exact HOK.out
  refine (put3_calls _ w1.heap.size none [] _ [⟨a0, 0, ⟨#[]⟩, ⟨#[]⟩⟩] hp hok (by simp) ho (by decide)).mono ?_
  rintro e w3 ⟨rfl, r1, h1, s1⟩
  have hb1 : Below w1.heap.size w1 w3 := b0.trans (s1.below (by simp; omega) (Nat.le_refl _) (fun g hg => by cases hg))
  have HB1 := Lib.hid (Below.next HB.out hb1)
  clear ho hp b0 hok s1 hb1 HB HOK
  generalize [] ++ propsL [⟨a0, 0, ⟨#[]⟩, ⟨#[]⟩⟩] = D at *
  go_wp2_with fail
  refine (text_calls _ _ r1 _ h1).mono ?_
  rintro e w2 ⟨rfl, rfl⟩
  clear h1
  go_wp2_with fail
  refine (over_calls _ _).mono ?_
  rintro e w2 ⟨rfl, rfl⟩
  have i2 := InAt.new w3 (str D)
  have HB2 := Lib.hid (Below.next HB1.out (below_one w3 (.cells #[.string (str D), .int .i64 0] 63)))
  have ht2 := HT.out.below HB2.out
  have hz1 := HB1.out.size
  clear HB1 HT
  generalize w3.alloc (.cells #[.string (str D), .int .i64 0] 63) = w2 at *
  generalize w3.heap.size = p at *
  go_wp2_with fail
  refine (take3_calls _ p _ 0 a2 a3 i2 ht2).mono ?_
  rw [HTK.out]
  rintro e w4 ⟨v, rfl, hown, hnil, i4, c4⟩
  have HB4 := Lib.hid (HB2.out.trans (c4.below HB2.out.size hz1))
  dsimp only at hown hnil i4
  clear HB2 c4 i2 ht2
  obtain rfl := hnil (by decide)
  clear hown hnil
  have hq := fun wx => Lib.run_eql_slice_nil (P := Tryd.prog) wx 27 47 none 0 0 0 0 Tryd.underlying27
  go_wp2_with fail
  refine (r3kind_calls _ _).mono ?_
  rw [HK.out]
  rintro e w5 ⟨rfl, rfl⟩
  clear HK
  go_wp2_with fail
  refine (err_calls _ p (str []) 3 i4).mono ?_
  rintro e w5 ⟨rfl, rfl⟩
  clear i4
  go_wp2
  go_ret
  exact ⟨rfl, HB4.out⟩

set_option maxRecDepth 100000 in
set_option maxHeartbeats 2000000 in
theorem walk_k4a (a0 : Int) (a1 : Int) (a2 : Int) (a3 : Bool) (w : World) (hT : Tabs w) (hmay : mayP a0 a2 a3 = true) (hk : (ruleL a0).kind = 4) (hm1 : 0 < a1) (hm2 : a1 ≤ 268435455) (f0 : (a1 == 0) = false)
    (hok : Pr.ok ⟨a0, a1, ⟨#[]⟩, ⟨#[]⟩⟩) (htk : takeR (placeN a2 a3) (str ([] ++ propsL [⟨a0, a1, ⟨#[]⟩, ⟨#[]⟩⟩])) 0 = ([⟨a0, a1, ⟨#[]⟩, ⟨#[]⟩⟩], str [], 0)) :
    Calls Tryd.prog 7 #[.int .i64 a0, .int .u32 a1, .int .i64 a2, .bool a3] w fun e w' => e = .returned (.bool true) ∧ Below w.heap.size w w' := by
  have HM := Lib.hid hmay
  have HT := Lib.hid hT
  have HK := Lib.hid hk
  have HTK := Lib.hid htk
  have HOK := Lib.hid hok
  clear hmay hT hk htk hok
  have hmn : min a1 268435455 = a1 := by omega
  go_enter Tryd.func7, Tryd.ntmps7
  go_wp2_with fail
  refine (awake3_calls _ HT.out).mono ?_
  rintro e w1 ⟨rfl, b1⟩
  go_wp2_with fail
  refine (r3may_calls _ _ _ _).mono ?_
  rw [HM.out]
  rintro e w2 ⟨rfl, rfl⟩
  have HB := Lib.hid b1
  clear b1 HM
  go_wp2_with fail
  refine (r3kind_calls _ _).mono ?_
  rw [HK.out]
  rintro e w2 ⟨rfl, rfl⟩
  go_wp2_with fail
  refine (r3kind_calls _ _).mono ?_
  rw [HK.out]
  rintro e w2 ⟨rfl, rfl⟩
  go_wp2_with fail
  have ho := (OutAt.new w1).alloc (.cells #[.int .i64 a0, .int .u32 a1, .string ⟨#[]⟩, .string ⟨#[]⟩] 47)
  have hp : PropsAt ((w1.alloc (.cells #[.slice none 0 0] 42)).alloc (.cells #[.int .i64 a0, .int .u32 a1, .string ⟨#[]⟩, .string ⟨#[]⟩] 47)) (.slice (some ⟨w1.heap.size + 1, 0, none⟩) 1 1) [⟨a0, a1, ⟨#[]⟩, ⟨#[]⟩⟩] := by
    have h := PropsAt.lit (w1.alloc (.cells #[.slice none 0 0] 42)) ⟨a0, a1, ⟨#[]⟩, ⟨#[]⟩⟩ 47 1
    rw [show (w1.alloc (.cells #[.slice none 0 0] 42)).heap.size = w1.heap.size + 1 by simp] at h
    exact h
  have b0 := below_two w1 (.cells #[.slice none 0 0] 42) (.cells #[.int .i64 a0, .int .u32 a1, .string ⟨#[]⟩, .string ⟨#[]⟩] 47)
  have hok : ∀ p ∈ [(⟨a0, a1, ⟨#[]⟩, ⟨#[]⟩⟩ : Pr)], p.ok := fun p hp => by simp at hp; subst hp; exact HOK.out
  refine (put3_calls _ w1.heap.size none [] _ [⟨a0, a1, ⟨#[]⟩, ⟨#[]⟩⟩] hp hok (by simp) ho (by decide)).mono ?_
  rintro e w3 ⟨rfl, r1, h1, s1⟩
  have hb1 : Below w1.heap.size w1 w3 := b0.trans (s1.below (by simp; omega) (Nat.le_refl _) (fun g hg => by cases hg))
  have HB1 := Lib.hid (Below.next HB.out hb1)
  clear ho hp b0 hok s1 hb1 HB HOK
  generalize [] ++ propsL [⟨a0, a1, ⟨#[]⟩, ⟨#[]⟩⟩] = D at *
  go_wp2_with fail
  refine (text_calls _ _ r1 _ h1).mono ?_
  rintro e w2 ⟨rfl, rfl⟩
  clear h1
  go_wp2_with fail
  refine (over_calls _ _).mono ?_
  rintro e w2 ⟨rfl, rfl⟩
  have i2 := InAt.new w3 (str D)
  have HB2 := Lib.hid (Below.next HB1.out (below_one w3 (.cells #[.string (str D), .int .i64 0] 63)))
  have ht2 := HT.out.below HB2.out
  have hz1 := HB1.out.size
  clear HB1 HT
  generalize w3.alloc (.cells #[.string (str D), .int .i64 0] 63) = w2 at *
  generalize w3.heap.size = p at *
  go_wp2_with fail
  refine (take3_calls _ p _ 0 a2 a3 i2 ht2).mono ?_
  rw [HTK.out]
  rintro e w4 ⟨v, rfl, hown, hnil, i4, c4⟩
  have HB4 := Lib.hid (HB2.out.trans (c4.below HB2.out.size hz1))
  dsimp only at hown hnil i4
  clear HB2 c4 i2 ht2
  obtain ⟨g, c, rfl, c0, c1⟩ := hown.one
  dsimp only at c0 c1
  clear hown hnil c0
  go_wp2_with fail
  refine (r3kind_calls _ _).mono ?_
  rw [HK.out]
  rintro e w5 ⟨rfl, rfl⟩
  clear HK
  go_wp2_with fail
  refine (err_calls _ p (str []) 0 i4).mono ?_
  rintro e w5 ⟨rfl, rfl⟩
  clear i4
  go_wp2
  go_ret
  exact ⟨rfl, HB4.out⟩

set_option maxRecDepth 100000 in
set_option maxHeartbeats 2000000 in
theorem walk_k4b (a0 : Int) (a1 : Int) (a2 : Int) (a3 : Bool) (w : World) (hT : Tabs w) (hmay : mayP a0 a2 a3 = true) (hk : (ruleL a0).kind = 4) (hr : 268435455 < a1) 
    (hok : Pr.ok ⟨a0, 268435455, ⟨#[]⟩, ⟨#[]⟩⟩) (htk : takeR (placeN a2 a3) (str ([] ++ propsL [⟨a0, 268435455, ⟨#[]⟩, ⟨#[]⟩⟩])) 0 = ([⟨a0, 268435455, ⟨#[]⟩, ⟨#[]⟩⟩], str [], 0)) :
    Calls Tryd.prog 7 #[.int .i64 a0, .int .u32 a1, .int .i64 a2, .bool a3] w fun e w' => e = .returned (.bool true) ∧ Below w.heap.size w w' := by
  have HM := Lib.hid hmay
  have HT := Lib.hid hT
  have HK := Lib.hid hk
  have HTK := Lib.hid htk
  have HOK := Lib.hid hok
  clear hmay hT hk htk hok
  have hmn : min a1 268435455 = 268435455 := by omega
  go_enter Tryd.func7, Tryd.ntmps7
  go_wp2_with fail
  refine (awake3_calls _ HT.out).mono ?_
  rintro e w1 ⟨rfl, b1⟩
  go_wp2_with fail
  refine (r3may_calls _ _ _ _).mono ?_
  rw [HM.out]
  rintro e w2 ⟨rfl, rfl⟩
  have HB := Lib.hid b1
  clear b1 HM
  go_wp2_with fail
  refine (r3kind_calls _ _).mono ?_
  rw [HK.out]
  rintro e w2 ⟨rfl, rfl⟩
  go_wp2_with fail
  refine (r3kind_calls _ _).mono ?_
  rw [HK.out]
  rintro e w2 ⟨rfl, rfl⟩
  go_wp2_with fail
  have ho := (OutAt.new w1).alloc (.cells #[.int .i64 a0, .int .u32 268435455, .string ⟨#[]⟩, .string ⟨#[]⟩] 47)
  have hp : PropsAt ((w1.alloc (.cells #[.slice none 0 0] 42)).alloc (.cells #[.int .i64 a0, .int .u32 268435455, .string ⟨#[]⟩, .string ⟨#[]⟩] 47)) (.slice (some ⟨w1.heap.size + 1, 0, none⟩) 1 1) [⟨a0, 268435455, ⟨#[]⟩, ⟨#[]⟩⟩] := by
    have h := PropsAt.lit (w1.alloc (.cells #[.slice none 0 0] 42)) ⟨a0, 268435455, ⟨#[]⟩, ⟨#[]⟩⟩ 47 1
    rw [show (w1.alloc (.cells #[.slice none 0 0] 42)).heap.size = w1.heap.size + 1 by simp] at h
    exact h
  have b0 := below_two w1 (.cells #[.slice none 0 0] 42) (.cells #[.int .i64 a0, .int .u32 268435455, .string ⟨#[]⟩, .string ⟨#[]⟩] 47)
  have hok : ∀ p ∈ [(⟨a0, 268435455, ⟨#[]⟩, ⟨#[]⟩⟩ : Pr)], p.ok := fun p hp => by simp at hp; subst hp; exact HOK.out
  refine (put3_calls _ w1.heap.size none [] _ [⟨a0, 268435455, ⟨#[]⟩, ⟨#[]⟩⟩] hp hok (by simp) ho (by decide)).mono ?_
  rintro e w3 ⟨rfl, r1, h1, s1⟩
  have hb1 : Below w1.heap.size w1 w3 := b0.trans (s1.below (by simp; omega) (Nat.le_refl _) (fun g hg => by cases hg))
  have HB1 := Lib.hid (Below.next HB.out hb1)
  clear ho hp b0 hok s1 hb1 HB HOK
  generalize [] ++ propsL [⟨a0, 268435455, ⟨#[]⟩, ⟨#[]⟩⟩] = D at *
  go_wp2_with fail
  refine (text_calls _ _ r1 _ h1).mono ?_
  rintro e w2 ⟨rfl, rfl⟩
  clear h1
  go_wp2_with fail
  refine (over_calls _ _).mono ?_
  rintro e w2 ⟨rfl, rfl⟩
  have i2 := InAt.new w3 (str D)
  have HB2 := Lib.hid (Below.next HB1.out (below_one w3 (.cells #[.string (str D), .int .i64 0] 63)))
  have ht2 := HT.out.below HB2.out
  have hz1 := HB1.out.size
  clear HB1 HT
  generalize w3.alloc (.cells #[.string (str D), .int .i64 0] 63) = w2 at *
  generalize w3.heap.size = p at *
  go_wp2_with fail
  refine (take3_calls _ p _ 0 a2 a3 i2 ht2).mono ?_
  rw [HTK.out]
  rintro e w4 ⟨v, rfl, hown, hnil, i4, c4⟩
  have HB4 := Lib.hid (HB2.out.trans (c4.below HB2.out.size hz1))
  dsimp only at hown hnil i4
  clear HB2 c4 i2 ht2
  obtain ⟨g, c, rfl, c0, c1⟩ := hown.one
  dsimp only at c0 c1
  clear hown hnil c0
  go_wp2_with fail
  refine (r3kind_calls _ _).mono ?_
  rw [HK.out]
  rintro e w5 ⟨rfl, rfl⟩
  clear HK
  go_wp2_with fail
  refine (err_calls _ p (str []) 0 i4).mono ?_
  rintro e w5 ⟨rfl, rfl⟩
  clear i4
  go_wp2
  go_ret
  exact ⟨rfl, HB4.out⟩

set_option maxRecDepth 100000 in
set_option maxHeartbeats 2000000 in
theorem walk_k4c (a0 : Int) (a1 : Int) (a2 : Int) (a3 : Bool) (w : World) (hT : Tabs w) (hmay : mayP a0 a2 a3 = true) (hk : (ruleL a0).kind = 4) (hr : a1 = 0) (f0 : (a0 == 11) = true)
    (hok : Pr.ok ⟨a0, 0, ⟨#[]⟩, ⟨#[]⟩⟩) (htk : takeR (placeN a2 a3) (str ([] ++ propsL [⟨a0, 0, ⟨#[]⟩, ⟨#[]⟩⟩])) 0 = ([], str [], 3)) :
    Calls Tryd.prog 7 #[.int .i64 a0, .int .u32 a1, .int .i64 a2, .bool a3] w fun e w' => e = .returned (.bool true) ∧ Below w.heap.size w w' := by
  have HM := Lib.hid hmay
  have HT := Lib.hid hT
  have HK := Lib.hid hk
  have HTK := Lib.hid htk
  have HOK := Lib.hid hok
  clear hmay hT hk htk hok
  subst hr
  go_enter Tryd.func7, Tryd.ntmps7
  go_wp2_with fail
  refine (awake3_calls _ HT.out).mono ?_
  rintro e w1 ⟨rfl, b1⟩
  go_wp2_with fail
  refine (r3may_calls _ _ _ _).mono ?_
  rw [HM.out]
  rintro e w2 ⟨rfl, rfl⟩
  have HB := Lib.hid b1
  clear b1 HM
  go_wp2_with fail
  refine (r3kind_calls _ _).mono ?_
  rw [HK.out]
  rintro e w2 ⟨rfl, rfl⟩
  go_wp2_with fail
  refine (r3kind_calls _ _).mono ?_
  rw [HK.out]
  rintro e w2 ⟨rfl, rfl⟩
  go_wp2_with fail
  have ho := (OutAt.new w1).alloc (.cells #[.int .i64 a0, .int .u32 0, .string ⟨#[]⟩, .string ⟨#[]⟩] 47)
  have hp : PropsAt ((w1.alloc (.cells #[.slice none 0 0] 42)).alloc (.cells #[.int .i64 a0, .int .u32 0, .string ⟨#[]⟩, .string ⟨#[]⟩] 47)) (.slice (some ⟨w1.heap.size + 1, 0, none⟩) 1 1) [⟨a0, 0, ⟨#[]⟩, ⟨#[]⟩⟩] := by
    have h := PropsAt.lit (w1.alloc (.cells #[.slice none 0 0] 42)) ⟨a0, 0, ⟨#[]⟩, ⟨#[]⟩⟩ 47 1
    rw [show (w1.alloc (.cells #[.slice none 0 0] 42)).heap.size = w1.heap.size + 1 by simp] at h
    exact h
  have b0 := below_two w1 (.cells #[.slice none 0 0] 42) (.cells #[.int .i64 a0, .int .u32 0, .string ⟨#[]⟩, .string ⟨#[]⟩] 47)
  have hok : ∀ p ∈ [(⟨a0, 0, ⟨#[]⟩, ⟨#[]⟩⟩ : Pr)], p.ok := fun p hp => by simp at hp; subst hp; exact HOK.out
  refine (put3_calls _ w1.heap.size none [] _ [⟨a0, 0, ⟨#[]⟩, ⟨#[]⟩⟩] hp hok (by simp) ho (by decide)).mono ?_
  rintro e w3 ⟨rfl, r1, h1, s1⟩
  have hb1 : Below w1.heap.size w1 w3 := b0.trans (s1.below (by simp; omega) (Nat.le_refl _) (fun g hg => by cases hg))
  have HB1 := Lib.hid (Below.next HB.out hb1)
  clear ho hp b0 hok s1 hb1 HB HOK
  generalize [] ++ propsL [⟨a0, 0, ⟨#[]⟩, ⟨#[]⟩⟩] = D at *
  go_wp2_with fail
  refine (text_calls _ _ r1 _ h1).mono ?_
  rintro e w2 ⟨rfl, rfl⟩
  clear h1
  go_wp2_with fail
  refine (over_calls _ _).mono ?_
  rintro e w2 ⟨rfl, rfl⟩
  have i2 := InAt.new w3 (str D)
  have HB2 := Lib.hid (Below.next HB1.out (below_one w3 (.cells #[.string (str D), .int .i64 0] 63)))
  have ht2 := HT.out.below HB2.out
  have hz1 := HB1.out.size
  clear HB1 HT
  generalize w3.alloc (.cells #[.string (str D), .int .i64 0] 63) = w2 at *
  generalize w3.heap.size = p at *
  go_wp2_with fail
  refine (take3_calls _ p _ 0 a2 a3 i2 ht2).mono ?_
  rw [HTK.out]
  rintro e w4 ⟨v, rfl, hown, hnil, i4, c4⟩
  have HB4 := Lib.hid (HB2.out.trans (c4.below HB2.out.size hz1))
  dsimp only at hown hnil i4
  clear HB2 c4 i2 ht2
  obtain rfl := hnil (by decide)
  clear hown hnil
  have hq := fun wx => Lib.run_eql_slice_nil (P := Tryd.prog) wx 27 47 none 0 0 0 0 Tryd.underlying27
  go_wp2_with fail
  refine (r3kind_calls _ _).mono ?_
  rw [HK.out]
  rintro e w5 ⟨rfl, rfl⟩
  clear HK
  go_wp2_with fail
  refine (err_calls _ p (str []) 3 i4).mono ?_
  rintro e w5 ⟨rfl, rfl⟩
  clear i4
  go_wp2
  go_ret
  exact ⟨rfl, HB4.out⟩

theorem may_in (i k : Int) (isW : Bool) (h : mayP i k isW = true) : ¬ bits .and .i64 (ruleL i).inn (placeN k isW) = 0 := by
  unfold mayP at h
  simpa using h

theorem pr_ok (i n : Int) (h0 : 0 ≤ n) (h1 : n < 4294967296) : Pr.ok ⟨i, n, ⟨#[]⟩, ⟨#[]⟩⟩ := ⟨h0, h1, Nat.zero_le _, Nat.zero_le _⟩

theorem walk (a0 : Int) (w0 : (Lit.int .i64 a0).wf = true) (a1 : Int) (w1 : (Lit.int .u32 a1).wf = true) (a2 : Int) (w2 : (Lit.int .i64 a2).wf = true) (a3 : Bool) (w : World) (hT : Tabs w) :
    Calls Tryd.prog 7 #[.int .i64 a0, .int .u32 a1, .int .i64 a2, .bool a3] w fun e w' => e = .returned (.bool true) ∧ Below w.heap.size w w' := by
  clear w0 w2
  have hb := bounds_u32 w1
  have hu : a1 < 4294967296 := Int.lt_of_le_of_lt hb.2 (by decide)
  have h0 := hb.1
  clear hb w1
  cases hm : mayP a0 a2 a3 with
  | false => exact walk_no a0 a1 a2 a3 w hT hm
  | true =>
    have hin := may_in a0 a2 a3 hm
    have hkd := (rule_in a0 _ hin).2
    obtain ⟨n1, n2, n3, n4⟩ := rule_num a0
    have key : ∀ m : Int, 0 ≤ m → m < 4294967296 → (ruleL a0).kind ≤ 4 → canon (ruleL a0).kind ⟨a0, m, ⟨#[]⟩, ⟨#[]⟩⟩ = ⟨a0, m, ⟨#[]⟩, ⟨#[]⟩⟩ → takeR (placeN a2 a3) (str ([] ++ propsL [⟨a0, m, ⟨#[]⟩, ⟨#[]⟩⟩])) 0 = if m < (ruleL a0).least ∨ (ruleL a0).most < m then ([], str [], 3) else ([⟨a0, m, ⟨#[]⟩, ⟨#[]⟩⟩], str [], 0) :=
      fun m hm0 hm1 hk4 hc => one_num _ ⟨a0, m, ⟨#[]⟩, ⟨#[]⟩⟩ (pr_ok a0 m hm0 hm1) hin hk4 hc
    have bne : ∀ x : Int, a0 ≠ x → (a0 == x) = false := fun x h => by simpa using h
    have hkd' : (ruleL a0).kind = 1 ∨ (ruleL a0).kind = 2 ∨ (ruleL a0).kind = 3 ∨ (ruleL a0).kind = 4 ∨ 4 < (ruleL a0).kind := by omega
    rcases hkd' with h | h | h | h | h
    · obtain ⟨e1, e2, e3, e4, e5⟩ := n1 h
      have hA := and_255 a1 h0 hu
      have hc : ∀ m : Int, 0 ≤ m → m < 256 → canon (ruleL a0).kind ⟨a0, m, ⟨#[]⟩, ⟨#[]⟩⟩ = ⟨a0, m, ⟨#[]⟩, ⟨#[]⟩⟩ := fun m h1 h2 => by
        rw [h]; show (⟨a0, m % 256, ⟨#[]⟩, ⟨#[]⟩⟩ : Pr) = _; rw [Int.emod_eq_of_lt h1 h2]
      rcases (show a1 % 256 = 0 ∨ a1 % 256 = 1 ∨ 1 < a1 % 256 by omega) with hx | hx | hx
      · exact walk_k1a a0 a1 a2 a3 w hT hm h (hA.trans hx) (bne _ e3) (bne _ e4) (bne _ e5) (pr_ok _ _ (by decide) (by decide)) ((key 0 (by decide) (by decide) (by omega) (hc 0 (by decide) (by decide))).trans (by rw [e1, e2, if_neg (by decide)]))
      · exact walk_k1b a0 a1 a2 a3 w hT hm h (hA.trans hx) (pr_ok _ _ (by decide) (by decide)) ((key 1 (by decide) (by decide) (by omega) (hc 1 (by decide) (by decide))).trans (by rw [e1, e2, if_neg (by decide)]))
      · exact walk_k1c a0 a1 a2 a3 (a1 % 256) w hT hm h hA hx (pr_ok _ _ (by omega) (by omega)) ((key _ (by omega) (by omega) (by omega) (hc _ (by omega) (by omega))).trans (by rw [e1, e2, if_pos (by omega)]))
    · obtain ⟨e1, e2, e3, e5⟩ := n2 h
      have hA := and_low a1 h0 hu
      have hc : ∀ m : Int, 0 ≤ m → m < 65536 → canon (ruleL a0).kind ⟨a0, m, ⟨#[]⟩, ⟨#[]⟩⟩ = ⟨a0, m, ⟨#[]⟩, ⟨#[]⟩⟩ := fun m h1 h2 => by
        rw [h]; show (⟨a0, m % 65536, ⟨#[]⟩, ⟨#[]⟩⟩ : Pr) = _; rw [Int.emod_eq_of_lt h1 h2]
      by_cases h33 : a0 = 33
      · rw [if_pos h33] at e1
        by_cases hx : a1 % 65536 = 0
        · exact walk_k2c a0 a1 a2 a3 w hT hm h (hA.trans hx) (bne _ e3) (by simpa using h33) (pr_ok _ _ (by decide) (by decide)) ((key 0 (by decide) (by decide) (by omega) (hc 0 (by decide) (by decide))).trans (by rw [e1, e2, if_pos (by decide)]))
        · exact walk_k2b a0 a1 a2 a3 (a1 % 65536) w hT hm h hA (by omega) (by simpa using hx) (pr_ok _ _ (by omega) (by omega)) ((key _ (by omega) (by omega) (by omega) (hc _ (by omega) (by omega))).trans (by rw [e1, e2, if_neg (by omega)]))
      · rw [if_neg h33] at e1
        by_cases hx : a1 % 65536 = 0
        · exact walk_k2a a0 a1 a2 a3 w hT hm h (hA.trans hx) (bne _ e3) (bne _ h33) (bne _ e5) (pr_ok _ _ (by decide) (by decide)) ((key 0 (by decide) (by decide) (by omega) (hc 0 (by decide) (by decide))).trans (by rw [e1, e2, if_neg (by decide)]))
        · exact walk_k2b a0 a1 a2 a3 (a1 % 65536) w hT hm h hA (by omega) (by simpa using hx) (pr_ok _ _ (by omega) (by omega)) ((key _ (by omega) (by omega) (by omega) (hc _ (by omega) (by omega))).trans (by rw [e1, e2, if_neg (by omega)]))
    · obtain ⟨e1, e2, e3, e4⟩ := n3 h
      have hc : ∀ m : Int, canon (ruleL a0).kind ⟨a0, m, ⟨#[]⟩, ⟨#[]⟩⟩ = ⟨a0, m, ⟨#[]⟩, ⟨#[]⟩⟩ := fun m => by rw [h]; rfl
      by_cases h39 : a0 = 39
      · rw [if_pos h39] at e1
        by_cases hx : a1 = 0
        · exact walk_k3c a0 a1 a2 a3 w hT hm h hx (bne _ e3) (bne _ e4) (by simpa using h39) (pr_ok _ _ (by decide) (by decide)) ((key 0 (by decide) (by decide) (by omega) (hc 0)).trans (by rw [e1, e2, if_pos (by decide)]))
        · exact walk_k3b a0 a1 a2 a3 w hT hm h (by omega) (by simpa using hx) (pr_ok _ _ (by omega) (by omega)) ((key _ (by omega) (by omega) (by omega) (hc _)).trans (by rw [e1, e2, if_neg (by omega)]))
      · rw [if_neg h39] at e1
        by_cases hx : a1 = 0
        · exact walk_k3a a0 a1 a2 a3 w hT hm h hx (bne _ e3) (bne _ e4) (bne _ h39) (pr_ok _ _ (by decide) (by decide)) ((key 0 (by decide) (by decide) (by omega) (hc 0)).trans (by rw [e1, e2, if_neg (by decide)]))
        · exact walk_k3b a0 a1 a2 a3 w hT hm h (by omega) (by simpa using hx) (pr_ok _ _ (by omega) (by omega)) ((key _ (by omega) (by omega) (by omega) (hc _)).trans (by rw [e1, e2, if_neg (by omega)]))
    · obtain ⟨e1, e2, e3⟩ := n4 h
      have hc : ∀ m : Int, 0 ≤ m → m ≤ 268435455 → canon (ruleL a0).kind ⟨a0, m, ⟨#[]⟩, ⟨#[]⟩⟩ = ⟨a0, m, ⟨#[]⟩, ⟨#[]⟩⟩ := fun m h1 h2 => by
        rw [h]; show (⟨a0, (min m.toNat 268435455 : Nat), ⟨#[]⟩, ⟨#[]⟩⟩ : Pr) = _; rw [show ((min m.toNat 268435455 : Nat) : Int) = m by omega]
      by_cases hx : a1 = 0
      · exact walk_k4c a0 a1 a2 a3 w hT hm h hx (by simpa using e3) (pr_ok _ _ (by decide) (by decide)) ((key 0 (by decide) (by decide) (by omega) (hc 0 (by decide) (by decide))).trans (by rw [e1, e2, if_pos (by decide)]))
      · by_cases hg : a1 ≤ 268435455
        · exact walk_k4a a0 a1 a2 a3 w hT hm h (by omega) hg (by simpa using hx) (pr_ok _ _ (by omega) (by omega)) ((key _ (by omega) (by omega) (by omega) (hc _ (by omega) hg)).trans (by rw [e1, e2, if_neg (by omega)]))
        · exact walk_k4b a0 a1 a2 a3 w hT hm h (by omega) (pr_ok _ _ (by decide) (by decide)) ((key 268435455 (by decide) (by decide) (by omega) (hc _ (by decide) (by decide))).trans (by rw [e1, e2, if_neg (by decide)]))
    · exact walk_text a0 a1 a2 a3 w hT hm h

theorem first_eq : (Rows.laid_unicode_utf8_first : DataW Unit) = Lib.firstData := by kernel_rfl
theorem accept_eq : (Rows.laid_unicode_utf8_acceptRanges : DataW Unit) = Lib.acceptData := by kernel_rfl

def putCells (cs : Array Value) : Obj → Obj
  | .cells _ t frozen => .cells cs t frozen
  | o => o
/-- A world for the witness: the settled one, the two tables holding what the library's text lays. -/
noncomputable def laidWorld (os : Os) : World :=
  { World.holding Tryd.prog os ⟨#[], #[], []⟩ with heap := (((World.holding Tryd.prog os ⟨#[], #[], []⟩).heap.modify (Tryd.lays196_ren.g 3) (putCells (Lib.firstTab.map fun z => Value.int .u8 z).toArray)).modify (Tryd.lays196_ren.g 4) (putCells ((List.range 16).flatMap fun i => [Value.int .u8 (Lib.accLo i), Value.int .u8 (Lib.accHi i)]).toArray)) }
theorem laid_met (os : Os) : laidMet Tryd.prog Rows.propRangeRow.laid ((laidWorld os).forCall (fun _ _ => 0) ⟨#[], #[.int .i64 0, .int .u32 0, .int .i64 0, .bool false], []⟩).memory :=
  laidMet_of_run' 8 (by kernel_rfl) (by kernel_rfl)
theorem reads (os : Os) {H : Type} (enc : TypeId × Value → H) : ∃ places, DataW.whole enc Tryd.prog ((laidWorld os).forCall (fun _ _ => 0) ⟨#[], #[.int .i64 0, .int .u32 0, .int .i64 0, .bool false], []⟩).memory Tryd.f7.params.toList Rows.propRangeSpec.vars false (#[.int .i64 0, .int .u32 0, .int .i64 0, .bool false] : Array Value).toList 8 = some ([.lit (.int .i64 0), .lit (.int .u32 0), .lit (.int .i64 0), .lit (.bool false)], [], places) :=
  ⟨[], by kernel_rfl⟩

set_option maxRecDepth 100000 in
set_option maxHeartbeats 2000000 in
theorem lifted (os : Os) (started : os.Started) (H : Type) (enc : TypeId × Value → H) (F : Stop.Interp) :
    ReturnsInHanded {} Tryd.checked os 7 .any ((OpenSpec.ofChange Rows.propRangeSpec).preRow enc Tryd.prog Tryd.f7 Rows.propRangeRow.domain false Rows.propRangeRow.laid) (((OpenSpec.ofChange Rows.propRangeSpec).at F).post enc Tryd.prog Tryd.f7 false true false false) := by
  obtain ⟨places, hx⟩ := reads os enc
  refine returnsInHanded_of_row (C := Tryd.checked) (s := OpenSpec.ofChange Rows.propRangeSpec) own started (by kernel_rfl) Tryd.func7
    (witness_row_at (enc := enc) (C := Tryd.checked) false (laidWorld os) #[.int .i64 0, .int .u32 0, .int .i64 0, .bool false] rfl (by kernel_rfl) (by kernel_rfl) (by kernel_rfl)
      (OpenSpec.preRow_of_cond 8 hx (by kernel_rfl) (fun k hk => by cases hk) (by kernel_rfl) (laid_met os))) ?_
  intro W base args ds gs before hval0 hW _ _ _ hL _ _
  have hval : ∀ (j : Nat) t v, Tryd.f7.params[j]? = some t → args[j]? = some v → Value.okWide Tryd.prog W .any base t v := hval0
  have hW' := hW
  obtain ⟨p, q, hA0, hV, rfl, hfz, hnd⟩ := hW
  have hA : DataW.TrodAll enc Tryd.prog W 0 (fun _ => true) true Tryd.f7.params.toList args.toList ds p := hA0
  rw [Tryd.params7] at hA hval
  obtain ⟨v0, vs0, d0, ds0, p0, q0, hargs, rfl, rfl, h0, r0⟩ := trodAll_cons hA
  obtain ⟨v1, vs1, d1, ds1, p1, q1, rfl, rfl, rfl, h1, r1⟩ := trodAll_cons r0
  obtain ⟨v2, vs2, d2, ds2, p2, q2, rfl, rfl, rfl, h2, r2⟩ := trodAll_cons r1
  obtain ⟨v3, vs3, d3, ds3, p3, q3, rfl, rfl, rfl, h3, r3⟩ := trodAll_cons r2
  obtain ⟨rfl, rfl, rfl⟩ := trodAll_nil r3
  obtain rfl : args = #[v0, v1, v2, v3] := by cases args; simp_all
  obtain ⟨rfl, rfl⟩ := trodVars_none hV
  obtain ⟨a0, rfl, rfl, rfl, w0⟩ := open_int Tryd.underlying3 (hval 0 3 v0 rfl rfl) h0
  obtain ⟨a1, rfl, rfl, rfl, w1⟩ := open_int Tryd.underlying45 (hval 1 45 v1 rfl rfl) h1
  obtain ⟨a2, rfl, rfl, rfl, w2⟩ := open_int Tryd.underlying3 (hval 2 3 v2 rfl rfl) h2
  obtain ⟨a3, rfl, rfl, rfl⟩ := open_bool Tryd.underlying4 (hval 3 4 v3 rfl rfl) h3
  clear hA0 hval0
  have hT : Tabs W := utf8Tabs_of_readsT (U8Types.of196 Tryd.lays196) ⟨by kernel_rfl, by kernel_rfl, by kernel_rfl, by kernel_rfl, by kernel_rfl, by kernel_rfl, by kernel_rfl⟩ (first_eq ▸ Lib.laidMet.reads hL (.tail _ (.head _))) (accept_eq ▸ Lib.laidMet.reads hL (.head _))
  refine (walk a0 w0 a1 w1 a2 w2 a3 W  hT).mono fun e W' ⟨he, bel⟩ => ?_
  subst he
  exact ⟨_, rfl, _, _, _, [], _, [], hW', trodAll_mk1 (shut_bool Tryd.underlying4 _), (trodAll_cons_mk (shut_int Tryd.underlying3 w0) (trodAll_cons_mk (shut_int Tryd.underlying45 w1) (trodAll_cons_mk (shut_int Tryd.underlying3 w2) (trodAll_cons_mk (shut_bool Tryd.underlying4 a3) trodAll_mk0)))), rfl, bel.frame _, fun h => by cases h⟩

theorem said : Rows.PropRangeSaid :=
  OpenClaim.holds_of_cond 7 Tryd.f7 rfl rfl rfl rfl rfl rfl rfl ⟨rfl, rfl, rfl, rfl, rfl⟩ rfl rfl rfl rfl rfl (by kernel_rfl) Tryd.func7 (by kernel_rfl)
    (of_decide_eq_true (by kernel_rfl)) (by unfold Func.isWrapper; first | (rw [if_pos (by decide +kernel)]; kernel_rfl) | (rw [if_neg (by decide +kernel)]; exact ⟨rfl, rfl⟩))
    (fun os started H enc _ F => by rw [OpenClaim.pre_eq_preRow]; exact lifted os started H enc F)

theorem plain (f : FuncId) (fn : Func) (hf : Tryd.pinned.checked.prog.funcNamed Tryd.f7.name = some f) (hfn : Tryd.pinned.checked.prog.funcs[f]? = some fn) :
    false = Tryd.pinned.checked.prog.looks [] ∧ ∀ (j : Nat) t, fn.params[j]? = some t → Tryd.pinned.checked.prog.wantsStandIn t = false := by
  obtain rfl : f = 7 := Option.some.inj ((show Tryd.prog.funcNamed Tryd.f7.name = some 7 by kernel_rfl).symm.trans hf) |>.symm
  obtain rfl : fn = Tryd.f7 := (Option.some.inj (Tryd.func7.symm.trans hfn)).symm
  refine ⟨by kernel_rfl, fun j t ht => ?_⟩
  rw [Tryd.params7] at ht
  have hm : t = 3 ∨ t = 45 ∨ t = 3 ∨ t = 4 := by simpa using Array.mem_of_getElem? ht
  rcases hm with rfl | rfl | rfl | rfl
  · exact (show Tryd.prog.wantsStandIn 3 = false by kernel_rfl)
  · exact (show Tryd.prog.wantsStandIn 45 = false by kernel_rfl)
  · exact (show Tryd.prog.wantsStandIn 3 = false by kernel_rfl)
  · exact (show Tryd.prog.wantsStandIn 4 = false by kernel_rfl)

end Go.Proofs.YtmkajnephkaamaaDoor.propRange
namespace Go.Proofs.YtmkajnephkaamaaDoor
/-- The statement. -/
theorem propRange_holds : Rows.PropRangeCardSaid :=
  Claim7.holds_tied_plain_at .later [] _ _ _ _ propRange.said (fun _ h => by cases h) (by kernel_rfl) (fun _ h => by cases h) propRange_row_tie rfl ⟨rfl, rfl⟩ (by kernel_rfl) rfl propRange.plain (by kernel_rfl)
#print axioms propRange_holds
end Go.Proofs.YtmkajnephkaamaaDoor
