/-
  What met a filter meets the filter that has a + at one level, and the one that ends there with a #, but for names that begin with a dollar sign.
  Its conditions: none beside those of the row itself (the two tables of unicode/utf8 start as the library's text lays them: the card ties them).
-/
import Derived.Test.YtephoadjnmmbnaaDoorCards
import Derived.Test.YtephoadjnmmbnaaDoorTie
import Derived.Test.YtephoadjnmmbnaaDoorJTopicWiderw
import Derived.Test.YtephoadjnmmbnaaDoorJTopicWiderf
import Derived.Test.YtephoadjnmmbnaaDoorJRt2
import Derived.Test.YtephoadjnmmbnaaDoorJTop7
import Derived.ProofKit
import Derived.OpenShut
import Derived.ShutString
import Derived.ChangeOld
import Derived.Deep.DeepHandedRow
import Derived.Deep.DeepWitnessRowRef
import Derived.Lib.LaidU8T
import Derived.Lib.LaidTab
import Derived.Lib.LaidIn
namespace Go.Proofs.YtephoadjnmmbnaaDoor.topicWider
open Go.ChangeShapes Go.WideShapes Go.ChangeAt Go.RowKit Go.Lib
open Go.ChangeMaps (open_string shut_string)
set_option linter.unusedVariables false

theorem wd_below {w W : World} (h : Below w.heap.size w W) (o : Obj) : Below w.heap.size w (W.alloc o) := h.alloc h.size o

set_option maxRecDepth 100000 in
set_option maxHeartbeats 2000000 in
theorem walk0 (a0 a1 : ByteArray) (w0 : a0.size ≤ maxLen) (w1 : a1.size ≤ maxLen) (at_ : Int) (w : World) (HT : Hid (T10 w)) (s1 s2 : ByteArray) (hs1 : a0.extract 0 80 = s1) (hs2 : a1.extract 0 80 = s2) (F N H M : Bool)
    (cf : ∀ w, T10 w → Calls Tryd.prog 22 #[.string s1] w fun e w' => e = .returned (.bool F) ∧ Below w.heap.size w w')
    (cn : ∀ w, T10 w → Calls Tryd.prog 20 #[.string s2] w fun e w' => e = .returned (.bool N) ∧ Below w.heap.size w w')
    (ch : ∀ w, Calls Tryd.prog 24 #[.string s2] w fun e w' => e = .returned (.bool H) ∧ w' = w)
    (cm : ∀ w, T10 w → Calls Tryd.prog 25 #[.string s1, .string s2] w fun e w' => e = .returned (.bool M) ∧ Below w.heap.size w w')
    (hc : F = false ∨ (F = true ∧ N = false) ∨ (F = true ∧ N = true ∧ H = true) ∨ (F = true ∧ N = true ∧ H = false ∧ M = false)) :
    Calls Tryd.prog 4 #[.string a0, .string a1, .int .i64 at_] w fun e w' => e = .returned (.bool true) ∧ Below w.heap.size w w' := by
  have CF := Lib.hid cf
  have CN := Lib.hid cn
  have CH := Lib.hid ch
  have CM := Lib.hid cm
  clear cf cn ch cm
  rcases hc with rfl | ⟨rfl, rfl⟩ | ⟨rfl, rfl, rfl⟩ | ⟨rfl, rfl, rfl, rfl⟩
  all_goals
    go_enter Tryd.func4, Tryd.ntmps4
    go_wp2_with fail
    refine (cut_calls _ a0 80 w0).mono ?_
    rintro e v3 ⟨rfl, rfl⟩
    rw [hs1]
    go_wp2_with fail
    refine (cut_calls _ a1 80 w1).mono ?_
    rintro e v3 ⟨rfl, rfl⟩
    rw [hs2]
    clear w0 w1 hs1 hs2
    have HB0 := Lib.hid (Below.refl w.heap.size w)
    go_wp2_with (first
      | (go_at_call 16; refine (awake10_calls _ (HT.out.below HB0.out)).mono ?_; rintro e v ⟨rfl, b⟩; have HB0 := Lib.hid (HB0.out.trans (b.mono HB0.out.size)); clear b)
      | (go_at_call 22; refine (CF.out _ (HT.out.below HB0.out)).mono ?_; rintro e v ⟨rfl, b⟩; have HB0 := Lib.hid (HB0.out.trans (b.mono HB0.out.size)); clear b)
      | (go_at_call 20; refine (CN.out _ (HT.out.below HB0.out)).mono ?_; rintro e v ⟨rfl, b⟩; have HB0 := Lib.hid (HB0.out.trans (b.mono HB0.out.size)); clear b)
      | (go_at_call 25; refine (CM.out _ (HT.out.below HB0.out)).mono ?_; rintro e v ⟨rfl, b⟩; have HB0 := Lib.hid (HB0.out.trans (b.mono HB0.out.size)); clear b)
      | (go_at_call 24; refine (CH.out _).mono ?_; rintro e v ⟨rfl, hw⟩; rw [hw]; clear hw))
    go_ret
    exact ⟨rfl, HB0.out⟩

/-- The cells of the first levels. -/
theorem take_cells {w : World} {p : Nat} {ls : List (List UInt8)} (h : LevAt w p ls) (k : Nat) : ∀ j u, ((ls.take k).map fun x => Value.string (str x))[j]? = some u → w.cell? ((⟨p, 0, none⟩ : Addr).add j) = some u := by
  intro j u hj
  rw [List.getElem?_map] at hj
  cases e : (ls.take k)[j]? with
  | none => rw [e] at hj; cases hj
  | some x =>
    rw [e] at hj
    injection hj with hj
    subst hj
    have hl : ls[j]? = some x := by
      rw [List.getElem?_take] at e
      split at e
      · exact e
      · cases e
    have := h j x hl
    by_cases h0 : j = 0
    · subst h0
      simpa [Addr.add] using this
    · simp only [Addr.add, h0, if_false, Nat.zero_add]
      exact this

set_option maxRecDepth 100000 in
set_option maxHeartbeats 2000000 in
theorem walk1 (a0 a1 : ByteArray) (w0 : a0.size ≤ maxLen) (w1 : a1.size ≤ maxLen) (k : Nat) (w : World) (HT : Hid (T10 w)) (s1 s2 : ByteArray) (hs1 : a0.extract 0 80 = s1) (hs2 : a1.extract 0 80 = s2) (ls : List (List UInt8)) (hls : ls.length ≤ 1000) (hk : k < ls.length) (x : List UInt8) (hx : ls[k]? = some x)
    (cf : ∀ w, T10 w → Calls Tryd.prog 22 #[.string s1] w fun e w' => e = .returned (.bool true) ∧ Below w.heap.size w w')
    (cn : ∀ w, T10 w → Calls Tryd.prog 20 #[.string s2] w fun e w' => e = .returned (.bool true) ∧ Below w.heap.size w w')
    (ch : ∀ w, Calls Tryd.prog 24 #[.string s2] w fun e w' => e = .returned (.bool false) ∧ w' = w)
    (cm : ∀ w, T10 w → Calls Tryd.prog 25 #[.string s1, .string s2] w fun e w' => e = .returned (.bool true) ∧ Below w.heap.size w w')
    (cl : ∀ w, T10 w → Calls Tryd.prog 18 #[.string s1] w fun e w' => e = .returned (.slice (some ⟨w.heap.size, 0, none⟩) ls.length ls.length) ∧ LevAt w' w.heap.size ls ∧ (∀ j, w'.frozen? ⟨w.heap.size, j, none⟩ = false) ∧ Below w.heap.size w w' ∧ w.heap.size < w'.heap.size)
    (E : ByteArray) (hE : str (unlev (endsL ls k)) = E) (hEl : (unlev (endsL ls k)).length ≤ 2592)
    (cf1 : ∀ w, T10 w → Calls Tryd.prog 22 #[.string E] w fun e w' => e = .returned (.bool true) ∧ Below w.heap.size w w')
    (cm1 : ∀ w, T10 w → Calls Tryd.prog 25 #[.string E, .string s2] w fun e w' => e = .returned (.bool true) ∧ Below w.heap.size w w')
    (hW : x ≠ [35] → ∃ S, str (unlev (ls.set k [43])) = S ∧ (unlev (ls.set k [43])).length ≤ 2592 ∧ (∀ w, T10 w → Calls Tryd.prog 22 #[.string S] w fun e w' => e = .returned (.bool true) ∧ Below w.heap.size w w') ∧ (∀ w, T10 w → Calls Tryd.prog 25 #[.string S, .string s2] w fun e w' => e = .returned (.bool true) ∧ Below w.heap.size w w')) :
    Calls Tryd.prog 4 #[.string a0, .string a1, .int .i64 k] w fun e w' => e = .returned (.bool true) ∧ Below w.heap.size w w' := by
  have CF := Lib.hid cf
  have CN := Lib.hid cn
  have CH := Lib.hid ch
  have CM := Lib.hid cm
  have CL := Lib.hid cl
  have CF1 := Lib.hid cf1
  have CM1 := Lib.hid cm1
  have HE := Lib.hid hE
  have HEL := Lib.hid hEl
  have HWI := Lib.hid hW
  have HX := Lib.hid hx
  obtain ⟨i0, hi, hz0', hz1, hz2⟩ := info_parts info_str
  clear cf cn ch cm cl cf1 cm1 hE hEl hW hx
  go_enter Tryd.func4, Tryd.ntmps4
  go_wp2_with fail
  refine (cut_calls _ a0 80 w0).mono ?_
  rintro e v3 ⟨rfl, rfl⟩
  rw [hs1]
  go_wp2_with fail
  refine (cut_calls _ a1 80 w1).mono ?_
  rintro e v3 ⟨rfl, rfl⟩
  rw [hs2]
  clear w0 w1 hs1 hs2
  go_wp2_with fail
  refine (awake10_calls _ HT.out).mono ?_
  rintro e v1 ⟨rfl, b1⟩
  go_wp2_with fail
  refine (CF.out _ (HT.out.below b1)).mono ?_
  rintro e v2 ⟨rfl, b⟩
  have b2 := b1.trans (b.mono b1.size)
  clear b b1
  go_wp2_with fail
  refine (CN.out _ (HT.out.below b2)).mono ?_
  rintro e v3 ⟨rfl, b⟩
  have b3 := b2.trans (b.mono b2.size)
  clear b b2
  go_wp2_with fail
  refine (CH.out _).mono ?_
  rintro e v4 ⟨rfl, hw⟩
  rw [hw]
  clear hw
  go_wp2_with fail
  refine (CM.out _ (HT.out.below b3)).mono ?_
  rintro e v4 ⟨rfl, b⟩
  have b4 := b3.trans (b.mono b3.size)
  clear b b3
  go_wp2_with fail
  refine (CL.out _ (HT.out.below b4)).mono ?_
  rintro e v5 ⟨rfl, L5, F5, b, z5⟩
  have hp : w.heap.size ≤ v4.heap.size := b4.size
  have B5 := Lib.hid (b4.trans (b.mono b4.size))
  have HL5 := Lib.hid L5
  have HF5 := Lib.hid F5
  clear b b4 L5 F5 CF CN CH CM CL
  generalize v4.heap.size = p at *
  have q1 := below_one v5 (.cells #[] 9)
  have HO := Lib.hid (OwnT.empty v5)
  have HC := Lib.hid (take_cells (HL5.out.below q1 z5) k)
  have Q1 := Lib.hid q1
  have hs1 : v5.heap.size ≤ (v5.alloc (.cells #[] 9)).heap.size := by simp
  have hkl : ((ls.take k).map fun x => Value.string (str x)).length = k * 1 := by simp; omega
  clear q1
  go_wp2_with ((at_builtin; refine wpList_append_own_at _ rfl _ _ 27 rfl v5.heap.size 9 i0 (.string ⟨#[]⟩) 1 16 Tryd.underlying27 hi hz0' hz1 hz2 rfl (by decide) _ 0 [] rfl HO.out ⟨p, 0, none⟩ k _ ((ls.take k).map fun x => Value.string (str x)) rfl hkl HC.out (by intro u hu; obtain ⟨y, _, rfl⟩ := List.mem_map.1 hu; rfl) (by unfold maxLen; omega) (by omega) hs1 ?_))
  intro v' w7 hown8 hgrow _ _
  have hlk : (ls.take k).length = k := by rw [List.length_take]; omega
  have hown9 : OwnT v5.heap.size w7 v' (ls.take k) := by
    unfold OwnT
    rw [hlk, List.map_take]
    exact hown8
  have hbel9 : Below v5.heap.size v5 w7 := Q1.out.grown hgrow hs1 (fun g hg => (World.ownsRow.lt HO.out g hg).1)
  have b1 := below_one w7 (.cells #[.string ⟨#[35]⟩] 9)
  have hs7 := hbel9.size
  have HO7 := Lib.hid (hown9.below b1)
  have HB7 := Lib.hid (hbel9.trans (b1.mono hs7))
  have HN7 := Lib.hid (one_newT w7 (.string ⟨#[35]⟩) 9)
  have hs8 : v5.heap.size ≤ (w7.alloc (.cells #[.string ⟨#[35]⟩] 9)).heap.size := by simp; omega
  clear hown8 hgrow hown9 hbel9 b1 HO HC Q1 hs1 hkl
  go_wp2_with ((at_builtin; refine wpList_append_own_at _ rfl _ _ 27 rfl v5.heap.size 9 i0 (.string ⟨#[]⟩) 1 16 Tryd.underlying27 hi hz0' hz1 hz2 rfl (by decide) _ _ _ rfl HO7.out ⟨w7.heap.size, 0, none⟩ 1 1 [.string ⟨#[35]⟩] rfl rfl HN7.out (by simp [Value.oneCell']) (by unfold maxLen; omega) (by omega) hs8 ?_))
  intro v8 w9 hown8 hgrow _ _
  have hown9 : OwnT v5.heap.size w9 v8 (endsL ls k) := by
    have h0 : (endsL ls k).length = (ls.take k).length + 1 := by simp [endsL]
    unfold OwnT
    rw [h0]
    show w9.ownsRow _ _ _ _ _ ((ls.take k ++ [[35]]).map _)
    rw [List.map_append, List.map_take, hlk]
    exact hown8
  have hbel9 : Below v5.heap.size v5 w9 := HB7.out.grown hgrow hs8 (fun g hg => (World.ownsRow.lt HO7.out g hg).1)
  have he0 : 0 < (endsL ls k).length := by simp [endsL]
  have hek : (endsL ls k).length = k + 1 := by simp [endsL]; omega
  obtain ⟨g, cap, rfl, hg1, hg2, hg3, hL⟩ := hown9.lev he0
  have CJ := Lib.hid (join_at w9 g cap (endsL ls k) hL hg2 (by omega) hg3 (by have := HEL.out; omega))
  have HB9 := Lib.hid (B5.out.trans (hbel9.mono B5.out.size))
  have HL9 := Lib.hid (HL5.out.below hbel9 z5)
  have hF9 : ∀ j, w9.frozen? ⟨p, j, none⟩ = false := fun j => by rw [World.frozen?_of_block (hbel9.block p z5)]; exact HF5.out j
  have HF9 := Lib.hid hF9
  have z9 := Nat.lt_of_lt_of_le z5 hbel9.size
  rw [hek] at CJ
  rw [HE.out] at CJ
  clear hown8 hgrow hown9 hbel9 HO7 HB7 HN7 hs8 hs7 hL hF9 HL5 HF5 B5 z5 he0
  go_wp2_with fail
  refine CJ.out.mono ?_
  rintro e w10 ⟨rfl, b10⟩
  have HB10 := Lib.hid (HB9.out.trans (b10.mono HB9.out.size))
  have HL10 := Lib.hid (HL9.out.below b10 z9)
  have HF10 := Lib.hid (show ∀ j, w10.frozen? ⟨p, j, none⟩ = false from fun j => by rw [World.frozen?_of_block (b10.block p z9)]; exact HF9.out j)
  have z10 := Nat.lt_of_lt_of_le z9 b10.size
  clear b10 HB9 HL9 HF9 z9 CJ
  go_wp2_with fail
  refine (CF1.out _ (HT.out.below HB10.out)).mono ?_
  rintro e w11 ⟨rfl, b10⟩
  have HB11 := Lib.hid (HB10.out.trans (b10.mono HB10.out.size))
  have HL11 := Lib.hid (HL10.out.below b10 z10)
  have HF11 := Lib.hid (show ∀ j, w11.frozen? ⟨p, j, none⟩ = false from fun j => by rw [World.frozen?_of_block (b10.block p z10)]; exact HF10.out j)
  have z11 := Nat.lt_of_lt_of_le z10 b10.size
  clear b10 HB10 HL10 HF10 z10
  go_wp2_with fail
  refine (CM1.out _ (HT.out.below HB11.out)).mono ?_
  rintro e w12 ⟨rfl, b10⟩
  have HB12 := Lib.hid (HB11.out.trans (b10.mono HB11.out.size))
  have hL12 := HL11.out.below b10 z11
  have hF12 : ∀ j, w12.frozen? ⟨p, j, none⟩ = false := fun j => by rw [World.frozen?_of_block (b10.block p z11)]; exact HF11.out j
  have z12 := Nat.lt_of_lt_of_le z11 b10.size
  clear b10 HB11 HL11 HF11 z11
  have hc := hL12 k x HX.out
  have hfz := hF12 k
  have e1 : (str x).toList = x := str_list x
  by_cases h35 : x = [35]
  · subst h35
    go_wp2
    go_ret
    exact ⟨rfl, HB12.out⟩
  · have d35 : (x == [35]) = false := beq_eq_false_iff_ne.2 h35
    obtain ⟨S, hS, hSl, cf2, cm2⟩ := HWI.out h35
    have HL13 := Lib.hid (lev_set hL12 k [43] hk)
    have HB13 : Hid (Below w.heap.size w (w12.setCell ⟨p, k, none⟩ (.string ⟨#[43]⟩))) := HB12.out.setCell hp _
    have CJ := Lib.hid (join_at (w12.setCell ⟨p, k, none⟩ (.string ⟨#[43]⟩)) p ls.length (ls.set k [43]) HL13.out (by simpa [World.setCell] using z12) (by rw [List.length_set]; omega) (by rw [List.length_set]; omega) (by omega))
    rw [List.length_set, hS] at CJ
    have CF2 := Lib.hid cf2
    have CM2 := Lib.hid cm2
    clear cf2 cm2 hS hSl HWI hL12 hF12 HB12 HL13
    go_wp2_with fail
    refine CJ.out.mono ?_
    rintro e w14 ⟨rfl, b⟩
    have HB14 := Lib.hid (HB13.out.trans (b.mono HB13.out.size))
    clear b CJ
    go_wp2_with fail
    refine (CF2.out _ (HT.out.below HB14.out)).mono ?_
    rintro e w15 ⟨rfl, b⟩
    have HB15 := Lib.hid (HB14.out.trans (b.mono HB14.out.size))
    clear b
    go_wp2_with fail
    refine (CM2.out _ (HT.out.below HB15.out)).mono ?_
    rintro e w16 ⟨rfl, b⟩
    have HB16 := Lib.hid (HB15.out.trans (b.mono HB15.out.size))
    clear b
    go_wp2
    go_ret
    exact ⟨rfl, HB16.out⟩

set_option maxRecDepth 100000 in
set_option maxHeartbeats 2000000 in
theorem walk2 (a0 a1 : ByteArray) (w0 : a0.size ≤ maxLen) (w1 : a1.size ≤ maxLen) (at_ : Int) (w : World) (HT : Hid (T10 w)) (s1 s2 : ByteArray) (hs1 : a0.extract 0 80 = s1) (hs2 : a1.extract 0 80 = s2) (ls : List (List UInt8)) (hls : ls.length ≤ 1000) (hk : at_ < 0 ∨ (ls.length : Int) ≤ at_)
    (cf : ∀ w, T10 w → Calls Tryd.prog 22 #[.string s1] w fun e w' => e = .returned (.bool true) ∧ Below w.heap.size w w')
    (cn : ∀ w, T10 w → Calls Tryd.prog 20 #[.string s2] w fun e w' => e = .returned (.bool true) ∧ Below w.heap.size w w')
    (ch : ∀ w, Calls Tryd.prog 24 #[.string s2] w fun e w' => e = .returned (.bool false) ∧ w' = w)
    (cm : ∀ w, T10 w → Calls Tryd.prog 25 #[.string s1, .string s2] w fun e w' => e = .returned (.bool true) ∧ Below w.heap.size w w')
    (cl : ∀ w, T10 w → Calls Tryd.prog 18 #[.string s1] w fun e w' => e = .returned (.slice (some ⟨w.heap.size, 0, none⟩) ls.length ls.length) ∧ LevAt w' w.heap.size ls ∧ (∀ j, w'.frozen? ⟨w.heap.size, j, none⟩ = false) ∧ Below w.heap.size w w' ∧ w.heap.size < w'.heap.size) :
    Calls Tryd.prog 4 #[.string a0, .string a1, .int .i64 at_] w fun e w' => e = .returned (.bool true) ∧ Below w.heap.size w w' := by
  have CF := Lib.hid cf
  have CN := Lib.hid cn
  have CH := Lib.hid ch
  have CM := Lib.hid cm
  have CL := Lib.hid cl
  clear cf cn ch cm cl
  go_enter Tryd.func4, Tryd.ntmps4
  go_wp2_with fail
  refine (cut_calls _ a0 80 w0).mono ?_
  rintro e v3 ⟨rfl, rfl⟩
  rw [hs1]
  go_wp2_with fail
  refine (cut_calls _ a1 80 w1).mono ?_
  rintro e v3 ⟨rfl, rfl⟩
  rw [hs2]
  clear w0 w1 hs1 hs2
  go_wp2_with fail
  refine (awake10_calls _ HT.out).mono ?_
  rintro e v1 ⟨rfl, b1⟩
  go_wp2_with fail
  refine (CF.out _ (HT.out.below b1)).mono ?_
  rintro e v2 ⟨rfl, b⟩
  have b2 := b1.trans (b.mono b1.size)
  clear b b1
  go_wp2_with fail
  refine (CN.out _ (HT.out.below b2)).mono ?_
  rintro e v3 ⟨rfl, b⟩
  have b3 := b2.trans (b.mono b2.size)
  clear b b2
  go_wp2_with fail
  refine (CH.out _).mono ?_
  rintro e v4 ⟨rfl, hw⟩
  rw [hw]
  clear hw
  go_wp2_with fail
  refine (CM.out _ (HT.out.below b3)).mono ?_
  rintro e v4 ⟨rfl, b⟩
  have b4 := b3.trans (b.mono b3.size)
  clear b b3
  go_wp2_with fail
  refine (CL.out _ (HT.out.below b4)).mono ?_
  rintro e v5 ⟨rfl, _, _, b, _⟩
  have B5 := Lib.hid (b4.trans (b.mono b4.size))
  clear b b4 CF CN CH CM CL
  by_cases h0 : at_ < 0
  · have d0 : decide (at_ < 0) = true := decide_eq_true h0
    clear h0 hk
    go_wp2
    go_ret
    exact ⟨rfl, B5.out⟩
  · have d0 : decide (at_ < 0) = false := decide_eq_false h0
    have d1 : decide ((ls.length : Int) ≤ at_) = true := decide_eq_true (by omega)
    clear h0 hk
    go_wp2
    go_ret
    exact ⟨rfl, B5.out⟩

theorem walk (a0 : ByteArray) (w0 : a0.size ≤ maxLen) (a1 : ByteArray) (w1 : a1.size ≤ maxLen) (a2 : Int) (_ : (Lit.int .i64 a2).wf = true) (w : World) (hT : T10 w) :
    Calls Tryd.prog 4 #[.string a0, .string a1, .int .i64 a2] w fun e w' => e = .returned (.bool true) ∧ Below w.heap.size w w' := by
  have hf : (a0.data.toList.take 80).length ≤ 80 := by rw [List.length_take]; omega
  generalize hs : a0.data.toList.take 80 = f at hf
  have hn : (a1.data.toList.take 80).length ≤ 80 := by rw [List.length_take]; omega
  generalize hs' : a1.data.toList.take 80 = n at hn
  have hs1 : a0.extract 0 80 = str f := by rw [ba_take, hs]
  have hs2 : a1.extract 0 80 = str n := by rw [ba_take, hs']
  have cf := fun w h => filter_calls w f (by omega) h
  have cn := fun w h => name_calls w n (by omega) h
  have ch := fun w => hidden_calls w n
  have cm := fun w h => match_calls w f n (by omega) (by omega) h
  have cl := fun w h => levels_calls2 w f (by omega) h
  have hc : (lev f).length ≤ 1000 := by rw [lev_length]; have := List.count_le_length (a := (47 : UInt8)) (l := f); omega
  by_cases hall : filtB f = true ∧ nameB n = true ∧ hidB n = false ∧ matchB f n = true
  · obtain ⟨hF, hN, hH, hM⟩ := hall
    have hall := fun k hk => ends_all f n hf hF hM hH k hk
    have hwide := fun k x h1 h2 => wide_all f n hf hF hM hH k x h1 h2
    rw [hF] at cf
    rw [hN] at cn
    rw [hH] at ch
    rw [hM] at cm
    by_cases hr : a2 < 0 ∨ ((lev f).length : Int) ≤ a2
    · exact walk2 a0 a1 w0 w1 a2 w (Lib.hid hT) _ _ hs1 hs2 (lev f) hc hr cf cn ch cm cl
    · obtain ⟨k, rfl⟩ : ∃ k : Nat, a2 = k := ⟨a2.toNat, by omega⟩
      have hk : k < (lev f).length := by omega
      obtain ⟨x, hx⟩ : ∃ x, (lev f)[k]? = some x := ⟨_, List.getElem?_eq_getElem hk⟩
      obtain ⟨e1, e2, e3⟩ := hall k hk
      refine walk1 a0 a1 w0 w1 k w (Lib.hid hT) _ _ hs1 hs2 (lev f) hc hk x hx cf cn ch cm cl _ rfl e3 (fun w h => e1 ▸ filter_calls w _ (by omega) h) (fun w h => e2 ▸ match_calls w _ n (by omega) (by omega) h) (fun h35 => ?_)
      obtain ⟨e1, e2, e3⟩ := hwide k x hx h35
      exact ⟨_, rfl, e3, (fun w h => e1 ▸ filter_calls w _ (by omega) h), (fun w h => e2 ▸ match_calls w _ n (by omega) (by omega) h)⟩
  · refine walk0 a0 a1 w0 w1 a2 w (Lib.hid hT) _ _ hs1 hs2 (filtB f) (nameB n) (hidB n) (matchB f n) cf cn ch cm ?_
    revert hall
    cases filtB f <;> cases nameB n <;> cases hidB n <;> cases matchB f n <;> simp

set_option maxRecDepth 100000 in
set_option maxHeartbeats 2000000 in
theorem lifted (os : Os) (started : os.Started) (H : Type) (enc : TypeId × Value → H) (F : Stop.Interp) :
    ReturnsInHanded {} Tryd.checked os 4 .any ((OpenSpec.ofChange Rows.topicWiderSpec).preRow enc Tryd.prog Tryd.f4 Rows.topicWiderRow.domain false Rows.topicWiderRow.laid) (((OpenSpec.ofChange Rows.topicWiderSpec).at F).post enc Tryd.prog Tryd.f4 false true false false) := by
  obtain ⟨places, hx⟩ := reads os enc
  refine returnsInHanded_of_row (C := Tryd.checked) (s := OpenSpec.ofChange Rows.topicWiderSpec) own started (by kernel_rfl) Tryd.func4
    (witness_row_at (enc := enc) (C := Tryd.checked) false (laidWorld os) #[.string ByteArray.empty, .string ByteArray.empty, .int .i64 0] rfl (by kernel_rfl) (by kernel_rfl) (by kernel_rfl)
      (OpenSpec.preRow_of_cond 8 hx (by kernel_rfl) (fun k hk => by cases hk) (by kernel_rfl) (laid_met os))) ?_
  intro W base args ds gs before hval0 hW _ _ _ hL hShp _
  have hval : ∀ (j : Nat) t v, Tryd.f4.params[j]? = some t → args[j]? = some v → Value.okWide Tryd.prog W .any base t v := hval0
  have hW' := hW
  obtain ⟨p, q, hA0, hV, rfl, hfz, hnd⟩ := hW
  have hA : DataW.TrodAll enc Tryd.prog W 0 (fun _ => true) true Tryd.f4.params.toList args.toList ds p := hA0
  rw [Tryd.params4] at hA hval
  obtain ⟨v0, vs0, d0, ds0, p0, q0, hargs, rfl, rfl, h0, r0⟩ := trodAll_cons hA
  obtain ⟨v1, vs1, d1, ds1, p1, q1, rfl, rfl, rfl, h1, r1⟩ := trodAll_cons r0
  obtain ⟨v2, vs2, d2, ds2, p2, q2, rfl, rfl, rfl, h2, r2⟩ := trodAll_cons r1
  obtain ⟨rfl, rfl, rfl⟩ := trodAll_nil r2
  obtain rfl : args = #[v0, v1, v2] := by cases args; simp_all
  obtain ⟨rfl, rfl⟩ := trodVars_none hV
  obtain ⟨a0, rfl, rfl, rfl, w0⟩ := open_string Tryd.underlying9 (hval 0 9 v0 rfl rfl) h0
  obtain ⟨a1, rfl, rfl, rfl, w1⟩ := open_string Tryd.underlying9 (hval 1 9 v1 rfl rfl) h1
  obtain ⟨a2, rfl, rfl, rfl, w2⟩ := open_int Tryd.underlying3 (hval 2 3 v2 rfl rfl) h2
  clear hA0 hval0
  have hT : Tabs W := utf8Tabs_of_readsT (U8Types.of196 Tryd.lays196) ⟨by kernel_rfl, by kernel_rfl, by kernel_rfl, by kernel_rfl, by kernel_rfl, by kernel_rfl, by kernel_rfl⟩ (first_eq ▸ Lib.laidMet.reads hL (.tail _ (.head _))) (accept_eq ▸ Lib.laidMet.reads hL (.head _))
  have hT10 : T10 W := ⟨hT, Tryd.laysM146.s1_3 W hShp⟩
  refine (walk a0 w0 a1 w1 a2 w2 W  hT10).mono fun e W' ⟨he, bel⟩ => ?_
  subst he
  exact ⟨_, rfl, _, _, _, [], _, [], hW', trodAll_mk1 (shut_bool Tryd.underlying4 _), (trodAll_cons_mk (shut_string Tryd.underlying9 w0) (trodAll_cons_mk (shut_string Tryd.underlying9 w1) (trodAll_cons_mk (shut_int Tryd.underlying3 w2) trodAll_mk0))), rfl, bel.frame _, fun h => by cases h⟩

theorem said : Rows.TopicWiderSaid :=
  OpenClaim.holds_of_cond 4 Tryd.f4 rfl rfl rfl rfl rfl rfl rfl ⟨rfl, rfl, rfl, rfl, rfl⟩ rfl rfl rfl rfl rfl (by kernel_rfl) Tryd.func4 closed
    (of_decide_eq_true (by kernel_rfl)) (by unfold Func.isWrapper; first | (rw [if_pos (by decide +kernel)]; kernel_rfl) | (rw [if_neg (by decide +kernel)]; exact ⟨rfl, rfl⟩))
    (fun os started H enc _ F => by rw [OpenClaim.pre_eq_preRow]; exact lifted os started H enc F)

theorem plain (f : FuncId) (fn : Func) (hf : Tryd.pinned.checked.prog.funcNamed Tryd.f4.name = some f) (hfn : Tryd.pinned.checked.prog.funcs[f]? = some fn) :
    false = Tryd.pinned.checked.prog.looks [] ∧ ∀ (j : Nat) t, fn.params[j]? = some t → Tryd.pinned.checked.prog.wantsStandIn t = false := by
  obtain rfl : f = 4 := Option.some.inj ((show Tryd.prog.funcNamed Tryd.f4.name = some 4 by kernel_rfl).symm.trans hf) |>.symm
  obtain rfl : fn = Tryd.f4 := (Option.some.inj (Tryd.func4.symm.trans hfn)).symm
  refine ⟨fac_looks, fun j t ht => ?_⟩
  rw [Tryd.params4] at ht
  have hm : t = 9 ∨ t = 3 := by simpa using Array.mem_of_getElem? ht
  rcases hm with rfl | rfl
  · exact (show Tryd.prog.wantsStandIn 9 = false by kernel_rfl)
  · exact (show Tryd.prog.wantsStandIn 3 = false by kernel_rfl)

end Go.Proofs.YtephoadjnmmbnaaDoor.topicWider
namespace Go.Proofs.YtephoadjnmmbnaaDoor
/-- The statement. -/
theorem topicWider_holds : Rows.TopicWiderCardSaid :=
  Claim7.holds_tied_plain_at .later [] _ _ _ _ topicWider.said (fun _ h => by cases h) topicWider.wft (fun _ h => by cases h) topicWider_row_tie rfl ⟨rfl, rfl⟩ fac_main rfl topicWider.plain topicWider.goes
#print axioms topicWider_holds
end Go.Proofs.YtephoadjnmmbnaaDoor
