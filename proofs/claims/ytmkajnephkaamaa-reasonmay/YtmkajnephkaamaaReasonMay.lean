/-
  ReasonMay answers true for every kind of a packet and every code: May, Good and Codes answer what the document's table says.
  Its conditions: none beside those of the row itself.
-/
import Derived.Test.YtmkajnephkaamaaMay4
import Derived.ProofKit
import Derived.OpenShut
import Derived.ShutString
import Derived.ChangeOld
namespace Go.Proofs.Ytmkajnephkaamaa.reasonMay
open Go.ChangeShapes Go.WideShapes Go.ChangeAt Go.RowKit
open Go.ChangeMaps (open_string shut_string)
set_option linter.unusedVariables false

theorem own : ownKnob Try.prog.godebug = none := by kernel_rfl

theorem filter_at (f : Nat → Bool) (n c : Nat) (hc : c < n) (hf : f c = true) : ((List.range n).filter f)[((List.range c).filter f).length]? = some c := by
  obtain ⟨m, rfl⟩ : ∃ m, n = c + (m + 1) := ⟨n - c - 1, by omega⟩
  rw [List.range_add, List.filter_append, List.range_succ_eq_map, List.map_cons, List.filter_cons]
  simp [hf]

/-- How many codes are less. -/
def cnt (k : Int) (c : Nat) : Nat := ((List.range c).filter fun x : Nat => mayR k (x : Int)).length

theorem row_filter : ∀ k ∈ [(2 : Int), 4, 5, 6, 7, 9, 11, 14, 15], (List.range 256).filter (fun x : Nat => mayR k (x : Int)) = (rowL k).map UInt8.toNat := by decide +kernel
theorem row_all (k : Int) : (List.range 256).filter (fun x : Nat => mayR k (x : Int)) = (rowL k).map UInt8.toNat := by
  rcases kinds k with h | ⟨_, h⟩
  · exact row_filter k (by rcases h with rfl | rfl | rfl | rfl | rfl | rfl | rfl | rfl | rfl <;> decide)
  · rw [h, List.map_nil, List.filter_eq_nil_iff]
    intro x _
    rw [mayR_none k x h]
    simp

theorem cnt_end (k : Int) : cnt k 256 = (rowL k).length := by
  unfold cnt
  rw [row_all, List.length_map]
theorem cnt_yes (k : Int) (c : Nat) (h : mayR k c = true) : cnt k (c + 1) = cnt k c + 1 := by
  unfold cnt
  rw [List.range_succ, List.filter_append]
  simp [h]
theorem cnt_no (k : Int) (c : Nat) (h : mayR k c = false) : cnt k (c + 1) = cnt k c := by
  unfold cnt
  rw [List.range_succ, List.filter_append]
  simp [h]
theorem cnt_at (k : Int) (c : Nat) (hc : c < 256) (h : mayR k c = true) : cnt k c < (rowL k).length ∧ ((rowL k).getD (cnt k c) 0).toNat = c := by
  have := filter_at (fun x : Nat => mayR k (x : Int)) 256 c hc h
  rw [row_all] at this
  show cnt k c < (rowL k).length ∧ _
  have hl : cnt k c < ((rowL k).map UInt8.toNat).length := (List.getElem?_eq_some_iff.1 this).1
  rw [List.length_map] at hl
  refine ⟨hl, ?_⟩
  rw [List.getElem?_map, Option.map_eq_some_iff] at this
  obtain ⟨u, hu, rfl⟩ := this
  unfold cnt at hl ⊢
  rw [List.getD, hu]
  rfl

theorem row_short (k : Int) : (rowL k).length ≤ 29 := by
  rcases kinds k with h | ⟨_, h⟩
  · rcases h with rfl | rfl | rfl | rfl | rfl | rfl | rfl | rfl | rfl <;> decide
  · rw [h]; decide

set_option maxHeartbeats 1000000 in
set_option maxRecDepth 100000 in
theorem walk (a0 : Int) (w0 : (Lit.int .i64 a0).wf = true) (a1 : Int) (w1 : (Lit.int .u8 a1).wf = true) (w : World) :
    Calls Try.prog 3 #[.int .i64 a0, .int .u8 a1] w fun e w' => e = .returned (.bool true) ∧ Below w.heap.size w w' := by
  have hb1 := bounds_u8 w1
  obtain ⟨c0, rfl⟩ : ∃ n : Nat, a1 = n := ⟨a1.toNat, by omega⟩
  have hc0 : c0 < 256 := by omega
  have HE := Lib.hid (may_eq a0 c0 hc0)
  have hs := row_short a0
  have HRN := Lib.hid (show mayR a0 c0 = mayR a0 c0 from rfl)
  generalize hr : mayR a0 c0 = r at *
  have HR := Lib.hid hr
  clear hr w0 w1 hb1 HRN
  go_enter Try.func3, Try.ntmps3
  go_wp2_with fail
  refine (awake4_calls _).mono ?_
  rintro e w1 ⟨rfl, hb1⟩
  go_wp2_with fail
  refine (may_calls _ _ _).mono ?_
  rintro e w2 ⟨rfl, rfl⟩
  rw [HE.out]
  go_wp2_with fail
  refine (r4may_calls _ _ _ r HR).mono ?_
  rintro e w2 ⟨rfl, hb2⟩
  have hb3 := hb1.trans (hb2.mono hb1.size)
  clear hb1 hb2
  have hrr : (r != r) = false := by cases r <;> rfl
  go_wp2_with fail
  refine (good4_calls _ _).mono ?_
  rintro e w3 ⟨rfl, rfl⟩
  go_wp2_with fail
  refine (codes_calls _ _).mono ?_
  rintro e w4 ⟨c, rfl, hrow, hb4⟩
  have HB := Lib.hid (hb3.trans (hb4.mono hb3.size))
  have HW := Lib.hid hrow
  have hz : w.heap.size ≤ w2.heap.size := hb3.size
  clear hb3 hb4 hrow HE HR
  generalize w2.heap.size = p at *
  generalize hl : (rowL a0).length = n at *
  have HL := Lib.hid hl
  clear hl hrr
  go_wp2
  go_loopw [6, 7] (fun a b wr => ∃ m : Nat, m ≤ 256 ∧ b = .int .i64 m ∧ a = .int .i64 (cnt a0 m) ∧ RowAt wr p (rowL a0) ∧ Below w.heap.size w wr) (fun _ b _ => 256 - (intOf b).toNat)
  case atStart => exact ⟨0, by omega, rfl, rfl, HW.out, HB.out⟩
  case round =>
    clear HW HB
    obtain ⟨m, hm, rfl, rfl, hw, hb⟩ := hrel
    have HW := Lib.hid hw
    have HB := Lib.hid hb
    clear hw hb
    by_cases hlt : m < 256
    · have HQ := Lib.hid (cnt_at a0 m hlt)
      have HY := Lib.hid (cnt_yes a0 m)
      have HN := Lib.hid (cnt_no a0 m)
      generalize hr : mayR a0 m = r at *
      have HR := Lib.hid hr
      clear hr
      cases r with
      | false =>
        have HN' := Lib.hid (HN.out rfl)
        clear HN HY HQ
        go_wp2_with fail
        refine (r4may_calls _ _ _ false HR).mono ?_
        rintro e w5 ⟨rfl, hb5⟩
        have HB5 := Lib.hid (HB.out.trans (hb5.mono HB.out.size))
        have HW5 := Lib.hid (HW.out.below hb5)
        clear HB HW hb5 HR
        go_wp2
        go_roundw
        case rel => exact ⟨m + 1, by omega, by go_num, by rw [HN'.out], HW5.out, HB5.out⟩
        case measure => simp [intOf]; omega
      | true =>
        obtain ⟨hq1, hq2⟩ := HQ.out rfl
        rw [HL.out] at hq1
        have HY' := Lib.hid (HY.out rfl)
        clear HN HY HQ
        have H2 := Lib.hid hq2
        clear hq2
        go_wp2_with fail
        refine (r4may_calls _ _ _ true HR).mono ?_
        rintro e w5 ⟨rfl, hb5⟩
        have HB5 := Lib.hid (HB.out.trans (hb5.mono HB.out.size))
        have HW5 := Lib.hid (HW.out.below hb5)
        clear HB HW hb5 HR
        have hcell := (HW5.out.2 (cnt a0 m) (by rw [HL.out]; exact hq1)).1
        rw [H2.out] at hcell
        generalize cnt a0 m = q at *
        go_wp2
        go_roundw
        case rel => exact ⟨m + 1, by omega, by go_num, by rw [HY'.out]; go_num, HW5.out, HB5.out⟩
        case measure => simp [intOf]; omega
    · obtain rfl : m = 256 := by omega
      have he := cnt_end a0
      rw [HL.out] at he
      rw [he]
      clear hm hlt he HL HW
      go_wp2
      go_ret
      exact ⟨rfl, HB.out⟩

set_option maxRecDepth 100000 in
theorem lifted (os : Os) (started : os.Started) (H : Type) (enc : TypeId × Value → H) :
    ReturnsInHanded {} Try.checked os 3 .any (Rows.reasonMaySpec.pre6 enc Try.prog Try.f3 Rows.reasonMayRow.domain false) (Rows.reasonMaySpec.post enc Try.prog Try.f3 false true false false) := by
  refine returnsInHanded_of_change (C := Try.checked) own started (by kernel_rfl) Try.func3
    (ChangeSpec.witness6 (enc := enc) (C := Try.checked) false ⟨#[], #[.int .i64 0, .int .u8 0], []⟩ 8 (by kernel_rfl) (by kernel_rfl) (by kernel_rfl) (by kernel_rfl)) ?_
  intro W base args ds gs before hval0 hW hcnd _
  have hval : ∀ (j : Nat) t v, Try.f3.params[j]? = some t → args[j]? = some v → Value.okWide Try.prog W .any base t v := hval0
  have hW' := hW
  obtain ⟨p, q, hA0, hV, rfl, hfz, hnd⟩ := hW
  have hA : DataW.TrodAll enc Try.prog W 0 (fun _ => true) true Try.f3.params.toList args.toList ds p := hA0
  rw [Try.params3] at hA hval
  obtain ⟨v0, vs0, d0, ds0, p0, q0, hargs, rfl, rfl, h0, r0⟩ := trodAll_cons hA
  obtain ⟨v1, vs1, d1, ds1, p1, q1, rfl, rfl, rfl, h1, r1⟩ := trodAll_cons r0
  obtain ⟨rfl, rfl, rfl⟩ := trodAll_nil r1
  obtain rfl : args = #[v0, v1] := by cases args; simp_all
  obtain ⟨rfl, rfl⟩ := trodVars_none hV
  obtain ⟨a0, rfl, rfl, rfl, w0⟩ := open_int Try.underlying3 (hval 0 3 v0 rfl rfl) h0
  obtain ⟨a1, rfl, rfl, rfl, w1⟩ := open_int Try.underlying5 (hval 1 5 v1 rfl rfl) h1
  clear hA0 hval0
  refine (walk a0 w0 a1 w1 W ).mono fun e W' ⟨he, bel⟩ => ?_
  subst he
  exact ⟨_, rfl, _, _, _, [], _, [], hW', trodAll_mk1 (shut_bool Try.underlying4 _), (trodAll_cons_mk (shut_int Try.underlying3 w0) (trodAll_cons_mk (shut_int Try.underlying5 w1) trodAll_mk0)), rfl, bel.frame _, fun h => by cases h⟩

theorem over : Rows.reasonMayRow.holds Try.pinned (OpenSpec.ofChange Rows.reasonMaySpec) :=
  OpenClaim.holds_of_wide 3 Try.f3 rfl rfl rfl rfl rfl rfl rfl ⟨rfl, rfl, rfl, rfl, rfl⟩ rfl rfl rfl rfl rfl (by kernel_rfl) Try.func3 (by kernel_rfl)
    (of_decide_eq_true (by kernel_rfl)) (by unfold Func.isWrapper; first | (rw [if_pos (by decide +kernel)]; kernel_rfl) | (rw [if_neg (by decide +kernel)]; exact ⟨rfl, rfl⟩))
    (fun os started H enc _ => lifted os started H enc)

end Go.Proofs.Ytmkajnephkaamaa.reasonMay
namespace Go.Proofs.Ytmkajnephkaamaa
/-- The statement. -/
theorem reasonMay_holds : Rows.ReasonMaySaid := reasonMay.over
#print axioms reasonMay_holds
end Go.Proofs.Ytmkajnephkaamaa
