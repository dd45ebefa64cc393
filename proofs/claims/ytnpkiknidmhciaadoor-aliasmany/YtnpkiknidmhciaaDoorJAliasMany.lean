/-
  Aliases stand for their topics each by itself.
  Its conditions: none beside those of the row itself (the two tables of unicode/utf8 start as the library's text lays them: the card ties them).
-/
import Derived.Test.YtnpkiknidmhciaaDoorCards
import Derived.Test.YtnpkiknidmhciaaDoorTie
import Derived.Test.YtnpkiknidmhciaaDoorJAliasManyw
import Derived.Test.YtnpkiknidmhciaaDoorJAliasManyf
import Derived.Test.YtnpkiknidmhciaaDoorJAlias
import Derived.ProofKit
import Derived.OpenShut
import Derived.ShutString
import Derived.ChangeOld
import Derived.Deep.DeepHandedRow
import Derived.Deep.DeepWitnessRowRef
import Derived.Lib.LaidU8T
import Derived.Lib.LaidTab
import Derived.Lib.LaidIn
namespace Go.Proofs.YtnpkiknidmhciaaDoor.aliasMany
open Go.ChangeShapes Go.WideShapes Go.ChangeAt Go.RowKit Go.Lib
open Go.ChangeMaps (open_string shut_string)
set_option linter.unusedVariables false

/-- The i-th topic. -/
def tL (i : Nat) : List UInt8 := [116, UInt8.ofNat (97 + i)]
theorem tL_name : ∀ i : Fin 26, nameB (tL i.1) = true := by decide +kernel
def LM (k : Nat) : List (Int × List UInt8) := (List.range k).map fun (i : Nat) => ((i : Int) + 1, tL i)
theorem LM_succ (k : Nat) : LM (k + 1) = LM k ++ [((k : Int) + 1, tL k)] := by simp [LM, List.range_succ]
theorem LM_len (k : Nat) : (LM k).length = k := by simp [LM]
theorem LM_get (k i : Nat) : getL (LM k) ((i : Int) + 1) = if i < k then some (tL i) else none := by
  induction k with
  | zero => simp [LM, getL]
  | succ k ih =>
    rw [LM_succ, getL_snoc, ih]
    by_cases h : k = i
    · subst h
      rw [if_pos rfl, if_pos (by omega)]
    · rw [if_neg (by omega)]
      by_cases h2 : i < k
      · rw [if_pos h2, if_pos (by omega)]
      · rw [if_neg h2, if_neg (by omega)]

theorem enc_low : ∀ i : Fin 26, Utf8.encode (97 + (i.1 : Int)) = str [UInt8.ofNat (97 + i.1)] := by decide +kernel
theorem t_app (i : Nat) : (⟨#[116]⟩ : ByteArray) ++ str [UInt8.ofNat (97 + i)] = str (tL i) := by
  apply ByteArray.ext
  simp [str, tL, ByteArray.data_append]

set_option maxRecDepth 100000 in
set_option maxHeartbeats 2000000 in
theorem walk1 (n : Nat) (hn : n ≤ 25) (w : World) (hT : T10 w) :
    Calls Tryd.prog 7 #[.int .i64 n] w fun e w' => e = .returned (.bool true) ∧ Below w.heap.size w w' := by
  have HT := Lib.hid hT
  clear hT
  go_enter Tryd.func7, Tryd.ntmps7
  go_wp2_with fail
  refine (awake17_calls w HT.out).mono ?_
  rintro e v1 ⟨rfl, b1⟩
  go_wp2_with fail
  refine (aNew_calls v1 100 (by omega) (by omega)).mono ?_
  rintro e v2 ⟨p, b, rfl, hA, hB, hp, hb⟩
  have J0 := Lib.hid (show AlJ w p b 100 [] 0 v2 from ⟨hA, b1.trans (hB.mono b1.size), Nat.le_trans b1.size hp, Nat.le_trans b1.size hb⟩)
  clear hA hB hp hb b1
  go_wp2_with fail
  go_loopw [4] (fun i wr => ∃ k : Nat, i = .int .i64 k ∧ k ≤ n ∧ AlJ w p b 100 (LM k) k wr) (fun i _ => n - (RowKit.intOf i).toNat)
  case atStart => exact ⟨0, rfl, Nat.zero_le _, J0.out⟩
  case round =>
    obtain ⟨k, rfl, hk, hJ⟩ := hrel
    have J1 := Lib.hid hJ
    clear hJ J0
    by_cases hlt : k < n
    · have hcv := fun w => run_convert_int_string (P := Tryd.prog) w 21 9 .i32 (97 + (k : Int)) (by kernel_rfl) Tryd.underlying9
      rw [enc_low ⟨k, by omega⟩] at hcv
      dsimp only at hcv
      have hap := t_app k
      have hz : (str [UInt8.ofNat (97 + k)]).size = 1 := rfl
      have hnm := tL_name ⟨k, by omega⟩
      have hE : nmE 100 (LM k) (some ((k : Int) + 1)) (tL k) = (tL k, 0) := by
        simp only [nmE]
        rw [if_pos (by omega), if_neg (by simp [tL]), if_pos hnm]
      have hL : nmL 100 (LM k) (some ((k : Int) + 1)) (tL k) = LM (k + 1) := by
        simp only [nmL]
        rw [if_pos ⟨by omega, by simp [tL], hnm⟩, LM_succ]
      have hc : nmC 100 (LM k) k (some ((k : Int) + 1)) (tL k) = k + 1 := by
        simp only [nmC]
        rw [if_pos ⟨by omega, by simp [tL], hnm⟩, LM_get]
        simp
      have HE := Lib.hid (And.intro hE (And.intro hL hc))
      generalize str [UInt8.ofNat (97 + k)] = cs at *
      clear hE hL hc hnm
      go_wp2_with fail
      refine (made_step (T := tL k) (T' := tL k) (n := (k : Int) + 1) (by omega) (by omega) (by simp [tL, maxLen]) rfl).mono ?_
      rintro e v3 ⟨u1, rfl, hP, hB⟩
      go_wp2_with fail
      refine (aName_step (T := tL k) (T' := tL k) J1.out HT.out hP hB (by rw [LM_len]; unfold maxLen; omega) (one_range (by omega) (by omega)) rfl HE.out.1 HE.out.2.1 HE.out.2.2).mono ?_
      rintro e v4 ⟨rfl, j⟩
      have J2 := Lib.hid j
      clear j hP hB J1 HE
      go_wp2
      go_roundw
      case rel => exact ⟨k + 1, by go_num, by omega, J2.out⟩
      case measure => simp [RowKit.intOf]; omega
    · obtain rfl : k = n := by omega
      clear hlt
      go_wp2_with fail
      go_loopw [5] (fun i wr => ∃ x : Int, i = .int .i64 x ∧ -1 ≤ x ∧ x < (k : Int) ∧ AlJ w p b 100 (LM k) k wr) (fun i _ => (RowKit.intOf i + 1).toNat)
      case atStart => exact ⟨(k : Int) - 1, rfl, by omega, by omega, J1.out⟩
      case round =>
        obtain ⟨x, rfl, hx0, hx1, hJ⟩ := hrel
        have J2 := Lib.hid hJ
        clear hJ J1
        by_cases hneg : x < 0
        · obtain rfl : x = -1 := by omega
          go_wp2_with fail
          refine (aLen_calls _ p b k _ _ J2.out.al).mono ?_
          rintro e v5 ⟨rfl, rfl⟩
          go_wp2
          go_ret
          exact ⟨rfl, J2.out.bel⟩
        · obtain ⟨j, rfl⟩ := Int.eq_ofNat_of_zero_le (by omega : 0 ≤ x)
          have hj : j < k := by omega
          have hcv := fun w => run_convert_int_string (P := Tryd.prog) w 21 9 .i32 (97 + (j : Int)) (by kernel_rfl) Tryd.underlying9
          rw [enc_low ⟨j, by omega⟩] at hcv
          dsimp only at hcv
          have hap := t_app j
          have hz : (str [UInt8.ofNat (97 + j)]).size = 1 := rfl
          have hts : (str (tL j)).toList = tL j := str_list _
          have hE : nmE 100 (LM k) (some ((j : Int) + 1)) [] = (tL j, 0) := by
            simp only [nmE]
            rw [if_pos (by omega), if_pos trivial, LM_get, if_pos hj]
          have hL : nmL 100 (LM k) (some ((j : Int) + 1)) [] = LM k := by simp [nmL]
          have hc : nmC 100 (LM k) k (some ((j : Int) + 1)) [] = k := by simp [nmC]
          have HE := Lib.hid (And.intro hE (And.intro hL hc))
          generalize str [UInt8.ofNat (97 + j)] = cs at *
          clear hE hL hc
          go_wp2_with fail
          refine (made_step (T := []) (T' := []) (n := (j : Int) + 1) (by omega) (by omega) (by decide) rfl).mono ?_
          rintro e v3 ⟨u1, rfl, hP, hB⟩
          go_wp2_with fail
          refine (aName_step (T := []) (T' := []) J2.out HT.out hP hB (by rw [LM_len]; unfold maxLen; omega) (one_range (by omega) (by omega)) rfl HE.out.1 HE.out.2.1 HE.out.2.2).mono ?_
          rintro e v4 ⟨rfl, jj⟩
          have J3 := Lib.hid jj
          clear jj hP hB J2 HE
          go_wp2
          go_roundw
          case rel => exact ⟨(j : Int) - 1, by go_num, by omega, by omega, J3.out⟩
          case measure => simp [RowKit.intOf]

set_option maxRecDepth 100000 in
theorem walk (a0 : Int) (w0 : (Lit.int .i64 a0).wf = true) (w : World) (hT : T10 w) :
    Calls Tryd.prog 7 #[.int .i64 a0] w fun e w' => e = .returned (.bool true) ∧ Below w.heap.size w w' := by
  clear w0
  by_cases h0 : a0 < 0
  · go_enter Tryd.func7, Tryd.ntmps7
    go_wp2_with fail
    refine (awake17_calls w hT).mono ?_
    rintro e v1 ⟨rfl, b1⟩
    go_wp2_with fail
    refine (awake17_calls v1 (hT.below b1)).mono ?_
    rintro e v2 ⟨rfl, b2⟩
    go_wp2
    go_ret
    exact ⟨rfl, b1.trans (b2.mono b1.size)⟩
  · by_cases h1 : 25 < a0
    · go_enter Tryd.func7, Tryd.ntmps7
      go_wp2_with fail
      refine (awake17_calls w hT).mono ?_
      rintro e v1 ⟨rfl, b1⟩
      go_wp2_with fail
      refine (awake17_calls v1 (hT.below b1)).mono ?_
      rintro e v2 ⟨rfl, b2⟩
      go_wp2
      go_ret
      exact ⟨rfl, b1.trans (b2.mono b1.size)⟩
    · obtain ⟨n, rfl⟩ := Int.eq_ofNat_of_zero_le (by omega : 0 ≤ a0)
      exact walk1 n (by omega) w hT

set_option maxRecDepth 100000 in
set_option maxHeartbeats 2000000 in
theorem lifted (os : Os) (started : os.Started) (H : Type) (enc : TypeId × Value → H) (F : Stop.Interp) :
    ReturnsInHanded {} Tryd.checked os 7 .any ((OpenSpec.ofChange Rows.aliasManySpec).preRow enc Tryd.prog Tryd.f7 Rows.aliasManyRow.domain false Rows.aliasManyRow.laid) (((OpenSpec.ofChange Rows.aliasManySpec).at F).post enc Tryd.prog Tryd.f7 false true false false) := by
  obtain ⟨places, hx⟩ := reads os enc
  refine returnsInHanded_of_row (C := Tryd.checked) (s := OpenSpec.ofChange Rows.aliasManySpec) own started (by kernel_rfl) Tryd.func7
    (witness_row_at (enc := enc) (C := Tryd.checked) false (laidWorld os) #[.int .i64 0] rfl (by kernel_rfl) (by kernel_rfl) (by kernel_rfl)
      (OpenSpec.preRow_of_cond 8 hx (by kernel_rfl) (fun k hk => by cases hk) (by kernel_rfl) (laid_met os))) ?_
  intro W base args ds gs before hval0 hW _ _ _ hL hShp _
  have hval : ∀ (j : Nat) t v, Tryd.f7.params[j]? = some t → args[j]? = some v → Value.okWide Tryd.prog W .any base t v := hval0
  have hW' := hW
  obtain ⟨p, q, hA0, hV, rfl, hfz, hnd⟩ := hW
  have hA : DataW.TrodAll enc Tryd.prog W 0 (fun _ => true) true Tryd.f7.params.toList args.toList ds p := hA0
  rw [Tryd.params7] at hA hval
  obtain ⟨v0, vs0, d0, ds0, p0, q0, hargs, rfl, rfl, h0, r0⟩ := trodAll_cons hA
  obtain ⟨rfl, rfl, rfl⟩ := trodAll_nil r0
  obtain rfl : args = #[v0] := by cases args; simp_all
  obtain ⟨rfl, rfl⟩ := trodVars_none hV
  obtain ⟨a0, rfl, rfl, rfl, w0⟩ := open_int Tryd.underlying3 (hval 0 3 v0 rfl rfl) h0
  clear hA0 hval0
  have hT : Tabs W := utf8Tabs_of_readsT (U8Types.of196 Tryd.lays196) ⟨by kernel_rfl, by kernel_rfl, by kernel_rfl, by kernel_rfl, by kernel_rfl, by kernel_rfl, by kernel_rfl⟩ (first_eq ▸ Lib.laidMet.reads hL (.tail _ (.head _))) (accept_eq ▸ Lib.laidMet.reads hL (.head _))
  have hT10 : T10 W := ⟨hT⟩
  refine (walk a0 w0 W  hT10).mono fun e W' ⟨he, bel⟩ => ?_
  subst he
  exact ⟨_, rfl, _, _, _, [], _, [], hW', trodAll_mk1 (shut_bool Tryd.underlying4 _), (trodAll_cons_mk (shut_int Tryd.underlying3 w0) trodAll_mk0), rfl, bel.frame _, fun h => by cases h⟩

theorem said : Rows.AliasManySaid :=
  OpenClaim.holds_of_cond 7 Tryd.f7 rfl rfl rfl rfl rfl rfl rfl ⟨rfl, rfl, rfl, rfl, rfl⟩ rfl rfl rfl rfl rfl (by kernel_rfl) Tryd.func7 closed
    (of_decide_eq_true (by kernel_rfl)) (by unfold Func.isWrapper; first | (rw [if_pos (by decide +kernel)]; kernel_rfl) | (rw [if_neg (by decide +kernel)]; exact ⟨rfl, rfl⟩))
    (fun os started H enc _ F => by rw [OpenClaim.pre_eq_preRow]; exact lifted os started H enc F)

theorem plain (f : FuncId) (fn : Func) (hf : Tryd.pinned.checked.prog.funcNamed Tryd.f7.name = some f) (hfn : Tryd.pinned.checked.prog.funcs[f]? = some fn) :
    false = Tryd.pinned.checked.prog.looks [] ∧ ∀ (j : Nat) t, fn.params[j]? = some t → Tryd.pinned.checked.prog.wantsStandIn t = false := by
  obtain rfl : f = 7 := Option.some.inj ((show Tryd.prog.funcNamed Tryd.f7.name = some 7 by kernel_rfl).symm.trans hf) |>.symm
  obtain rfl : fn = Tryd.f7 := (Option.some.inj (Tryd.func7.symm.trans hfn)).symm
  refine ⟨fac_looks, fun j t ht => ?_⟩
  rw [Tryd.params7] at ht
  have hm : t = 3 := by simpa using Array.mem_of_getElem? ht
  subst hm
  exact (show Tryd.prog.wantsStandIn 3 = false by kernel_rfl)

end Go.Proofs.YtnpkiknidmhciaaDoor.aliasMany
namespace Go.Proofs.YtnpkiknidmhciaaDoor
/-- The statement. -/
theorem aliasMany_holds : Rows.AliasManyCardSaid :=
  Claim7.holds_tied_plain_at .later [] _ _ _ _ aliasMany.said (fun _ h => by cases h) aliasMany.wft (fun _ h => by cases h) aliasMany_row_tie rfl ⟨rfl, rfl⟩ fac_main rfl aliasMany.plain aliasMany.goes
#print axioms aliasMany_holds
end Go.Proofs.YtnpkiknidmhciaaDoor
