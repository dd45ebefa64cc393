/-
  A text of as many slashes as there may be levels, less one, is a name; with more it is none.
  Its conditions: none beside those of the row itself (the two tables of unicode/utf8 start as the library's text lays them: the card ties them).
-/
import Derived.Test.YtehnpnlbfcajaaaDoorCards
import Derived.Test.YtehnpnlbfcajaaaDoorTie
import Derived.Test.YtehnpnlbfcajaaaDoorJTopicLevelsw
import Derived.Test.YtehnpnlbfcajaaaDoorJTopicLevelsf
import Derived.Test.YtehnpnlbfcajaaaDoorJTop6
import Derived.ProofKit
import Derived.OpenShut
import Derived.ShutString
import Derived.ChangeOld
import Derived.Deep.DeepHandedRow
import Derived.Deep.DeepWitnessRowRef
import Derived.Lib.LaidU8T
import Derived.Lib.LaidTab
import Derived.Lib.LaidIn
namespace Go.Proofs.YtehnpnlbfcajaaaDoor.topicLevels
open Go.ChangeShapes Go.WideShapes Go.ChangeAt Go.RowKit Go.Lib
open Go.ChangeMaps (open_string shut_string)
set_option linter.unusedVariables false

theorem lev_facts : ∀ n : Fin 101, nameB (List.replicate n.1 47) = decide (0 < n.1 ∧ n.1 < 32) ∧ filtB (List.replicate n.1 47 ++ [35]) = decide (n.1 < 32) := by decide +kernel
theorem lev_slashes (n : Nat) : (lev (List.replicate n 47)).length = n + 1 := by rw [lev_length, List.count_replicate_self]
theorem rep_slash : ∀ n : Nat, repeatL [47] n = List.replicate n 47
  | 0 => rfl
  | n + 1 => by rw [repeatL, rep_slash n]; rfl
theorem str_plus (x : List UInt8) : str x ++ ⟨#[35]⟩ = str (x ++ [35]) := by
  apply ByteArray.ext
  simp [str, ByteArray.data_append]

set_option maxRecDepth 100000 in
set_option maxHeartbeats 1000000 in
theorem walk0 (n : Nat) (hn : n ≤ 100) (hk : n = 0) (w : World) (hT : T10 w) :
    Calls Tryd.prog 7 #[.int .i64 (n : Int)] w fun e w' => e = .returned (.bool true) ∧ Below w.heap.size w w' := by
  have HT := Lib.hid hT
  clear hT
  obtain ⟨f1, f2⟩ := lev_facts ⟨n, by omega⟩
  dsimp only at f1 f2
  rw [show decide (0 < n ∧ n < 32) = false from by simp; omega] at f1
  rw [show decide (n < 32) = true from by simp; omega] at f2
  have f3 := lev_slashes n
  have c0 := fun v => Tryd.strings_Repeat ⟨#[47]⟩ n v (by omega) (by show 1 * n ≤ _; omega)
  rw [show (⟨#[47]⟩ : ByteArray).data.toList = [47] from rfl, rep_slash n] at c0
  change ∀ v, Calls Tryd.prog _ _ v fun e w' => e = .returned (.string (str (List.replicate n 47))) ∧ Below v.heap.size v w' at c0
  have hR : (List.replicate n (47 : UInt8)).length ≤ 100 := by simp; exact hn
  have hR2 : (List.replicate n (47 : UInt8) ++ [35]).length ≤ 101 := by simp; exact hn
  have c1 := fun v h => name_calls v (List.replicate n 47) (by omega) h
  have c2 := fun v h => filter_calls v (List.replicate n 47 ++ [35]) (by omega) h
  have c3 := fun v h => levels_calls v (List.replicate n 47) (by omega) h
  rw [f1] at c1
  rw [f2] at c2
  rw [f3] at c3
  have hsz : (str (List.replicate n 47)).size ≤ 100 := by rw [str_size]; exact hR
  have hsum := str_plus (List.replicate n 47)
  clear f1 f2 f3 hR hR2
  generalize str (List.replicate n 47) = s at *
  generalize str (List.replicate n 47 ++ [35]) = s2 at *
  generalize lev (List.replicate n 47) = L at *
  have C0 := Lib.hid c0
  have C1 := Lib.hid c1
  have C2 := Lib.hid c2
  have C3 := Lib.hid c3
  clear c0 c1 c2 c3
  have hwr : IntKind.i64.wrap ((n : Int) + 1) = (n : Int) + 1 := by rw [IntKind.wrap_i64]; omega
  have hcast : ((n + 1 : Nat) : Int) = (n : Int) + 1 := by omega
  obtain ⟨a, ha⟩ : ∃ a : Int, a = (n : Int) := ⟨_, rfl⟩
  rw [← ha] at C0 hwr hcast ⊢
  have p1 : ¬ a < 0 := by omega
  have p2 : ¬ a > 100 := by omega
  have p3 : ¬ (0 : Int) < a := by omega
  have p4 : a < 32 := by omega
  clear ha hn hk
  go_enter Tryd.func7, Tryd.ntmps7
  go_wp2_with fail
  refine (awake10_calls _ HT.out).mono ?_
  rintro e v1 ⟨rfl, b1⟩
  go_wp2_with fail
  refine (C0.out _).mono ?_
  rintro e v2 ⟨rfl, b⟩
  have b2 := b1.trans (b.mono b1.size)
  clear b b1
  go_wp2_with fail
  refine (C1.out _ (HT.out.below b2)).mono ?_
  rintro e v3 ⟨rfl, b⟩
  have b3 := b2.trans (b.mono b2.size)
  clear b b2
  go_wp2_with fail
  refine (C2.out _ (HT.out.below b3)).mono ?_
  rintro e v4 ⟨rfl, b⟩
  have b4 := b3.trans (b.mono b3.size)
  clear b b3
  go_wp2_with fail
  refine (C3.out _ (HT.out.below b4)).mono ?_
  rintro e v5 ⟨rfl, _, b, _⟩
  have b5 := b4.trans (b.mono b4.size)
  clear b b4
  go_wp2
  go_ret
  exact ⟨rfl, b5⟩

set_option maxRecDepth 100000 in
set_option maxHeartbeats 1000000 in
theorem walk1 (n : Nat) (hn : n ≤ 100) (hk : (0 < n ∧ n < 32)) (w : World) (hT : T10 w) :
    Calls Tryd.prog 7 #[.int .i64 (n : Int)] w fun e w' => e = .returned (.bool true) ∧ Below w.heap.size w w' := by
  have HT := Lib.hid hT
  clear hT
  obtain ⟨f1, f2⟩ := lev_facts ⟨n, by omega⟩
  dsimp only at f1 f2
  rw [show decide (0 < n ∧ n < 32) = true from by simp; omega] at f1
  rw [show decide (n < 32) = true from by simp; omega] at f2
  have f3 := lev_slashes n
  have c0 := fun v => Tryd.strings_Repeat ⟨#[47]⟩ n v (by omega) (by show 1 * n ≤ _; omega)
  rw [show (⟨#[47]⟩ : ByteArray).data.toList = [47] from rfl, rep_slash n] at c0
  change ∀ v, Calls Tryd.prog _ _ v fun e w' => e = .returned (.string (str (List.replicate n 47))) ∧ Below v.heap.size v w' at c0
  have hR : (List.replicate n (47 : UInt8)).length ≤ 100 := by simp; exact hn
  have hR2 : (List.replicate n (47 : UInt8) ++ [35]).length ≤ 101 := by simp; exact hn
  have c1 := fun v h => name_calls v (List.replicate n 47) (by omega) h
  have c2 := fun v h => filter_calls v (List.replicate n 47 ++ [35]) (by omega) h
  have c3 := fun v h => levels_calls v (List.replicate n 47) (by omega) h
  rw [f1] at c1
  rw [f2] at c2
  rw [f3] at c3
  have hsz : (str (List.replicate n 47)).size ≤ 100 := by rw [str_size]; exact hR
  have hsum := str_plus (List.replicate n 47)
  clear f1 f2 f3 hR hR2
  generalize str (List.replicate n 47) = s at *
  generalize str (List.replicate n 47 ++ [35]) = s2 at *
  generalize lev (List.replicate n 47) = L at *
  have C0 := Lib.hid c0
  have C1 := Lib.hid c1
  have C2 := Lib.hid c2
  have C3 := Lib.hid c3
  clear c0 c1 c2 c3
  have hwr : IntKind.i64.wrap ((n : Int) + 1) = (n : Int) + 1 := by rw [IntKind.wrap_i64]; omega
  have hcast : ((n + 1 : Nat) : Int) = (n : Int) + 1 := by omega
  obtain ⟨a, ha⟩ : ∃ a : Int, a = (n : Int) := ⟨_, rfl⟩
  rw [← ha] at C0 hwr hcast ⊢
  have p1 : ¬ a < 0 := by omega
  have p2 : ¬ a > 100 := by omega
  have p3 : (0 : Int) < a := by omega
  have p4 : a < 32 := by omega
  clear ha hn hk
  go_enter Tryd.func7, Tryd.ntmps7
  go_wp2_with fail
  refine (awake10_calls _ HT.out).mono ?_
  rintro e v1 ⟨rfl, b1⟩
  go_wp2_with fail
  refine (C0.out _).mono ?_
  rintro e v2 ⟨rfl, b⟩
  have b2 := b1.trans (b.mono b1.size)
  clear b b1
  go_wp2_with fail
  refine (C1.out _ (HT.out.below b2)).mono ?_
  rintro e v3 ⟨rfl, b⟩
  have b3 := b2.trans (b.mono b2.size)
  clear b b2
  go_wp2_with fail
  refine (C2.out _ (HT.out.below b3)).mono ?_
  rintro e v4 ⟨rfl, b⟩
  have b4 := b3.trans (b.mono b3.size)
  clear b b3
  go_wp2_with fail
  refine (C3.out _ (HT.out.below b4)).mono ?_
  rintro e v5 ⟨rfl, _, b, _⟩
  have b5 := b4.trans (b.mono b4.size)
  clear b b4
  go_wp2
  go_ret
  exact ⟨rfl, b5⟩

set_option maxRecDepth 100000 in
set_option maxHeartbeats 1000000 in
theorem walk2 (n : Nat) (hn : n ≤ 100) (hk : 32 ≤ n) (w : World) (hT : T10 w) :
    Calls Tryd.prog 7 #[.int .i64 (n : Int)] w fun e w' => e = .returned (.bool true) ∧ Below w.heap.size w w' := by
  have HT := Lib.hid hT
  clear hT
  obtain ⟨f1, f2⟩ := lev_facts ⟨n, by omega⟩
  dsimp only at f1 f2
  rw [show decide (0 < n ∧ n < 32) = false from by simp; omega] at f1
  rw [show decide (n < 32) = false from by simp; omega] at f2
  have f3 := lev_slashes n
  have c0 := fun v => Tryd.strings_Repeat ⟨#[47]⟩ n v (by omega) (by show 1 * n ≤ _; omega)
  rw [show (⟨#[47]⟩ : ByteArray).data.toList = [47] from rfl, rep_slash n] at c0
  change ∀ v, Calls Tryd.prog _ _ v fun e w' => e = .returned (.string (str (List.replicate n 47))) ∧ Below v.heap.size v w' at c0
  have hR : (List.replicate n (47 : UInt8)).length ≤ 100 := by simp; exact hn
  have hR2 : (List.replicate n (47 : UInt8) ++ [35]).length ≤ 101 := by simp; exact hn
  have c1 := fun v h => name_calls v (List.replicate n 47) (by omega) h
  have c2 := fun v h => filter_calls v (List.replicate n 47 ++ [35]) (by omega) h
  have c3 := fun v h => levels_calls v (List.replicate n 47) (by omega) h
  rw [f1] at c1
  rw [f2] at c2
  rw [f3] at c3
  have hsz : (str (List.replicate n 47)).size ≤ 100 := by rw [str_size]; exact hR
  have hsum := str_plus (List.replicate n 47)
  clear f1 f2 f3 hR hR2
  generalize str (List.replicate n 47) = s at *
  generalize str (List.replicate n 47 ++ [35]) = s2 at *
  generalize lev (List.replicate n 47) = L at *
  have C0 := Lib.hid c0
  have C1 := Lib.hid c1
  have C2 := Lib.hid c2
  have C3 := Lib.hid c3
  clear c0 c1 c2 c3
  have hwr : IntKind.i64.wrap ((n : Int) + 1) = (n : Int) + 1 := by rw [IntKind.wrap_i64]; omega
  have hcast : ((n + 1 : Nat) : Int) = (n : Int) + 1 := by omega
  obtain ⟨a, ha⟩ : ∃ a : Int, a = (n : Int) := ⟨_, rfl⟩
  rw [← ha] at C0 hwr hcast ⊢
  have p1 : ¬ a < 0 := by omega
  have p2 : ¬ a > 100 := by omega
  have p3 : (0 : Int) < a := by omega
  have p4 : ¬ a < 32 := by omega
  clear ha hn hk
  go_enter Tryd.func7, Tryd.ntmps7
  go_wp2_with fail
  refine (awake10_calls _ HT.out).mono ?_
  rintro e v1 ⟨rfl, b1⟩
  go_wp2_with fail
  refine (C0.out _).mono ?_
  rintro e v2 ⟨rfl, b⟩
  have b2 := b1.trans (b.mono b1.size)
  clear b b1
  go_wp2_with fail
  refine (C1.out _ (HT.out.below b2)).mono ?_
  rintro e v3 ⟨rfl, b⟩
  have b3 := b2.trans (b.mono b2.size)
  clear b b2
  go_wp2_with fail
  refine (C2.out _ (HT.out.below b3)).mono ?_
  rintro e v4 ⟨rfl, b⟩
  have b4 := b3.trans (b.mono b3.size)
  clear b b3
  go_wp2_with fail
  refine (C3.out _ (HT.out.below b4)).mono ?_
  rintro e v5 ⟨rfl, _, b, _⟩
  have b5 := b4.trans (b.mono b4.size)
  clear b b4
  go_wp2
  go_ret
  exact ⟨by simp [p4], b5⟩

set_option maxRecDepth 100000 in
set_option maxHeartbeats 1000000 in
theorem walk (a0 : Int) (w0 : (Lit.int .i64 a0).wf = true) (w : World) (hT : T10 w) :
    Calls Tryd.prog 7 #[.int .i64 a0] w fun e w' => e = .returned (.bool true) ∧ Below w.heap.size w w' := by
  clear w0
  have HT := Lib.hid hT
  clear hT
  by_cases hlow : a0 < 0
  · go_enter Tryd.func7, Tryd.ntmps7
    go_wp2_with fail
    refine (awake10_calls _ HT.out).mono ?_
    rintro e v1 ⟨rfl, b1⟩
    go_wp2_with fail
    refine (awake10_calls _ (HT.out.below b1)).mono ?_
    rintro e v2 ⟨rfl, b⟩
    have b2 := Lib.hid (b1.trans (b.mono b1.size))
    clear b b1
    go_wp2
    go_ret
    exact ⟨rfl, b2.out⟩
  · by_cases hbig : a0 > 100
    · go_enter Tryd.func7, Tryd.ntmps7
      go_wp2_with fail
      refine (awake10_calls _ HT.out).mono ?_
      rintro e v1 ⟨rfl, b1⟩
      go_wp2_with fail
      refine (awake10_calls _ (HT.out.below b1)).mono ?_
      rintro e v2 ⟨rfl, b⟩
      have b2 := Lib.hid (b1.trans (b.mono b1.size))
      clear b b1
      go_wp2
      go_ret
      exact ⟨rfl, b2.out⟩
    · obtain ⟨n, rfl⟩ : ∃ n : Nat, a0 = n := ⟨a0.toNat, by omega⟩
      by_cases h0 : n = 0
      · exact walk0 n (by omega) h0 w HT.out
      · by_cases h1 : n < 32
        · exact walk1 n (by omega) ⟨by omega, h1⟩ w HT.out
        · exact walk2 n (by omega) (by omega) w HT.out

set_option maxRecDepth 100000 in
set_option maxHeartbeats 2000000 in
theorem lifted (os : Os) (started : os.Started) (H : Type) (enc : TypeId × Value → H) (F : Stop.Interp) :
    ReturnsInHanded {} Tryd.checked os 7 .any ((OpenSpec.ofChange Rows.topicLevelsSpec).preRow enc Tryd.prog Tryd.f7 Rows.topicLevelsRow.domain false Rows.topicLevelsRow.laid) (((OpenSpec.ofChange Rows.topicLevelsSpec).at F).post enc Tryd.prog Tryd.f7 false true false false) := by
  obtain ⟨places, hx⟩ := reads os enc
  refine returnsInHanded_of_row (C := Tryd.checked) (s := OpenSpec.ofChange Rows.topicLevelsSpec) own started (by kernel_rfl) Tryd.func7
    (witness_row_at (enc := enc) (C := Tryd.checked) false (laidWorld os) #[.int .i64 0] rfl (by kernel_rfl) (by kernel_rfl) (by kernel_rfl)
      (OpenSpec.preRow_of_cond 8 hx (by kernel_rfl) (fun k hk => by cases hk) (by kernel_rfl) (laid_met os))) ?_
  intro W base args ds gs before hval0 hW _ _ _ hL hShp _
  have hval : ∀ (j : Nat) t v, Tryd.f7.params[j]? = some t → args[j]? = some v → Value.okWide Tryd.prog W .any base t v := hval0
  have hW' := hW
  obtain ⟨p, q, hA0, hV, rfl, hfz, hnd⟩ := hW
  have hA : DataW.TrodAll enc Tryd.prog W 0 (fun _ => true) true Tryd.f7.params.toList args.toList ds p := hA0
  rw [Tryd.params7] at hA hval
  obtain ⟨v0, vs0, d0, ds0, p0, q0, hargs, rfl, rfl, h0, r0⟩ := trodAll_cons hA
  obtain ⟨rfl, rfl, rfl⟩ := trodAll_nil r0
  obtain rfl : args = #[v0] := by cases args; simp_all
  obtain ⟨rfl, rfl⟩ := trodVars_none hV
  obtain ⟨a0, rfl, rfl, rfl, w0⟩ := open_int Tryd.underlying3 (hval 0 3 v0 rfl rfl) h0
  clear hA0 hval0
  have hT : Tabs W := utf8Tabs_of_readsT (U8Types.of196 Tryd.lays196) ⟨by kernel_rfl, by kernel_rfl, by kernel_rfl, by kernel_rfl, by kernel_rfl, by kernel_rfl, by kernel_rfl⟩ (first_eq ▸ Lib.laidMet.reads hL (.tail _ (.head _))) (accept_eq ▸ Lib.laidMet.reads hL (.head _))
  have hT10 : T10 W := ⟨hT, Tryd.laysM145.s1_3 W hShp⟩
  refine (walk a0 w0 W  hT10).mono fun e W' ⟨he, bel⟩ => ?_
  subst he
  exact ⟨_, rfl, _, _, _, [], _, [], hW', trodAll_mk1 (shut_bool Tryd.underlying4 _), (trodAll_cons_mk (shut_int Tryd.underlying3 w0) trodAll_mk0), rfl, bel.frame _, fun h => by cases h⟩

theorem said : Rows.TopicLevelsSaid :=
  OpenClaim.holds_of_cond 7 Tryd.f7 rfl rfl rfl rfl rfl rfl rfl ⟨rfl, rfl, rfl, rfl, rfl⟩ rfl rfl rfl rfl rfl (by kernel_rfl) Tryd.func7 closed
    (of_decide_eq_true (by kernel_rfl)) (by unfold Func.isWrapper; first | (rw [if_pos (by decide +kernel)]; kernel_rfl) | (rw [if_neg (by decide +kernel)]; exact ⟨rfl, rfl⟩))
    (fun os started H enc _ F => by rw [OpenClaim.pre_eq_preRow]; exact lifted os started H enc F)

theorem plain (f : FuncId) (fn : Func) (hf : Tryd.pinned.checked.prog.funcNamed Tryd.f7.name = some f) (hfn : Tryd.pinned.checked.prog.funcs[f]? = some fn) :
    false = Tryd.pinned.checked.prog.looks [] ∧ ∀ (j : Nat) t, fn.params[j]? = some t → Tryd.pinned.checked.prog.wantsStandIn t = false := by
  obtain rfl : f = 7 := Option.some.inj ((show Tryd.prog.funcNamed Tryd.f7.name = some 7 by kernel_rfl).symm.trans hf) |>.symm
  obtain rfl : fn = Tryd.f7 := (Option.some.inj (Tryd.func7.symm.trans hfn)).symm
  refine ⟨fac_looks, fun j t ht => ?_⟩
  rw [Tryd.params7] at ht
  have hm : t = 3 := by simpa using Array.mem_of_getElem? ht
  subst hm
  exact (show Tryd.prog.wantsStandIn 3 = false by kernel_rfl)

end Go.Proofs.YtehnpnlbfcajaaaDoor.topicLevels
namespace Go.Proofs.YtehnpnlbfcajaaaDoor
/-- The statement. -/
theorem topicLevels_holds : Rows.TopicLevelsCardSaid :=
  Claim7.holds_tied_plain_at .later [] _ _ _ _ topicLevels.said (fun _ h => by cases h) topicLevels.wft (fun _ h => by cases h) topicLevels_row_tie rfl ⟨rfl, rfl⟩ fac_main rfl topicLevels.plain topicLevels.goes
#print axioms topicLevels_holds
end Go.Proofs.YtehnpnlbfcajaaaDoor
