/-
  Of any byte of options: may it be (switchboardlaw08.SubscribeOptions answers true for every input).
  Its conditions: none beside those of the row itself (the two tables of unicode/utf8 start as the library's text lays them: the card ties them).
-/
import Derived.Test.YtdbocpkeafcmaaaDoorCards
import Derived.Test.YtdbocpkeafcmaaaDoorTie
import Derived.Test.YtdbocpkeafcmaaaDoorJSubscribeOptionsw
import Derived.Test.YtdbocpkeafcmaaaDoorJSubscribeOptionsf
import Derived.Test.YtdbocpkeafcmaaaDoorJSub7
import Derived.ProofKit
import Derived.OpenShut
import Derived.ShutString
import Derived.ChangeOld
import Derived.Deep.DeepHandedRow
import Derived.Deep.DeepWitnessRowRef
import Derived.Lib.LaidU8T
import Derived.Lib.LaidTab
import Derived.Lib.LaidIn
namespace Go.Proofs.YtdbocpkeafcmaaaDoor.subscribeOptions
open Go.ChangeShapes Go.WideShapes Go.ChangeAt Go.RowKit Go.Lib
open Go.ChangeMaps (open_string shut_string)
set_option linter.unusedVariables false

/-- What is asked of a byte. -/
def wantO (b : Int) : Int := if 63 < b then 2 else if bits .and .u8 b 3 = 3 ∨ b / 16 = 3 then 3 else 0
theorem opt_all : ∀ k : Fin 256, subX2 (bits .and .u8 (k.val : Int) 3) (bits .and .u8 ((k.val : Int) / 16) 3) (subX1 (k.val : Int) 0) = wantO (k.val : Int) ∧ (wantO (k.val : Int) = 0 → optN (sbOf ⟨#[97]⟩ (k.val : Int)) = (k.val : Int)) ∧ 0 ≤ (sbOf ⟨#[97]⟩ (k.val : Int)).h ∧ (sbOf ⟨#[97]⟩ (k.val : Int)).h < 256 := by decide +kernel

set_option maxRecDepth 100000 in
set_option maxHeartbeats 4000000 in
theorem walk1 (a0 : Int) (w : World) (hT : Tabs w) (S : ByteArray) (hS : ⟨#[0, 1, 0, 0, 1, 97]⟩ ++ str [UInt8.ofNat a0.toNat] = S) (E : Int) (hE : (if 63 < a0 then 2 else if bits .and .u8 a0 3 = 3 ∨ a0 / 16 = 3 then 3 else 0) = E)
    (N : Int) (C : List Sb) (hP : ∀ W, Tabs W → Calls Tryd.prog 68 #[.string S] W (SubscR W N [] C E)) (hC : E = 0 → ∃ c, C = [c] ∧ optN c = a0 ∧ 0 ≤ c.h ∧ c.h < 256) :
    Calls Tryd.prog 18 #[.int .u8 a0] w fun e w' => e = .returned (.bool true) ∧ Below w.heap.size w w' := by
  have HT := Lib.hid hT
  have HP := Lib.hid hP
  have HCC := Lib.hid hC
  have hcv := conv1 w a0
  have hss : (⟨#[0, 1, 0, 0, 1, 97]⟩ : ByteArray).size = 6 := rfl
  have hs1 : (str [UInt8.ofNat a0.toNat]).size = 1 := by rw [str_size]; rfl
  have b0 := Lib.hid (below_one w (.cells #[.int .u8 a0] 5))
  generalize str [UInt8.ofNat a0.toNat] = X at *
  clear hT hP hC
  have main : ∀ W, Below w.heap.size w W → True := fun _ _ => trivial
  clear main
  by_cases h63 : 63 < a0
  · rw [if_pos h63] at hE
    subst hE
    have g1 : decide (63 < a0) = true := decide_eq_true h63
    go_enter Tryd.func18, Tryd.ntmps18
    go_wp2_with fail
    generalize w.alloc (.cells #[.int .u8 a0] 5) = W0 at *
    refine (HP.out _ (HT.out.below b0.out)).mono ?_
    rintro e W1 ⟨pa, pc, qa, qc, rfl, -, -, b1⟩
    have B1 := Lib.hid (Below.next b0.out b1)
    have B2 := Lib.hid (B1.out.alloc B1.out.size (.cells #[.int .u32 N, .slice pa ([] : List Pr).length pc, .slice qa C.length qc] 119))
    clear b1 b0 hcv
    go_wp2_with fail
    refine (awake8_calls _ (HT.out.below B2.out)).mono ?_
    rintro e W3 ⟨rfl, b3⟩
    have B3 := Lib.hid (Below.next B2.out b3)
    clear b3 B2
    go_wp2
    go_ret
    exact ⟨rfl, B3.out⟩
  · rw [if_neg h63] at hE
    have g1 : decide (63 < a0) = false := decide_eq_false h63
    by_cases h3 : bits .and .u8 a0 3 = 3 ∨ a0 / 16 = 3
    · rw [if_pos h3] at hE
      subst hE
      cases g2 : (bits .and .u8 a0 3 == 3)
      · have g3 : (a0 / 16 == 3) = true := by
          rcases h3 with h | h
          · rw [h] at g2; exact absurd g2 (by decide)
          · simpa using h
        go_enter Tryd.func18, Tryd.ntmps18
        go_wp2_with fail
        generalize w.alloc (.cells #[.int .u8 a0] 5) = W0 at *
        refine (HP.out _ (HT.out.below b0.out)).mono ?_
        rintro e W1 ⟨pa, pc, qa, qc, rfl, -, -, b1⟩
        have B1 := Lib.hid (Below.next b0.out b1)
        have B2 := Lib.hid (B1.out.alloc B1.out.size (.cells #[.int .u32 N, .slice pa ([] : List Pr).length pc, .slice qa C.length qc] 119))
        clear b1 b0 hcv h3
        go_wp2_with fail
        refine (awake8_calls _ (HT.out.below B2.out)).mono ?_
        rintro e W3 ⟨rfl, b3⟩
        have B3 := Lib.hid (Below.next B2.out b3)
        clear b3 B2
        go_wp2
        go_ret
        exact ⟨rfl, B3.out⟩
      · go_enter Tryd.func18, Tryd.ntmps18
        go_wp2_with fail
        generalize w.alloc (.cells #[.int .u8 a0] 5) = W0 at *
        refine (HP.out _ (HT.out.below b0.out)).mono ?_
        rintro e W1 ⟨pa, pc, qa, qc, rfl, -, -, b1⟩
        have B1 := Lib.hid (Below.next b0.out b1)
        have B2 := Lib.hid (B1.out.alloc B1.out.size (.cells #[.int .u32 N, .slice pa ([] : List Pr).length pc, .slice qa C.length qc] 119))
        clear b1 b0 hcv h3
        go_wp2_with fail
        refine (awake8_calls _ (HT.out.below B2.out)).mono ?_
        rintro e W3 ⟨rfl, b3⟩
        have B3 := Lib.hid (Below.next B2.out b3)
        clear b3 B2
        go_wp2
        go_ret
        exact ⟨rfl, B3.out⟩
    · rw [if_neg h3] at hE
      subst hE
      have g2 : (bits .and .u8 a0 3 == 3) = false := by rw [Bool.eq_false_iff]; intro h; exact h3 (.inl (eq_of_beq h))
      have g3 : (a0 / 16 == 3) = false := by rw [Bool.eq_false_iff]; intro h; exact h3 (.inr (eq_of_beq h))
      obtain ⟨c, rfl, hopt, hh0, hh1⟩ := HCC.out rfl
      have HO := Lib.hid (show ∀ W, Calls Tryd.prog 90 #[.agg #[.string c.f, .int .u8 c.q, .bool c.nl, .bool c.ap, .int .u8 c.h]] W (fun e w' => e = .returned (.int .u8 a0) ∧ Below W.heap.size W w') from fun W => by have := options_calls W c hh0 hh1; rw [hopt] at this; exact this)
      clear HCC hopt hh0 hh1 h3
      go_enter Tryd.func18, Tryd.ntmps18
      go_wp2_with fail
      generalize w.alloc (.cells #[.int .u8 a0] 5) = W0 at *
      refine (HP.out _ (HT.out.below b0.out)).mono ?_
      rintro e W1 ⟨pa, pc, qa, qc, rfl, -, os, b1⟩
      have B1 := Lib.hid (Below.next b0.out b1)
      obtain ⟨qa', qc', hqe, hcl⟩ := os.at
      injection hqe with e1 e2 e3
      subst e1 e3
      obtain ⟨b, off, rfl, hbl, c0, c1, c2, c3, c4⟩ := hcl 0 c rfl
      have b2 := below_one W1 (.cells #[.int .u32 N, .slice pa 0 pc, .slice (some ⟨b, off, none⟩) 1 qc] 119)
      have l2 := heap_alloc_new W1 (.cells #[.int .u32 N, .slice pa 0 pc, .slice (some ⟨b, off, none⟩) 1 qc] 119)
      have B2 := Lib.hid (Below.next B1.out b2)
      have SC := Lib.hid (show ∀ V, Below W1.heap.size W1 V → V.cell? ⟨b, off, none⟩ = some (.string c.f) ∧ V.cell? ⟨b, off + 1, none⟩ = some (.int .u8 c.q) ∧ V.cell? ⟨b, off + 2, none⟩ = some (.bool c.nl) ∧ V.cell? ⟨b, off + 3, none⟩ = some (.bool c.ap) ∧ V.cell? ⟨b, off + 4, none⟩ = some (.int .u8 c.h) from fun V hV => ⟨(hV.cell (p := ⟨b, _, none⟩) hbl).trans (by simpa using c0), (hV.cell (p := ⟨b, _, none⟩) hbl).trans (by simpa using c1), (hV.cell (p := ⟨b, _, none⟩) hbl).trans (by simpa using c2), (hV.cell (p := ⟨b, _, none⟩) hbl).trans (by simpa using c3), (hV.cell (p := ⟨b, _, none⟩) hbl).trans (by simpa using c4)⟩)
      clear b1 b0 hcv os hcl c0 c1 c2 c3 c4 hbl e2
      dsimp only [List.length_cons, List.length_nil]
      go_wp2_with fail
      have hbs := b2.size
      have BB := Lib.hid b2
      have LL := Lib.hid l2
      clear b2 l2
      generalize W1.alloc (.cells #[.int .u32 N, .slice pa 0 pc, .slice (some ⟨b, off, none⟩) 1 qc] 119) = W2 at *
      generalize W1.heap.size = xb at *
      refine (awake8_calls _ (HT.out.below B2.out)).mono ?_
      rintro e W3 ⟨rfl, b3⟩
      have B3 := Lib.hid (Below.next B2.out b3)
      obtain ⟨k0, k1, k2, k3, k4⟩ := SC.out _ (BB.out.trans (b3.mono hbs))
      obtain ⟨d0, d1, d2, df⟩ := cells3 ((b3.block _ (lt_of_block LL.out)).trans LL.out)
      clear b3 B2 LL BB SC
      go_wp2_with fail
      refine (HO.out _).mono ?_
      rintro e W4 ⟨rfl, b4⟩
      have B4 := Lib.hid (Below.next B3.out b4)
      clear b4 B3
      go_wp2
      go_ret
      exact ⟨rfl, B4.out⟩

theorem walk (a0 : Int) (w0 : (Lit.int .u8 a0).wf = true) (w : World) (hT : Tabs w) :
    Calls Tryd.prog 18 #[.int .u8 a0] w fun e w' => e = .returned (.bool true) ∧ Below w.heap.size w w' := by
  have hb := bounds_u8 w0
  obtain ⟨m, rfl⟩ := Int.eq_ofNat_of_zero_le hb.1
  obtain ⟨q1, q2, q3, q4⟩ := opt_all ⟨m, by omega⟩
  dsimp only at q1 q2 q3 q4
  have hby : (UInt8.ofNat ((m : Int).toNat)).toNat = m := by
    have := ofNat_toNat (m : Int) (by omega) (by omega)
    omega
  have hst := stepS_at ⟨#[97]⟩ (UInt8.ofNat ((m : Int).toNat)) [] (by decide) (by decide +kernel)
  rw [hby, q1] at hst
  have hS : (⟨#[0, 1, 0, 0, 1, 97]⟩ : ByteArray) ++ str [UInt8.ofNat ((m : Int).toNat)] = str ([] ++ two 1 ++ propsL [] ++ (datL ⟨#[97]⟩ ++ ([UInt8.ofNat ((m : Int).toNat)] ++ []))) := by
    have h2 : ([] ++ two 1 ++ propsL [] ++ datL ⟨#[97]⟩ : List UInt8) = [0, 1, 0, 0, 1, 97] := by decide +kernel
    rw [← List.append_assoc, h2, List.append_nil]
    exact str_append [0, 1, 0, 0, 1, 97] _
  obtain ⟨t1, y1, y2, hh⟩ := head_back 8 1 (datL ⟨#[97]⟩ ++ ([UInt8.ofNat ((m : Int).toNat)] ++ [])) (by decide) (by decide) (by simp [datL])
  rw [← hS] at hh
  have hne : (str (datL ⟨#[97]⟩ ++ ([UInt8.ofNat ((m : Int).toNat)] ++ []))).size ≠ 0 := by rw [str_size]; simp
  have hrun : runA8 [] (str (datL ⟨#[97]⟩ ++ ([UInt8.ofNat ((m : Int).toNat)] ++ []))) 0 = ([sbOf ⟨#[97]⟩ m], str [], wantO m) := by
    rw [runA8_step _ _ hne, hst]
    dsimp only
    rw [runA8_done _ _ _ (fun h => h.2 rfl)]
    rfl
  have hend : endT (str []) (wantO m) = wantO m := by
    have : wantO m = 0 ∨ wantO m = 2 ∨ wantO m = 3 := by
      unfold wantO
      split
      · simp
      · split <;> simp
    rcases this with h | h | h <;> rw [h] <;> rfl
  have hsz : (str (datL ⟨#[97]⟩ ++ ([UInt8.ofNat ((m : Int).toNat)] ++ []))).size ≤ ((⟨#[0, 1, 0, 0, 1, 97]⟩ : ByteArray) ++ str [UInt8.ofNat ((m : Int).toNat)]).size := by
    rw [hS, str_size, str_size]
    simp only [List.length_append]
    omega
  have hszb : ((⟨#[0, 1, 0, 0, 1, 97]⟩ : ByteArray) ++ str [UInt8.ofNat ((m : Int).toNat)]).size ≤ 1000000 := by
    rw [hS, str_size]; simp [datL, two_len, propsL, bodyL]
    have := varb_len 3 0
    omega
  by_cases he : wantO m = 0
  · refine walk1 m w hT _ rfl 0 he 1 [sbOf ⟨#[97]⟩ m] (fun W hW => ?_) (fun _ => ⟨_, rfl, q2 he, q3, q4⟩)
    rw [he] at hrun
    exact sparse_calls W _ hW hszb hh hsz _ _ _ hrun 0 rfl 1 [] _ rfl
  · refine walk1 m w hT _ rfl (wantO m) rfl 0 [] (fun W hW => ?_) (fun h => absurd h he)
    exact sparse_calls W _ hW hszb hh hsz _ _ _ hrun (wantO m) hend 0 [] [] (by rw [if_neg he])

set_option maxRecDepth 100000 in
set_option maxHeartbeats 2000000 in
theorem lifted (os : Os) (started : os.Started) (H : Type) (enc : TypeId × Value → H) (F : Stop.Interp) :
    ReturnsInHanded {} Tryd.checked os 18 .any ((OpenSpec.ofChange Rows.subscribeOptionsSpec).preRow enc Tryd.prog Tryd.f18 Rows.subscribeOptionsRow.domain false Rows.subscribeOptionsRow.laid) (((OpenSpec.ofChange Rows.subscribeOptionsSpec).at F).post enc Tryd.prog Tryd.f18 false true false false) := by
  obtain ⟨places, hx⟩ := reads os enc
  refine returnsInHanded_of_row (C := Tryd.checked) (s := OpenSpec.ofChange Rows.subscribeOptionsSpec) own started (by kernel_rfl) Tryd.func18
    (witness_row_at (enc := enc) (C := Tryd.checked) false (laidWorld os) #[.int .u8 0] rfl (by kernel_rfl) (by kernel_rfl) (by kernel_rfl)
      (OpenSpec.preRow_of_cond 8 hx (by kernel_rfl) (fun k hk => by cases hk) (by kernel_rfl) (laid_met os))) ?_
  intro W base args ds gs before hval0 hW _ _ _ hL _ _
  have hval : ∀ (j : Nat) t v, Tryd.f18.params[j]? = some t → args[j]? = some v → Value.okWide Tryd.prog W .any base t v := hval0
  have hW' := hW
  obtain ⟨p, q, hA0, hV, rfl, hfz, hnd⟩ := hW
  have hA : DataW.TrodAll enc Tryd.prog W 0 (fun _ => true) true Tryd.f18.params.toList args.toList ds p := hA0
  rw [Tryd.params18] at hA hval
  obtain ⟨v0, vs0, d0, ds0, p0, q0, hargs, rfl, rfl, h0, r0⟩ := trodAll_cons hA
  obtain ⟨rfl, rfl, rfl⟩ := trodAll_nil r0
  obtain rfl : args = #[v0] := by cases args; simp_all
  obtain ⟨rfl, rfl⟩ := trodVars_none hV
  obtain ⟨a0, rfl, rfl, rfl, w0⟩ := open_int Tryd.underlying5 (hval 0 5 v0 rfl rfl) h0
  clear hA0 hval0
  have hT : Tabs W := utf8Tabs_of_readsT (U8Types.of196 Tryd.lays196) ⟨by kernel_rfl, by kernel_rfl, by kernel_rfl, by kernel_rfl, by kernel_rfl, by kernel_rfl, by kernel_rfl⟩ (first_eq ▸ Lib.laidMet.reads hL (.tail _ (.head _))) (accept_eq ▸ Lib.laidMet.reads hL (.head _))
  refine (walk a0 w0 W  hT).mono fun e W' ⟨he, bel⟩ => ?_
  subst he
  exact ⟨_, rfl, _, _, _, [], _, [], hW', trodAll_mk1 (shut_bool Tryd.underlying4 _), (trodAll_cons_mk (shut_int Tryd.underlying5 w0) trodAll_mk0), rfl, bel.frame _, fun h => by cases h⟩

theorem said : Rows.SubscribeOptionsSaid :=
  OpenClaim.holds_of_cond 18 Tryd.f18 rfl rfl rfl rfl rfl rfl rfl ⟨rfl, rfl, rfl, rfl, rfl⟩ rfl rfl rfl rfl rfl (by kernel_rfl) Tryd.func18 closed
    (of_decide_eq_true (by kernel_rfl)) (by unfold Func.isWrapper; first | (rw [if_pos (by decide +kernel)]; kernel_rfl) | (rw [if_neg (by decide +kernel)]; exact ⟨rfl, rfl⟩))
    (fun os started H enc _ F => by rw [OpenClaim.pre_eq_preRow]; exact lifted os started H enc F)

theorem plain (f : FuncId) (fn : Func) (hf : Tryd.pinned.checked.prog.funcNamed Tryd.f18.name = some f) (hfn : Tryd.pinned.checked.prog.funcs[f]? = some fn) :
    false = Tryd.pinned.checked.prog.looks [] ∧ ∀ (j : Nat) t, fn.params[j]? = some t → Tryd.pinned.checked.prog.wantsStandIn t = false := by
  obtain rfl : f = 18 := Option.some.inj ((show Tryd.prog.funcNamed Tryd.f18.name = some 18 by kernel_rfl).symm.trans hf) |>.symm
  obtain rfl : fn = Tryd.f18 := (Option.some.inj (Tryd.func18.symm.trans hfn)).symm
  refine ⟨fac_looks, fun j t ht => ?_⟩
  rw [Tryd.params18] at ht
  have hm : t = 5 := by simpa using Array.mem_of_getElem? ht
  subst hm
  exact (show Tryd.prog.wantsStandIn 5 = false by kernel_rfl)

end Go.Proofs.YtdbocpkeafcmaaaDoor.subscribeOptions
namespace Go.Proofs.YtdbocpkeafcmaaaDoor
/-- The statement. -/
theorem subscribeOptions_holds : Rows.SubscribeOptionsCardSaid :=
  Claim7.holds_tied_plain_at .later [] _ _ _ _ subscribeOptions.said (fun _ h => by cases h) subscribeOptions.wft (fun _ h => by cases h) subscribeOptions_row_tie rfl ⟨rfl, rfl⟩ fac_main rfl subscribeOptions.plain subscribeOptions.goes
#print axioms subscribeOptions_holds
end Go.Proofs.YtdbocpkeafcmaaaDoor
