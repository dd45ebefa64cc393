/-
  A body that is read is written as it was (switchboardlaw06.ConnectOne answers true for every input).
  Its conditions: none beside those of the row itself (the two tables of unicode/utf8 start as the library's text lays them: the card ties them).
-/
import Derived.Test.YtdhdjkpocdfjbabDoorCards
import Derived.Test.YtdhdjkpocdfjbabDoorTie
import Derived.Test.YtdhdjkpocdfjbabDoorCon10
import Derived.Test.YtdhdjkpocdfjbabDoorAck2
import Derived.ProofKit
import Derived.OpenShut
import Derived.ShutString
import Derived.ChangeOld
import Derived.Deep.DeepHandedRow
import Derived.Deep.DeepWitnessRowRef
import Derived.Lib.LaidU8T
import Derived.Lib.LaidTab
import Derived.Lib.LaidIn
namespace Go.Proofs.YtdhdjkpocdfjbabDoor.connectOne
open Go.ChangeShapes Go.WideShapes Go.ChangeAt Go.RowKit Go.Lib
open Go.ChangeMaps (open_string shut_string)
set_option linter.unusedVariables false

theorem own : ownKnob Tryd.prog.godebug = none := by kernel_rfl

set_option maxRecDepth 100000 in
set_option maxHeartbeats 4000000 in
theorem walk1 (a0 : ByteArray) (w0 : a0.size ≤ maxLen) (w : World) (hT : Tabs w) (s : ByteArray) (hs : a0.extract 0 250 = s) (C : Cn) (E : Int) (A : Ak) (E2 : Int)
    (hP : ∀ w, Tabs w → Calls Tryd.prog 9 #[.string s] w (ParseR w C E)) (hK : ∀ w, Tabs w → Calls Tryd.prog 11 #[.string s] w (AckR w A E2))
    (h1 : E = 0 → str (textL C) = s ∧ C.ok) (h2 : E2 = 0 → str (ackL A) = s ∧ 0 ≤ A.code ∧ A.code < 256 ∧ (∀ p ∈ A.ps, p.ok) ∧ A.ps.length ≤ 1000) :
    Calls Tryd.prog 6 #[.string a0] w fun e w' => e = .returned (.bool true) ∧ Below w.heap.size w w' := by
  have HT := Lib.hid hT
  have HS := Lib.hid hs
  have HP := Lib.hid hP
  have HK := Lib.hid hK
  have HH1 := Lib.hid h1
  have HH2 := Lib.hid h2
  clear hT hs hP hK h1 h2
  go_enter Tryd.func6, Tryd.ntmps6
  go_wp2_with fail
  refine (cut_calls _ a0 250 w0).mono ?_
  rw [HS.out]
  rintro e w1 ⟨rfl, rfl⟩
  go_wp2_with fail
  refine (HP.out _ HT.out).mono ?_
  rintro e w2 ⟨v, u, rfl, o2, p2, b2⟩
  have PV := Lib.hid o2.props
  have PU := Lib.hid p2.props
  have B2 := Lib.hid b2
  obtain ⟨va, vc, rfl⟩ := o2.form
  obtain ⟨ua, uc, rfl⟩ := p2.form
  clear o2 p2 b2 HP
  obtain ⟨cl, keep, ps, i, hw, wp, tp, py, q, rt, hhu, hp, us, pw⟩ := C
  unfold cnV cnC
  dsimp only
  go_wp2_with fail
  have hbx := heap_alloc_new w2 (.cells #[.bool cl, .int .u32 keep, .slice va ps.length vc, .string i, .bool hw, .slice ua wp.length uc, .string tp, .string py, .int .u8 q, .bool rt, .bool hhu, .bool hp, .string us, .string pw] 29)
  have b3 := below_one w2 (.cells #[.bool cl, .int .u32 keep, .slice va ps.length vc, .string i, .bool hw, .slice ua wp.length uc, .string tp, .string py, .int .u8 q, .bool rt, .bool hhu, .bool hp, .string us, .string pw] 29)
  have PV3 := Lib.hid (PV.out.below b3)
  have PU3 := Lib.hid (PU.out.below b3)
  have B3 := Lib.hid (Below.next B2.out b3)
  clear PV PU B2 b3
  generalize w2.alloc (.cells #[.bool cl, .int .u32 keep, .slice va ps.length vc, .string i, .bool hw, .slice ua wp.length uc, .string tp, .string py, .int .u8 q, .bool rt, .bool hhu, .bool hp, .string us, .string pw] 29) = W3 at *
  generalize w2.heap.size = k3 at *
  have HBX := Lib.hid hbx
  clear hbx
  refine (HK.out _ (HT.out.below B3.out)).mono ?_
  rintro e w4 ⟨y, rfl, o4, b4⟩
  have C4 := Lib.hid ((b4.block k3 (lt_of_block HBX.out)).trans HBX.out)
  have PY := Lib.hid o4.props
  have PV4 := Lib.hid (PV3.out.below b4)
  have PU4 := Lib.hid (PU3.out.below b4)
  have B4 := Lib.hid (Below.next B3.out b4)
  obtain ⟨ya, yc, rfl⟩ := o4.form
  clear o4 b4 HBX PV3 PU3 B3 HK
  obtain ⟨apr, acode, aps⟩ := A
  dsimp only
  go_wp2_with fail
  have hby := heap_alloc_new w4 (.cells #[.bool apr, .int .u8 acode, .slice ya aps.length yc] 41)
  have b5 := below_one w4 (.cells #[.bool apr, .int .u8 acode, .slice ya aps.length yc] 41)
  have C5 := Lib.hid ((b5.block k3 (lt_of_block C4.out)).trans C4.out)
  have PY5 := Lib.hid (PY.out.below b5)
  have PV5 := Lib.hid (PV4.out.below b5)
  have PU5 := Lib.hid (PU4.out.below b5)
  have B5 := Lib.hid (Below.next B4.out b5)
  clear PY PV4 PU4 B4 C4 b5
  generalize w4.alloc (.cells #[.bool apr, .int .u8 acode, .slice ya aps.length yc] 41) = W5 at *
  generalize w4.heap.size = k5 at *
  have HBY := Lib.hid hby
  clear hby
  refine (awake6_calls _ (HT.out.below B5.out)).mono ?_
  rintro e w6 ⟨rfl, b6⟩
  have C6 := Lib.hid ((b6.block k3 (lt_of_block C5.out)).trans C5.out)
  have D6 := Lib.hid ((b6.block k5 (lt_of_block HBY.out)).trans HBY.out)
  have PY6 := Lib.hid (PY5.out.below b6)
  have PV6 := Lib.hid (PV5.out.below b6)
  have PU6 := Lib.hid (PU5.out.below b6)
  have B6 := Lib.hid (Below.next B5.out b6)
  clear PY5 PV5 PU5 B5 C5 b6 HBY
  by_cases e1 : E = 0
  · subst e1
    obtain ⟨q1, q2⟩ := HH1.out rfl
    have Q1 := Lib.hid q1
    clear q1 HH1
    obtain ⟨⟨d0, d1, d2, d3, d4, d5, d6⟩, ⟨d7, d8, d9, d10, d11, d12, d13⟩, df⟩ := cells14 C6.out
    go_wp2_with fail
    refine (ctext_calls _ ⟨cl, keep, ps, i, hw, wp, tp, py, q, rt, hhu, hp, us, pw⟩ (.slice va ps.length vc) (.slice ua wp.length uc) q2 PV6.out PU6.out).mono ?_
    rw [Q1.out]
    rintro e w7 ⟨rfl, b7⟩
    have D7 := Lib.hid ((b7.block k5 (lt_of_block D6.out)).trans D6.out)
    have PY7 := Lib.hid (PY6.out.below b7)
    have B7 := Lib.hid (Below.next B6.out b7)
    clear d0 d1 d2 d3 d4 d5 d6 d7 d8 d9 d10 d11 d12 d13 df C6 D6 PY6 PV6 PU6 B6 b7 Q1 q2
    by_cases e2 : E2 = 0
    · subst e2
      obtain ⟨g1, g2, g3, g4, g5⟩ := HH2.out rfl
      have G1 := Lib.hid g1
      clear g1 HH2
      obtain ⟨d0, d1, d2, df⟩ := cells3 D7.out
      go_wp2_with fail
      refine (acktext_calls _ ⟨apr, acode, aps⟩ ya aps.length yc g2 g3 g4 g5 PY7.out).mono ?_
      rw [G1.out]
      rintro e w8 ⟨rfl, b8⟩
      have B8 := Lib.hid (Below.next B7.out b8)
      clear d0 d1 d2 df D7 PY7 B7 b8 G1 g2 g3 g4 g5
      go_wp2
      go_ret
      exact ⟨rfl, B8.out⟩
    · have e2b : (E2 != 0) = true := by simpa using e2
      clear HH2 D7 PY7
      go_wp2
      go_ret
      exact ⟨rfl, B7.out⟩
  · have e1b : (E != 0) = true := by simpa using e1
    clear HH1 C6 PV6 PU6
    by_cases e2 : E2 = 0
    · subst e2
      obtain ⟨g1, g2, g3, g4, g5⟩ := HH2.out rfl
      have G1 := Lib.hid g1
      clear g1 HH2
      obtain ⟨d0, d1, d2, df⟩ := cells3 D6.out
      go_wp2_with fail
      refine (acktext_calls _ ⟨apr, acode, aps⟩ ya aps.length yc g2 g3 g4 g5 PY6.out).mono ?_
      rw [G1.out]
      rintro e w8 ⟨rfl, b8⟩
      have B8 := Lib.hid (Below.next B6.out b8)
      clear d0 d1 d2 df D6 PY6 B6 b8 G1 g2 g3 g4 g5
      go_wp2
      go_ret
      exact ⟨rfl, B8.out⟩
    · have e2b : (E2 != 0) = true := by simpa using e2
      clear HH2 D6 PY6
      go_wp2
      go_ret
      exact ⟨rfl, B6.out⟩

theorem walk (a0 : ByteArray) (w0 : a0.size ≤ maxLen) (w : World) (hT : Tabs w) :
    Calls Tryd.prog 6 #[.string a0] w fun e w' => e = .returned (.bool true) ∧ Below w.heap.size w w' := by
  have hz : (a0.extract 0 250).size ≤ 250 := by simp; omega
  obtain ⟨m, hm⟩ := parts_of (a0.extract 0 250)
  obtain ⟨N1, N2, ps, E2, hA, hK⟩ := ack_calls (a0.extract 0 250)
  refine walk1 a0 w0 w hT _ rfl _ m.err _ E2 (fun w hw => parse_calls w _ hw m hm _ rfl) (fun w hw => hK w hw _ rfl) ?_ ?_
  · intro he
    rw [if_pos he]
    obtain ⟨h1, h2⟩ := parts_inv m _ hm he (by omega)
    exact ⟨h1.symm, h2⟩
  · intro he
    subst he
    rw [if_pos rfl]
    obtain ⟨h1, h2⟩ := ack_inv hA (by omega)
    exact ⟨h1.symm, h2⟩

theorem first_eq : (Rows.laid_unicode_utf8_first : DataW Unit) = Lib.firstData := by kernel_rfl
theorem accept_eq : (Rows.laid_unicode_utf8_acceptRanges : DataW Unit) = Lib.acceptData := by kernel_rfl

def putCells (cs : Array Value) : Obj → Obj
  | .cells _ t frozen => .cells cs t frozen
  | o => o
/-- A world for the witness: the settled one, the two tables holding what the library's text lays. -/
noncomputable def laidWorld (os : Os) : World :=
  { World.holding Tryd.prog os ⟨#[], #[], []⟩ with heap := (((World.holding Tryd.prog os ⟨#[], #[], []⟩).heap.modify (Tryd.lays196_ren.g 3) (putCells (Lib.firstTab.map fun z => Value.int .u8 z).toArray)).modify (Tryd.lays196_ren.g 4) (putCells ((List.range 16).flatMap fun i => [Value.int .u8 (Lib.accLo i), Value.int .u8 (Lib.accHi i)]).toArray)) }
theorem laid_met (os : Os) : laidMet Tryd.prog Rows.connectOneRow.laid ((laidWorld os).forCall (fun _ _ => 0) ⟨#[], #[.string ByteArray.empty], []⟩).memory :=
  laidMet_of_run' 8 (by kernel_rfl) (by kernel_rfl)
theorem reads (os : Os) {H : Type} (enc : TypeId × Value → H) : ∃ places, DataW.whole enc Tryd.prog ((laidWorld os).forCall (fun _ _ => 0) ⟨#[], #[.string ByteArray.empty], []⟩).memory Tryd.f6.params.toList Rows.connectOneSpec.vars false (#[.string ByteArray.empty] : Array Value).toList 8 = some ([.lit (.string [])], [], places) :=
  ⟨[], by kernel_rfl⟩

set_option maxRecDepth 100000 in
set_option maxHeartbeats 2000000 in
theorem lifted (os : Os) (started : os.Started) (H : Type) (enc : TypeId × Value → H) (F : Stop.Interp) :
    ReturnsInHanded {} Tryd.checked os 6 .any ((OpenSpec.ofChange Rows.connectOneSpec).preRow enc Tryd.prog Tryd.f6 Rows.connectOneRow.domain false Rows.connectOneRow.laid) (((OpenSpec.ofChange Rows.connectOneSpec).at F).post enc Tryd.prog Tryd.f6 false true false false) := by
  obtain ⟨places, hx⟩ := reads os enc
  refine returnsInHanded_of_row (C := Tryd.checked) (s := OpenSpec.ofChange Rows.connectOneSpec) own started (by kernel_rfl) Tryd.func6
    (witness_row_at (enc := enc) (C := Tryd.checked) false (laidWorld os) #[.string ByteArray.empty] rfl (by kernel_rfl) (by kernel_rfl) (by kernel_rfl)
      (OpenSpec.preRow_of_cond 8 hx (by kernel_rfl) (fun k hk => by cases hk) (by kernel_rfl) (laid_met os))) ?_
  intro W base args ds gs before hval0 hW _ _ _ hL _ _
  have hval : ∀ (j : Nat) t v, Tryd.f6.params[j]? = some t → args[j]? = some v → Value.okWide Tryd.prog W .any base t v := hval0
  have hW' := hW
  obtain ⟨p, q, hA0, hV, rfl, hfz, hnd⟩ := hW
  have hA : DataW.TrodAll enc Tryd.prog W 0 (fun _ => true) true Tryd.f6.params.toList args.toList ds p := hA0
  rw [Tryd.params6] at hA hval
  obtain ⟨v0, vs0, d0, ds0, p0, q0, hargs, rfl, rfl, h0, r0⟩ := trodAll_cons hA
  obtain ⟨rfl, rfl, rfl⟩ := trodAll_nil r0
  obtain rfl : args = #[v0] := by cases args; simp_all
  obtain ⟨rfl, rfl⟩ := trodVars_none hV
  obtain ⟨a0, rfl, rfl, rfl, w0⟩ := open_string Tryd.underlying9 (hval 0 9 v0 rfl rfl) h0
  clear hA0 hval0
  have hT : Tabs W := utf8Tabs_of_readsT (U8Types.of196 Tryd.lays196) ⟨by kernel_rfl, by kernel_rfl, by kernel_rfl, by kernel_rfl, by kernel_rfl, by kernel_rfl, by kernel_rfl⟩ (first_eq ▸ Lib.laidMet.reads hL (.tail _ (.head _))) (accept_eq ▸ Lib.laidMet.reads hL (.head _))
  refine (walk a0 w0 W  hT).mono fun e W' ⟨he, bel⟩ => ?_
  subst he
  exact ⟨_, rfl, _, _, _, [], _, [], hW', trodAll_mk1 (shut_bool Tryd.underlying4 _), (trodAll_cons_mk (shut_string Tryd.underlying9 w0) trodAll_mk0), rfl, bel.frame _, fun h => by cases h⟩

theorem said : Rows.ConnectOneSaid :=
  OpenClaim.holds_of_cond 6 Tryd.f6 rfl rfl rfl rfl rfl rfl rfl ⟨rfl, rfl, rfl, rfl, rfl⟩ rfl rfl rfl rfl rfl (by kernel_rfl) Tryd.func6 (by kernel_rfl)
    (of_decide_eq_true (by kernel_rfl)) (by unfold Func.isWrapper; first | (rw [if_pos (by decide +kernel)]; kernel_rfl) | (rw [if_neg (by decide +kernel)]; exact ⟨rfl, rfl⟩))
    (fun os started H enc _ F => by rw [OpenClaim.pre_eq_preRow]; exact lifted os started H enc F)

theorem plain (f : FuncId) (fn : Func) (hf : Tryd.pinned.checked.prog.funcNamed Tryd.f6.name = some f) (hfn : Tryd.pinned.checked.prog.funcs[f]? = some fn) :
    false = Tryd.pinned.checked.prog.looks [] ∧ ∀ (j : Nat) t, fn.params[j]? = some t → Tryd.pinned.checked.prog.wantsStandIn t = false := by
  obtain rfl : f = 6 := Option.some.inj ((show Tryd.prog.funcNamed Tryd.f6.name = some 6 by kernel_rfl).symm.trans hf) |>.symm
  obtain rfl : fn = Tryd.f6 := (Option.some.inj (Tryd.func6.symm.trans hfn)).symm
  refine ⟨by kernel_rfl, fun j t ht => ?_⟩
  rw [Tryd.params6] at ht
  have hm : t = 9 := by simpa using Array.mem_of_getElem? ht
  subst hm
  exact (show Tryd.prog.wantsStandIn 9 = false by kernel_rfl)

end Go.Proofs.YtdhdjkpocdfjbabDoor.connectOne
namespace Go.Proofs.YtdhdjkpocdfjbabDoor
/-- The statement. -/
theorem connectOne_holds : Rows.ConnectOneCardSaid :=
  Claim7.holds_tied_plain_at .later [] _ _ _ _ connectOne.said (fun _ h => by cases h) (by kernel_rfl) (fun _ h => by cases h) connectOne_row_tie rfl ⟨rfl, rfl⟩ (by kernel_rfl) rfl connectOne.plain (by kernel_rfl)
#print axioms connectOne_holds
end Go.Proofs.YtdhdjkpocdfjbabDoor
