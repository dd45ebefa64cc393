/-
  Of any byte of flags: a body with it is read just if it may be, else it is malformed (switchboardlaw06.ConnectFlags answers true for every input).
  Its conditions: none beside those of the row itself (the two tables of unicode/utf8 start as the library's text lays them: the card ties them).
-/
import Derived.Test.YtdhdjkpocdfjbabDoorCards
import Derived.Test.YtdhdjkpocdfjbabDoorTie
import Derived.Test.YtdhdjkpocdfjbabDoorCon11
import Derived.ProofKit
import Derived.OpenShut
import Derived.ShutString
import Derived.ChangeOld
import Derived.Deep.DeepHandedRow
import Derived.Deep.DeepWitnessRowRef
import Derived.Lib.LaidU8T
import Derived.Lib.LaidTab
import Derived.Lib.LaidIn
namespace Go.Proofs.YtdhdjkpocdfjbabDoor.connectFlags
open Go.ChangeShapes Go.WideShapes Go.ChangeAt Go.RowKit Go.Lib
open Go.ChangeMaps (open_string shut_string)
set_option linter.unusedVariables false

theorem own : ownKnob Tryd.prog.godebug = none := by kernel_rfl

def cnFull : Cn := ⟨true, 0, [], ⟨#[]⟩, true, [], ⟨#[]⟩, ⟨#[]⟩, 0, false, true, true, ⟨#[]⟩, ⟨#[]⟩⟩
theorem full_ok : cnFull.ok := ⟨by decide, by decide, by decide, by decide, by decide, by decide, by decide, by decide, by decide, (fun p hp => by cases hp), (fun p hp => by cases hp), by decide, by decide⟩
theorem full_len : (str (textL cnFull)).size = 22 := by decide +kernel

set_option maxRecDepth 100000 in
set_option maxHeartbeats 2000000 in
theorem walk (a0 : Int) (w0 : (Lit.int .u8 a0).wf = true) (w : World) (hT : Tabs w) :
    Calls Tryd.prog 7 #[.int .u8 a0] w fun e w' => e = .returned (.bool true) ∧ Below w.heap.size w w' := by
  have hr0 : IntKind.u8.min ≤ a0 ∧ a0 ≤ IntKind.u8.max := by simpa [Lit.wf] using w0
  rw [show IntKind.u8.min = 0 by decide, show IntKind.u8.max = 255 by decide] at hr0
  obtain ⟨F, rfl⟩ := Int.eq_ofNat_of_zero_le hr0.1
  have hF : F < 256 := by omega
  clear w0 hr0
  obtain ⟨he, hlen⟩ := bodyX_all ⟨F, hF⟩
  obtain ⟨hlaw, h4, h128, h64⟩ := lawF_all ⟨F, hF⟩
  dsimp only at he hlen hlaw h4 h128 h64
  have hcn : (UInt8.ofNat F).toNat = F := by rw [UInt8.toNat_ofNat']; omega
  have HE := Lib.hid he
  have HLAW := Lib.hid hlaw
  have HT := Lib.hid hT
  have HCN := Lib.hid hcn
  have hfl := full_len
  clear he hlaw hT hcn
  go_enter Tryd.func7, Tryd.ntmps7
  go_wp2_with fail
  have b0 := below_one w (.cells #[.bool true, .int .u32 0, .slice none 0 0, .string ⟨#[]⟩, .bool true, .slice none 0 0, .string ⟨#[]⟩, .string ⟨#[]⟩, .int .u8 0, .bool false, .bool true, .bool true, .string ⟨#[]⟩, .string ⟨#[]⟩] 29)
  have B0 := Lib.hid b0
  clear b0
  refine (ctext_calls _ cnFull (.slice none 0 0) (.slice none 0 0) full_ok (props_nil _) (props_nil _)).mono ?_
  rintro e w1 ⟨rfl, b1⟩
  have B1 := Lib.hid (Below.next B0.out b1)
  clear b1 B0
  generalize str (textL cnFull) = FT at *
  go_wp2_with fail
  refine (awake6_calls _ (HT.out.below B1.out)).mono ?_
  rintro e w2 ⟨rfl, b2⟩
  have B2 := Lib.hid (Below.next B1.out b2)
  clear b2 B1
  go_wp2_with fail
  have B3 := Lib.hid (Below.next B2.out (below_one w2 (.cells #[.bool false, .int .u32 0, .slice none 0 0, .string ⟨#[]⟩, .bool (flB F 4), .slice none 0 0, .string ⟨#[]⟩, .string ⟨#[]⟩, .int .u8 0, .bool false, .bool (flB F 128), .bool (flB F 64), .string ⟨#[]⟩, .string ⟨#[]⟩] 29)))
  refine (ctext_calls _ (cnX F) (.slice none 0 0) (.slice none 0 0) (cnX_ok F) (props_nil _) (props_nil _)).mono ?_
  rintro e w3 ⟨rfl, b3⟩
  have B4 := Lib.hid (Below.next B3.out b3)
  clear b3 B3 B2
  have hbx : bodyX F = (textL (cnX F)).set 7 (UInt8.ofNat F) := rfl
  generalize textL (cnX F) = L at *
  have hc := Lib.run_convert_string_bytes (P := Tryd.prog) w3 9 61 5 (str L) Tryd.underlying9 Tryd.underlying61 Tryd.underlying5
  have hb := bytesWorld_below w3 5 (str L)
  have hrow := bytesWorld_row w3 5 (str L)
  rw [str_data] at hrow
  rw [str_size] at hc
  generalize Lib.bytesWorld w3 5 (str L) = w4 at *
  generalize grownCap w3 L.length 0 5 = c at *
  have B5 := Lib.hid (Below.next B4.out hb)
  have hz3 := B4.out.size
  generalize w3.heap.size = g at *
  have c7 := (hrow.2 7 (by omega)).1
  have f7 := (hrow.2 7 (by omega)).2
  have hset := hrow.set 7 (by omega) (UInt8.ofNat F)
  rw [HCN.out, ← hbx] at hset
  have hbl : (bodyX F).length = L.length := by rw [hbx, List.length_set]
  have hcv := hset.conv c
  rw [hbl] at hcv
  have B6 := Lib.hid (B5.out.setCell (show w.heap.size ≤ (⟨g, 7, none⟩ : Addr).block from hz3) (.int .u8 (F : Int)))
  have h7I : (7 : Int) < (L.length : Int) := by omega
  clear hb hrow B4 B5 hset hbx hbl
  go_wp2_with fail
  generalize w4.setCell ⟨g, 7, none⟩ (.int .u8 (F : Int)) = w5 at *
  clear hc c7 f7 hcv
  generalize hm : mayF F = M at *
  cases M
  · have hE := HE.out
    rw [if_neg (by simp)] at hE
    refine (parse_known _ _ (HT.out.below B6.out) 2 hE).mono ?_
    rw [if_neg (by decide)]
    rintro e w6 ⟨v6, u6, rfl, o6, p6, b6⟩
    obtain ⟨va, vc, rfl⟩ := o6.form
    obtain ⟨ua, uc, rfl⟩ := p6.form
    have B7 := Lib.hid (Below.next B6.out b6)
    unfold cnV cnC cnZ
    dsimp only
    clear o6 p6 b6 B6 hE HE
    have hlaw := HLAW.out
    unfold lawF at hlaw
    have hcase : ((bits .and .u8 (F : Int) 1 == 0) = false) ∨ ((bits .and .u8 (F : Int) 1 == 0) = true ∧ decide (bits .and .u8 ((F : Int) / 8) 3 < 3) = false) ∨ ((bits .and .u8 (F : Int) 1 == 0) = true ∧ decide (bits .and .u8 ((F : Int) / 8) 3 < 3) = true ∧ decide (0 < bits .and .u8 (F : Int) 4) = false ∧ (bits .and .u8 (F : Int) 56 == 0) = false) := by
      cases q1 : (bits .and .u8 (F : Int) 1 == 0)
      · exact .inl rfl
      · cases q2 : decide (bits .and .u8 ((F : Int) / 8) 3 < 3)
        · exact .inr (.inl ⟨rfl, rfl⟩)
        · cases q3 : decide (0 < bits .and .u8 (F : Int) 4)
          · rw [q1, q2, q3] at hlaw
            simp only [Bool.true_eq_false, if_false, Bool.false_eq_true] at hlaw
            exact .inr (.inr ⟨rfl, rfl, rfl, hlaw⟩)
          · rw [q1, q2, q3] at hlaw
            simp at hlaw
    clear hlaw HLAW h4 h128 h64
    have B8 := Lib.hid (Below.next B7.out (below_one w6 (.cells #[.bool false, .int .u32 0, .slice va cnZ.ps.length vc, .string ⟨#[]⟩, .bool false, .slice ua cnZ.wp.length uc, .string ⟨#[]⟩, .string ⟨#[]⟩, .int .u8 0, .bool false, .bool false, .bool false, .string ⟨#[]⟩, .string ⟨#[]⟩] 29)))
    clear B7
    rcases hcase with q1 | ⟨q1, q2⟩ | ⟨q1, q2, q3, q4⟩
    all_goals
      go_wp2
      go_ret
      exact ⟨rfl, B8.out⟩
  · have hE := HE.out
    rw [if_pos rfl] at hE
    refine (parse_known _ _ (HT.out.below B6.out) 0 hE).mono ?_
    rw [if_pos rfl]
    rintro e w6 ⟨v6, u6, rfl, o6, p6, b6⟩
    generalize (partsF (str (bodyX F))).cn = C at *
    obtain ⟨cl, keep, ps, i, hw, wp, tp, py, q, rt, hhu, hp, us, pw⟩ := C
    obtain ⟨va, vc, rfl⟩ := o6.form
    obtain ⟨ua, uc, rfl⟩ := p6.form
    have B7 := Lib.hid (Below.next B6.out b6)
    unfold cnV cnC
    dsimp only
    clear o6 p6 b6 B6 hE HE
    have hlaw := HLAW.out
    unfold lawF at hlaw
    have hcase : (bits .and .u8 (F : Int) 1 == 0) = true ∧ decide (bits .and .u8 ((F : Int) / 8) 3 < 3) = true ∧ (decide (0 < bits .and .u8 (F : Int) 4) = true ∨ (decide (0 < bits .and .u8 (F : Int) 4) = false ∧ (bits .and .u8 (F : Int) 56 == 0) = true)) := by
      cases q1 : (bits .and .u8 (F : Int) 1 == 0)
      · rw [q1] at hlaw; simp at hlaw
      · cases q2 : decide (bits .and .u8 ((F : Int) / 8) 3 < 3)
        · rw [q1, q2] at hlaw; simp at hlaw
        · cases q3 : decide (0 < bits .and .u8 (F : Int) 4)
          · rw [q1, q2, q3] at hlaw
            simp only [Bool.true_eq_false, if_false, Bool.false_eq_true] at hlaw
            exact ⟨rfl, rfl, .inr ⟨rfl, hlaw⟩⟩
          · exact ⟨rfl, rfl, .inl rfl⟩
    clear hlaw HLAW h4 h128 h64
    have B8 := Lib.hid (Below.next B7.out (below_one w6 (.cells #[.bool cl, .int .u32 keep, .slice va ps.length vc, .string i, .bool hw, .slice ua wp.length uc, .string tp, .string py, .int .u8 q, .bool rt, .bool hhu, .bool hp, .string us, .string pw] 29)))
    clear B7
    obtain ⟨q1, q2, q3 | ⟨q3, q4⟩⟩ := hcase
    all_goals
      go_wp2
      go_ret
      exact ⟨rfl, B8.out⟩

theorem first_eq : (Rows.laid_unicode_utf8_first : DataW Unit) = Lib.firstData := by kernel_rfl
theorem accept_eq : (Rows.laid_unicode_utf8_acceptRanges : DataW Unit) = Lib.acceptData := by kernel_rfl

def putCells (cs : Array Value) : Obj → Obj
  | .cells _ t frozen => .cells cs t frozen
  | o => o
/-- A world for the witness: the settled one, the two tables holding what the library's text lays. -/
noncomputable def laidWorld (os : Os) : World :=
  { World.holding Tryd.prog os ⟨#[], #[], []⟩ with heap := (((World.holding Tryd.prog os ⟨#[], #[], []⟩).heap.modify (Tryd.lays196_ren.g 3) (putCells (Lib.firstTab.map fun z => Value.int .u8 z).toArray)).modify (Tryd.lays196_ren.g 4) (putCells ((List.range 16).flatMap fun i => [Value.int .u8 (Lib.accLo i), Value.int .u8 (Lib.accHi i)]).toArray)) }
theorem laid_met (os : Os) : laidMet Tryd.prog Rows.connectFlagsRow.laid ((laidWorld os).forCall (fun _ _ => 0) ⟨#[], #[.int .u8 0], []⟩).memory :=
  laidMet_of_run' 8 (by kernel_rfl) (by kernel_rfl)
theorem reads (os : Os) {H : Type} (enc : TypeId × Value → H) : ∃ places, DataW.whole enc Tryd.prog ((laidWorld os).forCall (fun _ _ => 0) ⟨#[], #[.int .u8 0], []⟩).memory Tryd.f7.params.toList Rows.connectFlagsSpec.vars false (#[.int .u8 0] : Array Value).toList 8 = some ([.lit (.int .u8 0)], [], places) :=
  ⟨[], by kernel_rfl⟩

set_option maxRecDepth 100000 in
set_option maxHeartbeats 2000000 in
theorem lifted (os : Os) (started : os.Started) (H : Type) (enc : TypeId × Value → H) (F : Stop.Interp) :
    ReturnsInHanded {} Tryd.checked os 7 .any ((OpenSpec.ofChange Rows.connectFlagsSpec).preRow enc Tryd.prog Tryd.f7 Rows.connectFlagsRow.domain false Rows.connectFlagsRow.laid) (((OpenSpec.ofChange Rows.connectFlagsSpec).at F).post enc Tryd.prog Tryd.f7 false true false false) := by
  obtain ⟨places, hx⟩ := reads os enc
  refine returnsInHanded_of_row (C := Tryd.checked) (s := OpenSpec.ofChange Rows.connectFlagsSpec) own started (by kernel_rfl) Tryd.func7
    (witness_row_at (enc := enc) (C := Tryd.checked) false (laidWorld os) #[.int .u8 0] rfl (by kernel_rfl) (by kernel_rfl) (by kernel_rfl)
      (OpenSpec.preRow_of_cond 8 hx (by kernel_rfl) (fun k hk => by cases hk) (by kernel_rfl) (laid_met os))) ?_
  intro W base args ds gs before hval0 hW _ _ _ hL _ _
  have hval : ∀ (j : Nat) t v, Tryd.f7.params[j]? = some t → args[j]? = some v → Value.okWide Tryd.prog W .any base t v := hval0
  have hW' := hW
  obtain ⟨p, q, hA0, hV, rfl, hfz, hnd⟩ := hW
  have hA : DataW.TrodAll enc Tryd.prog W 0 (fun _ => true) true Tryd.f7.params.toList args.toList ds p := hA0
  rw [Tryd.params7] at hA hval
  obtain ⟨v0, vs0, d0, ds0, p0, q0, hargs, rfl, rfl, h0, r0⟩ := trodAll_cons hA
  obtain ⟨rfl, rfl, rfl⟩ := trodAll_nil r0
  obtain rfl : args = #[v0] := by cases args; simp_all
  obtain ⟨rfl, rfl⟩ := trodVars_none hV
  obtain ⟨a0, rfl, rfl, rfl, w0⟩ := open_int Tryd.underlying5 (hval 0 5 v0 rfl rfl) h0
  clear hA0 hval0
  have hT : Tabs W := utf8Tabs_of_readsT (U8Types.of196 Tryd.lays196) ⟨by kernel_rfl, by kernel_rfl, by kernel_rfl, by kernel_rfl, by kernel_rfl, by kernel_rfl, by kernel_rfl⟩ (first_eq ▸ Lib.laidMet.reads hL (.tail _ (.head _))) (accept_eq ▸ Lib.laidMet.reads hL (.head _))
  refine (walk a0 w0 W  hT).mono fun e W' ⟨he, bel⟩ => ?_
  subst he
  exact ⟨_, rfl, _, _, _, [], _, [], hW', trodAll_mk1 (shut_bool Tryd.underlying4 _), (trodAll_cons_mk (shut_int Tryd.underlying5 w0) trodAll_mk0), rfl, bel.frame _, fun h => by cases h⟩

theorem said : Rows.ConnectFlagsSaid :=
  OpenClaim.holds_of_cond 7 Tryd.f7 rfl rfl rfl rfl rfl rfl rfl ⟨rfl, rfl, rfl, rfl, rfl⟩ rfl rfl rfl rfl rfl (by kernel_rfl) Tryd.func7 (by kernel_rfl)
    (of_decide_eq_true (by kernel_rfl)) (by unfold Func.isWrapper; first | (rw [if_pos (by decide +kernel)]; kernel_rfl) | (rw [if_neg (by decide +kernel)]; exact ⟨rfl, rfl⟩))
    (fun os started H enc _ F => by rw [OpenClaim.pre_eq_preRow]; exact lifted os started H enc F)

theorem plain (f : FuncId) (fn : Func) (hf : Tryd.pinned.checked.prog.funcNamed Tryd.f7.name = some f) (hfn : Tryd.pinned.checked.prog.funcs[f]? = some fn) :
    false = Tryd.pinned.checked.prog.looks [] ∧ ∀ (j : Nat) t, fn.params[j]? = some t → Tryd.pinned.checked.prog.wantsStandIn t = false := by
  obtain rfl : f = 7 := Option.some.inj ((show Tryd.prog.funcNamed Tryd.f7.name = some 7 by kernel_rfl).symm.trans hf) |>.symm
  obtain rfl : fn = Tryd.f7 := (Option.some.inj (Tryd.func7.symm.trans hfn)).symm
  refine ⟨by kernel_rfl, fun j t ht => ?_⟩
  rw [Tryd.params7] at ht
  have hm : t = 5 := by simpa using Array.mem_of_getElem? ht
  subst hm
  exact (show Tryd.prog.wantsStandIn 5 = false by kernel_rfl)

end Go.Proofs.YtdhdjkpocdfjbabDoor.connectFlags
namespace Go.Proofs.YtdhdjkpocdfjbabDoor
/-- The statement. -/
theorem connectFlags_holds : Rows.ConnectFlagsCardSaid :=
  Claim7.holds_tied_plain_at .later [] _ _ _ _ connectFlags.said (fun _ h => by cases h) (by kernel_rfl) (fun _ h => by cases h) connectFlags_row_tie rfl ⟨rfl, rfl⟩ (by kernel_rfl) rfl connectFlags.plain (by kernel_rfl)
#print axioms connectFlags_holds
end Go.Proofs.YtdhdjkpocdfjbabDoor
