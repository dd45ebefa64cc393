/-
  Statement OctetOne: for every text, if a variable byte integer can be taken from its front, the bytes taken are those that are put for it, as many as Size says, and it is within range; else 0 is answered.
  Its conditions: none beside those of the row itself.
-/
import Derived.Test.YtgdbfdmnfndojaaPure
import Derived.ProofKit
import Derived.OpenShut
import Derived.ShutString
import Derived.ChangeOld
namespace Go.Proofs.Ytgdbfdmnfndojaa.octetOne
open Go.ChangeShapes Go.WideShapes Go.ChangeAt Go.RowKit
open Go.ChangeMaps (open_string shut_string)
set_option linter.unusedVariables false

theorem own : ownKnob Try.prog.godebug = none := by kernel_rfl

set_option maxHeartbeats 1000000 in
theorem walk (a0 : ByteArray) (w0 : a0.size ≤ maxLen) (w : World) :
    Calls Try.prog 6 #[.string a0] w fun e w' => e = .returned (.bool true) ∧ Below w.heap.size w w' := by
  go_enter Try.func6, Try.ntmps6
  go_wp2_with fail
  refine (cut_calls _ a0 9 w0).mono ?_
  rintro e w2 ⟨rfl, rfl⟩
  have hs9 : (a0.extract 0 9).size ≤ 9 := by simp; omega
  generalize a0.extract 0 9 = s at *
  clear w0
  obtain ⟨l, rfl⟩ : ∃ l, s = str l := ⟨_, ba_str s⟩
  rw [str_size] at hs9
  go_wp2_with fail
  refine (awake_calls _).mono ?_
  rintro e w2 ⟨rfl, hb⟩
  go_wp2_with fail
  refine (over_calls _ _).mono ?_
  rintro e w3 ⟨rfl, rfl⟩
  have i3 := InAt.new w2 (str l)
  have g3 := hb.alloc hb.size (.cells #[.string (str l), .int .i64 0] 60)
  have hsz := hb.size
  have hp : w2.heap.size < (w2.alloc (.cells #[.string (str l), .int .i64 0] 60)).heap.size := by simp
  clear hb
  go_wp2_with fail
  obtain ⟨n, s', x', hv⟩ : ∃ n s' x', varT 3 0 0 (str l) 0 = (n, s', x') := ⟨_, _, _, rfl⟩
  refine (varIn_calls _ w2.heap.size _ 0 n s' x' hv i3).mono ?_
  rintro e w4 ⟨rfl, i4, o4⟩
  have g4 := g3.trans (o4.below hsz)
  have HV := Lib.hid hv
  rw [← o4.size] at hp
  clear hv i3 g3 o4
  generalize w2.heap.size = p at *
  go_wp2_with fail
  refine (err_calls _ p s' x' i4).mono ?_
  rintro e w5 ⟨rfl, rfl⟩
  by_cases hx : x' = 0
  · subst hx
    obtain ⟨m, e1, e2, e3, _⟩ := varT_one 3 0 0 l n s' HV.out
    obtain rfl : m = n := by omega
    have hm : m ≤ 268435455 := by omega
    have HE := Lib.hid e3
    clear e1 e2 e3 HV
    have HG := Lib.hid g4
    have hz := g4.size
    clear g4
    go_wp2_with fail
    refine (var_calls _ w4.heap.size none [] m (by omega) (by omega) (OutAt.new w4) (by simp)).mono ?_
    rintro e w6 ⟨rfl, r6, h6, s6⟩
    have i6 : InAt w6 p s' 0 := i4.keep ((s6.block p (by simp; omega) (by omega) (by simp)).trans (Below.heap_alloc _ _ p (by omega)))
    have G6 := Lib.hid ((HG.out.alloc hz (.cells #[.slice none 0 0] 26)).trans (s6.below (by simp; omega) hz (fun g hg => by cases hg)))
    have hrow : r6 ≠ some p := by
      intro e
      have := s6.row_ge (B := w4.heap.size) (by simp) (fun g hg => by cases hg) p e
      omega
    have ho6 : w4.heap.size ≠ p := by omega
    clear HG hz i4 s6
    rw [List.nil_append, Int.toNat_natCast] at h6
    go_wp2_with fail
    refine (text_calls _ _ r6 _ h6).mono ?_
    rintro e w7 ⟨rfl, rfl⟩
    go_wp2_with fail
    refine (rest_calls _ p s' 0 i6).mono ?_
    have hrest : rawT s' 0 s'.size = (s', ⟨#[]⟩, 0) := by
      have h := rawT_list s'.data.toList s'.data.toList.length (Nat.le_refl _)
      rw [← ba_str, ba_size] at h
      rw [h, List.take_of_length_le (by rw [ba_size]; omega), List.drop_of_length_le (by rw [ba_size]; omega), ← ba_str]; rfl
    rw [hrest]
    rintro e w8 ⟨rfl, i8, o8⟩
    have h8 := o8.out h6 ho6 hrow
    have G8 := Lib.hid (G6.out.trans (o8.below hsz))
    clear G6 o8 h6 i6 i8 hrest hrow
    have hjoin : str (varb 3 m) ++ s' = str l := by
      rw [HE.out]
      conv => lhs; rw [ba_str s']
      rw [str_append]
    have hsum : (str (varb 3 m)).size + s'.size ≤ 9 := by
      have := congrArg ByteArray.size hjoin
      rw [ByteArray.size_append, str_size l] at this
      omega
    have hle : (str (varb 3 m)).size ≤ 9 := by omega
    have hle2 : s'.size ≤ 9 := by omega
    clear hs9 HE
    generalize hS : str (varb 3 m) = S at *
    generalize hT : str l = T at *
    have HS := Lib.hid hS
    have HT := Lib.hid hT
    clear hS hT
    go_wp2_with fail
    refine (size_calls _ (m : Int) (by omega) (by omega)).mono ?_
    rintro e w9 ⟨rfl, rfl⟩
    rw [Int.toNat_natCast]
    go_wp2_with fail
    refine (len_calls _ _ r6 _ h8).mono ?_
    rintro e w10 ⟨rfl, rfl⟩
    clear h8
    have hd : decide ((m : Int) ≤ 268435455) = true := by simp; omega
    go_wp2
    go_ret
    exact ⟨rfl, G8.out⟩
  · obtain rfl : n = 0 := varT_err 3 0 0 _ _ _ _ _ HV.out hx
    have hb1 : (x' != 0) = true := by simp [hx]
    have hb2 : (x' == 0) = false := by simp [hx]
    have HG := Lib.hid g4
    clear HV i4 g4 hs9
    go_wp2
    go_ret
    exact ⟨rfl, HG.out⟩

set_option maxRecDepth 100000 in
theorem lifted (os : Os) (started : os.Started) (H : Type) (enc : TypeId × Value → H) :
    ReturnsInHanded {} Try.checked os 6 .any (Rows.octetOneSpec.pre6 enc Try.prog Try.f6 Rows.octetOneRow.domain false) (Rows.octetOneSpec.post enc Try.prog Try.f6 false true false false) := by
  refine returnsInHanded_of_change (C := Try.checked) own started (by kernel_rfl) Try.func6
    (ChangeSpec.witness6 (enc := enc) (C := Try.checked) false ⟨#[], #[.string ByteArray.empty], []⟩ 8 (by kernel_rfl) (by kernel_rfl) (by kernel_rfl) (by kernel_rfl)) ?_
  intro W base args ds gs before hval0 hW hcnd _
  have hval : ∀ (j : Nat) t v, Try.f6.params[j]? = some t → args[j]? = some v → Value.okWide Try.prog W .any base t v := hval0
  have hW' := hW
  obtain ⟨p, q, hA0, hV, rfl, hfz, hnd⟩ := hW
  have hA : DataW.TrodAll enc Try.prog W 0 (fun _ => true) true Try.f6.params.toList args.toList ds p := hA0
  rw [Try.params6] at hA hval
  obtain ⟨v0, vs0, d0, ds0, p0, q0, hargs, rfl, rfl, h0, r0⟩ := trodAll_cons hA
  obtain ⟨rfl, rfl, rfl⟩ := trodAll_nil r0
  obtain rfl : args = #[v0] := by cases args; simp_all
  obtain ⟨rfl, rfl⟩ := trodVars_none hV
  obtain ⟨a0, rfl, rfl, rfl, w0⟩ := open_string Try.underlying9 (hval 0 9 v0 rfl rfl) h0
  clear hA0 hval0
  refine (walk a0 w0 W).mono fun e W' ⟨he, bel⟩ => ?_
  subst he
  exact ⟨_, rfl, _, _, _, [], _, [], hW', trodAll_mk1 (shut_bool Try.underlying4 _), (trodAll_cons_mk (shut_string Try.underlying9 w0) trodAll_mk0), rfl, bel.frame _, fun h => by cases h⟩

theorem over : Rows.octetOneRow.holds Try.pinned (OpenSpec.ofChange Rows.octetOneSpec) :=
  OpenClaim.holds_of_wide 6 Try.f6 rfl rfl rfl rfl rfl rfl rfl ⟨rfl, rfl, rfl, rfl, rfl⟩ rfl rfl rfl rfl rfl (by kernel_rfl) Try.func6 (by kernel_rfl)
    (of_decide_eq_true (by kernel_rfl)) (by unfold Func.isWrapper; first | (rw [if_pos (by decide +kernel)]; kernel_rfl) | (rw [if_neg (by decide +kernel)]; exact ⟨rfl, rfl⟩))
    (fun os started H enc _ => lifted os started H enc)

end Go.Proofs.Ytgdbfdmnfndojaa.octetOne
namespace Go.Proofs.Ytgdbfdmnfndojaa
/-- The statement. -/
theorem octetOne_holds : Rows.OctetOneSaid := octetOne.over
#print axioms octetOne_holds
end Go.Proofs.Ytgdbfdmnfndojaa
