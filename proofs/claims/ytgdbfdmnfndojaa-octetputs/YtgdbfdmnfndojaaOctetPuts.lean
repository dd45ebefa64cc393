/-
  Statement OctetPuts: whatever things are put, up to 15 of them, their bytes are those that the document says.
  Its conditions: none beside those of the row itself.
-/
import Derived.Test.YtgdbfdmnfndojaaL1p
import Derived.ProofKit
import Derived.OpenShut
import Derived.ShutString
import Derived.ChangeOld
namespace Go.Proofs.Ytgdbfdmnfndojaa.octetPuts
open Go.ChangeShapes Go.WideShapes Go.ChangeAt Go.RowKit
open Go.ChangeMaps (open_string shut_string)
set_option linter.unusedVariables false

theorem own : ownKnob Try.prog.godebug = none := by kernel_rfl
theorem laidOut : laidOutB Try.prog = true := by kernel_rfl

set_option maxHeartbeats 2000000 in
theorem walk (v0 : Value) (T : List (Int × Int × ByteArray)) (w : World) (hT : Things w v0 T) :
    Calls Try.prog 3 #[v0] w fun e w' => e = .returned (.bool true) ∧ Below w.heap.size w w' := by
  obtain ⟨A, cap, rfl, hTl, hcells⟩ := hT
  unfold maxLen at hTl
  have HC := Lib.hid hcells
  clear hcells
  go_enter Try.func3, Try.ntmps3
  go_wp2_with fail
  refine (awake_calls _).mono ?_
  rintro e w2 ⟨rfl, hb⟩
  have o2 := OutAt.new w2
  have hsz := hb.size
  have g2 := hb.alloc hb.size (.cells #[.slice none 0 0] 26)
  have HG := Lib.hid g2
  clear hb g2
  go_wp2_with fail
  go_loopw [4, 5] (fun a c wr => ∃ (k : Nat) (bs : List UInt8) (r : Option Nat), a = .string (str bs) ∧ c = .int .i64 k ∧ k ≤ T.length ∧ k ≤ 15 ∧ bs.length ≤ 52 * k ∧ OutAt wr w2.heap.size r bs ∧ Step (w2.alloc (.cells #[.slice none 0 0] 26)) wr w2.heap.size none r) (fun _ c _ => 15 - (intOf c).toNat)
  case atStart => exact ⟨0, [], none, rfl, rfl, Nat.zero_le _, Nat.zero_le _, Nat.zero_le _, o2, Step.refl _ _ _⟩
  case round =>
    obtain ⟨k, bs, r, rfl, rfl, hk1, hk2, hl, ho, hs⟩ := hrel
    clear o2
    by_cases hc : k < T.length ∧ k < 15
    · obtain ⟨c1, c2⟩ := hc
      obtain ⟨x, hx⟩ : ∃ x, T[k]? = some x := ⟨_, List.getElem?_eq_getElem c1⟩
      obtain ⟨b, off, hA, hbl, d0, d1, d2, n0, n1, ns⟩ := HC.out k x hx
      have hbel : Below w.heap.size w wr := HG.out.trans (hs.below (by simp; omega) hsz (fun g hg => by cases hg))
      rw [← hbel.cell (p := ⟨b, off + k * 3, none⟩) hbl] at d0
      rw [← hbel.cell (p := ⟨b, off + k * 3 + 1, none⟩) hbl] at d1
      rw [← hbel.cell (p := ⟨b, off + k * 3 + 2, none⟩) hbl] at d2
      clear hbel hx
      subst hA
      obtain ⟨kd, n, s⟩ := x
      simp only at d0 d1 d2 n0 n1 ns
      have HS := Lib.hid hs
      clear hs
      have hpl := putB_len kd n s
      go_wp2_with fail
      refine (put_calls _ w2.heap.size r bs kd n s n0 n1 ns ho (by omega)).mono ?_
      rintro e w3 ⟨rfl, r3, h3, s3⟩
      have HS3 := Lib.hid (HS.out.trans s3)
      clear ho s3 HS d0 d1 d2
      have ha := str_append bs (putB kd n s)
      have z1 : (str bs).size ≤ 1000 := by rw [str_size]; omega
      have z2 : (str (putB kd n s)).size ≤ 1000 := by rw [str_size]; omega
      have hz := str_size (bs ++ putB kd n s)
      have hL : (bs ++ putB kd n s).length ≤ 52 * (k + 1) := by rw [List.length_append]; omega
      generalize putB kd n s = P at *
      generalize bs ++ P = L at *
      clear hpl n0 n1 ns
      go_wp2_with fail
      refine (len_calls _ _ r3 _ h3).mono ?_
      rintro e w4 ⟨rfl, rfl⟩
      have H3 := Lib.hid h3
      clear h3
      go_wp2
      go_roundw
      case rel => exact ⟨k + 1, L, r3, rfl, by go_num, by omega, by omega, hL, H3.out, HS3.out⟩
      case measure => simp [intOf]; omega
    · have HS := Lib.hid hs
      clear hs
      by_cases c1 : k < T.length
      · have c2 : ¬ k < 15 := by omega
        clear hc
        go_wp2_with fail
        refine (text_calls _ _ r _ ho).mono ?_
        rintro e w4 ⟨rfl, rfl⟩
        go_wp2
        go_ret
        exact ⟨rfl, HG.out.trans (HS.out.below (by simp; omega) hsz (fun g hg => by cases hg))⟩
      · clear hc
        go_wp2_with fail
        refine (text_calls _ _ r _ ho).mono ?_
        rintro e w4 ⟨rfl, rfl⟩
        go_wp2
        go_ret
        exact ⟨rfl, HG.out.trans (HS.out.below (by simp; omega) hsz (fun g hg => by cases hg))⟩

set_option maxRecDepth 100000 in
theorem lifted (os : Os) (started : os.Started) (H : Type) (enc : TypeId × Value → H) :
    ReturnsInHanded {} Try.checked os 3 .any (Rows.octetPutsSpec.pre6 enc Try.prog Try.f3 Rows.octetPutsRow.domain false) (Rows.octetPutsSpec.post enc Try.prog Try.f3 false true false false) := by
  refine returnsInHanded_of_change (C := Try.checked) own started (by kernel_rfl) Try.func3
    (ChangeSpec.witness6 (enc := enc) (C := Try.checked) false ⟨#[], #[.slice none 0 0], []⟩ 8 (by kernel_rfl) (by kernel_rfl) (by kernel_rfl) (by kernel_rfl)) ?_
  intro W base args ds gs before hval0 hW hcnd _
  have hval : ∀ (j : Nat) t v, Try.f3.params[j]? = some t → args[j]? = some v → Value.okWide Try.prog W .any base t v := hval0
  have hW' := hW
  obtain ⟨p, q, hA0, hV, rfl, hfz, hnd⟩ := hW
  have hA : DataW.TrodAll enc Try.prog W 0 (fun _ => true) true Try.f3.params.toList args.toList ds p := hA0
  rw [Try.params3] at hA hval
  obtain ⟨v0, vs0, d0, ds0, p0, q0, hargs, rfl, rfl, h0, r0⟩ := trodAll_cons hA
  obtain ⟨rfl, rfl, rfl⟩ := trodAll_nil r0
  obtain rfl : args = #[v0] := by cases args; simp_all
  obtain ⟨rfl, rfl⟩ := trodVars_none hV
  have k0 := h0
  have lt0 : ∀ x ∈ p0, x.block < W.heap.size := by obtain ⟨m, hm⟩ := k0; exact DataW.trod_lt m _ _ _ hm
  obtain ⟨a0, w0⟩ := open_things (hval 0 22 v0 rfl rfl) h0
  clear hA0 hval0
  refine (walk v0 a0 W w0).mono fun e W' ⟨he, bel⟩ => ?_
  subst he
  exact ⟨_, rfl, _, _, _, [], _, [], hW', trodAll_mk1 (shut_bool Try.underlying4 _), (trodAll_cons_mk (Below.trod laidOut (by kernel_rfl) (of_decide_eq_true (by kernel_rfl)) k0 bel lt0) trodAll_mk0), rfl, bel.frame _, fun h => by cases h⟩

theorem over : Rows.octetPutsRow.holds Try.pinned (OpenSpec.ofChange Rows.octetPutsSpec) :=
  OpenClaim.holds_of_wide 3 Try.f3 rfl rfl rfl rfl rfl rfl rfl ⟨rfl, rfl, rfl, rfl, rfl⟩ rfl rfl rfl rfl rfl (by kernel_rfl) Try.func3 (by kernel_rfl)
    (of_decide_eq_true (by kernel_rfl)) (by unfold Func.isWrapper; first | (rw [if_pos (by decide +kernel)]; kernel_rfl) | (rw [if_neg (by decide +kernel)]; exact ⟨rfl, rfl⟩))
    (fun os started H enc _ => lifted os started H enc)

end Go.Proofs.Ytgdbfdmnfndojaa.octetPuts
namespace Go.Proofs.Ytgdbfdmnfndojaa
/-- The statement. -/
theorem octetPuts_holds : Rows.OctetPutsSaid := octetPuts.over
#print axioms octetPuts_holds
end Go.Proofs.Ytgdbfdmnfndojaa
