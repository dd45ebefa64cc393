/-
  Statement OctetBack: whatever numbers and texts are put one behind the other are taken again, and what is behind them is left.
  Its conditions: none beside those of the row itself.
-/
import Derived.Test.YtgdbfdmnfndojaaPure2
import Derived.ProofKit
import Derived.OpenShut
import Derived.ShutString
import Derived.ChangeOld
namespace Go.Proofs.Ytgdbfdmnfndojaa.octetBack
open Go.ChangeShapes Go.WideShapes Go.ChangeAt Go.RowKit
open Go.ChangeMaps (open_string shut_string)
set_option linter.unusedVariables false

theorem own : ownKnob Try.prog.godebug = none := by kernel_rfl

set_option maxHeartbeats 4000000 in
set_option maxRecDepth 100000 in
theorem walk (a0 : Int) (w0 : (Lit.int .u8 a0).wf = true) (a1 : Int) (w1 : (Lit.int .u32 a1).wf = true) (a2 : Int) (w2 : (Lit.int .u32 a2).wf = true) (a3 : Int) (w3 : (Lit.int .u32 a3).wf = true)
    (a4 : ByteArray) (w4 : a4.size ≤ maxLen) (a5 : ByteArray) (w5 : a5.size ≤ maxLen) (w : World) :
    Calls Try.prog 5 #[.int .u8 a0, .int .u32 a1, .int .u32 a2, .int .u32 a3, .string a4, .string a5] w fun e w' => e = .returned (.bool true) ∧ Below w.heap.size w w' := by
  have b0 := bounds_u8 w0
  have b1 := bounds_u32 w1
  have b2 := bounds_u32 w2
  have b3 := bounds_u32 w3
  clear w0 w1 w2 w3
  obtain ⟨D, hD⟩ : ∃ A, (if (268435455 : Int) < a3 then 268435455 else a3) = A := ⟨_, rfl⟩
  have bD : 0 ≤ D ∧ D ≤ 268435455 := by omega
  clear b3
  go_enter Try.func5, Try.ntmps5
  go_wp2_with fail
  refine (awake_calls _).mono ?_
  rintro e v2 ⟨rfl, hb⟩
  go_wp2_with fail
  refine (cut_calls _ a4 100 w4).mono ?_
  rintro e v3 ⟨rfl, rfl⟩
  have hs4 : (a4.extract 0 100).size ≤ 100 := by simp; omega
  generalize a4.extract 0 100 = s at *
  go_wp2_with fail
  refine (cut_calls _ a5 20 w5).mono ?_
  rintro e v3 ⟨rfl, rfl⟩
  have hs5 : (a5.extract 0 20).size ≤ 20 := by simp; omega
  generalize a5.extract 0 20 = t at *
  clear w4 w5
  obtain ⟨ls, rfl⟩ : ∃ l, s = str l := ⟨_, ba_str s⟩
  obtain ⟨lt, rfl⟩ : ∃ l, t = str l := ⟨_, ba_str t⟩
  rw [str_size] at hs4 hs5
  have hsz := hb.size
  have g0 := hb.alloc hb.size (.cells #[.slice none 0 0] 26)
  have HB0 : Hid (v2.heap.size ≤ (v2.alloc (.cells #[.slice none 0 0] 26)).heap.size) := by unfold Hid; simp
  clear hb
  go_wp2_with fail
  refine (byte_calls _ v2.heap.size none [] a0 (by omega) (by omega) (OutAt.new v2) (by simp)).mono ?_
  rintro e x1 ⟨rfl, r1, h1, s1⟩
  go_wp2_with fail
  refine (two_calls _ v2.heap.size r1 _ a1 (by omega) (by omega) h1 (by simp)).mono ?_
  rintro e x2 ⟨rfl, r2, h2, s2⟩
  have t2 := s1.trans s2
  clear s1 s2 h1
  go_wp2_with fail
  refine (four_calls _ v2.heap.size r2 _ a2 (by omega) (by omega) h2 (by simp [two_len])).mono ?_
  rintro e x3 ⟨rfl, r3, h3, s3⟩
  have t3 := t2.trans s3
  clear s3 t2 h2
  go_wp2_with fail
  refine (var_calls _ v2.heap.size r3 _ D bD.1 bD.2 h3 (by simp [two_len])).mono ?_
  rintro e x4 ⟨rfl, r4, h4, s4⟩
  have t4 := t3.trans s4
  clear s4 t3 h3
  have hvl := varb_len 3 D.toNat
  go_wp2_with fail
  refine (data_calls _ v2.heap.size r4 _ (str ls) h4 (by rw [str_size]; omega) (by simp [two_len]; omega)).mono ?_
  rintro e x5 ⟨rfl, r5, h5, s5⟩
  have t5 := t4.trans s5
  clear s5 t4 h4
  go_wp2_with fail
  refine (raw_calls _ v2.heap.size r5 _ (str lt) h5 (by simp [two_len, str_data, str_size]; omega)).mono ?_
  rintro e x6 ⟨rfl, r6, h6, s6⟩
  have t6 := t5.trans s6
  have G6 := Lib.hid (g0.trans (t6.below HB0.out (Nat.le_refl _) (fun g hg => by cases hg) |>.mono hsz))
  have hz6 := Nat.le_trans HB0.out t6.size
  clear s6 t5 h5 t6 g0 HB0
  go_wp2_with fail
  refine (text_calls _ _ r6 _ h6).mono ?_
  rintro e x7 ⟨rfl, rfl⟩
  clear h6
  rw [List.nil_append, str_data, str_data, str_size]
  simp only [List.append_assoc]
  obtain ⟨Z, hZ⟩ : ∃ Z, str ([UInt8.ofNat a0.toNat] ++ (two a1 ++ (two (a2 / 65536) ++ (two a2 ++ (varb 3 D.toNat ++ (two ls.length ++ (ls ++ lt))))))) = Z := ⟨_, rfl⟩
  rw [hZ]
  have HZ := Lib.hid hZ
  clear hZ
  go_wp2_with fail
  refine (over_calls _ _).mono ?_
  rintro e x8 ⟨rfl, rfl⟩
  have i8 := InAt.new x6 Z
  have G8 := Lib.hid (G6.out.alloc (Nat.le_trans hsz hz6) (.cells #[.string Z, .int .i64 0] 60))
  have hp : w.heap.size ≤ x6.heap.size := Nat.le_trans hsz hz6
  clear G6 hz6 hsz
  generalize x6.alloc (.cells #[.string Z, .int .i64 0] 60) = y0 at *
  generalize x6.heap.size = p at *
  rw [← HZ.out] at i8
  go_wp2_with fail
  refine (byteIn_calls _ p _ 0 _ _ 0 (rawT_app [UInt8.ofNat a0.toNat] _ 1 (by simp)) i8).mono ?_
  rintro e y1 ⟨rfl, i1, q1⟩
  rw [str_data, numL_one, ofNat_toNat a0 (by omega) (by omega)]
  go_wp2_with fail
  refine (twoIn_calls _ p _ 0 _ _ 0 (rawT_app (two a1) _ 2 (by simp [two_len])) i1).mono ?_
  rintro e y2 ⟨rfl, i2, q2⟩
  rw [str_data, numL_two a1 (by omega)]
  have hand := and_low a1 (by omega) (by omega)
  have Q2 := Lib.hid (q1.trans q2)
  clear i8 i1 q1 q2
  go_wp2_with fail
  refine (fourIn_calls _ p _ 0 _ _ 0 (by rw [← List.append_assoc (two (a2 / 65536))]; exact rawT_app (two (a2 / 65536) ++ two a2) _ 4 (by simp [two_len])) i2).mono ?_
  rintro e y3 ⟨rfl, i3, q3⟩
  rw [str_data, numL_four a2 (by omega) (by omega)]
  have Q3 := Lib.hid (Q2.out.trans q3)
  clear i2 q3 Q2
  go_wp2_with fail
  refine (varIn_calls _ p _ 0 _ _ 0 (varT_back 3 0 0 D.toNat _ (by omega) (by omega)) i3).mono ?_
  rintro e y4 ⟨rfl, i4, q4⟩
  rw [show ((0 + D.toNat * 128 ^ 0 : Nat) : Int) = D by omega]
  have Q4 := Lib.hid (Q3.out.trans q4)
  clear i3 q4 Q3
  go_wp2_with fail
  refine (dataIn_calls _ p _ 0 _ _ 0 (rawT_app (two ls.length) _ 2 (by simp [two_len])) (str ls) (str lt) 0 (by rw [str_data, numL_two _ (by omega)]; exact rawT_app ls lt _ (by omega)) i4).mono ?_
  rintro e y5 ⟨rfl, i5, q5⟩
  have Q5 := Lib.hid (Q4.out.trans q5)
  clear i4 q5 Q4
  go_wp2_with fail
  refine (left_calls _ p _ 0 i5).mono ?_
  rintro e y6 ⟨rfl, rfl⟩
  go_wp2_with fail
  refine (rest_calls _ p _ 0 i5).mono ?_
  have hrest : rawT (str lt) 0 (str lt).size = (str lt, ⟨#[]⟩, 0) := by
    have h := rawT_app lt [] lt.length rfl
    rw [List.append_nil] at h
    rw [str_size, h]; rfl
  rw [hrest]
  rintro e y7 ⟨rfl, i7, q7⟩
  have Q7 := Lib.hid (Q5.out.trans q7)
  clear i5 q7 Q5
  go_wp2_with fail
  refine (err_calls _ p _ 0 i7).mono ?_
  rintro e y8 ⟨rfl, rfl⟩
  clear i7
  go_wp2
  go_ret
  exact ⟨rfl, G8.out.trans (Q7.out.below hp)⟩

set_option maxRecDepth 100000 in
theorem lifted (os : Os) (started : os.Started) (H : Type) (enc : TypeId × Value → H) :
    ReturnsInHanded {} Try.checked os 5 .any (Rows.octetBackSpec.pre6 enc Try.prog Try.f5 Rows.octetBackRow.domain false) (Rows.octetBackSpec.post enc Try.prog Try.f5 false true false false) := by
  refine returnsInHanded_of_change (C := Try.checked) own started (by kernel_rfl) Try.func5
    (ChangeSpec.witness6 (enc := enc) (C := Try.checked) false ⟨#[], #[.int .u8 0, .int .u32 0, .int .u32 0, .int .u32 0, .string ByteArray.empty, .string ByteArray.empty], []⟩ 8 (by kernel_rfl) (by kernel_rfl) (by kernel_rfl) (by kernel_rfl)) ?_
  intro W base args ds gs before hval0 hW hcnd _
  have hval : ∀ (j : Nat) t v, Try.f5.params[j]? = some t → args[j]? = some v → Value.okWide Try.prog W .any base t v := hval0
  have hW' := hW
  obtain ⟨p, q, hA0, hV, rfl, hfz, hnd⟩ := hW
  have hA : DataW.TrodAll enc Try.prog W 0 (fun _ => true) true Try.f5.params.toList args.toList ds p := hA0
  rw [Try.params5] at hA hval
  obtain ⟨v0, vs0, d0, ds0, p0, q0, hargs, rfl, rfl, h0, r0⟩ := trodAll_cons hA
  obtain ⟨v1, vs1, d1, ds1, p1, q1, rfl, rfl, rfl, h1, r1⟩ := trodAll_cons r0
  obtain ⟨v2, vs2, d2, ds2, p2, q2, rfl, rfl, rfl, h2, r2⟩ := trodAll_cons r1
  obtain ⟨v3, vs3, d3, ds3, p3, q3, rfl, rfl, rfl, h3, r3⟩ := trodAll_cons r2
  obtain ⟨v4, vs4, d4, ds4, p4, q4, rfl, rfl, rfl, h4, r4⟩ := trodAll_cons r3
  obtain ⟨v5, vs5, d5, ds5, p5, q5, rfl, rfl, rfl, h5, r5⟩ := trodAll_cons r4
  obtain ⟨rfl, rfl, rfl⟩ := trodAll_nil r5
  obtain rfl : args = #[v0, v1, v2, v3, v4, v5] := by cases args; simp_all
  obtain ⟨rfl, rfl⟩ := trodVars_none hV
  obtain ⟨a0, rfl, rfl, rfl, w0⟩ := open_int Try.underlying5 (hval 0 5 v0 rfl rfl) h0
  obtain ⟨a1, rfl, rfl, rfl, w1⟩ := open_int Try.underlying29 (hval 1 29 v1 rfl rfl) h1
  obtain ⟨a2, rfl, rfl, rfl, w2⟩ := open_int Try.underlying29 (hval 2 29 v2 rfl rfl) h2
  obtain ⟨a3, rfl, rfl, rfl, w3⟩ := open_int Try.underlying29 (hval 3 29 v3 rfl rfl) h3
  obtain ⟨a4, rfl, rfl, rfl, w4⟩ := open_string Try.underlying9 (hval 4 9 v4 rfl rfl) h4
  obtain ⟨a5, rfl, rfl, rfl, w5⟩ := open_string Try.underlying9 (hval 5 9 v5 rfl rfl) h5
  clear hA0 hval0
  refine (walk a0 w0 a1 w1 a2 w2 a3 w3 a4 w4 a5 w5 W).mono fun e W' ⟨he, bel⟩ => ?_
  subst he
  exact ⟨_, rfl, _, _, _, [], _, [], hW', trodAll_mk1 (shut_bool Try.underlying4 _), (trodAll_cons_mk (shut_int Try.underlying5 w0) (trodAll_cons_mk (shut_int Try.underlying29 w1) (trodAll_cons_mk (shut_int Try.underlying29 w2) (trodAll_cons_mk (shut_int Try.underlying29 w3) (trodAll_cons_mk (shut_string Try.underlying9 w4) (trodAll_cons_mk (shut_string Try.underlying9 w5) trodAll_mk0)))))), rfl, bel.frame _, fun h => by cases h⟩

theorem over : Rows.octetBackRow.holds Try.pinned (OpenSpec.ofChange Rows.octetBackSpec) :=
  OpenClaim.holds_of_wide 5 Try.f5 rfl rfl rfl rfl rfl rfl rfl ⟨rfl, rfl, rfl, rfl, rfl⟩ rfl rfl rfl rfl rfl (by kernel_rfl) Try.func5 (by kernel_rfl)
    (of_decide_eq_true (by kernel_rfl)) (by unfold Func.isWrapper; first | (rw [if_pos (by decide +kernel)]; kernel_rfl) | (rw [if_neg (by decide +kernel)]; exact ⟨rfl, rfl⟩))
    (fun os started H enc _ => lifted os started H enc)

end Go.Proofs.Ytgdbfdmnfndojaa.octetBack
namespace Go.Proofs.Ytgdbfdmnfndojaa
/-- The statement. -/
theorem octetBack_holds : Rows.OctetBackSaid := octetBack.over
#print axioms octetBack_holds
end Go.Proofs.Ytgdbfdmnfndojaa
