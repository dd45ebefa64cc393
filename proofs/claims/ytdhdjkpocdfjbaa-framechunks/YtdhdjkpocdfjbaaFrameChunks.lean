/-
  A stream that comes in any parts has the same packets, and at last the same error (switchboardlaw05.FrameChunks answers true for every input).
  Its conditions: none beside those of the row itself.
-/
import Derived.Test.YtdhdjkpocdfjbaaFr12
import Derived.ProofKit
import Derived.OpenShut
import Derived.ShutString
import Derived.ChangeOld
namespace Go.Proofs.Ytdhdjkpocdfjbaa.frameChunks
open Go.ChangeShapes Go.WideShapes Go.ChangeAt Go.RowKit
open Go.ChangeMaps (open_string shut_string)
set_option linter.unusedVariables false

theorem own : ownKnob Try.prog.godebug = none := by kernel_rfl
theorem laidOut : laidOutB Try.prog = true := by kernel_rfl

set_option maxRecDepth 100000 in
set_option maxHeartbeats 1000000 in
theorem walk (a0 : ByteArray) (w0 : a0.size ≤ maxLen) (a1 : Int) (w1 : (Lit.int .i64 a1).wf = true) (v2 : Value) (zs : List Int) (w : World) (hz : IntsIn w v2 zs) :
    Calls Try.prog 4 #[.string a0, .int .i64 a1, v2] w fun e w' => e = .returned (.bool true) ∧ Below w.heap.size w w' := by
  clear w1
  have hcut := ba_take a0 300
  have hsl : (a0.data.toList.take 300).length ≤ 300 := by rw [List.length_take]; omega
  generalize a0.data.toList.take 300 = S at hcut hsl
  have HCUT := Lib.hid hcut
  have hsz := str_size S
  generalize hR : runF a1 400 S = R
  have hR2 : runF a1 (S.length + 1) S = R := by rw [← hR]; exact runF_fuel a1 _ _ S (by omega) (by omega)
  have hpl := runF_len a1 400 S
  rw [hR] at hpl
  obtain ⟨P, y, left⟩ := R
  dsimp only at hpl
  have HR := Lib.hid hR
  have HR2 := Lib.hid hR2
  obtain ⟨A, cap, rfl, hzl, hzc⟩ := hz
  have HZC := Lib.hid hzc
  unfold maxLen at hzl
  clear hcut hR hR2 hzc
  go_enter Try.func4, Try.ntmps4
  go_wp2_with fail
  refine (cut_calls _ a0 300 w0).mono ?_
  rw [HCUT.out]
  rintro e w2 ⟨rfl, rfl⟩
  go_wp2_with fail
  refine (awake5_calls _).mono ?_
  rintro e w3 ⟨rfl, b3⟩
  have HB3 := Lib.hid b3
  clear b3
  go_wp2_with fail
  refine (new_calls _ a1).mono ?_
  rintro e w4 ⟨rfl, rfl⟩
  have h4 := RdAt.new w3 a1
  have hq := HB3.out.size
  have hb4 := HB3.out.alloc HB3.out.size (.cells #[.int .i64 a1, .slice none 0 0, .int .i64 0] 53)
  have hlt4 := h4.lt
  have hJ : ChJ w w3.heap.size a1 S P y 0 (.slice (some ⟨(w3.alloc (.cells #[.int .i64 a1, .slice none 0 0, .int .i64 0] 53)).heap.size, 0, none⟩) 0 0) [] ((w3.alloc (.cells #[.int .i64 a1, .slice none 0 0, .int .i64 0] 53)).alloc (.cells #[] 37)) := by
    have ho := OwnF.empty (w3.alloc (.cells #[.int .i64 a1, .slice none 0 0, .int .i64 0] 53)) 37
    refine ⟨ho.mono (by omega), hb4.alloc (by omega) _, 0, [], none, h4.below (below_one _ _), (fun g hg => by cases hg), .inl ⟨rfl, ?_, ?_, ?_⟩⟩
    · rw [List.nil_append, List.nil_append, List.drop_zero, HR.out]
    · rw [List.nil_append, List.drop_zero, HR.out]
    · simp; omega
  have HJ := Lib.hid hJ
  clear h4 hb4 hJ HB3
  generalize w3.heap.size = q at *
  generalize w3.alloc (.cells #[.int .i64 a1, .slice none 0 0, .int .i64 0] 53) = W4 at *
  go_wp2
  go_loopw [8, 9, 10, 11] (fun l e p i wr => ∃ (k n : Nat) (L : List Fm) (a : Option Addr) (c : Nat) (z : Int), l = .slice a L.length c ∧ e = .int .i64 z ∧ p = .int .i64 n ∧ i = .int .i64 k ∧ n ≤ S.length ∧ k ≤ 40 ∧ ChJ w q a1 S P y n (.slice a L.length c) L wr) (fun _ _ _ i _ => 40 - (intOf i).toNat)
  case atStart => exact ⟨0, 0, [], _, 0, 1, rfl, rfl, rfl, rfl, by omega, by omega, HJ.out⟩
  case round =>
    clear HJ
    obtain ⟨k, n, L, a, c, z, rfl, rfl, rfl, rfl, hn, hk, hj⟩ := hrel
    have HJ := Lib.hid hj
    have hws := hj.size
    have HB := Lib.hid hj.2.1
    clear hj
    by_cases hlt : k < zs.length ∧ k < 40
    · obtain ⟨hl1, hl2⟩ := hlt
      obtain ⟨x0, hx0⟩ : ∃ x, zs[k]? = some x := ⟨_, List.getElem?_eq_getElem hl1⟩
      obtain ⟨hwf, ad, hA, hbl, hc⟩ := HZC.out k x0 hx0
      subst hA
      have hc' := (HB.out.cell (p := ad.add k) (by rw [block_add]; exact hbl)).trans hc
      obtain ⟨M, hM, hmx⟩ : ∃ M : Int, 0 ≤ M ∧ (if x0 < 0 then 0 else x0) = M := ⟨_, by split <;> omega, rfl⟩
      obtain ⟨m, hm1, hm2⟩ : ∃ m : Nat, m ≤ S.length - n ∧ (if (S.length : Int) - (n : Int) < M then (S.length : Int) - (n : Int) else M) = (m : Int) := by
        by_cases h1 : (S.length : Int) - (n : Int) < M
        · exact ⟨S.length - n, by omega, by rw [if_pos h1]; omega⟩
        · exact ⟨M.toNat, by omega, by rw [if_neg h1]; omega⟩
      have hex : (str S).extract n (n + m) = str ((S.drop n).take m) := ba_ext (by rw [ba_extract, str_data, str_data]; congr 1; omega)
      have hlI : (k : Int) < zs.length := by omega
      clear hc hx0 hwf HZC
      go_wp2_with fail
      refine (feed_ch w q hq a1 S P y n m (by omega) _ L _ HJ.out).mono ?_
      rintro e w5 ⟨rfl, h5⟩
      have H5 := Lib.hid h5
      clear h5 HJ HB hc' hmx hm2 hex
      go_wp2_with fail
      refine (all_ch w q hq a1 S P hpl y (n + m) _ L _ H5.out).mono ?_
      rintro e w6 ⟨v6, L6, z6, rfl, h6, -⟩
      obtain ⟨a6, c6, rfl⟩ := h6.1.form
      have H6 := Lib.hid h6
      have hnm : n + m ≤ S.length := by omega
      clear h6 H5
      go_wp2
      go_roundw
      case rel => exact ⟨k + 1, n + m, L6, a6, c6, z6, rfl, rfl, by go_num, by go_num, hnm, by omega, H6.out⟩
      case measure => simp [intOf]; omega
    · have hex : (str S).extract n S.length = str (S.drop n) := by have := ba_drop (str S) n; rw [hsz, str_data] at this; exact this
      have htk : (S.drop n).take (S.length - n) = S.drop n := List.take_of_length_le (by rw [List.length_drop]; omega)
      have hfull : n + (S.length - n) = S.length := by omega
      have hcase : ((k : Int) < (zs.length : Int)) ∧ ¬ ((k : Int) < 40) ∨ ¬ ((k : Int) < (zs.length : Int)) := by omega
      have hfd := feed_ch w q hq a1 S P y n (S.length - n) (by omega) _ L _ HJ.out
      rw [htk, hfull] at hfd
      have HFD := Lib.hid hfd
      clear hlt HZC hfd htk hfull HB
      rcases hcase with ⟨c1, c2⟩ | c1
      all_goals
        go_wp2_with fail
        refine HFD.out.mono ?_
        rintro e w5 ⟨rfl, h5⟩
        have H5 := Lib.hid h5
        clear h5 HJ hex
        go_wp2_with fail
        refine (all_ch w q hq a1 S P hpl y S.length _ L _ H5.out).mono ?_
        rintro e w6 ⟨v6, L6, z6, rfl, h6, hend⟩
        obtain ⟨e1, e2⟩ := hend rfl
        subst e1 e2
        have hs6 := h6.size
        have O6 := Lib.hid h6.1
        have B6 := Lib.hid h6.2.1
        clear h6 H5 HFD
        go_wp2_with fail
        refine (r5all_calls _ S a1 hsl (L6, z6, left) HR2.out).mono ?_
        rintro e w7 ⟨v7, rfl, o7, b7⟩
        have B7 := Lib.hid (B6.out.trans (b7.mono hs6))
        have F6 := Lib.hid (O6.out.below b7).frs
        have F7 := Lib.hid o7.frs
        have hs7 := b7.size
        clear o7 b7 B6 O6
        dsimp only
        go_wp2_with fail
        refine (same5_calls _ _ _ L6 F6.out F7.out (by omega)).mono ?_
        rintro e w8 ⟨rfl, b8, k8, rfl⟩
        have B8 := Lib.hid (B7.out.trans (b8.mono (by omega)))
        clear b8 B7 F6 F7
        go_wp2
        go_ret
        exact ⟨rfl, B8.out⟩

set_option maxRecDepth 100000 in
theorem lifted (os : Os) (started : os.Started) (H : Type) (enc : TypeId × Value → H) :
    ReturnsInHanded {} Try.checked os 4 .any (Rows.frameChunksSpec.pre6 enc Try.prog Try.f4 Rows.frameChunksRow.domain false) (Rows.frameChunksSpec.post enc Try.prog Try.f4 false true false false) := by
  refine returnsInHanded_of_change (C := Try.checked) own started (by kernel_rfl) Try.func4
    (ChangeSpec.witness6 (enc := enc) (C := Try.checked) false ⟨#[], #[.string ByteArray.empty, .int .i64 0, .slice none 0 0], []⟩ 8 (by kernel_rfl) (by kernel_rfl) (by kernel_rfl) (by kernel_rfl)) ?_
  intro W base args ds gs before hval0 hW hcnd _
  have hval : ∀ (j : Nat) t v, Try.f4.params[j]? = some t → args[j]? = some v → Value.okWide Try.prog W .any base t v := hval0
  have hW' := hW
  obtain ⟨p, q, hA0, hV, rfl, hfz, hnd⟩ := hW
  have hA : DataW.TrodAll enc Try.prog W 0 (fun _ => true) true Try.f4.params.toList args.toList ds p := hA0
  rw [Try.params4] at hA hval
  obtain ⟨v0, vs0, d0, ds0, p0, q0, hargs, rfl, rfl, h0, r0⟩ := trodAll_cons hA
  obtain ⟨v1, vs1, d1, ds1, p1, q1, rfl, rfl, rfl, h1, r1⟩ := trodAll_cons r0
  obtain ⟨v2, vs2, d2, ds2, p2, q2, rfl, rfl, rfl, h2, r2⟩ := trodAll_cons r1
  obtain ⟨rfl, rfl, rfl⟩ := trodAll_nil r2
  obtain rfl : args = #[v0, v1, v2] := by cases args; simp_all
  obtain ⟨rfl, rfl⟩ := trodVars_none hV
  obtain ⟨a0, rfl, rfl, rfl, w0⟩ := open_string Try.underlying9 (hval 0 9 v0 rfl rfl) h0
  obtain ⟨a1, rfl, rfl, rfl, w1⟩ := open_int Try.underlying3 (hval 1 3 v1 rfl rfl) h1
  have k2 := h2
  have lt2 : ∀ x ∈ p2, x.block < W.heap.size := by obtain ⟨m, hm⟩ := k2; exact DataW.trod_lt m _ _ _ hm
  obtain ⟨a2, w2⟩ := open_intsIn (hval 2 41 v2 rfl rfl) h2
  clear hA0 hval0
  refine (walk a0 w0 a1 w1 v2 a2 W w2).mono fun e W' ⟨he, bel⟩ => ?_
  subst he
  exact ⟨_, rfl, _, _, _, [], _, [], hW', trodAll_mk1 (shut_bool Try.underlying4 _), (trodAll_cons_mk (shut_string Try.underlying9 w0) (trodAll_cons_mk (shut_int Try.underlying3 w1) (trodAll_cons_mk (Below.trod laidOut (by kernel_rfl) (of_decide_eq_true (by kernel_rfl)) k2 bel lt2) trodAll_mk0))), rfl, bel.frame _, fun h => by cases h⟩

theorem over : Rows.frameChunksRow.holds Try.pinned (OpenSpec.ofChange Rows.frameChunksSpec) :=
  OpenClaim.holds_of_wide 4 Try.f4 rfl rfl rfl rfl rfl rfl rfl ⟨rfl, rfl, rfl, rfl, rfl⟩ rfl rfl rfl rfl rfl (by kernel_rfl) Try.func4 (by kernel_rfl)
    (of_decide_eq_true (by kernel_rfl)) (by unfold Func.isWrapper; first | (rw [if_pos (by decide +kernel)]; kernel_rfl) | (rw [if_neg (by decide +kernel)]; exact ⟨rfl, rfl⟩))
    (fun os started H enc _ => lifted os started H enc)

end Go.Proofs.Ytdhdjkpocdfjbaa.frameChunks
namespace Go.Proofs.Ytdhdjkpocdfjbaa
/-- The statement. -/
theorem frameChunks_holds : Rows.FrameChunksSaid := frameChunks.over
#print axioms frameChunks_holds
end Go.Proofs.Ytdhdjkpocdfjbaa
