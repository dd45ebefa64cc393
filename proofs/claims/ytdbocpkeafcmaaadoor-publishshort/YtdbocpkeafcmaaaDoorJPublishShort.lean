/-
  An answer without a code, with the code 0, and with that and no properties, is the same (switchboardlaw07.PublishShort answers true for every input).
  Its conditions: none beside those of the row itself (the two tables of unicode/utf8 start as the library's text lays them: the card ties them).
-/
import Derived.Test.YtdbocpkeafcmaaaDoorCards
import Derived.Test.YtdbocpkeafcmaaaDoorTie
import Derived.Test.YtdbocpkeafcmaaaDoorJPublishShortw
import Derived.Test.YtdbocpkeafcmaaaDoorJPublishShortf
import Derived.Test.YtdbocpkeafcmaaaDoorJSam7
import Derived.Test.YtdbocpkeafcmaaaDoorJFr0
import Derived.ProofKit
import Derived.Deep.RegionHeld3
import Derived.Deep.CutRange
import Derived.OpenShut
import Derived.ShutString
import Derived.ChangeOld
import Derived.Deep.DeepHandedRow
import Derived.Deep.DeepWitnessRowRef
import Derived.Lib.LaidU8T
import Derived.Lib.LaidTab
import Derived.Lib.LaidIn
namespace Go.Proofs.YtdbocpkeafcmaaaDoor.publishShort
open Go.ChangeShapes Go.WideShapes Go.ChangeAt Go.RowKit Go.Lib
open Go.ChangeMaps (open_string shut_string)
set_option linter.unusedVariables false

/-- What lies where ahead of the last statement. -/
structure ShJ (w : World) (ab xb yb zb : Nat) (A X Y Z : Array Value) (W : World) : Prop where
  a : W.heap[ab]? = some (.cells A 94 (0, 0))
  x : W.heap[xb]? = some (.cells X 94 (0, 0))
  y : W.heap[yb]? = some (.cells Y 94 (0, 0))
  z : W.heap[zb]? = some (.cells Z 94 (0, 0))
  bel : Below w.heap.size w W
theorem ShJ.below {w : World} {ab xb yb zb : Nat} {A X Y Z : Array Value} {W V : World} (h : ShJ w ab xb yb zb A X Y Z W) (hb : Below W.heap.size W V) : ShJ w ab xb yb zb A X Y Z V :=
  ⟨(hb.block _ (lt_of_block h.a)).trans h.a, (hb.block _ (lt_of_block h.x)).trans h.x, (hb.block _ (lt_of_block h.y)).trans h.y, (hb.block _ (lt_of_block h.z)).trans h.z, h.bel.trans (hb.mono h.bel.size)⟩
theorem ShJ.drew {w : World} {ab xb yb zb : Nat} {A X Y Z : Array Value} {W : World} (h : ShJ w ab xb yb zb A X Y Z W) : ShJ w ab xb yb zb A X Y Z W.drew := ⟨h.a, h.x, h.y, h.z, h.bel.drew⟩

set_option maxRecDepth 100000 in
set_option maxHeartbeats 4000000 in
theorem walk1 (a0 a1 : Int) (w : World) (hT : Tabs w) (k : Int) (hk : wrap64 (4 + bits .and .i64 a0 3) = k) (hk4 : 4 ≤ k) (hk7 : k ≤ 7) (n : Int) (hn : IntKind.u32.wrap (1 + IntKind.u32.wrap (a1.tmod 65535)) = n) (hn' : (1 + a1.tmod 65535) % 4294967296 = n) (S S1 S2 : ByteArray) (hz : S.size = 2) (h1 : S ++ ⟨#[0]⟩ = S1) (h2 : S ++ ⟨#[0, 0]⟩ = S2)
    (hX : ∀ W, Calls Tryd.prog 64 #[.agg #[.int .i64 k, .int .u32 n, .int .u8 0, .slice none 0 0]] W (fun e w' => e = .returned (.string S) ∧ Below W.heap.size W w'))
    (hP : ∀ W s, Tabs W → s = S ∨ s = S1 ∨ s = S2 → Calls Tryd.prog 53 #[.int .i64 k, .string s] W (fun e w' => ∃ a c, e = .returned (.tuple #[.agg #[.int .i64 k, .int .u32 n, .int .u8 0, .slice a 0 c], .int .i64 0]) ∧ Below W.heap.size W w')) :
    Calls Tryd.prog 11 #[.int .i64 a0, .int .u32 a1] w fun e w' => e = .returned (.bool true) ∧ Below w.heap.size w w' := by
  have HT := Lib.hid hT
  have HX := Lib.hid hX
  have HP := Lib.hid hP
  have HA := Lib.hid (show ∀ W (va : Option Addr) (vc : Nat), Calls Tryd.prog 58 #[.agg #[.int .i64 k, .int .u32 n, .int .u8 0, .slice va 0 vc]] W (fun e w' => ∃ p c, e = .returned (.agg #[.int .i64 k, .int .u32 n, .int .u8 0, .slice p 0 c]) ∧ Below W.heap.size W w') from fun W va vc => (acks7_calls W ⟨k, n, 0, []⟩ va 0 vc ⟨va, vc, rfl, fun i x hx => by simp at hx⟩ (by show 0 ≤ 1000000; decide)).mono (by
    rintro e w' ⟨a, m, p, rfl, ⟨A', cap, hA, -⟩, hb⟩
    injection hA with e1 e2 e3
    subst e1 e2 e3
    exact ⟨_, _, rfl, hb⟩))
  have HM := Lib.hid (show ∀ W (va : Option Addr) (vc : Nat) (ua : Option Addr) (uc : Nat), Calls Tryd.prog 57 #[.agg #[.int .i64 k, .int .u32 n, .int .u8 0, .slice va 0 vc], .agg #[.int .i64 k, .int .u32 n, .int .u8 0, .slice ua 0 uc]] W (fun e w' => e = .returned (.bool true) ∧ Below W.heap.size W w') from fun W va vc ua uc => sameAck_calls W k n 0 va 0 vc ua 0 uc [] ⟨va, vc, rfl, fun i x hx => by simp at hx⟩ ⟨ua, uc, rfl, fun i x hx => by simp at hx⟩ (by decide))
  have hsz1 : (⟨#[0]⟩ : ByteArray).size = 1 := rfl
  have hsz2 : (⟨#[0, 0]⟩ : ByteArray).size = 2 := rfl
  clear hT hX hP
  go_enter Tryd.func11, Tryd.ntmps11
  go_wp2_with fail
  refine (awake7_calls _ HT.out).mono ?_
  rintro e W1 ⟨rfl, b1⟩
  have B1 := Lib.hid b1
  have ha2 := heap_alloc_new W1 (.cells #[.int .i64 k, .int .u32 n, .int .u8 0, .slice none 0 0] 94)
  have B2 := Lib.hid (B1.out.alloc B1.out.size (.cells #[.int .i64 k, .int .u32 n, .int .u8 0, .slice none 0 0] 94))
  clear b1
  go_wp2_with fail
  generalize W1.alloc (.cells #[.int .i64 k, .int .u32 n, .int .u8 0, .slice none 0 0] 94) = W2 at *
  generalize W1.heap.size = ab at *
  refine (HX.out _).mono ?_
  rintro e W3 ⟨rfl, b3⟩
  have HA3 := Lib.hid ((b3.block _ (lt_of_block ha2)).trans ha2)
  have B3 := Lib.hid (Below.next B2.out b3)
  clear b3 ha2 B1 B2
  go_wp2_with fail
  refine (HP.out _ S (HT.out.below B3.out) (.inl rfl)).mono ?_
  rintro e W4 ⟨xa, xc, rfl, b4⟩
  have HA4 := Lib.hid ((b4.block _ (lt_of_block HA3.out)).trans HA3.out)
  have B4 := Lib.hid (Below.next B3.out b4)
  have hx5 := heap_alloc_new W4 (.cells #[.int .i64 k, .int .u32 n, .int .u8 0, .slice xa 0 xc] 94)
  have b5 := below_one W4 (.cells #[.int .i64 k, .int .u32 n, .int .u8 0, .slice xa 0 xc] 94)
  have HA5 := Lib.hid ((b5.block _ (lt_of_block HA4.out)).trans HA4.out)
  have B5 := Lib.hid (Below.next B4.out b5)
  clear b4 b5 HA3 HA4 B3 B4
  go_wp2_with fail
  generalize W4.alloc (.cells #[.int .i64 k, .int .u32 n, .int .u8 0, .slice xa 0 xc] 94) = W5 at *
  generalize W4.heap.size = xb at *
  refine (HP.out _ S1 (HT.out.below B5.out) (.inr (.inl rfl))).mono ?_
  rintro e W6 ⟨ya, yc, rfl, b6⟩
  have HA6 := Lib.hid ((b6.block _ (lt_of_block HA5.out)).trans HA5.out)
  have HX6 := Lib.hid ((b6.block _ (lt_of_block hx5)).trans hx5)
  have B6 := Lib.hid (Below.next B5.out b6)
  have hy7 := heap_alloc_new W6 (.cells #[.int .i64 k, .int .u32 n, .int .u8 0, .slice ya 0 yc] 94)
  have b7 := below_one W6 (.cells #[.int .i64 k, .int .u32 n, .int .u8 0, .slice ya 0 yc] 94)
  have HA7 := Lib.hid ((b7.block _ (lt_of_block HA6.out)).trans HA6.out)
  have HX7 := Lib.hid ((b7.block _ (lt_of_block HX6.out)).trans HX6.out)
  have B7 := Lib.hid (Below.next B6.out b7)
  clear b6 b7 HA5 HA6 HX6 B5 B6 hx5
  go_wp2_with fail
  generalize W6.alloc (.cells #[.int .i64 k, .int .u32 n, .int .u8 0, .slice ya 0 yc] 94) = W7 at *
  generalize W6.heap.size = yb at *
  refine (HP.out _ S2 (HT.out.below B7.out) (.inr (.inr rfl))).mono ?_
  rintro e W8 ⟨za, zc, rfl, b8⟩
  have HA8 := Lib.hid ((b8.block _ (lt_of_block HA7.out)).trans HA7.out)
  have HX8 := Lib.hid ((b8.block _ (lt_of_block HX7.out)).trans HX7.out)
  have HY8 := Lib.hid ((b8.block _ (lt_of_block hy7)).trans hy7)
  have B8 := Lib.hid (Below.next B7.out b8)
  have hz9 := heap_alloc_new W8 (.cells #[.int .i64 k, .int .u32 n, .int .u8 0, .slice za 0 zc] 94)
  have b9 := below_one W8 (.cells #[.int .i64 k, .int .u32 n, .int .u8 0, .slice za 0 zc] 94)
  have J9 := Lib.hid (show ShJ w ab xb yb W8.heap.size #[.int .i64 k, .int .u32 n, .int .u8 0, .slice none 0 0] #[.int .i64 k, .int .u32 n, .int .u8 0, .slice xa 0 xc] #[.int .i64 k, .int .u32 n, .int .u8 0, .slice ya 0 yc] #[.int .i64 k, .int .u32 n, .int .u8 0, .slice za 0 zc] (W8.alloc (.cells #[.int .i64 k, .int .u32 n, .int .u8 0, .slice za 0 zc] 94)) from ⟨(b9.block _ (lt_of_block HA8.out)).trans HA8.out, (b9.block _ (lt_of_block HX8.out)).trans HX8.out, (b9.block _ (lt_of_block HY8.out)).trans HY8.out, hz9, Below.next B8.out b9⟩)
  clear b8 b9 HA7 HX7 hy7 HA8 HX8 HY8 B7 B8 hz9
  go_upto_region 9 with fail
  generalize W8.alloc (.cells #[.int .i64 k, .int .u32 n, .int .u8 0, .slice za 0 zc] 94) = W9 at *
  generalize W8.heap.size = zb at *
  have HS := Lib.hid J9.out.drew
  have KC := Lib.hid (show ∀ V, ShJ w ab xb yb zb #[.int .i64 k, .int .u32 n, .int .u8 0, .slice none 0 0] #[.int .i64 k, .int .u32 n, .int .u8 0, .slice xa 0 xc] #[.int .i64 k, .int .u32 n, .int .u8 0, .slice ya 0 yc] #[.int .i64 k, .int .u32 n, .int .u8 0, .slice za 0 zc] V → (V.cell? ⟨ab, 0, none⟩ = some (.int .i64 k) ∧ V.cell? ⟨ab, 1, none⟩ = some (.int .u32 n) ∧ V.cell? ⟨ab, 2, none⟩ = some (.int .u8 0) ∧ V.cell? ⟨ab, 3, none⟩ = some (.slice none 0 0)) ∧ (V.cell? ⟨xb, 0, none⟩ = some (.int .i64 k) ∧ V.cell? ⟨xb, 1, none⟩ = some (.int .u32 n) ∧ V.cell? ⟨xb, 2, none⟩ = some (.int .u8 0) ∧ V.cell? ⟨xb, 3, none⟩ = some (.slice xa 0 xc)) ∧ (V.cell? ⟨yb, 0, none⟩ = some (.int .i64 k) ∧ V.cell? ⟨yb, 1, none⟩ = some (.int .u32 n) ∧ V.cell? ⟨yb, 2, none⟩ = some (.int .u8 0) ∧ V.cell? ⟨yb, 3, none⟩ = some (.slice ya 0 yc)) ∧ (V.cell? ⟨zb, 0, none⟩ = some (.int .i64 k) ∧ V.cell? ⟨zb, 1, none⟩ = some (.int .u32 n) ∧ V.cell? ⟨zb, 2, none⟩ = some (.int .u8 0) ∧ V.cell? ⟨zb, 3, none⟩ = some (.slice za 0 zc)) from fun V h => by
    obtain ⟨a0, a1, a2, a3, -⟩ := cells4 h.a
    obtain ⟨x0, x1, x2, x3, -⟩ := cells4 h.x
    obtain ⟨y0, y1, y2, y3, -⟩ := cells4 h.y
    obtain ⟨z0, z1, z2, z3, -⟩ := cells4 h.z
    exact ⟨⟨a0, a1, a2, a3⟩, ⟨x0, x1, x2, x3⟩, ⟨y0, y1, y2, y3⟩, ⟨z0, z1, z2, z3⟩⟩)
  clear J9 HX HP
  go_region_held3 (fun V => (V.cell? ⟨ab, 0, none⟩ = some (.int .i64 k) ∧ V.cell? ⟨ab, 1, none⟩ = some (.int .u32 n) ∧ V.cell? ⟨ab, 2, none⟩ = some (.int .u8 0) ∧ V.cell? ⟨ab, 3, none⟩ = some (.slice none 0 0)) ∧ (V.cell? ⟨xb, 0, none⟩ = some (.int .i64 k) ∧ V.cell? ⟨xb, 1, none⟩ = some (.int .u32 n) ∧ V.cell? ⟨xb, 2, none⟩ = some (.int .u8 0) ∧ V.cell? ⟨xb, 3, none⟩ = some (.slice xa 0 xc)) ∧ (V.cell? ⟨yb, 0, none⟩ = some (.int .i64 k) ∧ V.cell? ⟨yb, 1, none⟩ = some (.int .u32 n) ∧ V.cell? ⟨yb, 2, none⟩ = some (.int .u8 0) ∧ V.cell? ⟨yb, 3, none⟩ = some (.slice ya 0 yc)) ∧ (V.cell? ⟨zb, 0, none⟩ = some (.int .i64 k) ∧ V.cell? ⟨zb, 1, none⟩ = some (.int .u32 n) ∧ V.cell? ⟨zb, 2, none⟩ = some (.int .u8 0) ∧ V.cell? ⟨zb, 3, none⟩ = some (.slice za 0 zc)))
    (first | (with_reducible exact KC.out _ HS.out) | fail)
    (first
      | (go_at_call 58; (with_reducible refine (HA.out _ _ _).mono ?_); rintro e V ⟨p, c, rfl, b⟩; (with_reducible have HS := Lib.hid (HS.out.below b)); clear b)
      | (go_at_call 57; (with_reducible refine (HM.out _ _ _ _ _).mono ?_); rintro e V ⟨rfl, b⟩; (with_reducible have HS := Lib.hid (HS.out.below b)); clear b))
  all_goals
    go_wp2
    go_ret
    exact ⟨rfl, HS.out.bel⟩

theorem walk (a0 : Int) (w0 : (Lit.int .i64 a0).wf = true) (a1 : Int) (w1 : (Lit.int .u32 a1).wf = true) (w : World) (hT : Tabs w) :
    Calls Tryd.prog 11 #[.int .i64 a0, .int .u32 a1] w fun e w' => e = .returned (.bool true) ∧ Below w.heap.size w w' := by
  have hb := bounds_u32 w1
  have hk := i64_and3 a0
  have hm : a1.tmod 65535 = a1 % 65535 := Int.tmod_eq_emod_of_nonneg hb.1
  have hkr : wrap64 (4 + bits .and .i64 a0 3) = 4 + a0 % 4 := by rw [hk]; unfold wrap64; omega
  have hnr : IntKind.u32.wrap (1 + IntKind.u32.wrap (a1.tmod 65535)) = 1 + a1 % 65535 := by rw [hm, IntKind.wrap_u32', IntKind.wrap_u32']; omega
  have hnr' : (1 + a1.tmod 65535) % 4294967296 = 1 + a1 % 65535 := by rw [hm]; omega
  generalize hK : 4 + a0 % 4 = K at *
  generalize hN : 1 + a1 % 65535 = M at *
  have k4 : 4 ≤ K := by omega
  have k7 : K ≤ 7 := by omega
  have hmay : mayB K 0 = true := by
    have : K = 4 ∨ K = 5 ∨ K = 6 ∨ K = 7 := by omega
    rcases this with h | h | h | h <;> rw [h] <;> decide +kernel
  have hok : (Pk.mk K M 0 []).ok := ⟨by show (0 : Int) ≤ 0; decide, by show (0 : Int) < 256; decide, by show 0 ≤ M; omega, by show M < 4294967296; omega, (fun p hp => by cases hp), by show 0 ≤ 1000; decide⟩
  have hS : packL (Pk.mk K M 0 []) = two M := by unfold packL; simp
  have hid : ∀ l, idT (str (two M ++ l)) 0 = (M, str l, 0) := fun l => id_back M l (by omega) (by omega)
  have e1 : str (two M) ++ ⟨#[0]⟩ = str (two M ++ [0]) := (str_append _ _).symm
  have e2 : str (two M) ++ ⟨#[0, 0]⟩ = str (two M ++ [0, 0]) := (str_append _ _).symm
  refine walk1 a0 a1 w hT K hkr k4 k7 M hnr hnr' (str (two M)) _ _ (by rw [str_size]; rfl) rfl rfl ?_ ?_
  · intro W
    have := packtext_calls W (Pk.mk K M 0 []) none 0 hok (PropsAt.nil W 0)
    rw [hS] at this
    exact this
  · intro W s hW hs
    have key : ∃ s1 x1 s2 x2 s3 x3, PackOf K s M 0 [] 0 s1 x1 s2 x2 s3 x3 := by
      have c0 : codeT K (str ([UInt8.ofNat (0 : Int).toNat] ++ [])) 0 = (0, str [], 0) := code_back K 0 [] (by decide) (by decide) hmay
      have c1 : codeT K (str ([UInt8.ofNat (0 : Int).toNat] ++ [0])) 0 = (0, str [0], 0) := code_back K 0 [0] (by decide) (by decide) hmay
      rcases hs with rfl | rfl | rfl
      · have := hid []
        rw [List.append_nil] at this
        exact ⟨_, _, _, _, _, _, this, rfl, rfl, rfl⟩
      · rw [e1]
        exact ⟨_, _, str [], 0, str [], 0, hid [0], c0, rfl, rfl⟩
      · rw [e2]
        exact ⟨_, _, str [0], 0, str [], 0, hid [0, 0], c1, take_nil1 _ [], rfl⟩
    obtain ⟨s1, x1, s2, x2, s3, x3, hof⟩ := key
    refine (pack_calls W K s hW k4 k7 hof ⟨K, M, 0, []⟩ rfl).mono ?_
    rintro e w' ⟨v, rfl, o, b⟩
    obtain ⟨a, c, rfl⟩ := o.form
    exact ⟨a, c, rfl, b⟩

set_option maxRecDepth 100000 in
set_option maxHeartbeats 2000000 in
theorem lifted (os : Os) (started : os.Started) (H : Type) (enc : TypeId × Value → H) (F : Stop.Interp) :
    ReturnsInHanded {} Tryd.checked os 11 .any ((OpenSpec.ofChange Rows.publishShortSpec).preRow enc Tryd.prog Tryd.f11 Rows.publishShortRow.domain false Rows.publishShortRow.laid) (((OpenSpec.ofChange Rows.publishShortSpec).at F).post enc Tryd.prog Tryd.f11 false true false false) := by
  obtain ⟨places, hx⟩ := reads os enc
  refine returnsInHanded_of_row (C := Tryd.checked) (s := OpenSpec.ofChange Rows.publishShortSpec) own started (by kernel_rfl) Tryd.func11
    (witness_row_at (enc := enc) (C := Tryd.checked) false (laidWorld os) #[.int .i64 0, .int .u32 0] rfl (by kernel_rfl) (by kernel_rfl) (by kernel_rfl)
      (OpenSpec.preRow_of_cond 8 hx (by kernel_rfl) (fun k hk => by cases hk) (by kernel_rfl) (laid_met os))) ?_
  intro W base args ds gs before hval0 hW _ _ _ hL _ _
  have hval : ∀ (j : Nat) t v, Tryd.f11.params[j]? = some t → args[j]? = some v → Value.okWide Tryd.prog W .any base t v := hval0
  have hW' := hW
  obtain ⟨p, q, hA0, hV, rfl, hfz, hnd⟩ := hW
  have hA : DataW.TrodAll enc Tryd.prog W 0 (fun _ => true) true Tryd.f11.params.toList args.toList ds p := hA0
  rw [Tryd.params11] at hA hval
  obtain ⟨v0, vs0, d0, ds0, p0, q0, hargs, rfl, rfl, h0, r0⟩ := trodAll_cons hA
  obtain ⟨v1, vs1, d1, ds1, p1, q1, rfl, rfl, rfl, h1, r1⟩ := trodAll_cons r0
  obtain ⟨rfl, rfl, rfl⟩ := trodAll_nil r1
  obtain rfl : args = #[v0, v1] := by cases args; simp_all
  obtain ⟨rfl, rfl⟩ := trodVars_none hV
  obtain ⟨a0, rfl, rfl, rfl, w0⟩ := open_int Tryd.underlying3 (hval 0 3 v0 rfl rfl) h0
  obtain ⟨a1, rfl, rfl, rfl, w1⟩ := open_int Tryd.underlying39 (hval 1 39 v1 rfl rfl) h1
  clear hA0 hval0
  have hT : Tabs W := utf8Tabs_of_readsT (U8Types.of196 Tryd.lays196) ⟨by kernel_rfl, by kernel_rfl, by kernel_rfl, by kernel_rfl, by kernel_rfl, by kernel_rfl, by kernel_rfl⟩ (first_eq ▸ Lib.laidMet.reads hL (.tail _ (.head _))) (accept_eq ▸ Lib.laidMet.reads hL (.head _))
  refine (walk a0 w0 a1 w1 W  hT).mono fun e W' ⟨he, bel⟩ => ?_
  subst he
  exact ⟨_, rfl, _, _, _, [], _, [], hW', trodAll_mk1 (shut_bool Tryd.underlying4 _), (trodAll_cons_mk (shut_int Tryd.underlying3 w0) (trodAll_cons_mk (shut_int Tryd.underlying39 w1) trodAll_mk0)), rfl, bel.frame _, fun h => by cases h⟩

theorem said : Rows.PublishShortSaid :=
  OpenClaim.holds_of_cond 11 Tryd.f11 rfl rfl rfl rfl rfl rfl rfl ⟨rfl, rfl, rfl, rfl, rfl⟩ rfl rfl rfl rfl rfl (by kernel_rfl) Tryd.func11 closed
    (of_decide_eq_true (by kernel_rfl)) (by unfold Func.isWrapper; first | (rw [if_pos (by decide +kernel)]; kernel_rfl) | (rw [if_neg (by decide +kernel)]; exact ⟨rfl, rfl⟩))
    (fun os started H enc _ F => by rw [OpenClaim.pre_eq_preRow]; exact lifted os started H enc F)

theorem plain (f : FuncId) (fn : Func) (hf : Tryd.pinned.checked.prog.funcNamed Tryd.f11.name = some f) (hfn : Tryd.pinned.checked.prog.funcs[f]? = some fn) :
    false = Tryd.pinned.checked.prog.looks [] ∧ ∀ (j : Nat) t, fn.params[j]? = some t → Tryd.pinned.checked.prog.wantsStandIn t = false := by
  obtain rfl : f = 11 := Option.some.inj ((show Tryd.prog.funcNamed Tryd.f11.name = some 11 by kernel_rfl).symm.trans hf) |>.symm
  obtain rfl : fn = Tryd.f11 := (Option.some.inj (Tryd.func11.symm.trans hfn)).symm
  refine ⟨fac_looks, fun j t ht => ?_⟩
  rw [Tryd.params11] at ht
  have hm : t = 3 ∨ t = 39 := by simpa using Array.mem_of_getElem? ht
  rcases hm with rfl | rfl
  · exact (show Tryd.prog.wantsStandIn 3 = false by kernel_rfl)
  · exact (show Tryd.prog.wantsStandIn 39 = false by kernel_rfl)

end Go.Proofs.YtdbocpkeafcmaaaDoor.publishShort
namespace Go.Proofs.YtdbocpkeafcmaaaDoor
/-- The statement. -/
theorem publishShort_holds : Rows.PublishShortCardSaid :=
  Claim7.holds_tied_plain_at .later [] _ _ _ _ publishShort.said (fun _ h => by cases h) publishShort.wft (fun _ h => by cases h) publishShort_row_tie rfl ⟨rfl, rfl⟩ fac_main rfl publishShort.plain publishShort.goes
#print axioms publishShort_holds
end Go.Proofs.YtdbocpkeafcmaaaDoor
