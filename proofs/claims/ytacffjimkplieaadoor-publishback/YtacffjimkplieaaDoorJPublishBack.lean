/-
  Any publish, any kind, identifier, place and text: messages and answers go as packets, and come back.
  Its conditions: none beside those of the row itself (the two tables of unicode/utf8 start as the library's text lays them: the card ties them).
-/
import Derived.Test.YtacffjimkplieaaDoorCards
import Derived.Test.YtacffjimkplieaaDoorTie
import Derived.Test.YtacffjimkplieaaDoorJPublishBackw
import Derived.Test.YtacffjimkplieaaDoorJPublishBackf
import Derived.Test.YtacffjimkplieaaDoorJPbk2
import Derived.ProofKit
import Derived.Deep.RegionHeld3
import Derived.Deep.CutRange
import Derived.OpenShut
import Derived.ShutString
import Derived.ChangeOld
import Derived.Deep.DeepHandedRow
import Derived.Deep.DeepWitnessRowRef
import Derived.Lib.LaidU8T
import Derived.Lib.LaidTab
import Derived.Lib.LaidIn
namespace Go.Proofs.YtacffjimkplieaaDoor.publishBack
open Go.ChangeShapes Go.WideShapes Go.ChangeAt Go.RowKit Go.Lib
open Go.ChangeMaps (open_string shut_string)
set_option linter.unusedVariables false

set_option maxRecDepth 100000 in
set_option maxHeartbeats 2000000 in
theorem walk1 (dup ret : Bool) (q i : Int) (va : Option Addr) (vn vc : Nat) (tp pl : ByteArray) (a1 a2 a3 : Int) (why : ByteArray) (w : World) (hT : Tabs w)
    (Q : Int) (hQ : q.tmod 3 = Q) (hQ0 : 0 ≤ Q) (hQ2 : Q ≤ 2) (D : Bool) (hD : (dup && decide (0 < Q)) = D) (L P M : ByteArray)
    (hLET : ∀ V, Calls Tryd.prog 38 #[.string tp] V (fun e w' => e = .returned (.string L) ∧ Below V.heap.size V w'))
    (hCUT : ∀ V, Calls Tryd.prog 11 #[.string pl, .int .i64 50] V (fun e w' => e = .returned (.string P) ∧ V = w'))
    (n n2 : Int) (h20 : 0 ≤ a2) (h21 : a2 < 4294967296) (hn2 : 1 + a2 % 65535 = n2) (hn : (if Q = 0 then 0 else n2) = n) (FN : Int) (BODY : ByteArray)
    (hF : ∀ V vs, Calls Tryd.prog 39 #[.agg #[.bool D, .bool ret, .int .u8 Q, .int .u32 n, vs, .string L, .string P]] V (fun e w' => e = .returned (.int .i64 FN) ∧ Below V.heap.size V w'))
    (hX : ∀ V va vn vc, PropsAt V (.slice va vn vc) [⟨3, 0, M, ⟨#[]⟩⟩] → Calls Tryd.prog 40 #[.agg #[.bool D, .bool ret, .int .u8 Q, .int .u32 n, .slice va vn vc, .string L, .string P]] V (fun e w' => e = .returned (.string BODY) ∧ Below V.heap.size V w'))
    (hPA : ∀ V, Tabs V → Calls Tryd.prog 30 #[.int .i64 FN, .string BODY] V (fun e w' => ∃ ya yc, e = .returned (.tuple #[.agg #[.bool D, .bool ret, .int .u8 Q, .int .u32 n, .slice ya 1 yc, .string L, .string P], .int .i64 0]) ∧ OwnP V.heap.size 85 w' (.slice ya 1 yc) [⟨3, 0, M, ⟨#[]⟩⟩] ∧ Below V.heap.size V w'))
    (hTO : ∀ V va vn vc, PropsAt V (.slice va vn vc) [⟨3, 0, M, ⟨#[]⟩⟩] → Calls Tryd.prog 35 #[.agg #[.bool D, .bool ret, .int .u8 Q, .int .u32 n, .slice va vn vc, .string L, .string P]] V (fun e w' => ∃ p m a, e = .returned (.agg #[.bool D, .bool ret, .int .u8 Q, .int .u32 n, .slice p m a, .string L, .string P]) ∧ PropsAt w' (.slice p m a) [⟨3, 0, M, ⟨#[]⟩⟩] ∧ Below V.heap.size V w'))
    (hSM : ∀ V va vn vc ua un uc, PropsAt V (.slice va vn vc) [⟨3, 0, M, ⟨#[]⟩⟩] → PropsAt V (.slice ua un uc) [⟨3, 0, M, ⟨#[]⟩⟩] → Calls Tryd.prog 34 #[.agg #[.bool D, .bool ret, .int .u8 Q, .int .u32 n, .slice va vn vc, .string L, .string P], .agg #[.bool D, .bool ret, .int .u8 Q, .int .u32 n, .slice ua un uc, .string L, .string P]] V (fun e w' => e = .returned (.bool true) ∧ Below V.heap.size V w'))
    (hCK : ∀ V, Calls Tryd.prog 29 #[.int .i64 3, .int .i64 FN] V (fun e w' => e = .returned (.int .i64 0) ∧ V = w'))
    (k : Int) (hk : 4 + bits .and .i64 a1 3 = k) (hk4 : 4 ≤ k) (hk7 : k ≤ 7)
    (hA1 : 1 ≤ n2) (hA2 : n2 ≤ 65535) (hMt : ∀ tail, takeR (placeN k false) (str (propsL [⟨31, 0, M, ⟨#[]⟩⟩] ++ tail)) 0 = ([⟨31, 0, M, ⟨#[]⟩⟩], str tail, 0)) (hMok : (Pr.mk 31 0 M ⟨#[]⟩).ok)
    (hWHY : ∀ V, Calls Tryd.prog 38 #[.string why] V (fun e w' => e = .returned (.string M) ∧ Below V.heap.size V w')) :
    Calls Tryd.prog 7 #[.agg #[.bool dup, .bool ret, .int .u8 q, .int .u32 i, .slice va vn vc, .string tp, .string pl], .int .i64 a1, .int .u32 a2, .int .i64 a3, .string why] w fun e w' => e = .returned (.bool true) ∧ Below w.heap.size w w' := by
  have HT := Lib.hid hT
  have HLET := Lib.hid hLET
  have HCUT := Lib.hid hCUT
  have HWHY := Lib.hid hWHY
  have hwr : IntKind.u8.wrap Q = Q := by rw [IntKind.wrap_u8']; omega
  have hwr2 : Q % 256 = Q := by omega
  have HF := Lib.hid hF
  have HX := Lib.hid hX
  have HPA := Lib.hid hPA
  have HCK := Lib.hid hCK
  have HTO := Lib.hid hTO
  have HMT := Lib.hid hMt
  have HSM := Lib.hid hSM
  have HN := Lib.hid hn
  have HK := Lib.hid hk
  have hr0 : 0 ≤ a2 % 65535 := by omega
  have hr1 : a2 % 65535 ≤ 65534 := by omega
  clear hT hLET hCUT hWHY hF hX hPA hCK hn hk hTO hSM hMt
  go_enter Tryd.func7, Tryd.ntmps7
  go_wp2_with fail
  have hbx := heap_alloc_new w (.cells #[.bool dup, .bool ret, .int .u8 q, .int .u32 i, .slice va vn vc, .string tp, .string pl] 63)
  have b0 := below_one w (.cells #[.bool dup, .bool ret, .int .u8 q, .int .u32 i, .slice va vn vc, .string tp, .string pl] 63)
  obtain ⟨d0, d1, d2, d3, d4, d5, d6, df⟩ := cells7 hbx
  have J0 := Lib.hid (show Bx w dup ret q tp pl (w.alloc (.cells #[.bool dup, .bool ret, .int .u8 q, .int .u32 i, .slice va vn vc, .string tp, .string pl] 63)) from ⟨b0, d0, d1, d2, d5, d6⟩)
  clear hbx b0 d0 d1 d2 d3 d4 d5 d6 df
  generalize w.alloc (.cells #[.bool dup, .bool ret, .int .u8 q, .int .u32 i, .slice va vn vc, .string tp, .string pl] 63) = W0 at *
  refine (awake7_calls _ (HT.out.below J0.out.bel)).mono ?_
  rintro e W1 ⟨rfl, b1⟩
  have HJ := Lib.hid (J0.out.below b1)
  clear b1 J0
  go_upto_region 3 with fail
  go_cut [11] from 18 (fun v11 wx => X3 w D ret Q L P M v11 wx)
  case first =>
   have HJ := Lib.hid (show Bx w dup ret q tp pl W1.drew from ⟨HJ.out.bel.drew, HJ.out.d0, HJ.out.d1, HJ.out.d2, HJ.out.d5, HJ.out.d6⟩)
   cases dup
   · obtain rfl : D = false := by rw [← hD]; rfl
     refine wp_region_held_drew (S := BxC w false ret q tp pl) (by kernel_rfl) HJ.out.c (fun hHeld => ?_)
     generalize W1.drew = W2 at *
     refine wpAnyH_take (i := 0) (oi := _) (v := ?_) rfl (by kernel_rfl) (by kernel_rfl) (by kernel_rfl) (fun _ _ _ h => h) (Or.inl ⟨by rfl, ?_⟩) (by assumption) ?_
     rotate_left
     · intro wx hSw
       obtain ⟨y0, y1, y2, y5, y6⟩ := hSw
       (go_simp) <;> (with_reducible rfl)
     simp only [Act.put, List.getElem_toArray, List.getElem_cons_zero, List.setIfInBounds_toArray, List.set_cons_zero, List.set_cons_succ]
     refine wpAnyH_take (i := 1) (oi := _) (v := ?_) rfl (by kernel_rfl) (by kernel_rfl) (by kernel_rfl) (fun _ _ _ h => h) (Or.inl ⟨by rfl, ?_⟩) (by assumption) ?_
     rotate_left
     · intro wx hSw
       obtain ⟨y0, y1, y2, y5, y6⟩ := hSw
       (go_simp) <;> (with_reducible rfl)
     simp only [Act.put, List.getElem_toArray, List.getElem_cons_zero, List.getElem_cons_succ, List.setIfInBounds_toArray, List.set_cons_zero, List.set_cons_succ]
     refine wpAnyH_take (i := 2) (oi := _) (v := ?_) rfl (by kernel_rfl) (by kernel_rfl) (by kernel_rfl) (fun _ _ _ h => h) (Or.inl ⟨by rfl, ?_⟩) (by assumption) ?_
     rotate_left
     · intro wx hSw
       obtain ⟨y0, y1, y2, y5, y6⟩ := hSw
       (go_simp) <;> (with_reducible rfl)
     simp only [Act.put, List.getElem_toArray, List.getElem_cons_zero, List.getElem_cons_succ, List.setIfInBounds_toArray, List.set_cons_zero, List.set_cons_succ]
     refine wpAnyH_take (i := 3) (oi := _) (v := undef) rfl (by kernel_rfl) (by kernel_rfl) (by kernel_rfl) (fun _ _ _ h => h) (Or.inr ⟨by rfl, rfl⟩) (by assumption) ?_
     simp only [Act.put, List.getElem_toArray, List.getElem_cons_zero, List.getElem_cons_succ, List.setIfInBounds_toArray, List.set_cons_zero, List.set_cons_succ]
     refine wpAnyH_take (i := 4) (oi := _) (v := undef) rfl (by kernel_rfl) (by kernel_rfl) (by kernel_rfl) (fun _ _ _ h => h) (Or.inr ⟨by rfl, rfl⟩) (by assumption) ?_
     simp only [Act.put, List.getElem_toArray, List.getElem_cons_zero, List.getElem_cons_succ, List.setIfInBounds_toArray, List.set_cons_zero, List.set_cons_succ]
     refine wpAnyH_take (i := 5) (oi := _) (v := undef) rfl (by kernel_rfl) (by kernel_rfl) (by kernel_rfl) (fun _ _ _ h => h) (Or.inr ⟨by rfl, rfl⟩) (by assumption) ?_
     simp only [Act.put, List.getElem_toArray, List.getElem_cons_zero, List.getElem_cons_succ, List.setIfInBounds_toArray, List.set_cons_zero, List.set_cons_succ]
     refine wpAnyH_take (i := 6) (oi := _) (v := undef) rfl (by kernel_rfl) (by kernel_rfl) (by kernel_rfl) (fun _ _ _ h => h) (Or.inr ⟨by rfl, rfl⟩) (by assumption) ?_
     simp only [Act.put, List.getElem_toArray, List.getElem_cons_zero, List.getElem_cons_succ, List.setIfInBounds_toArray, List.set_cons_zero, List.set_cons_succ]
     refine wpAnyH_take (i := 7) (oi := _) (v := ?_) rfl (by kernel_rfl) (by kernel_rfl) (by kernel_rfl) (fun _ _ _ h => h) (Or.inl ⟨by rfl, ?_⟩) (by assumption) ?_
     rotate_left
     · intro wx hSw
       obtain ⟨y0, y1, y2, y5, y6⟩ := hSw
       (go_simp) <;> (with_reducible rfl)
     simp only [Act.put, List.getElem_toArray, List.getElem_cons_zero, List.getElem_cons_succ, List.setIfInBounds_toArray, List.set_cons_zero, List.set_cons_succ]
     refine wpAnyH_take (i := 8) (oi := _) (v := ?_) rfl (by kernel_rfl) (by kernel_rfl) (by kernel_rfl) (fun _ _ _ h => h) (Or.inl ⟨by rfl, ?_⟩) (by assumption) ?_
     rotate_left
     · intro wx hSw
       obtain ⟨y0, y1, y2, y5, y6⟩ := hSw
       (go_simp) <;> (with_reducible rfl)
     simp only [Act.put, List.getElem_toArray, List.getElem_cons_zero, List.getElem_cons_succ, List.setIfInBounds_toArray, List.set_cons_zero, List.set_cons_succ]
     refine wpAnyH_take (i := 9) (oi := _) (v := ?_) rfl (by kernel_rfl) (by kernel_rfl) (by kernel_rfl) (fun _ _ _ h => h) (Or.inl ⟨by rfl, ?_⟩) (by assumption) ?_
     rotate_left
     · intro wx hSw
       obtain ⟨y0, y1, y2, y5, y6⟩ := hSw
       (go_simp) <;> (with_reducible rfl)
     simp only [Act.put, List.getElem_toArray, List.getElem_cons_zero, List.getElem_cons_succ, List.setIfInBounds_toArray, List.set_cons_zero, List.set_cons_succ]
     refine wpAnyH_take (i := 10) (oi := _) (v := ?_) rfl (by kernel_rfl) (by kernel_rfl) (by kernel_rfl) (fun _ _ _ h => h) (Or.inl ⟨by rfl, ?_⟩) (by assumption) ?_
     rotate_left
     · intro wx hSw
       obtain ⟨y0, y1, y2, y5, y6⟩ := hSw
       (go_simp) <;> (with_reducible rfl)
     simp only [Act.put, List.getElem_toArray, List.getElem_cons_zero, List.getElem_cons_succ, List.setIfInBounds_toArray, List.set_cons_zero, List.set_cons_succ]
     refine wpAnyH_take (i := 11) (oi := _) (v := ?_) rfl (by kernel_rfl) (by kernel_rfl) (by kernel_rfl) (fun _ _ _ h => h) (Or.inl ⟨by rfl, ?_⟩) (by assumption) ?_
     rotate_left
     · intro wx hSw
       obtain ⟨y0, y1, y2, y5, y6⟩ := hSw
       (go_simp) <;> (with_reducible rfl)
     simp only [Act.put, List.getElem_toArray, List.getElem_cons_zero, List.getElem_cons_succ, List.setIfInBounds_toArray, List.set_cons_zero, List.set_cons_succ]
     refine wpAnyH_take (i := 12) (oi := _) (v := ?_) rfl (by kernel_rfl) (by kernel_rfl) (by kernel_rfl) (fun _ _ _ h => h) (Or.inl ⟨by rfl, ?_⟩) (by assumption) ?_
     rotate_left
     · intro wx hSw
       obtain ⟨y0, y1, y2, y5, y6⟩ := hSw
       (go_simp) <;> (with_reducible rfl)
     simp only [Act.put, List.getElem_toArray, List.getElem_cons_zero, List.getElem_cons_succ, List.setIfInBounds_toArray, List.set_cons_zero, List.set_cons_succ]
     refine wpAnyH_take (i := 13) (oi := _) (v := ?_) rfl (by kernel_rfl) (by kernel_rfl) (by kernel_rfl) (fun _ _ _ h => h) (Or.inl ⟨by rfl, ?_⟩) (by assumption) ?_
     rotate_left
     · intro wx hSw
       obtain ⟨y0, y1, y2, y5, y6⟩ := hSw
       (go_simp) <;> (with_reducible rfl)
     simp only [Act.put, List.getElem_toArray, List.getElem_cons_zero, List.getElem_cons_succ, List.setIfInBounds_toArray, List.set_cons_zero, List.set_cons_succ]
     refine wpAnyH_take (i := 14) (oi := _) (v := ?_) rfl (by kernel_rfl) (by kernel_rfl) (by kernel_rfl) (fun _ _ _ h => h) (Or.inl ⟨by rfl, ?_⟩) (by assumption) ?_
     rotate_left
     · intro wx hSw
       obtain ⟨y0, y1, y2, y5, y6⟩ := hSw
       (go_simp) <;> (with_reducible rfl)
     simp only [Act.put, List.getElem_toArray, List.getElem_cons_zero, List.getElem_cons_succ, List.setIfInBounds_toArray, List.set_cons_zero, List.set_cons_succ]
     refine wpAnyH_take (i := 16) (oi := _) (v := ?_) rfl (by kernel_rfl) (by kernel_rfl) (by kernel_rfl) (fun _ _ _ h => h) (Or.inl ⟨by rfl, ?_⟩) (by assumption) ?_
     rotate_left
     · intro wx hSw
       obtain ⟨y0, y1, y2, y5, y6⟩ := hSw
       (go_simp) <;> (with_reducible rfl)
     simp only [Act.put, List.getElem_toArray, List.getElem_cons_zero, List.getElem_cons_succ, List.setIfInBounds_toArray, List.set_cons_zero, List.set_cons_succ]
     refine wpAnyH_take (i := 17) (oi := _) (v := ?_) rfl (by kernel_rfl) (by kernel_rfl) (by kernel_rfl) (fun _ _ _ h => h) (Or.inl ⟨by rfl, ?_⟩) (by assumption) ?_
     rotate_left
     · intro wx hSw
       obtain ⟨y0, y1, y2, y5, y6⟩ := hSw
       (go_simp) <;> (with_reducible rfl)
     simp only [Act.put, List.getElem_toArray, List.getElem_cons_zero, List.getElem_cons_succ, List.setIfInBounds_toArray, List.set_cons_zero, List.set_cons_succ]
     refine wpAnyH_take (i := 19) (oi := _) (v := ?_) rfl (by kernel_rfl) (by kernel_rfl) (by kernel_rfl) (fun _ _ _ h => h) (Or.inl ⟨by rfl, ?_⟩) (by assumption) ?_
     rotate_left
     · intro wx hSw
       obtain ⟨y0, y1, y2, y5, y6⟩ := hSw
       (go_simp) <;> (with_reducible rfl)
     simp only [Act.put, List.getElem_toArray, List.getElem_cons_zero, List.getElem_cons_succ, List.setIfInBounds_toArray, List.set_cons_zero, List.set_cons_succ]
     refine wpAnyH_ready (rs := [15, 24]) (by kernel_rfl) (by simp) ?_
     refine AllReadyH.cons (o := _) rfl (fun K hK => ?_) ?_
     · simp only [Act.put, List.getElem_toArray, List.getElem_cons_zero, List.getElem_cons_succ, List.setIfInBounds_toArray, List.set_cons_zero, List.set_cons_succ]
       go_simp
       refine (HLET.out _).mono ?_
       rintro e V' ⟨rfl, b⟩
       go_simp
       have HJ := Lib.hid (HJ.out.below b)
       with_reducible refine hK.out _ _ HJ.out.c (fun hHeld => ?_)
       clear b
       clear hK K
       (try simp only [Act.put, List.getElem_toArray, List.getElem_cons_zero, List.getElem_cons_succ, List.setIfInBounds_toArray, List.set_cons_zero, List.set_cons_succ])
       refine wpAnyH_ready (rs := [18, 24]) (by kernel_rfl) (by simp) ?_
       refine AllReadyH.cons (o := _) rfl (fun K hK => ?_) ?_
       · simp only [Act.put, List.getElem_toArray, List.getElem_cons_zero, List.getElem_cons_succ, List.setIfInBounds_toArray, List.set_cons_zero, List.set_cons_succ]
         go_simp
         refine (HCUT.out _).mono ?_
         rintro e V' ⟨rfl, rfl⟩
         go_simp
         with_reducible refine hK.out _ _ HJ.out.c (fun hHeld => ?_)
         clear hK K
         (try simp only [Act.put, List.getElem_toArray, List.getElem_cons_zero, List.getElem_cons_succ, List.setIfInBounds_toArray, List.set_cons_zero, List.set_cons_succ])
         refine wpAnyH_ready (rs := [20, 24]) (by kernel_rfl) (by simp) ?_
         refine AllReadyH.cons (o := _) rfl (fun K hK => ?_) ?_
         · simp only [Act.put, List.getElem_toArray, List.getElem_cons_zero, List.getElem_cons_succ, List.setIfInBounds_toArray, List.set_cons_zero, List.set_cons_succ]
           go_simp
           refine (HWHY.out _).mono ?_
           rintro e V' ⟨rfl, b⟩
           go_simp
           have HJ := Lib.hid (HJ.out.below b)
           with_reducible refine hK.out _ _ HJ.out.c (fun hHeld => ?_)
           clear b
           clear hK K
           (try simp only [Act.put, List.getElem_toArray, List.getElem_cons_zero, List.getElem_cons_succ, List.setIfInBounds_toArray, List.set_cons_zero, List.set_cons_succ])
           refine wpAnyH_take (i := 21) (oi := _) (v := ?_) rfl (by kernel_rfl) (by kernel_rfl) (by kernel_rfl) (fun _ _ _ h => h) (Or.inl ⟨by rfl, ?_⟩) (by assumption) ?_
           rotate_left
           · intro wx hSw
             obtain ⟨y0, y1, y2, y5, y6⟩ := hSw
             (go_simp) <;> (with_reducible rfl)
           simp only [Act.put, List.getElem_toArray, List.getElem_cons_zero, List.getElem_cons_succ, List.setIfInBounds_toArray, List.set_cons_zero, List.set_cons_succ]
           refine wpAnyH_ready (rs := [22, 24]) (by kernel_rfl) (by simp) ?_
           refine AllReadyH.cons (o := _) rfl (fun K hK => ?_) ?_
           · simp only [Act.put, List.getElem_toArray, List.getElem_cons_zero, List.getElem_cons_succ, List.setIfInBounds_toArray, List.set_cons_zero, List.set_cons_succ]
             go_simp
             with_reducible refine hK.out _ _ (HJ.out.below (below_one _ (.cells #[.int .i64 3, .int .u32 0, .string M, .string ⟨#[]⟩] 85))).c (fun hHeld => ?_)
             clear hK K
             (try simp only [Act.put, List.getElem_toArray, List.getElem_cons_zero, List.getElem_cons_succ, List.setIfInBounds_toArray, List.set_cons_zero, List.set_cons_succ])
             refine wpAnyH_take (i := 23) (oi := _) (v := ?_) rfl (by kernel_rfl) (by kernel_rfl) (by kernel_rfl) (fun _ _ _ h => h) (Or.inl ⟨by rfl, ?_⟩) (by assumption) ?_
             rotate_left
             · intro wx hSw
               obtain ⟨y0, y1, y2, y5, y6⟩ := hSw
               (go_simp) <;> (with_reducible rfl)
             simp only [Act.put, List.getElem_toArray, List.getElem_cons_zero, List.getElem_cons_succ, List.setIfInBounds_toArray, List.set_cons_zero, List.set_cons_succ]
             refine wpAnyH_ready (rs := [24]) (by kernel_rfl) (by simp) ?_
             refine AllReadyH.cons (o := _) rfl (fun K hK => ?_) AllReadyH.nil
             simp only [Act.put, List.getElem_toArray, List.getElem_cons_zero, List.getElem_cons_succ, List.setIfInBounds_toArray, List.set_cons_zero, List.set_cons_succ]
             go_simp
             with_reducible refine hK.out _ _ ((HJ.out.below (below_one _ (.cells #[.int .i64 3, .int .u32 0, .string M, .string ⟨#[]⟩] 85))).below (below_one _ (.cells #[.bool false, .bool false, .int .u8 0, .int .u32 0, .slice none 0 0, .string ⟨#[]⟩, .string ⟨#[]⟩] 63))).c (fun hHeld => ?_)
             clear hK K
             (try simp only [Act.put, List.getElem_toArray, List.getElem_cons_zero, List.getElem_cons_succ, List.setIfInBounds_toArray, List.set_cons_zero, List.set_cons_succ])
             refine wpAnyH_ready (rs := [25]) (by kernel_rfl) (by simp) ?_
             refine AllReadyH.cons (o := _) rfl (fun K hK => ?_) AllReadyH.nil
             simp only [List.getElem_toArray, List.getElem_cons_zero, List.getElem_cons_succ]
             go_simp
             with_reducible refine hK.out _ _ (end3A HJ.out).1 (fun hHeld => ?_)
             clear hK K
             (try simp only [Act.put, List.getElem_toArray, List.getElem_cons_zero, List.getElem_cons_succ, List.setIfInBounds_toArray, List.set_cons_zero, List.set_cons_succ])
             refine wpAnyH_done (by kernel_rfl) ?_ _
             go_wp2_with fail
             go_meet
             with_reducible exact (end3A HJ.out).2
           refine AllReadyH.cons (o := _) rfl (fun K hK => ?_) AllReadyH.nil
           simp only [Act.put, List.getElem_toArray, List.getElem_cons_zero, List.getElem_cons_succ, List.setIfInBounds_toArray, List.set_cons_zero, List.set_cons_succ]
           go_simp
           with_reducible refine hK.out _ _ (HJ.out.below (below_one _ (.cells #[.bool false, .bool false, .int .u8 0, .int .u32 0, .slice none 0 0, .string ⟨#[]⟩, .string ⟨#[]⟩] 63))).c (fun hHeld => ?_)
           clear hK K
           (try simp only [Act.put, List.getElem_toArray, List.getElem_cons_zero, List.getElem_cons_succ, List.setIfInBounds_toArray, List.set_cons_zero, List.set_cons_succ])
           refine wpAnyH_ready (rs := [22]) (by kernel_rfl) (by simp) ?_
           refine AllReadyH.cons (o := _) rfl (fun K hK => ?_) AllReadyH.nil
           simp only [Act.put, List.getElem_toArray, List.getElem_cons_zero, List.getElem_cons_succ, List.setIfInBounds_toArray, List.set_cons_zero, List.set_cons_succ]
           go_simp
           with_reducible refine hK.out _ _ ((HJ.out.below (below_one _ (.cells #[.bool false, .bool false, .int .u8 0, .int .u32 0, .slice none 0 0, .string ⟨#[]⟩, .string ⟨#[]⟩] 63))).below (below_one _ (.cells #[.int .i64 3, .int .u32 0, .string M, .string ⟨#[]⟩] 85))).c (fun hHeld => ?_)
           clear hK K
           (try simp only [Act.put, List.getElem_toArray, List.getElem_cons_zero, List.getElem_cons_succ, List.setIfInBounds_toArray, List.set_cons_zero, List.set_cons_succ])
           refine wpAnyH_take (i := 23) (oi := _) (v := ?_) rfl (by kernel_rfl) (by kernel_rfl) (by kernel_rfl) (fun _ _ _ h => h) (Or.inl ⟨by rfl, ?_⟩) (by assumption) ?_
           rotate_left
           · intro wx hSw
             obtain ⟨y0, y1, y2, y5, y6⟩ := hSw
             (go_simp) <;> (with_reducible rfl)
           simp only [Act.put, List.getElem_toArray, List.getElem_cons_zero, List.getElem_cons_succ, List.setIfInBounds_toArray, List.set_cons_zero, List.set_cons_succ]
           refine wpAnyH_ready (rs := [25]) (by kernel_rfl) (by simp) ?_
           refine AllReadyH.cons (o := _) rfl (fun K hK => ?_) AllReadyH.nil
           simp only [List.getElem_toArray, List.getElem_cons_zero, List.getElem_cons_succ]
           go_simp
           with_reducible refine hK.out _ _ (end3B HJ.out).1 (fun hHeld => ?_)
           clear hK K
           (try simp only [Act.put, List.getElem_toArray, List.getElem_cons_zero, List.getElem_cons_succ, List.setIfInBounds_toArray, List.set_cons_zero, List.set_cons_succ])
           refine wpAnyH_done (by kernel_rfl) ?_ _
           go_wp2_with fail
           go_meet
           with_reducible exact (end3B HJ.out).2
         refine AllReadyH.cons (o := _) rfl (fun K hK => ?_) AllReadyH.nil
         simp only [Act.put, List.getElem_toArray, List.getElem_cons_zero, List.getElem_cons_succ, List.setIfInBounds_toArray, List.set_cons_zero, List.set_cons_succ]
         go_simp
         with_reducible refine hK.out _ _ (HJ.out.below (below_one _ (.cells #[.bool false, .bool false, .int .u8 0, .int .u32 0, .slice none 0 0, .string ⟨#[]⟩, .string ⟨#[]⟩] 63))).c (fun hHeld => ?_)
         clear hK K
         (try simp only [Act.put, List.getElem_toArray, List.getElem_cons_zero, List.getElem_cons_succ, List.setIfInBounds_toArray, List.set_cons_zero, List.set_cons_succ])
         refine wpAnyH_ready (rs := [20]) (by kernel_rfl) (by simp) ?_
         refine AllReadyH.cons (o := _) rfl (fun K hK => ?_) AllReadyH.nil
         simp only [Act.put, List.getElem_toArray, List.getElem_cons_zero, List.getElem_cons_succ, List.setIfInBounds_toArray, List.set_cons_zero, List.set_cons_succ]
         go_simp
         refine (HWHY.out _).mono ?_
         rintro e V' ⟨rfl, b⟩
         go_simp
         have HZ := Lib.hid ((Blk.made (w := w) HJ.out.lt #[.bool false, .bool false, .int .u8 0, .int .u32 0, .slice none 0 0, .string ⟨#[]⟩, .string ⟨#[]⟩] 63).below b)
         have HJ := Lib.hid ((HJ.out.below (below_one _ (.cells #[.bool false, .bool false, .int .u8 0, .int .u32 0, .slice none 0 0, .string ⟨#[]⟩, .string ⟨#[]⟩] 63))).below b)
         with_reducible refine hK.out _ _ HJ.out.c (fun hHeld => ?_)
         clear b
         clear hK K
         (try simp only [Act.put, List.getElem_toArray, List.getElem_cons_zero, List.getElem_cons_succ, List.setIfInBounds_toArray, List.set_cons_zero, List.set_cons_succ])
         refine wpAnyH_take (i := 21) (oi := _) (v := ?_) rfl (by kernel_rfl) (by kernel_rfl) (by kernel_rfl) (fun _ _ _ h => h) (Or.inl ⟨by rfl, ?_⟩) (by assumption) ?_
         rotate_left
         · intro wx hSw
           obtain ⟨y0, y1, y2, y5, y6⟩ := hSw
           (go_simp) <;> (with_reducible rfl)
         simp only [Act.put, List.getElem_toArray, List.getElem_cons_zero, List.getElem_cons_succ, List.setIfInBounds_toArray, List.set_cons_zero, List.set_cons_succ]
         refine wpAnyH_ready (rs := [22]) (by kernel_rfl) (by simp) ?_
         refine AllReadyH.cons (o := _) rfl (fun K hK => ?_) AllReadyH.nil
         simp only [Act.put, List.getElem_toArray, List.getElem_cons_zero, List.getElem_cons_succ, List.setIfInBounds_toArray, List.set_cons_zero, List.set_cons_succ]
         go_simp
         with_reducible refine hK.out _ _ (HJ.out.below (below_one _ (.cells #[.int .i64 3, .int .u32 0, .string M, .string ⟨#[]⟩] 85))).c (fun hHeld => ?_)
         clear hK K
         (try simp only [Act.put, List.getElem_toArray, List.getElem_cons_zero, List.getElem_cons_succ, List.setIfInBounds_toArray, List.set_cons_zero, List.set_cons_succ])
         refine wpAnyH_take (i := 23) (oi := _) (v := ?_) rfl (by kernel_rfl) (by kernel_rfl) (by kernel_rfl) (fun _ _ _ h => h) (Or.inl ⟨by rfl, ?_⟩) (by assumption) ?_
         rotate_left
         · intro wx hSw
           obtain ⟨y0, y1, y2, y5, y6⟩ := hSw
           (go_simp) <;> (with_reducible rfl)
         simp only [Act.put, List.getElem_toArray, List.getElem_cons_zero, List.getElem_cons_succ, List.setIfInBounds_toArray, List.set_cons_zero, List.set_cons_succ]
         refine wpAnyH_ready (rs := [25]) (by kernel_rfl) (by simp) ?_
         refine AllReadyH.cons (o := _) rfl (fun K hK => ?_) AllReadyH.nil
         simp only [List.getElem_toArray, List.getElem_cons_zero, List.getElem_cons_succ]
         obtain ⟨z0, z1, z2, z3, z4, z5, z6, zf⟩ := cells7 HZ.out.at_
         have hzl := HZ.out.lt
         go_simp
         with_reducible refine hK.out _ _ (end3C HJ.out HZ.out).1 (fun hHeld => ?_)
         clear hK K
         (try simp only [Act.put, List.getElem_toArray, List.getElem_cons_zero, List.getElem_cons_succ, List.setIfInBounds_toArray, List.set_cons_zero, List.set_cons_succ])
         refine wpAnyH_done (by kernel_rfl) ?_ _
         go_wp2_with fail
         go_meet
         with_reducible exact (end3C HJ.out HZ.out).2
       refine AllReadyH.cons (o := _) rfl (fun K hK => ?_) AllReadyH.nil
       simp only [Act.put, List.getElem_toArray, List.getElem_cons_zero, List.getElem_cons_succ, List.setIfInBounds_toArray, List.set_cons_zero, List.set_cons_succ]
       go_simp
       with_reducible refine hK.out _ _ (HJ.out.below (below_one _ (.cells #[.bool false, .bool false, .int .u8 0, .int .u32 0, .slice none 0 0, .string ⟨#[]⟩, .string ⟨#[]⟩] 63))).c (fun hHeld => ?_)
       clear hK K
       (try simp only [Act.put, List.getElem_toArray, List.getElem_cons_zero, List.getElem_cons_succ, List.setIfInBounds_toArray, List.set_cons_zero, List.set_cons_succ])
       refine wpAnyH_ready (rs := [18]) (by kernel_rfl) (by simp) ?_
       refine AllReadyH.cons (o := _) rfl (fun K hK => ?_) AllReadyH.nil
       simp only [Act.put, List.getElem_toArray, List.getElem_cons_zero, List.getElem_cons_succ, List.setIfInBounds_toArray, List.set_cons_zero, List.set_cons_succ]
       go_simp
       refine (HCUT.out _).mono ?_
       rintro e V' ⟨rfl, rfl⟩
       go_simp
       with_reducible refine hK.out _ _ (HJ.out.below (below_one _ (.cells #[.bool false, .bool false, .int .u8 0, .int .u32 0, .slice none 0 0, .string ⟨#[]⟩, .string ⟨#[]⟩] 63))).c (fun hHeld => ?_)
       clear hK K
       (try simp only [Act.put, List.getElem_toArray, List.getElem_cons_zero, List.getElem_cons_succ, List.setIfInBounds_toArray, List.set_cons_zero, List.set_cons_succ])
       refine wpAnyH_ready (rs := [20]) (by kernel_rfl) (by simp) ?_
       refine AllReadyH.cons (o := _) rfl (fun K hK => ?_) AllReadyH.nil
       simp only [Act.put, List.getElem_toArray, List.getElem_cons_zero, List.getElem_cons_succ, List.setIfInBounds_toArray, List.set_cons_zero, List.set_cons_succ]
       go_simp
       refine (HWHY.out _).mono ?_
       rintro e V' ⟨rfl, b⟩
       go_simp
       have HZ := Lib.hid ((Blk.made (w := w) HJ.out.lt #[.bool false, .bool false, .int .u8 0, .int .u32 0, .slice none 0 0, .string ⟨#[]⟩, .string ⟨#[]⟩] 63).below b)
       have HJ := Lib.hid ((HJ.out.below (below_one _ (.cells #[.bool false, .bool false, .int .u8 0, .int .u32 0, .slice none 0 0, .string ⟨#[]⟩, .string ⟨#[]⟩] 63))).below b)
       with_reducible refine hK.out _ _ HJ.out.c (fun hHeld => ?_)
       clear b
       clear hK K
       (try simp only [Act.put, List.getElem_toArray, List.getElem_cons_zero, List.getElem_cons_succ, List.setIfInBounds_toArray, List.set_cons_zero, List.set_cons_succ])
       refine wpAnyH_take (i := 21) (oi := _) (v := ?_) rfl (by kernel_rfl) (by kernel_rfl) (by kernel_rfl) (fun _ _ _ h => h) (Or.inl ⟨by rfl, ?_⟩) (by assumption) ?_
       rotate_left
       · intro wx hSw
         obtain ⟨y0, y1, y2, y5, y6⟩ := hSw
         (go_simp) <;> (with_reducible rfl)
       simp only [Act.put, List.getElem_toArray, List.getElem_cons_zero, List.getElem_cons_succ, List.setIfInBounds_toArray, List.set_cons_zero, List.set_cons_succ]
       refine wpAnyH_ready (rs := [22]) (by kernel_rfl) (by simp) ?_
       refine AllReadyH.cons (o := _) rfl (fun K hK => ?_) AllReadyH.nil
       simp only [Act.put, List.getElem_toArray, List.getElem_cons_zero, List.getElem_cons_succ, List.setIfInBounds_toArray, List.set_cons_zero, List.set_cons_succ]
       go_simp
       with_reducible refine hK.out _ _ (HJ.out.below (below_one _ (.cells #[.int .i64 3, .int .u32 0, .string M, .string ⟨#[]⟩] 85))).c (fun hHeld => ?_)
       clear hK K
       (try simp only [Act.put, List.getElem_toArray, List.getElem_cons_zero, List.getElem_cons_succ, List.setIfInBounds_toArray, List.set_cons_zero, List.set_cons_succ])
       refine wpAnyH_take (i := 23) (oi := _) (v := ?_) rfl (by kernel_rfl) (by kernel_rfl) (by kernel_rfl) (fun _ _ _ h => h) (Or.inl ⟨by rfl, ?_⟩) (by assumption) ?_
       rotate_left
       · intro wx hSw
         obtain ⟨y0, y1, y2, y5, y6⟩ := hSw
         (go_simp) <;> (with_reducible rfl)
       simp only [Act.put, List.getElem_toArray, List.getElem_cons_zero, List.getElem_cons_succ, List.setIfInBounds_toArray, List.set_cons_zero, List.set_cons_succ]
       refine wpAnyH_ready (rs := [25]) (by kernel_rfl) (by simp) ?_
       refine AllReadyH.cons (o := _) rfl (fun K hK => ?_) AllReadyH.nil
       simp only [List.getElem_toArray, List.getElem_cons_zero, List.getElem_cons_succ]
       obtain ⟨z0, z1, z2, z3, z4, z5, z6, zf⟩ := cells7 HZ.out.at_
       have hzl := HZ.out.lt
       go_simp
       with_reducible refine hK.out _ _ (end3C HJ.out HZ.out).1 (fun hHeld => ?_)
       clear hK K
       (try simp only [Act.put, List.getElem_toArray, List.getElem_cons_zero, List.getElem_cons_succ, List.setIfInBounds_toArray, List.set_cons_zero, List.set_cons_succ])
       refine wpAnyH_done (by kernel_rfl) ?_ _
       go_wp2_with fail
       go_meet
       with_reducible exact (end3C HJ.out HZ.out).2
     refine AllReadyH.cons (o := _) rfl (fun K hK => ?_) AllReadyH.nil
     simp only [Act.put, List.getElem_toArray, List.getElem_cons_zero, List.getElem_cons_succ, List.setIfInBounds_toArray, List.set_cons_zero, List.set_cons_succ]
     go_simp
     with_reducible refine hK.out _ _ (HJ.out.below (below_one _ (.cells #[.bool false, .bool false, .int .u8 0, .int .u32 0, .slice none 0 0, .string ⟨#[]⟩, .string ⟨#[]⟩] 63))).c (fun hHeld => ?_)
     clear hK K
     (try simp only [Act.put, List.getElem_toArray, List.getElem_cons_zero, List.getElem_cons_succ, List.setIfInBounds_toArray, List.set_cons_zero, List.set_cons_succ])
     refine wpAnyH_ready (rs := [15]) (by kernel_rfl) (by simp) ?_
     refine AllReadyH.cons (o := _) rfl (fun K hK => ?_) AllReadyH.nil
     simp only [Act.put, List.getElem_toArray, List.getElem_cons_zero, List.getElem_cons_succ, List.setIfInBounds_toArray, List.set_cons_zero, List.set_cons_succ]
     go_simp
     refine (HLET.out _).mono ?_
     rintro e V' ⟨rfl, b⟩
     go_simp
     have HZ := Lib.hid ((Blk.made (w := w) HJ.out.lt #[.bool false, .bool false, .int .u8 0, .int .u32 0, .slice none 0 0, .string ⟨#[]⟩, .string ⟨#[]⟩] 63).below b)
     have HJ := Lib.hid ((HJ.out.below (below_one _ (.cells #[.bool false, .bool false, .int .u8 0, .int .u32 0, .slice none 0 0, .string ⟨#[]⟩, .string ⟨#[]⟩] 63))).below b)
     with_reducible refine hK.out _ _ HJ.out.c (fun hHeld => ?_)
     clear b
     clear hK K
     (try simp only [Act.put, List.getElem_toArray, List.getElem_cons_zero, List.getElem_cons_succ, List.setIfInBounds_toArray, List.set_cons_zero, List.set_cons_succ])
     refine wpAnyH_ready (rs := [18]) (by kernel_rfl) (by simp) ?_
     refine AllReadyH.cons (o := _) rfl (fun K hK => ?_) AllReadyH.nil
     simp only [Act.put, List.getElem_toArray, List.getElem_cons_zero, List.getElem_cons_succ, List.setIfInBounds_toArray, List.set_cons_zero, List.set_cons_succ]
     go_simp
     refine (HCUT.out _).mono ?_
     rintro e V' ⟨rfl, rfl⟩
     go_simp
     with_reducible refine hK.out _ _ HJ.out.c (fun hHeld => ?_)
     clear hK K
     (try simp only [Act.put, List.getElem_toArray, List.getElem_cons_zero, List.getElem_cons_succ, List.setIfInBounds_toArray, List.set_cons_zero, List.set_cons_succ])
     refine wpAnyH_ready (rs := [20]) (by kernel_rfl) (by simp) ?_
     refine AllReadyH.cons (o := _) rfl (fun K hK => ?_) AllReadyH.nil
     simp only [Act.put, List.getElem_toArray, List.getElem_cons_zero, List.getElem_cons_succ, List.setIfInBounds_toArray, List.set_cons_zero, List.set_cons_succ]
     go_simp
     refine (HWHY.out _).mono ?_
     rintro e V' ⟨rfl, b⟩
     go_simp
     have HZ := Lib.hid (HZ.out.below b)
     have HJ := Lib.hid (HJ.out.below b)
     with_reducible refine hK.out _ _ HJ.out.c (fun hHeld => ?_)
     clear b
     clear hK K
     (try simp only [Act.put, List.getElem_toArray, List.getElem_cons_zero, List.getElem_cons_succ, List.setIfInBounds_toArray, List.set_cons_zero, List.set_cons_succ])
     refine wpAnyH_take (i := 21) (oi := _) (v := ?_) rfl (by kernel_rfl) (by kernel_rfl) (by kernel_rfl) (fun _ _ _ h => h) (Or.inl ⟨by rfl, ?_⟩) (by assumption) ?_
     rotate_left
     · intro wx hSw
       obtain ⟨y0, y1, y2, y5, y6⟩ := hSw
       (go_simp) <;> (with_reducible rfl)
     simp only [Act.put, List.getElem_toArray, List.getElem_cons_zero, List.getElem_cons_succ, List.setIfInBounds_toArray, List.set_cons_zero, List.set_cons_succ]
     refine wpAnyH_ready (rs := [22]) (by kernel_rfl) (by simp) ?_
     refine AllReadyH.cons (o := _) rfl (fun K hK => ?_) AllReadyH.nil
     simp only [Act.put, List.getElem_toArray, List.getElem_cons_zero, List.getElem_cons_succ, List.setIfInBounds_toArray, List.set_cons_zero, List.set_cons_succ]
     go_simp
     with_reducible refine hK.out _ _ (HJ.out.below (below_one _ (.cells #[.int .i64 3, .int .u32 0, .string M, .string ⟨#[]⟩] 85))).c (fun hHeld => ?_)
     clear hK K
     (try simp only [Act.put, List.getElem_toArray, List.getElem_cons_zero, List.getElem_cons_succ, List.setIfInBounds_toArray, List.set_cons_zero, List.set_cons_succ])
     refine wpAnyH_take (i := 23) (oi := _) (v := ?_) rfl (by kernel_rfl) (by kernel_rfl) (by kernel_rfl) (fun _ _ _ h => h) (Or.inl ⟨by rfl, ?_⟩) (by assumption) ?_
     rotate_left
     · intro wx hSw
       obtain ⟨y0, y1, y2, y5, y6⟩ := hSw
       (go_simp) <;> (with_reducible rfl)
     simp only [Act.put, List.getElem_toArray, List.getElem_cons_zero, List.getElem_cons_succ, List.setIfInBounds_toArray, List.set_cons_zero, List.set_cons_succ]
     refine wpAnyH_ready (rs := [25]) (by kernel_rfl) (by simp) ?_
     refine AllReadyH.cons (o := _) rfl (fun K hK => ?_) AllReadyH.nil
     simp only [List.getElem_toArray, List.getElem_cons_zero, List.getElem_cons_succ]
     obtain ⟨z0, z1, z2, z3, z4, z5, z6, zf⟩ := cells7 HZ.out.at_
     have hzl := HZ.out.lt
     go_simp
     with_reducible refine hK.out _ _ (end3C HJ.out HZ.out).1 (fun hHeld => ?_)
     clear hK K
     (try simp only [Act.put, List.getElem_toArray, List.getElem_cons_zero, List.getElem_cons_succ, List.setIfInBounds_toArray, List.set_cons_zero, List.set_cons_succ])
     refine wpAnyH_done (by kernel_rfl) ?_ _
     go_wp2_with fail
     go_meet
     with_reducible exact (end3C HJ.out HZ.out).2
   · have hQd : decide (0 < Q) = D := by rw [← hD]; simp
     clear hD
     refine wp_region_held_drew (S := BxC w true ret q tp pl) (by kernel_rfl) HJ.out.c (fun hHeld => ?_)
     generalize W1.drew = W2 at *
     refine wpAnyH_take (i := 0) (oi := _) (v := ?_) rfl (by kernel_rfl) (by kernel_rfl) (by kernel_rfl) (fun _ _ _ h => h) (Or.inl ⟨by rfl, ?_⟩) (by assumption) ?_
     rotate_left
     · intro wx hSw
       obtain ⟨y0, y1, y2, y5, y6⟩ := hSw
       (go_simp) <;> (with_reducible rfl)
     simp only [Act.put, List.getElem_toArray, List.getElem_cons_zero, List.setIfInBounds_toArray, List.set_cons_zero, List.set_cons_succ]
     refine wpAnyH_take (i := 1) (oi := _) (v := ?_) rfl (by kernel_rfl) (by kernel_rfl) (by kernel_rfl) (fun _ _ _ h => h) (Or.inl ⟨by rfl, ?_⟩) (by assumption) ?_
     rotate_left
     · intro wx hSw
       obtain ⟨y0, y1, y2, y5, y6⟩ := hSw
       (go_simp) <;> (with_reducible rfl)
     simp only [Act.put, List.getElem_toArray, List.getElem_cons_zero, List.getElem_cons_succ, List.setIfInBounds_toArray, List.set_cons_zero, List.set_cons_succ]
     refine wpAnyH_take (i := 2) (oi := _) (v := ?_) rfl (by kernel_rfl) (by kernel_rfl) (by kernel_rfl) (fun _ _ _ h => h) (Or.inl ⟨by rfl, ?_⟩) (by assumption) ?_
     rotate_left
     · intro wx hSw
       obtain ⟨y0, y1, y2, y5, y6⟩ := hSw
       (go_simp) <;> (with_reducible rfl)
     simp only [Act.put, List.getElem_toArray, List.getElem_cons_zero, List.getElem_cons_succ, List.setIfInBounds_toArray, List.set_cons_zero, List.set_cons_succ]
     refine wpAnyH_take (i := 3) (oi := _) (v := ?_) rfl (by kernel_rfl) (by kernel_rfl) (by kernel_rfl) (fun _ _ _ h => h) (Or.inl ⟨by rfl, ?_⟩) (by assumption) ?_
     rotate_left
     · intro wx hSw
       obtain ⟨y0, y1, y2, y5, y6⟩ := hSw
       (go_simp) <;> (with_reducible rfl)
     simp only [Act.put, List.getElem_toArray, List.getElem_cons_zero, List.getElem_cons_succ, List.setIfInBounds_toArray, List.set_cons_zero, List.set_cons_succ]
     refine wpAnyH_take (i := 4) (oi := _) (v := ?_) rfl (by kernel_rfl) (by kernel_rfl) (by kernel_rfl) (fun _ _ _ h => h) (Or.inl ⟨by rfl, ?_⟩) (by assumption) ?_
     rotate_left
     · intro wx hSw
       obtain ⟨y0, y1, y2, y5, y6⟩ := hSw
       (go_simp) <;> (with_reducible rfl)
     simp only [Act.put, List.getElem_toArray, List.getElem_cons_zero, List.getElem_cons_succ, List.setIfInBounds_toArray, List.set_cons_zero, List.set_cons_succ]
     refine wpAnyH_take (i := 5) (oi := _) (v := ?_) rfl (by kernel_rfl) (by kernel_rfl) (by kernel_rfl) (fun _ _ _ h => h) (Or.inl ⟨by rfl, ?_⟩) (by assumption) ?_
     rotate_left
     · intro wx hSw
       obtain ⟨y0, y1, y2, y5, y6⟩ := hSw
       (go_simp) <;> (with_reducible rfl)
     simp only [Act.put, List.getElem_toArray, List.getElem_cons_zero, List.getElem_cons_succ, List.setIfInBounds_toArray, List.set_cons_zero, List.set_cons_succ]
     refine wpAnyH_take (i := 6) (oi := _) (v := ?_) rfl (by kernel_rfl) (by kernel_rfl) (by kernel_rfl) (fun _ _ _ h => h) (Or.inl ⟨by rfl, ?_⟩) (by assumption) ?_
     rotate_left
     · intro wx hSw
       obtain ⟨y0, y1, y2, y5, y6⟩ := hSw
       (go_simp) <;> (with_reducible rfl)
     simp only [Act.put, List.getElem_toArray, List.getElem_cons_zero, List.getElem_cons_succ, List.setIfInBounds_toArray, List.set_cons_zero, List.set_cons_succ]
     refine wpAnyH_take (i := 7) (oi := _) (v := ?_) rfl (by kernel_rfl) (by kernel_rfl) (by kernel_rfl) (fun _ _ _ h => h) (Or.inl ⟨by rfl, ?_⟩) (by assumption) ?_
     rotate_left
     · intro wx hSw
       obtain ⟨y0, y1, y2, y5, y6⟩ := hSw
       (go_simp) <;> (with_reducible rfl)
     simp only [Act.put, List.getElem_toArray, List.getElem_cons_zero, List.getElem_cons_succ, List.setIfInBounds_toArray, List.set_cons_zero, List.set_cons_succ]
     refine wpAnyH_take (i := 8) (oi := _) (v := ?_) rfl (by kernel_rfl) (by kernel_rfl) (by kernel_rfl) (fun _ _ _ h => h) (Or.inl ⟨by rfl, ?_⟩) (by assumption) ?_
     rotate_left
     · intro wx hSw
       obtain ⟨y0, y1, y2, y5, y6⟩ := hSw
       (go_simp) <;> (with_reducible rfl)
     simp only [Act.put, List.getElem_toArray, List.getElem_cons_zero, List.getElem_cons_succ, List.setIfInBounds_toArray, List.set_cons_zero, List.set_cons_succ]
     refine wpAnyH_take (i := 9) (oi := _) (v := ?_) rfl (by kernel_rfl) (by kernel_rfl) (by kernel_rfl) (fun _ _ _ h => h) (Or.inl ⟨by rfl, ?_⟩) (by assumption) ?_
     rotate_left
     · intro wx hSw
       obtain ⟨y0, y1, y2, y5, y6⟩ := hSw
       (go_simp) <;> (with_reducible rfl)
     simp only [Act.put, List.getElem_toArray, List.getElem_cons_zero, List.getElem_cons_succ, List.setIfInBounds_toArray, List.set_cons_zero, List.set_cons_succ]
     refine wpAnyH_take (i := 10) (oi := _) (v := ?_) rfl (by kernel_rfl) (by kernel_rfl) (by kernel_rfl) (fun _ _ _ h => h) (Or.inl ⟨by rfl, ?_⟩) (by assumption) ?_
     rotate_left
     · intro wx hSw
       obtain ⟨y0, y1, y2, y5, y6⟩ := hSw
       (go_simp) <;> (with_reducible rfl)
     simp only [Act.put, List.getElem_toArray, List.getElem_cons_zero, List.getElem_cons_succ, List.setIfInBounds_toArray, List.set_cons_zero, List.set_cons_succ]
     refine wpAnyH_take (i := 11) (oi := _) (v := ?_) rfl (by kernel_rfl) (by kernel_rfl) (by kernel_rfl) (fun _ _ _ h => h) (Or.inl ⟨by rfl, ?_⟩) (by assumption) ?_
     rotate_left
     · intro wx hSw
       obtain ⟨y0, y1, y2, y5, y6⟩ := hSw
       (go_simp) <;> (with_reducible rfl)
     simp only [Act.put, List.getElem_toArray, List.getElem_cons_zero, List.getElem_cons_succ, List.setIfInBounds_toArray, List.set_cons_zero, List.set_cons_succ]
     refine wpAnyH_take (i := 12) (oi := _) (v := ?_) rfl (by kernel_rfl) (by kernel_rfl) (by kernel_rfl) (fun _ _ _ h => h) (Or.inl ⟨by rfl, ?_⟩) (by assumption) ?_
     rotate_left
     · intro wx hSw
       obtain ⟨y0, y1, y2, y5, y6⟩ := hSw
       (go_simp) <;> (with_reducible rfl)
     simp only [Act.put, List.getElem_toArray, List.getElem_cons_zero, List.getElem_cons_succ, List.setIfInBounds_toArray, List.set_cons_zero, List.set_cons_succ]
     refine wpAnyH_take (i := 13) (oi := _) (v := ?_) rfl (by kernel_rfl) (by kernel_rfl) (by kernel_rfl) (fun _ _ _ h => h) (Or.inl ⟨by rfl, ?_⟩) (by assumption) ?_
     rotate_left
     · intro wx hSw
       obtain ⟨y0, y1, y2, y5, y6⟩ := hSw
       (go_simp) <;> (with_reducible rfl)
     simp only [Act.put, List.getElem_toArray, List.getElem_cons_zero, List.getElem_cons_succ, List.setIfInBounds_toArray, List.set_cons_zero, List.set_cons_succ]
     refine wpAnyH_take (i := 14) (oi := _) (v := ?_) rfl (by kernel_rfl) (by kernel_rfl) (by kernel_rfl) (fun _ _ _ h => h) (Or.inl ⟨by rfl, ?_⟩) (by assumption) ?_
     rotate_left
     · intro wx hSw
       obtain ⟨y0, y1, y2, y5, y6⟩ := hSw
       (go_simp) <;> (with_reducible rfl)
     simp only [Act.put, List.getElem_toArray, List.getElem_cons_zero, List.getElem_cons_succ, List.setIfInBounds_toArray, List.set_cons_zero, List.set_cons_succ]
     refine wpAnyH_take (i := 16) (oi := _) (v := ?_) rfl (by kernel_rfl) (by kernel_rfl) (by kernel_rfl) (fun _ _ _ h => h) (Or.inl ⟨by rfl, ?_⟩) (by assumption) ?_
     rotate_left
     · intro wx hSw
       obtain ⟨y0, y1, y2, y5, y6⟩ := hSw
       (go_simp) <;> (with_reducible rfl)
     simp only [Act.put, List.getElem_toArray, List.getElem_cons_zero, List.getElem_cons_succ, List.setIfInBounds_toArray, List.set_cons_zero, List.set_cons_succ]
     refine wpAnyH_take (i := 17) (oi := _) (v := ?_) rfl (by kernel_rfl) (by kernel_rfl) (by kernel_rfl) (fun _ _ _ h => h) (Or.inl ⟨by rfl, ?_⟩) (by assumption) ?_
     rotate_left
     · intro wx hSw
       obtain ⟨y0, y1, y2, y5, y6⟩ := hSw
       (go_simp) <;> (with_reducible rfl)
     simp only [Act.put, List.getElem_toArray, List.getElem_cons_zero, List.getElem_cons_succ, List.setIfInBounds_toArray, List.set_cons_zero, List.set_cons_succ]
     refine wpAnyH_take (i := 19) (oi := _) (v := ?_) rfl (by kernel_rfl) (by kernel_rfl) (by kernel_rfl) (fun _ _ _ h => h) (Or.inl ⟨by rfl, ?_⟩) (by assumption) ?_
     rotate_left
     · intro wx hSw
       obtain ⟨y0, y1, y2, y5, y6⟩ := hSw
       (go_simp) <;> (with_reducible rfl)
     simp only [Act.put, List.getElem_toArray, List.getElem_cons_zero, List.getElem_cons_succ, List.setIfInBounds_toArray, List.set_cons_zero, List.set_cons_succ]
     refine wpAnyH_ready (rs := [15, 24]) (by kernel_rfl) (by simp) ?_
     refine AllReadyH.cons (o := _) rfl (fun K hK => ?_) ?_
     · simp only [Act.put, List.getElem_toArray, List.getElem_cons_zero, List.getElem_cons_succ, List.setIfInBounds_toArray, List.set_cons_zero, List.set_cons_succ]
       go_simp
       refine (HLET.out _).mono ?_
       rintro e V' ⟨rfl, b⟩
       go_simp
       have HJ := Lib.hid (HJ.out.below b)
       with_reducible refine hK.out _ _ HJ.out.c (fun hHeld => ?_)
       clear b
       clear hK K
       (try simp only [Act.put, List.getElem_toArray, List.getElem_cons_zero, List.getElem_cons_succ, List.setIfInBounds_toArray, List.set_cons_zero, List.set_cons_succ])
       refine wpAnyH_ready (rs := [18, 24]) (by kernel_rfl) (by simp) ?_
       refine AllReadyH.cons (o := _) rfl (fun K hK => ?_) ?_
       · simp only [Act.put, List.getElem_toArray, List.getElem_cons_zero, List.getElem_cons_succ, List.setIfInBounds_toArray, List.set_cons_zero, List.set_cons_succ]
         go_simp
         refine (HCUT.out _).mono ?_
         rintro e V' ⟨rfl, rfl⟩
         go_simp
         with_reducible refine hK.out _ _ HJ.out.c (fun hHeld => ?_)
         clear hK K
         (try simp only [Act.put, List.getElem_toArray, List.getElem_cons_zero, List.getElem_cons_succ, List.setIfInBounds_toArray, List.set_cons_zero, List.set_cons_succ])
         refine wpAnyH_ready (rs := [20, 24]) (by kernel_rfl) (by simp) ?_
         refine AllReadyH.cons (o := _) rfl (fun K hK => ?_) ?_
         · simp only [Act.put, List.getElem_toArray, List.getElem_cons_zero, List.getElem_cons_succ, List.setIfInBounds_toArray, List.set_cons_zero, List.set_cons_succ]
           go_simp
           refine (HWHY.out _).mono ?_
           rintro e V' ⟨rfl, b⟩
           go_simp
           have HJ := Lib.hid (HJ.out.below b)
           with_reducible refine hK.out _ _ HJ.out.c (fun hHeld => ?_)
           clear b
           clear hK K
           (try simp only [Act.put, List.getElem_toArray, List.getElem_cons_zero, List.getElem_cons_succ, List.setIfInBounds_toArray, List.set_cons_zero, List.set_cons_succ])
           refine wpAnyH_take (i := 21) (oi := _) (v := ?_) rfl (by kernel_rfl) (by kernel_rfl) (by kernel_rfl) (fun _ _ _ h => h) (Or.inl ⟨by rfl, ?_⟩) (by assumption) ?_
           rotate_left
           · intro wx hSw
             obtain ⟨y0, y1, y2, y5, y6⟩ := hSw
             (go_simp) <;> (with_reducible rfl)
           simp only [Act.put, List.getElem_toArray, List.getElem_cons_zero, List.getElem_cons_succ, List.setIfInBounds_toArray, List.set_cons_zero, List.set_cons_succ]
           refine wpAnyH_ready (rs := [22, 24]) (by kernel_rfl) (by simp) ?_
           refine AllReadyH.cons (o := _) rfl (fun K hK => ?_) ?_
           · simp only [Act.put, List.getElem_toArray, List.getElem_cons_zero, List.getElem_cons_succ, List.setIfInBounds_toArray, List.set_cons_zero, List.set_cons_succ]
             go_simp
             with_reducible refine hK.out _ _ (HJ.out.below (below_one _ (.cells #[.int .i64 3, .int .u32 0, .string M, .string ⟨#[]⟩] 85))).c (fun hHeld => ?_)
             clear hK K
             (try simp only [Act.put, List.getElem_toArray, List.getElem_cons_zero, List.getElem_cons_succ, List.setIfInBounds_toArray, List.set_cons_zero, List.set_cons_succ])
             refine wpAnyH_take (i := 23) (oi := _) (v := ?_) rfl (by kernel_rfl) (by kernel_rfl) (by kernel_rfl) (fun _ _ _ h => h) (Or.inl ⟨by rfl, ?_⟩) (by assumption) ?_
             rotate_left
             · intro wx hSw
               obtain ⟨y0, y1, y2, y5, y6⟩ := hSw
               (go_simp) <;> (with_reducible rfl)
             simp only [Act.put, List.getElem_toArray, List.getElem_cons_zero, List.getElem_cons_succ, List.setIfInBounds_toArray, List.set_cons_zero, List.set_cons_succ]
             refine wpAnyH_ready (rs := [24]) (by kernel_rfl) (by simp) ?_
             refine AllReadyH.cons (o := _) rfl (fun K hK => ?_) AllReadyH.nil
             simp only [Act.put, List.getElem_toArray, List.getElem_cons_zero, List.getElem_cons_succ, List.setIfInBounds_toArray, List.set_cons_zero, List.set_cons_succ]
             go_simp
             with_reducible refine hK.out _ _ ((HJ.out.below (below_one _ (.cells #[.int .i64 3, .int .u32 0, .string M, .string ⟨#[]⟩] 85))).below (below_one _ (.cells #[.bool false, .bool false, .int .u8 0, .int .u32 0, .slice none 0 0, .string ⟨#[]⟩, .string ⟨#[]⟩] 63))).c (fun hHeld => ?_)
             clear hK K
             (try simp only [Act.put, List.getElem_toArray, List.getElem_cons_zero, List.getElem_cons_succ, List.setIfInBounds_toArray, List.set_cons_zero, List.set_cons_succ])
             refine wpAnyH_ready (rs := [25]) (by kernel_rfl) (by simp) ?_
             refine AllReadyH.cons (o := _) rfl (fun K hK => ?_) AllReadyH.nil
             simp only [List.getElem_toArray, List.getElem_cons_zero, List.getElem_cons_succ]
             go_simp
             with_reducible refine hK.out _ _ (end3A HJ.out).1 (fun hHeld => ?_)
             clear hK K
             (try simp only [Act.put, List.getElem_toArray, List.getElem_cons_zero, List.getElem_cons_succ, List.setIfInBounds_toArray, List.set_cons_zero, List.set_cons_succ])
             refine wpAnyH_done (by kernel_rfl) ?_ _
             go_wp2_with fail
             go_meet
             with_reducible exact (end3A HJ.out).2
           refine AllReadyH.cons (o := _) rfl (fun K hK => ?_) AllReadyH.nil
           simp only [Act.put, List.getElem_toArray, List.getElem_cons_zero, List.getElem_cons_succ, List.setIfInBounds_toArray, List.set_cons_zero, List.set_cons_succ]
           go_simp
           with_reducible refine hK.out _ _ (HJ.out.below (below_one _ (.cells #[.bool false, .bool false, .int .u8 0, .int .u32 0, .slice none 0 0, .string ⟨#[]⟩, .string ⟨#[]⟩] 63))).c (fun hHeld => ?_)
           clear hK K
           (try simp only [Act.put, List.getElem_toArray, List.getElem_cons_zero, List.getElem_cons_succ, List.setIfInBounds_toArray, List.set_cons_zero, List.set_cons_succ])
           refine wpAnyH_ready (rs := [22]) (by kernel_rfl) (by simp) ?_
           refine AllReadyH.cons (o := _) rfl (fun K hK => ?_) AllReadyH.nil
           simp only [Act.put, List.getElem_toArray, List.getElem_cons_zero, List.getElem_cons_succ, List.setIfInBounds_toArray, List.set_cons_zero, List.set_cons_succ]
           go_simp
           with_reducible refine hK.out _ _ ((HJ.out.below (below_one _ (.cells #[.bool false, .bool false, .int .u8 0, .int .u32 0, .slice none 0 0, .string ⟨#[]⟩, .string ⟨#[]⟩] 63))).below (below_one _ (.cells #[.int .i64 3, .int .u32 0, .string M, .string ⟨#[]⟩] 85))).c (fun hHeld => ?_)
           clear hK K
           (try simp only [Act.put, List.getElem_toArray, List.getElem_cons_zero, List.getElem_cons_succ, List.setIfInBounds_toArray, List.set_cons_zero, List.set_cons_succ])
           refine wpAnyH_take (i := 23) (oi := _) (v := ?_) rfl (by kernel_rfl) (by kernel_rfl) (by kernel_rfl) (fun _ _ _ h => h) (Or.inl ⟨by rfl, ?_⟩) (by assumption) ?_
           rotate_left
           · intro wx hSw
             obtain ⟨y0, y1, y2, y5, y6⟩ := hSw
             (go_simp) <;> (with_reducible rfl)
           simp only [Act.put, List.getElem_toArray, List.getElem_cons_zero, List.getElem_cons_succ, List.setIfInBounds_toArray, List.set_cons_zero, List.set_cons_succ]
           refine wpAnyH_ready (rs := [25]) (by kernel_rfl) (by simp) ?_
           refine AllReadyH.cons (o := _) rfl (fun K hK => ?_) AllReadyH.nil
           simp only [List.getElem_toArray, List.getElem_cons_zero, List.getElem_cons_succ]
           go_simp
           with_reducible refine hK.out _ _ (end3B HJ.out).1 (fun hHeld => ?_)
           clear hK K
           (try simp only [Act.put, List.getElem_toArray, List.getElem_cons_zero, List.getElem_cons_succ, List.setIfInBounds_toArray, List.set_cons_zero, List.set_cons_succ])
           refine wpAnyH_done (by kernel_rfl) ?_ _
           go_wp2_with fail
           go_meet
           with_reducible exact (end3B HJ.out).2
         refine AllReadyH.cons (o := _) rfl (fun K hK => ?_) AllReadyH.nil
         simp only [Act.put, List.getElem_toArray, List.getElem_cons_zero, List.getElem_cons_succ, List.setIfInBounds_toArray, List.set_cons_zero, List.set_cons_succ]
         go_simp
         with_reducible refine hK.out _ _ (HJ.out.below (below_one _ (.cells #[.bool false, .bool false, .int .u8 0, .int .u32 0, .slice none 0 0, .string ⟨#[]⟩, .string ⟨#[]⟩] 63))).c (fun hHeld => ?_)
         clear hK K
         (try simp only [Act.put, List.getElem_toArray, List.getElem_cons_zero, List.getElem_cons_succ, List.setIfInBounds_toArray, List.set_cons_zero, List.set_cons_succ])
         refine wpAnyH_ready (rs := [20]) (by kernel_rfl) (by simp) ?_
         refine AllReadyH.cons (o := _) rfl (fun K hK => ?_) AllReadyH.nil
         simp only [Act.put, List.getElem_toArray, List.getElem_cons_zero, List.getElem_cons_succ, List.setIfInBounds_toArray, List.set_cons_zero, List.set_cons_succ]
         go_simp
         refine (HWHY.out _).mono ?_
         rintro e V' ⟨rfl, b⟩
         go_simp
         have HZ := Lib.hid ((Blk.made (w := w) HJ.out.lt #[.bool false, .bool false, .int .u8 0, .int .u32 0, .slice none 0 0, .string ⟨#[]⟩, .string ⟨#[]⟩] 63).below b)
         have HJ := Lib.hid ((HJ.out.below (below_one _ (.cells #[.bool false, .bool false, .int .u8 0, .int .u32 0, .slice none 0 0, .string ⟨#[]⟩, .string ⟨#[]⟩] 63))).below b)
         with_reducible refine hK.out _ _ HJ.out.c (fun hHeld => ?_)
         clear b
         clear hK K
         (try simp only [Act.put, List.getElem_toArray, List.getElem_cons_zero, List.getElem_cons_succ, List.setIfInBounds_toArray, List.set_cons_zero, List.set_cons_succ])
         refine wpAnyH_take (i := 21) (oi := _) (v := ?_) rfl (by kernel_rfl) (by kernel_rfl) (by kernel_rfl) (fun _ _ _ h => h) (Or.inl ⟨by rfl, ?_⟩) (by assumption) ?_
         rotate_left
         · intro wx hSw
           obtain ⟨y0, y1, y2, y5, y6⟩ := hSw
           (go_simp) <;> (with_reducible rfl)
         simp only [Act.put, List.getElem_toArray, List.getElem_cons_zero, List.getElem_cons_succ, List.setIfInBounds_toArray, List.set_cons_zero, List.set_cons_succ]
         refine wpAnyH_ready (rs := [22]) (by kernel_rfl) (by simp) ?_
         refine AllReadyH.cons (o := _) rfl (fun K hK => ?_) AllReadyH.nil
         simp only [Act.put, List.getElem_toArray, List.getElem_cons_zero, List.getElem_cons_succ, List.setIfInBounds_toArray, List.set_cons_zero, List.set_cons_succ]
         go_simp
         with_reducible refine hK.out _ _ (HJ.out.below (below_one _ (.cells #[.int .i64 3, .int .u32 0, .string M, .string ⟨#[]⟩] 85))).c (fun hHeld => ?_)
         clear hK K
         (try simp only [Act.put, List.getElem_toArray, List.getElem_cons_zero, List.getElem_cons_succ, List.setIfInBounds_toArray, List.set_cons_zero, List.set_cons_succ])
         refine wpAnyH_take (i := 23) (oi := _) (v := ?_) rfl (by kernel_rfl) (by kernel_rfl) (by kernel_rfl) (fun _ _ _ h => h) (Or.inl ⟨by rfl, ?_⟩) (by assumption) ?_
         rotate_left
         · intro wx hSw
           obtain ⟨y0, y1, y2, y5, y6⟩ := hSw
           (go_simp) <;> (with_reducible rfl)
         simp only [Act.put, List.getElem_toArray, List.getElem_cons_zero, List.getElem_cons_succ, List.setIfInBounds_toArray, List.set_cons_zero, List.set_cons_succ]
         refine wpAnyH_ready (rs := [25]) (by kernel_rfl) (by simp) ?_
         refine AllReadyH.cons (o := _) rfl (fun K hK => ?_) AllReadyH.nil
         simp only [List.getElem_toArray, List.getElem_cons_zero, List.getElem_cons_succ]
         obtain ⟨z0, z1, z2, z3, z4, z5, z6, zf⟩ := cells7 HZ.out.at_
         have hzl := HZ.out.lt
         go_simp
         with_reducible refine hK.out _ _ (end3C HJ.out HZ.out).1 (fun hHeld => ?_)
         clear hK K
         (try simp only [Act.put, List.getElem_toArray, List.getElem_cons_zero, List.getElem_cons_succ, List.setIfInBounds_toArray, List.set_cons_zero, List.set_cons_succ])
         refine wpAnyH_done (by kernel_rfl) ?_ _
         go_wp2_with fail
         go_meet
         with_reducible exact (end3C HJ.out HZ.out).2
       refine AllReadyH.cons (o := _) rfl (fun K hK => ?_) AllReadyH.nil
       simp only [Act.put, List.getElem_toArray, List.getElem_cons_zero, List.getElem_cons_succ, List.setIfInBounds_toArray, List.set_cons_zero, List.set_cons_succ]
       go_simp
       with_reducible refine hK.out _ _ (HJ.out.below (below_one _ (.cells #[.bool false, .bool false, .int .u8 0, .int .u32 0, .slice none 0 0, .string ⟨#[]⟩, .string ⟨#[]⟩] 63))).c (fun hHeld => ?_)
       clear hK K
       (try simp only [Act.put, List.getElem_toArray, List.getElem_cons_zero, List.getElem_cons_succ, List.setIfInBounds_toArray, List.set_cons_zero, List.set_cons_succ])
       refine wpAnyH_ready (rs := [18]) (by kernel_rfl) (by simp) ?_
       refine AllReadyH.cons (o := _) rfl (fun K hK => ?_) AllReadyH.nil
       simp only [Act.put, List.getElem_toArray, List.getElem_cons_zero, List.getElem_cons_succ, List.setIfInBounds_toArray, List.set_cons_zero, List.set_cons_succ]
       go_simp
       refine (HCUT.out _).mono ?_
       rintro e V' ⟨rfl, rfl⟩
       go_simp
       with_reducible refine hK.out _ _ (HJ.out.below (below_one _ (.cells #[.bool false, .bool false, .int .u8 0, .int .u32 0, .slice none 0 0, .string ⟨#[]⟩, .string ⟨#[]⟩] 63))).c (fun hHeld => ?_)
       clear hK K
       (try simp only [Act.put, List.getElem_toArray, List.getElem_cons_zero, List.getElem_cons_succ, List.setIfInBounds_toArray, List.set_cons_zero, List.set_cons_succ])
       refine wpAnyH_ready (rs := [20]) (by kernel_rfl) (by simp) ?_
       refine AllReadyH.cons (o := _) rfl (fun K hK => ?_) AllReadyH.nil
       simp only [Act.put, List.getElem_toArray, List.getElem_cons_zero, List.getElem_cons_succ, List.setIfInBounds_toArray, List.set_cons_zero, List.set_cons_succ]
       go_simp
       refine (HWHY.out _).mono ?_
       rintro e V' ⟨rfl, b⟩
       go_simp
       have HZ := Lib.hid ((Blk.made (w := w) HJ.out.lt #[.bool false, .bool false, .int .u8 0, .int .u32 0, .slice none 0 0, .string ⟨#[]⟩, .string ⟨#[]⟩] 63).below b)
       have HJ := Lib.hid ((HJ.out.below (below_one _ (.cells #[.bool false, .bool false, .int .u8 0, .int .u32 0, .slice none 0 0, .string ⟨#[]⟩, .string ⟨#[]⟩] 63))).below b)
       with_reducible refine hK.out _ _ HJ.out.c (fun hHeld => ?_)
       clear b
       clear hK K
       (try simp only [Act.put, List.getElem_toArray, List.getElem_cons_zero, List.getElem_cons_succ, List.setIfInBounds_toArray, List.set_cons_zero, List.set_cons_succ])
       refine wpAnyH_take (i := 21) (oi := _) (v := ?_) rfl (by kernel_rfl) (by kernel_rfl) (by kernel_rfl) (fun _ _ _ h => h) (Or.inl ⟨by rfl, ?_⟩) (by assumption) ?_
       rotate_left
       · intro wx hSw
         obtain ⟨y0, y1, y2, y5, y6⟩ := hSw
         (go_simp) <;> (with_reducible rfl)
       simp only [Act.put, List.getElem_toArray, List.getElem_cons_zero, List.getElem_cons_succ, List.setIfInBounds_toArray, List.set_cons_zero, List.set_cons_succ]
       refine wpAnyH_ready (rs := [22]) (by kernel_rfl) (by simp) ?_
       refine AllReadyH.cons (o := _) rfl (fun K hK => ?_) AllReadyH.nil
       simp only [Act.put, List.getElem_toArray, List.getElem_cons_zero, List.getElem_cons_succ, List.setIfInBounds_toArray, List.set_cons_zero, List.set_cons_succ]
       go_simp
       with_reducible refine hK.out _ _ (HJ.out.below (below_one _ (.cells #[.int .i64 3, .int .u32 0, .string M, .string ⟨#[]⟩] 85))).c (fun hHeld => ?_)
       clear hK K
       (try simp only [Act.put, List.getElem_toArray, List.getElem_cons_zero, List.getElem_cons_succ, List.setIfInBounds_toArray, List.set_cons_zero, List.set_cons_succ])
       refine wpAnyH_take (i := 23) (oi := _) (v := ?_) rfl (by kernel_rfl) (by kernel_rfl) (by kernel_rfl) (fun _ _ _ h => h) (Or.inl ⟨by rfl, ?_⟩) (by assumption) ?_
       rotate_left
       · intro wx hSw
         obtain ⟨y0, y1, y2, y5, y6⟩ := hSw
         (go_simp) <;> (with_reducible rfl)
       simp only [Act.put, List.getElem_toArray, List.getElem_cons_zero, List.getElem_cons_succ, List.setIfInBounds_toArray, List.set_cons_zero, List.set_cons_succ]
       refine wpAnyH_ready (rs := [25]) (by kernel_rfl) (by simp) ?_
       refine AllReadyH.cons (o := _) rfl (fun K hK => ?_) AllReadyH.nil
       simp only [List.getElem_toArray, List.getElem_cons_zero, List.getElem_cons_succ]
       obtain ⟨z0, z1, z2, z3, z4, z5, z6, zf⟩ := cells7 HZ.out.at_
       have hzl := HZ.out.lt
       go_simp
       with_reducible refine hK.out _ _ (end3C HJ.out HZ.out).1 (fun hHeld => ?_)
       clear hK K
       (try simp only [Act.put, List.getElem_toArray, List.getElem_cons_zero, List.getElem_cons_succ, List.setIfInBounds_toArray, List.set_cons_zero, List.set_cons_succ])
       refine wpAnyH_done (by kernel_rfl) ?_ _
       go_wp2_with fail
       go_meet
       with_reducible exact (end3C HJ.out HZ.out).2
     refine AllReadyH.cons (o := _) rfl (fun K hK => ?_) AllReadyH.nil
     simp only [Act.put, List.getElem_toArray, List.getElem_cons_zero, List.getElem_cons_succ, List.setIfInBounds_toArray, List.set_cons_zero, List.set_cons_succ]
     go_simp
     with_reducible refine hK.out _ _ (HJ.out.below (below_one _ (.cells #[.bool false, .bool false, .int .u8 0, .int .u32 0, .slice none 0 0, .string ⟨#[]⟩, .string ⟨#[]⟩] 63))).c (fun hHeld => ?_)
     clear hK K
     (try simp only [Act.put, List.getElem_toArray, List.getElem_cons_zero, List.getElem_cons_succ, List.setIfInBounds_toArray, List.set_cons_zero, List.set_cons_succ])
     refine wpAnyH_ready (rs := [15]) (by kernel_rfl) (by simp) ?_
     refine AllReadyH.cons (o := _) rfl (fun K hK => ?_) AllReadyH.nil
     simp only [Act.put, List.getElem_toArray, List.getElem_cons_zero, List.getElem_cons_succ, List.setIfInBounds_toArray, List.set_cons_zero, List.set_cons_succ]
     go_simp
     refine (HLET.out _).mono ?_
     rintro e V' ⟨rfl, b⟩
     go_simp
     have HZ := Lib.hid ((Blk.made (w := w) HJ.out.lt #[.bool false, .bool false, .int .u8 0, .int .u32 0, .slice none 0 0, .string ⟨#[]⟩, .string ⟨#[]⟩] 63).below b)
     have HJ := Lib.hid ((HJ.out.below (below_one _ (.cells #[.bool false, .bool false, .int .u8 0, .int .u32 0, .slice none 0 0, .string ⟨#[]⟩, .string ⟨#[]⟩] 63))).below b)
     with_reducible refine hK.out _ _ HJ.out.c (fun hHeld => ?_)
     clear b
     clear hK K
     (try simp only [Act.put, List.getElem_toArray, List.getElem_cons_zero, List.getElem_cons_succ, List.setIfInBounds_toArray, List.set_cons_zero, List.set_cons_succ])
     refine wpAnyH_ready (rs := [18]) (by kernel_rfl) (by simp) ?_
     refine AllReadyH.cons (o := _) rfl (fun K hK => ?_) AllReadyH.nil
     simp only [Act.put, List.getElem_toArray, List.getElem_cons_zero, List.getElem_cons_succ, List.setIfInBounds_toArray, List.set_cons_zero, List.set_cons_succ]
     go_simp
     refine (HCUT.out _).mono ?_
     rintro e V' ⟨rfl, rfl⟩
     go_simp
     with_reducible refine hK.out _ _ HJ.out.c (fun hHeld => ?_)
     clear hK K
     (try simp only [Act.put, List.getElem_toArray, List.getElem_cons_zero, List.getElem_cons_succ, List.setIfInBounds_toArray, List.set_cons_zero, List.set_cons_succ])
     refine wpAnyH_ready (rs := [20]) (by kernel_rfl) (by simp) ?_
     refine AllReadyH.cons (o := _) rfl (fun K hK => ?_) AllReadyH.nil
     simp only [Act.put, List.getElem_toArray, List.getElem_cons_zero, List.getElem_cons_succ, List.setIfInBounds_toArray, List.set_cons_zero, List.set_cons_succ]
     go_simp
     refine (HWHY.out _).mono ?_
     rintro e V' ⟨rfl, b⟩
     go_simp
     have HZ := Lib.hid (HZ.out.below b)
     have HJ := Lib.hid (HJ.out.below b)
     with_reducible refine hK.out _ _ HJ.out.c (fun hHeld => ?_)
     clear b
     clear hK K
     (try simp only [Act.put, List.getElem_toArray, List.getElem_cons_zero, List.getElem_cons_succ, List.setIfInBounds_toArray, List.set_cons_zero, List.set_cons_succ])
     refine wpAnyH_take (i := 21) (oi := _) (v := ?_) rfl (by kernel_rfl) (by kernel_rfl) (by kernel_rfl) (fun _ _ _ h => h) (Or.inl ⟨by rfl, ?_⟩) (by assumption) ?_
     rotate_left
     · intro wx hSw
       obtain ⟨y0, y1, y2, y5, y6⟩ := hSw
       (go_simp) <;> (with_reducible rfl)
     simp only [Act.put, List.getElem_toArray, List.getElem_cons_zero, List.getElem_cons_succ, List.setIfInBounds_toArray, List.set_cons_zero, List.set_cons_succ]
     refine wpAnyH_ready (rs := [22]) (by kernel_rfl) (by simp) ?_
     refine AllReadyH.cons (o := _) rfl (fun K hK => ?_) AllReadyH.nil
     simp only [Act.put, List.getElem_toArray, List.getElem_cons_zero, List.getElem_cons_succ, List.setIfInBounds_toArray, List.set_cons_zero, List.set_cons_succ]
     go_simp
     with_reducible refine hK.out _ _ (HJ.out.below (below_one _ (.cells #[.int .i64 3, .int .u32 0, .string M, .string ⟨#[]⟩] 85))).c (fun hHeld => ?_)
     clear hK K
     (try simp only [Act.put, List.getElem_toArray, List.getElem_cons_zero, List.getElem_cons_succ, List.setIfInBounds_toArray, List.set_cons_zero, List.set_cons_succ])
     refine wpAnyH_take (i := 23) (oi := _) (v := ?_) rfl (by kernel_rfl) (by kernel_rfl) (by kernel_rfl) (fun _ _ _ h => h) (Or.inl ⟨by rfl, ?_⟩) (by assumption) ?_
     rotate_left
     · intro wx hSw
       obtain ⟨y0, y1, y2, y5, y6⟩ := hSw
       (go_simp) <;> (with_reducible rfl)
     simp only [Act.put, List.getElem_toArray, List.getElem_cons_zero, List.getElem_cons_succ, List.setIfInBounds_toArray, List.set_cons_zero, List.set_cons_succ]
     refine wpAnyH_ready (rs := [25]) (by kernel_rfl) (by simp) ?_
     refine AllReadyH.cons (o := _) rfl (fun K hK => ?_) AllReadyH.nil
     simp only [List.getElem_toArray, List.getElem_cons_zero, List.getElem_cons_succ]
     obtain ⟨z0, z1, z2, z3, z4, z5, z6, zf⟩ := cells7 HZ.out.at_
     have hzl := HZ.out.lt
     go_simp
     with_reducible refine hK.out _ _ (end3C HJ.out HZ.out).1 (fun hHeld => ?_)
     clear hK K
     (try simp only [Act.put, List.getElem_toArray, List.getElem_cons_zero, List.getElem_cons_succ, List.setIfInBounds_toArray, List.set_cons_zero, List.set_cons_succ])
     refine wpAnyH_done (by kernel_rfl) ?_ _
     go_wp2_with fail
     go_meet
     with_reducible exact (end3C HJ.out HZ.out).2
  case rest =>
    obtain ⟨xb, g, rfl, hB, hx, hg, hne⟩ := hcut
    have HM := Lib.hid (show Mx w xb g D ret Q 0 L P M wc from ⟨hB, hx, hg, hne⟩)
    obtain ⟨d0, d1, d2, d3, d4, d5, d6, df⟩ := cells7 hx.at_
    clear hB hx hg hne HLET HCUT hD HJ
    go_upto_if 46 with fail
    go_cut [] from 18 (fun wx => Mx w xb g D ret Q n L P M wx)
    case first =>
      by_cases hq : Q = 0
      · have hn0 : n = 0 := by rw [← HN.out, if_pos hq]
        subst hq
        subst hn0
        go_wp2_with fail
        go_meet
        exact HM.out
      · have hn0 : n = n2 := by rw [← HN.out, if_neg hq]
        subst hn0
        have hq1 : 0 < Q := by omega
        go_wp2_with fail
        go_meet
        exact HM.out.named _
    case rest =>
      have HM := Lib.hid hcut
      clear hcut d0 d1 d2 d3 d4 d5 d6 df
      go_upto_region 6 with fail
      go_cut [12, 13] from 18 (fun v12 v13 wx => X6 w xb g D ret Q n L P M v12 v13 wx)
      case first =>
       have HM := Lib.hid HM.out.drew
       refine wp_region_held_drew (S := MxC xb g D ret Q n L P) (by kernel_rfl) HM.out.c (fun hHeld => ?_)
       generalize wc.drew = W6 at *
       refine wpAnyH_take (i := 0) (oi := _) (v := ?_) rfl (by kernel_rfl) (by kernel_rfl) (by kernel_rfl) (fun _ _ _ h => h) (Or.inl ⟨by rfl, ?_⟩) (by assumption) ?_
       rotate_left
       · intro wx hSw
         obtain ⟨y0, y1, y2, y3, y4, y5, y6⟩ := hSw
         (go_simp) <;> (with_reducible rfl)
       simp only [Act.put, List.getElem_toArray, List.getElem_cons_zero, List.setIfInBounds_toArray, List.set_cons_zero, List.set_cons_succ]
       refine wpAnyH_take (i := 2) (oi := _) (v := ?_) rfl (by kernel_rfl) (by kernel_rfl) (by kernel_rfl) (fun _ _ _ h => h) (Or.inl ⟨by rfl, ?_⟩) (by assumption) ?_
       rotate_left
       · intro wx hSw
         obtain ⟨y0, y1, y2, y3, y4, y5, y6⟩ := hSw
         (go_simp) <;> (with_reducible rfl)
       simp only [Act.put, List.getElem_toArray, List.getElem_cons_zero, List.getElem_cons_succ, List.setIfInBounds_toArray, List.set_cons_zero, List.set_cons_succ]
       refine wpAnyH_ready (rs := [1, 8]) (by kernel_rfl) (by simp) ?_
       refine AllReadyH.cons (o := _) rfl (fun K hK => ?_) ?_
       · simp only [Act.put, List.getElem_toArray, List.getElem_cons_zero, List.getElem_cons_succ, List.setIfInBounds_toArray, List.set_cons_zero, List.set_cons_succ]
         go_simp
         refine (HF.out _ _).mono ?_
         rintro e V' ⟨rfl, b⟩
         go_simp
         have HM := Lib.hid (HM.out.below b)
         with_reducible refine hK.out _ _ HM.out.c (fun hHeld => ?_)
         clear b
         clear hK K
         (try simp only [Act.put, List.getElem_toArray, List.getElem_cons_zero, List.getElem_cons_succ, List.setIfInBounds_toArray, List.set_cons_zero, List.set_cons_succ])
         refine wpAnyH_ready (rs := [3, 8]) (by kernel_rfl) (by simp) ?_
         refine AllReadyH.cons (o := _) rfl (fun K hK => ?_) ?_
         · simp only [Act.put, List.getElem_toArray, List.getElem_cons_zero, List.getElem_cons_succ, List.setIfInBounds_toArray, List.set_cons_zero, List.set_cons_succ]
           go_simp
           refine (HX.out _ _ _ _ HM.out.props).mono ?_
           rintro e V' ⟨rfl, b⟩
           go_simp
           have HM := Lib.hid (HM.out.below b)
           with_reducible refine hK.out _ _ HM.out.c (fun hHeld => ?_)
           clear b
           clear hK K
           (try simp only [Act.put, List.getElem_toArray, List.getElem_cons_zero, List.getElem_cons_succ, List.setIfInBounds_toArray, List.set_cons_zero, List.set_cons_succ])
           refine wpAnyH_ready (rs := [4, 8]) (by kernel_rfl) (by simp) ?_
           refine AllReadyH.cons (o := _) rfl (fun K hK => ?_) ?_
           · simp only [Act.put, List.getElem_toArray, List.getElem_cons_zero, List.getElem_cons_succ, List.setIfInBounds_toArray, List.set_cons_zero, List.set_cons_succ]
             go_simp
             refine (HPA.out _ (HT.out.below HM.out.bel)).mono ?_
             rintro e V' ⟨ya, yc, rfl, ho, b⟩
             go_simp
             have HO := Lib.hid ho
             have HM := Lib.hid (HM.out.below b)
             with_reducible refine hK.out _ _ HM.out.c (fun hHeld => ?_)
             clear b ho
             clear hK K
             (try simp only [Act.put, List.getElem_toArray, List.getElem_cons_zero, List.getElem_cons_succ, List.setIfInBounds_toArray, List.set_cons_zero, List.set_cons_succ])
             refine wpAnyH_take (i := 5) (oi := _) (v := ?_) rfl (by kernel_rfl) (by kernel_rfl) (by kernel_rfl) (fun _ _ _ h => h) (Or.inl ⟨by rfl, ?_⟩) (by assumption) ?_
             rotate_left
             · intro wx hSw
               obtain ⟨y0, y1, y2, y3, y4, y5, y6⟩ := hSw
               (go_simp) <;> (with_reducible rfl)
             simp only [Act.put, List.getElem_toArray, List.getElem_cons_zero, List.getElem_cons_succ, List.setIfInBounds_toArray, List.set_cons_zero, List.set_cons_succ]
             refine wpAnyH_take (i := 6) (oi := _) (v := ?_) rfl (by kernel_rfl) (by kernel_rfl) (by kernel_rfl) (fun _ _ _ h => h) (Or.inl ⟨by rfl, ?_⟩) (by assumption) ?_
             rotate_left
             · intro wx hSw
               obtain ⟨y0, y1, y2, y3, y4, y5, y6⟩ := hSw
               (go_simp) <;> (with_reducible rfl)
             simp only [Act.put, List.getElem_toArray, List.getElem_cons_zero, List.getElem_cons_succ, List.setIfInBounds_toArray, List.set_cons_zero, List.set_cons_succ]
             refine wpAnyH_take (i := 7) (oi := _) (v := ?_) rfl (by kernel_rfl) (by kernel_rfl) (by kernel_rfl) (fun _ _ _ h => h) (Or.inl ⟨by rfl, ?_⟩) (by assumption) ?_
             rotate_left
             · intro wx hSw
               obtain ⟨y0, y1, y2, y3, y4, y5, y6⟩ := hSw
               (go_simp) <;> (with_reducible rfl)
             simp only [Act.put, List.getElem_toArray, List.getElem_cons_zero, List.getElem_cons_succ, List.setIfInBounds_toArray, List.set_cons_zero, List.set_cons_succ]
             refine wpAnyH_ready (rs := [8]) (by kernel_rfl) (by simp) ?_
             refine AllReadyH.cons (o := _) rfl (fun K hK => ?_) AllReadyH.nil
             simp only [Act.put, List.getElem_toArray, List.getElem_cons_zero, List.getElem_cons_succ, List.setIfInBounds_toArray, List.set_cons_zero, List.set_cons_succ]
             go_simp
             with_reducible refine hK.out _ _ (HM.out.below (below_one _ (.cells #[.bool false, .bool false, .int .u8 0, .int .u32 0, .slice none 0 0, .string ⟨#[]⟩, .string ⟨#[]⟩] 63))).c (fun hHeld => ?_)
             clear hK K
             (try simp only [Act.put, List.getElem_toArray, List.getElem_cons_zero, List.getElem_cons_succ, List.setIfInBounds_toArray, List.set_cons_zero, List.set_cons_succ])
             refine wpAnyH_ready (rs := [9]) (by kernel_rfl) (by simp) ?_
             refine AllReadyH.cons (o := _) rfl (fun K hK => ?_) AllReadyH.nil
             simp only [List.getElem_toArray, List.getElem_cons_zero, List.getElem_cons_succ]
             go_simp
             with_reducible refine hK.out _ _ (end6A HM.out HO.out).1 (fun hHeld => ?_)
             clear hK K
             (try simp only [Act.put, List.getElem_toArray, List.getElem_cons_zero, List.getElem_cons_succ, List.setIfInBounds_toArray, List.set_cons_zero, List.set_cons_succ])
             refine wpAnyH_take (i := 10) (oi := _) (v := ?_) rfl (by kernel_rfl) (by kernel_rfl) (by kernel_rfl) (fun _ _ _ h => h) (Or.inl ⟨by rfl, ?_⟩) (by assumption) ?_
             rotate_left
             · intro wx hSw
               obtain ⟨y0, y1, y2, y3, y4, y5, y6⟩ := hSw
               (go_simp) <;> (with_reducible rfl)
             simp only [Act.put, List.getElem_toArray, List.getElem_cons_zero, List.getElem_cons_succ, List.setIfInBounds_toArray, List.set_cons_zero, List.set_cons_succ]
             refine wpAnyH_done (by kernel_rfl) ?_ _
             go_wp2_with fail
             go_meet
             with_reducible exact (end6A HM.out HO.out).2
           refine AllReadyH.cons (o := _) rfl (fun K hK => ?_) AllReadyH.nil
           simp only [Act.put, List.getElem_toArray, List.getElem_cons_zero, List.getElem_cons_succ, List.setIfInBounds_toArray, List.set_cons_zero, List.set_cons_succ]
           go_simp
           with_reducible refine hK.out _ _ (HM.out.below (below_one _ (.cells #[.bool false, .bool false, .int .u8 0, .int .u32 0, .slice none 0 0, .string ⟨#[]⟩, .string ⟨#[]⟩] 63))).c (fun hHeld => ?_)
           clear hK K
           (try simp only [Act.put, List.getElem_toArray, List.getElem_cons_zero, List.getElem_cons_succ, List.setIfInBounds_toArray, List.set_cons_zero, List.set_cons_succ])
           refine wpAnyH_ready (rs := [4]) (by kernel_rfl) (by simp) ?_
           refine AllReadyH.cons (o := _) rfl (fun K hK => ?_) AllReadyH.nil
           simp only [Act.put, List.getElem_toArray, List.getElem_cons_zero, List.getElem_cons_succ, List.setIfInBounds_toArray, List.set_cons_zero, List.set_cons_succ]
           go_simp
           refine (HPA.out _ (HT.out.below (HM.out.below (below_one _ (.cells #[.bool false, .bool false, .int .u8 0, .int .u32 0, .slice none 0 0, .string ⟨#[]⟩, .string ⟨#[]⟩] 63))).bel)).mono ?_
           rintro e V' ⟨ya, yc, rfl, ho, b⟩
           go_simp
           have HO := Lib.hid ho
           have HXZ := Lib.hid HM.out.x.lt
           have HGZ := Lib.hid HM.out.gg.lt
           have HZ := Lib.hid ((Blk.made (w := w) HM.out.lt #[.bool false, .bool false, .int .u8 0, .int .u32 0, .slice none 0 0, .string ⟨#[]⟩, .string ⟨#[]⟩] 63).below b)
           have HZB := Lib.hid (show _ < (World.alloc _ (Obj.cells #[.bool false, .bool false, .int .u8 0, .int .u32 0, .slice none 0 0, .string ⟨#[]⟩, .string ⟨#[]⟩] 63)).heap.size from (Blk.made (w := w) HM.out.lt #[.bool false, .bool false, .int .u8 0, .int .u32 0, .slice none 0 0, .string ⟨#[]⟩, .string ⟨#[]⟩] 63).lt)
           have HM := Lib.hid ((HM.out.below (below_one _ (.cells #[.bool false, .bool false, .int .u8 0, .int .u32 0, .slice none 0 0, .string ⟨#[]⟩, .string ⟨#[]⟩] 63))).below b)
           with_reducible refine hK.out _ _ HM.out.c (fun hHeld => ?_)
           clear b ho
           clear hK K
           (try simp only [Act.put, List.getElem_toArray, List.getElem_cons_zero, List.getElem_cons_succ, List.setIfInBounds_toArray, List.set_cons_zero, List.set_cons_succ])
           refine wpAnyH_take (i := 5) (oi := _) (v := ?_) rfl (by kernel_rfl) (by kernel_rfl) (by kernel_rfl) (fun _ _ _ h => h) (Or.inl ⟨by rfl, ?_⟩) (by assumption) ?_
           rotate_left
           · intro wx hSw
             obtain ⟨y0, y1, y2, y3, y4, y5, y6⟩ := hSw
             (go_simp) <;> (with_reducible rfl)
           simp only [Act.put, List.getElem_toArray, List.getElem_cons_zero, List.getElem_cons_succ, List.setIfInBounds_toArray, List.set_cons_zero, List.set_cons_succ]
           refine wpAnyH_take (i := 6) (oi := _) (v := ?_) rfl (by kernel_rfl) (by kernel_rfl) (by kernel_rfl) (fun _ _ _ h => h) (Or.inl ⟨by rfl, ?_⟩) (by assumption) ?_
           rotate_left
           · intro wx hSw
             obtain ⟨y0, y1, y2, y3, y4, y5, y6⟩ := hSw
             (go_simp) <;> (with_reducible rfl)
           simp only [Act.put, List.getElem_toArray, List.getElem_cons_zero, List.getElem_cons_succ, List.setIfInBounds_toArray, List.set_cons_zero, List.set_cons_succ]
           refine wpAnyH_take (i := 7) (oi := _) (v := ?_) rfl (by kernel_rfl) (by kernel_rfl) (by kernel_rfl) (fun _ _ _ h => h) (Or.inl ⟨by rfl, ?_⟩) (by assumption) ?_
           rotate_left
           · intro wx hSw
             obtain ⟨y0, y1, y2, y3, y4, y5, y6⟩ := hSw
             (go_simp) <;> (with_reducible rfl)
           simp only [Act.put, List.getElem_toArray, List.getElem_cons_zero, List.getElem_cons_succ, List.setIfInBounds_toArray, List.set_cons_zero, List.set_cons_succ]
           refine wpAnyH_ready (rs := [9]) (by kernel_rfl) (by simp) ?_
           refine AllReadyH.cons (o := _) rfl (fun K hK => ?_) AllReadyH.nil
           simp only [List.getElem_toArray, List.getElem_cons_zero, List.getElem_cons_succ]
           obtain ⟨z0, z1, z2, z3, z4, z5, z6, zf⟩ := cells7 HZ.out.at_
           have hzl := HZ.out.lt
           go_simp
           with_reducible refine hK.out _ _ (end6C HM.out HZ.out HXZ.out HGZ.out HZB.out HO.out).1 (fun hHeld => ?_)
           clear hK K
           (try simp only [Act.put, List.getElem_toArray, List.getElem_cons_zero, List.getElem_cons_succ, List.setIfInBounds_toArray, List.set_cons_zero, List.set_cons_succ])
           refine wpAnyH_take (i := 10) (oi := _) (v := ?_) rfl (by kernel_rfl) (by kernel_rfl) (by kernel_rfl) (fun _ _ _ h => h) (Or.inl ⟨by rfl, ?_⟩) (by assumption) ?_
           rotate_left
           · intro wx hSw
             obtain ⟨y0, y1, y2, y3, y4, y5, y6⟩ := hSw
             (go_simp) <;> (with_reducible rfl)
           simp only [Act.put, List.getElem_toArray, List.getElem_cons_zero, List.getElem_cons_succ, List.setIfInBounds_toArray, List.set_cons_zero, List.set_cons_succ]
           refine wpAnyH_done (by kernel_rfl) ?_ _
           go_wp2_with fail
           go_meet
           with_reducible exact (end6C HM.out HZ.out HXZ.out HGZ.out HZB.out HO.out).2
         refine AllReadyH.cons (o := _) rfl (fun K hK => ?_) AllReadyH.nil
         simp only [Act.put, List.getElem_toArray, List.getElem_cons_zero, List.getElem_cons_succ, List.setIfInBounds_toArray, List.set_cons_zero, List.set_cons_succ]
         go_simp
         with_reducible refine hK.out _ _ (HM.out.below (below_one _ (.cells #[.bool false, .bool false, .int .u8 0, .int .u32 0, .slice none 0 0, .string ⟨#[]⟩, .string ⟨#[]⟩] 63))).c (fun hHeld => ?_)
         clear hK K
         (try simp only [Act.put, List.getElem_toArray, List.getElem_cons_zero, List.getElem_cons_succ, List.setIfInBounds_toArray, List.set_cons_zero, List.set_cons_succ])
         refine wpAnyH_ready (rs := [3]) (by kernel_rfl) (by simp) ?_
         refine AllReadyH.cons (o := _) rfl (fun K hK => ?_) AllReadyH.nil
         simp only [Act.put, List.getElem_toArray, List.getElem_cons_zero, List.getElem_cons_succ, List.setIfInBounds_toArray, List.set_cons_zero, List.set_cons_succ]
         go_simp
         refine (HX.out _ _ _ _ (HM.out.below (below_one _ (.cells #[.bool false, .bool false, .int .u8 0, .int .u32 0, .slice none 0 0, .string ⟨#[]⟩, .string ⟨#[]⟩] 63))).props).mono ?_
         rintro e V' ⟨rfl, b⟩
         go_simp
         have HXZ := Lib.hid HM.out.x.lt
         have HGZ := Lib.hid HM.out.gg.lt
         have HZ := Lib.hid ((Blk.made (w := w) HM.out.lt #[.bool false, .bool false, .int .u8 0, .int .u32 0, .slice none 0 0, .string ⟨#[]⟩, .string ⟨#[]⟩] 63).below b)
         have HM := Lib.hid ((HM.out.below (below_one _ (.cells #[.bool false, .bool false, .int .u8 0, .int .u32 0, .slice none 0 0, .string ⟨#[]⟩, .string ⟨#[]⟩] 63))).below b)
         with_reducible refine hK.out _ _ HM.out.c (fun hHeld => ?_)
         clear b
         clear hK K
         (try simp only [Act.put, List.getElem_toArray, List.getElem_cons_zero, List.getElem_cons_succ, List.setIfInBounds_toArray, List.set_cons_zero, List.set_cons_succ])
         refine wpAnyH_ready (rs := [4]) (by kernel_rfl) (by simp) ?_
         refine AllReadyH.cons (o := _) rfl (fun K hK => ?_) AllReadyH.nil
         simp only [Act.put, List.getElem_toArray, List.getElem_cons_zero, List.getElem_cons_succ, List.setIfInBounds_toArray, List.set_cons_zero, List.set_cons_succ]
         go_simp
         refine (HPA.out _ (HT.out.below HM.out.bel)).mono ?_
         rintro e V' ⟨ya, yc, rfl, ho, b⟩
         go_simp
         have HO := Lib.hid ho
         have HZB := Lib.hid HZ.out.lt
         have HZ := Lib.hid (HZ.out.below b)
         have HM := Lib.hid (HM.out.below b)
         with_reducible refine hK.out _ _ HM.out.c (fun hHeld => ?_)
         clear b ho
         clear hK K
         (try simp only [Act.put, List.getElem_toArray, List.getElem_cons_zero, List.getElem_cons_succ, List.setIfInBounds_toArray, List.set_cons_zero, List.set_cons_succ])
         refine wpAnyH_take (i := 5) (oi := _) (v := ?_) rfl (by kernel_rfl) (by kernel_rfl) (by kernel_rfl) (fun _ _ _ h => h) (Or.inl ⟨by rfl, ?_⟩) (by assumption) ?_
         rotate_left
         · intro wx hSw
           obtain ⟨y0, y1, y2, y3, y4, y5, y6⟩ := hSw
           (go_simp) <;> (with_reducible rfl)
         simp only [Act.put, List.getElem_toArray, List.getElem_cons_zero, List.getElem_cons_succ, List.setIfInBounds_toArray, List.set_cons_zero, List.set_cons_succ]
         refine wpAnyH_take (i := 6) (oi := _) (v := ?_) rfl (by kernel_rfl) (by kernel_rfl) (by kernel_rfl) (fun _ _ _ h => h) (Or.inl ⟨by rfl, ?_⟩) (by assumption) ?_
         rotate_left
         · intro wx hSw
           obtain ⟨y0, y1, y2, y3, y4, y5, y6⟩ := hSw
           (go_simp) <;> (with_reducible rfl)
         simp only [Act.put, List.getElem_toArray, List.getElem_cons_zero, List.getElem_cons_succ, List.setIfInBounds_toArray, List.set_cons_zero, List.set_cons_succ]
         refine wpAnyH_take (i := 7) (oi := _) (v := ?_) rfl (by kernel_rfl) (by kernel_rfl) (by kernel_rfl) (fun _ _ _ h => h) (Or.inl ⟨by rfl, ?_⟩) (by assumption) ?_
         rotate_left
         · intro wx hSw
           obtain ⟨y0, y1, y2, y3, y4, y5, y6⟩ := hSw
           (go_simp) <;> (with_reducible rfl)
         simp only [Act.put, List.getElem_toArray, List.getElem_cons_zero, List.getElem_cons_succ, List.setIfInBounds_toArray, List.set_cons_zero, List.set_cons_succ]
         refine wpAnyH_ready (rs := [9]) (by kernel_rfl) (by simp) ?_
         refine AllReadyH.cons (o := _) rfl (fun K hK => ?_) AllReadyH.nil
         simp only [List.getElem_toArray, List.getElem_cons_zero, List.getElem_cons_succ]
         obtain ⟨z0, z1, z2, z3, z4, z5, z6, zf⟩ := cells7 HZ.out.at_
         have hzl := HZ.out.lt
         go_simp
         with_reducible refine hK.out _ _ (end6C HM.out HZ.out HXZ.out HGZ.out HZB.out HO.out).1 (fun hHeld => ?_)
         clear hK K
         (try simp only [Act.put, List.getElem_toArray, List.getElem_cons_zero, List.getElem_cons_succ, List.setIfInBounds_toArray, List.set_cons_zero, List.set_cons_succ])
         refine wpAnyH_take (i := 10) (oi := _) (v := ?_) rfl (by kernel_rfl) (by kernel_rfl) (by kernel_rfl) (fun _ _ _ h => h) (Or.inl ⟨by rfl, ?_⟩) (by assumption) ?_
         rotate_left
         · intro wx hSw
           obtain ⟨y0, y1, y2, y3, y4, y5, y6⟩ := hSw
           (go_simp) <;> (with_reducible rfl)
         simp only [Act.put, List.getElem_toArray, List.getElem_cons_zero, List.getElem_cons_succ, List.setIfInBounds_toArray, List.set_cons_zero, List.set_cons_succ]
         refine wpAnyH_done (by kernel_rfl) ?_ _
         go_wp2_with fail
         go_meet
         with_reducible exact (end6C HM.out HZ.out HXZ.out HGZ.out HZB.out HO.out).2
       refine AllReadyH.cons (o := _) rfl (fun K hK => ?_) AllReadyH.nil
       simp only [Act.put, List.getElem_toArray, List.getElem_cons_zero, List.getElem_cons_succ, List.setIfInBounds_toArray, List.set_cons_zero, List.set_cons_succ]
       go_simp
       with_reducible refine hK.out _ _ (HM.out.below (below_one _ (.cells #[.bool false, .bool false, .int .u8 0, .int .u32 0, .slice none 0 0, .string ⟨#[]⟩, .string ⟨#[]⟩] 63))).c (fun hHeld => ?_)
       clear hK K
       (try simp only [Act.put, List.getElem_toArray, List.getElem_cons_zero, List.getElem_cons_succ, List.setIfInBounds_toArray, List.set_cons_zero, List.set_cons_succ])
       refine wpAnyH_ready (rs := [1]) (by kernel_rfl) (by simp) ?_
       refine AllReadyH.cons (o := _) rfl (fun K hK => ?_) AllReadyH.nil
       simp only [Act.put, List.getElem_toArray, List.getElem_cons_zero, List.getElem_cons_succ, List.setIfInBounds_toArray, List.set_cons_zero, List.set_cons_succ]
       go_simp
       refine (HF.out _ _).mono ?_
       rintro e V' ⟨rfl, b⟩
       go_simp
       have HXZ := Lib.hid HM.out.x.lt
       have HGZ := Lib.hid HM.out.gg.lt
       have HZ := Lib.hid ((Blk.made (w := w) HM.out.lt #[.bool false, .bool false, .int .u8 0, .int .u32 0, .slice none 0 0, .string ⟨#[]⟩, .string ⟨#[]⟩] 63).below b)
       have HM := Lib.hid ((HM.out.below (below_one _ (.cells #[.bool false, .bool false, .int .u8 0, .int .u32 0, .slice none 0 0, .string ⟨#[]⟩, .string ⟨#[]⟩] 63))).below b)
       with_reducible refine hK.out _ _ HM.out.c (fun hHeld => ?_)
       clear b
       clear hK K
       (try simp only [Act.put, List.getElem_toArray, List.getElem_cons_zero, List.getElem_cons_succ, List.setIfInBounds_toArray, List.set_cons_zero, List.set_cons_succ])
       refine wpAnyH_ready (rs := [3]) (by kernel_rfl) (by simp) ?_
       refine AllReadyH.cons (o := _) rfl (fun K hK => ?_) AllReadyH.nil
       simp only [Act.put, List.getElem_toArray, List.getElem_cons_zero, List.getElem_cons_succ, List.setIfInBounds_toArray, List.set_cons_zero, List.set_cons_succ]
       go_simp
       refine (HX.out _ _ _ _ HM.out.props).mono ?_
       rintro e V' ⟨rfl, b⟩
       go_simp
       have HZ := Lib.hid (HZ.out.below b)
       have HM := Lib.hid (HM.out.below b)
       with_reducible refine hK.out _ _ HM.out.c (fun hHeld => ?_)
       clear b
       clear hK K
       (try simp only [Act.put, List.getElem_toArray, List.getElem_cons_zero, List.getElem_cons_succ, List.setIfInBounds_toArray, List.set_cons_zero, List.set_cons_succ])
       refine wpAnyH_ready (rs := [4]) (by kernel_rfl) (by simp) ?_
       refine AllReadyH.cons (o := _) rfl (fun K hK => ?_) AllReadyH.nil
       simp only [Act.put, List.getElem_toArray, List.getElem_cons_zero, List.getElem_cons_succ, List.setIfInBounds_toArray, List.set_cons_zero, List.set_cons_succ]
       go_simp
       refine (HPA.out _ (HT.out.below HM.out.bel)).mono ?_
       rintro e V' ⟨ya, yc, rfl, ho, b⟩
       go_simp
       have HO := Lib.hid ho
       have HZB := Lib.hid HZ.out.lt
       have HZ := Lib.hid (HZ.out.below b)
       have HM := Lib.hid (HM.out.below b)
       with_reducible refine hK.out _ _ HM.out.c (fun hHeld => ?_)
       clear b ho
       clear hK K
       (try simp only [Act.put, List.getElem_toArray, List.getElem_cons_zero, List.getElem_cons_succ, List.setIfInBounds_toArray, List.set_cons_zero, List.set_cons_succ])
       refine wpAnyH_take (i := 5) (oi := _) (v := ?_) rfl (by kernel_rfl) (by kernel_rfl) (by kernel_rfl) (fun _ _ _ h => h) (Or.inl ⟨by rfl, ?_⟩) (by assumption) ?_
       rotate_left
       · intro wx hSw
         obtain ⟨y0, y1, y2, y3, y4, y5, y6⟩ := hSw
         (go_simp) <;> (with_reducible rfl)
       simp only [Act.put, List.getElem_toArray, List.getElem_cons_zero, List.getElem_cons_succ, List.setIfInBounds_toArray, List.set_cons_zero, List.set_cons_succ]
       refine wpAnyH_take (i := 6) (oi := _) (v := ?_) rfl (by kernel_rfl) (by kernel_rfl) (by kernel_rfl) (fun _ _ _ h => h) (Or.inl ⟨by rfl, ?_⟩) (by assumption) ?_
       rotate_left
       · intro wx hSw
         obtain ⟨y0, y1, y2, y3, y4, y5, y6⟩ := hSw
         (go_simp) <;> (with_reducible rfl)
       simp only [Act.put, List.getElem_toArray, List.getElem_cons_zero, List.getElem_cons_succ, List.setIfInBounds_toArray, List.set_cons_zero, List.set_cons_succ]
       refine wpAnyH_take (i := 7) (oi := _) (v := ?_) rfl (by kernel_rfl) (by kernel_rfl) (by kernel_rfl) (fun _ _ _ h => h) (Or.inl ⟨by rfl, ?_⟩) (by assumption) ?_
       rotate_left
       · intro wx hSw
         obtain ⟨y0, y1, y2, y3, y4, y5, y6⟩ := hSw
         (go_simp) <;> (with_reducible rfl)
       simp only [Act.put, List.getElem_toArray, List.getElem_cons_zero, List.getElem_cons_succ, List.setIfInBounds_toArray, List.set_cons_zero, List.set_cons_succ]
       refine wpAnyH_ready (rs := [9]) (by kernel_rfl) (by simp) ?_
       refine AllReadyH.cons (o := _) rfl (fun K hK => ?_) AllReadyH.nil
       simp only [List.getElem_toArray, List.getElem_cons_zero, List.getElem_cons_succ]
       obtain ⟨z0, z1, z2, z3, z4, z5, z6, zf⟩ := cells7 HZ.out.at_
       have hzl := HZ.out.lt
       go_simp
       with_reducible refine hK.out _ _ (end6C HM.out HZ.out HXZ.out HGZ.out HZB.out HO.out).1 (fun hHeld => ?_)
       clear hK K
       (try simp only [Act.put, List.getElem_toArray, List.getElem_cons_zero, List.getElem_cons_succ, List.setIfInBounds_toArray, List.set_cons_zero, List.set_cons_succ])
       refine wpAnyH_take (i := 10) (oi := _) (v := ?_) rfl (by kernel_rfl) (by kernel_rfl) (by kernel_rfl) (fun _ _ _ h => h) (Or.inl ⟨by rfl, ?_⟩) (by assumption) ?_
       rotate_left
       · intro wx hSw
         obtain ⟨y0, y1, y2, y3, y4, y5, y6⟩ := hSw
         (go_simp) <;> (with_reducible rfl)
       simp only [Act.put, List.getElem_toArray, List.getElem_cons_zero, List.getElem_cons_succ, List.setIfInBounds_toArray, List.set_cons_zero, List.set_cons_succ]
       refine wpAnyH_done (by kernel_rfl) ?_ _
       go_wp2_with fail
       go_meet
       with_reducible exact (end6C HM.out HZ.out HXZ.out HGZ.out HZB.out HO.out).2
      case rest =>
        obtain ⟨yb, ya, yc, rfl, rfl, hMY⟩ := hcut
        have HM := Lib.hid hMY
        have hkk := HK.out
        clear hMY HX HPA HN HK
        go_wp2_with fail
        refine (codes_calls _ k).mono ?_
        rintro e w8 ⟨cc, rfl, hrow, b⟩
        have HM := Lib.hid (HM.out.below b)
        have hlen : (rowL k).length = 9 ∨ (rowL k).length = 2 := by
          have : k = 4 ∨ k = 5 ∨ k = 6 ∨ k = 7 := by omega
          rcases this with rfl | rfl | rfl | rfl <;> decide
        have hpos : (((rowL k).length : Int) == 0) = false := by rcases hlen with h | h <;> rw [h] <;> rfl
        generalize hcb : wc.heap.size = cb at *
        have HROW := Lib.hid hrow
        have HLEN := Lib.hid hlen
        clear hrow b hlen hcb hkk
        go_upto_region 9 with fail
        go_cut [84] from 18 (fun v84 wx => v84 = .bool false ∧ My w xb g yb D ret Q n L P M ya yc wx ∧ RowAt wx cb (rowL k))
        case first =>
          have HM := Lib.hid HM.out.drew
          have HROW := Lib.hid (show RowAt w8.drew cb (rowL k) from HROW.out)
          refine wp_region_held_drew (S := MyC xb g yb D ret Q n L P ya yc) (by kernel_rfl) HM.out.c (fun hHeld => ?_)
          refine wpAnyH_take (i := 0) (oi := _) (v := ?_) rfl (by kernel_rfl) (by kernel_rfl) (by kernel_rfl) (fun _ _ _ h => h) (Or.inl ⟨by rfl, ?_⟩) (by assumption) ?_
          rotate_left
          · intro wx hSw
            obtain ⟨⟨y0, y1, y2, y3, y4, y5, y6⟩, x0, x1, x2, x3, x4, x5, x6⟩ := hSw
            (go_simp) <;> (with_reducible rfl)
          simp only [Act.put, List.getElem_toArray, List.getElem_cons_zero, List.setIfInBounds_toArray, List.set_cons_zero, List.set_cons_succ]
          refine wpAnyH_take (i := 1) (oi := _) (v := ?_) rfl (by kernel_rfl) (by kernel_rfl) (by kernel_rfl) (fun _ _ _ h => h) (Or.inl ⟨by rfl, ?_⟩) (by assumption) ?_
          rotate_left
          · intro wx hSw
            obtain ⟨⟨y0, y1, y2, y3, y4, y5, y6⟩, x0, x1, x2, x3, x4, x5, x6⟩ := hSw
            (go_simp) <;> (with_reducible rfl)
          simp only [Act.put, List.getElem_toArray, List.getElem_cons_zero, List.getElem_cons_succ, List.setIfInBounds_toArray, List.set_cons_zero, List.set_cons_succ]
          refine wpAnyH_take (i := 2) (oi := _) (v := ?_) rfl (by kernel_rfl) (by kernel_rfl) (by kernel_rfl) (fun _ _ _ h => h) (Or.inl ⟨by rfl, ?_⟩) (by assumption) ?_
          rotate_left
          · intro wx hSw
            obtain ⟨⟨y0, y1, y2, y3, y4, y5, y6⟩, x0, x1, x2, x3, x4, x5, x6⟩ := hSw
            (go_simp) <;> (with_reducible rfl)
          simp only [Act.put, List.getElem_toArray, List.getElem_cons_zero, List.getElem_cons_succ, List.setIfInBounds_toArray, List.set_cons_zero, List.set_cons_succ]
          refine wpAnyH_take (i := 3) (oi := _) (v := ?_) rfl (by kernel_rfl) (by kernel_rfl) (by kernel_rfl) (fun _ _ _ h => h) (Or.inl ⟨by rfl, ?_⟩) (by assumption) ?_
          rotate_left
          · intro wx hSw
            obtain ⟨⟨y0, y1, y2, y3, y4, y5, y6⟩, x0, x1, x2, x3, x4, x5, x6⟩ := hSw
            (go_simp) <;> (with_reducible rfl)
          simp only [Act.put, List.getElem_toArray, List.getElem_cons_zero, List.getElem_cons_succ, List.setIfInBounds_toArray, List.set_cons_zero, List.set_cons_succ]
          refine wpAnyH_take (i := 5) (oi := _) (v := ?_) rfl (by kernel_rfl) (by kernel_rfl) (by kernel_rfl) (fun _ _ _ h => h) (Or.inl ⟨by rfl, ?_⟩) (by assumption) ?_
          rotate_left
          · intro wx hSw
            obtain ⟨⟨y0, y1, y2, y3, y4, y5, y6⟩, x0, x1, x2, x3, x4, x5, x6⟩ := hSw
            (go_simp) <;> (with_reducible rfl)
          simp only [Act.put, List.getElem_toArray, List.getElem_cons_zero, List.getElem_cons_succ, List.setIfInBounds_toArray, List.set_cons_zero, List.set_cons_succ]
          refine wpAnyH_ready (rs := [4]) (by kernel_rfl) (by simp) ?_
          refine AllReadyH.cons (o := _) rfl (fun K hK => ?_) AllReadyH.nil
          simp only [Act.put, List.getElem_toArray, List.getElem_cons_zero, List.getElem_cons_succ, List.setIfInBounds_toArray, List.set_cons_zero, List.set_cons_succ]
          go_simp
          refine (HTO.out _ _ _ _ HM.out.ps).mono ?_
          rintro e V1 ⟨p1, m1, q1, rfl, hp1, b⟩
          go_simp
          have HM := Lib.hid (HM.out.below b)
          have HROW := Lib.hid (HROW.out.below b)
          have HP1 := Lib.hid hp1
          clear hp1
          with_reducible refine hK.out _ _ HM.out.c (fun hHeld => ?_)
          clear hK K b
          (try simp only [Act.put, List.getElem_toArray, List.getElem_cons_zero, List.getElem_cons_succ, List.setIfInBounds_toArray, List.set_cons_zero, List.set_cons_succ])
          refine wpAnyH_ready (rs := [6]) (by kernel_rfl) (by simp) ?_
          refine AllReadyH.cons (o := _) rfl (fun K hK => ?_) AllReadyH.nil
          simp only [Act.put, List.getElem_toArray, List.getElem_cons_zero, List.getElem_cons_succ, List.setIfInBounds_toArray, List.set_cons_zero, List.set_cons_succ]
          go_simp
          refine (HTO.out _ _ _ _ HM.out.m.props).mono ?_
          rintro e V2 ⟨p2, m2, q2, rfl, hp2, b⟩
          go_simp
          have HM := Lib.hid (HM.out.below b)
          have HROW := Lib.hid (HROW.out.below b)
          have HP1 := Lib.hid (HP1.out.below b)
          have HP2 := Lib.hid hp2
          clear hp2
          with_reducible refine hK.out _ _ HM.out.c (fun hHeld => ?_)
          clear hK K b
          (try simp only [Act.put, List.getElem_toArray, List.getElem_cons_zero, List.getElem_cons_succ, List.setIfInBounds_toArray, List.set_cons_zero, List.set_cons_succ])
          refine wpAnyH_ready (rs := [7]) (by kernel_rfl) (by simp) ?_
          refine AllReadyH.cons (o := _) rfl (fun K hK => ?_) AllReadyH.nil
          simp only [Act.put, List.getElem_toArray, List.getElem_cons_zero, List.getElem_cons_succ, List.setIfInBounds_toArray, List.set_cons_zero, List.set_cons_succ]
          go_simp
          refine (HSM.out _ _ _ _ _ _ _ HP1.out HP2.out).mono ?_
          rintro e V3 ⟨rfl, b⟩
          go_simp
          have HM := Lib.hid (HM.out.below b)
          have HROW := Lib.hid (HROW.out.below b)
          clear HP1 HP2
          with_reducible refine hK.out _ _ HM.out.c (fun hHeld => ?_)
          clear hK K b
          (try simp only [Act.put, List.getElem_toArray, List.getElem_cons_zero, List.getElem_cons_succ, List.setIfInBounds_toArray, List.set_cons_zero, List.set_cons_succ])
          refine wpAnyH_take (i := 8) (oi := _) (v := ?_) rfl (by kernel_rfl) (by kernel_rfl) (by kernel_rfl) (fun _ _ _ h => h) (Or.inl ⟨by rfl, ?_⟩) (by assumption) ?_
          rotate_left
          · intro wx hSw
            obtain ⟨⟨y0, y1, y2, y3, y4, y5, y6⟩, x0, x1, x2, x3, x4, x5, x6⟩ := hSw
            (go_simp) <;> (with_reducible rfl)
          simp only [Act.put, List.getElem_toArray, List.getElem_cons_zero, List.getElem_cons_succ, List.setIfInBounds_toArray, List.set_cons_zero, List.set_cons_succ]
          refine wpAnyH_take (i := 9) (oi := _) (v := ?_) rfl (by kernel_rfl) (by kernel_rfl) (by kernel_rfl) (fun _ _ _ h => h) (Or.inl ⟨by rfl, ?_⟩) (by assumption) ?_
          rotate_left
          · intro wx hSw
            obtain ⟨⟨y0, y1, y2, y3, y4, y5, y6⟩, x0, x1, x2, x3, x4, x5, x6⟩ := hSw
            (go_simp) <;> (with_reducible rfl)
          simp only [Act.put, List.getElem_toArray, List.getElem_cons_zero, List.getElem_cons_succ, List.setIfInBounds_toArray, List.set_cons_zero, List.set_cons_succ]
          refine wpAnyH_take (i := 10) (oi := _) (v := ?_) rfl (by kernel_rfl) (by kernel_rfl) (by kernel_rfl) (fun _ _ _ h => h) (Or.inl ⟨by rfl, ?_⟩) (by assumption) ?_
          rotate_left
          · intro wx hSw
            obtain ⟨⟨y0, y1, y2, y3, y4, y5, y6⟩, x0, x1, x2, x3, x4, x5, x6⟩ := hSw
            (go_simp) <;> (with_reducible rfl)
          simp only [Act.put, List.getElem_toArray, List.getElem_cons_zero, List.getElem_cons_succ, List.setIfInBounds_toArray, List.set_cons_zero, List.set_cons_succ]
          refine wpAnyH_take (i := 11) (oi := _) (v := ?_) rfl (by kernel_rfl) (by kernel_rfl) (by kernel_rfl) (fun _ _ _ h => h) (Or.inl ⟨by rfl, ?_⟩) (by assumption) ?_
          rotate_left
          · intro wx hSw
            obtain ⟨⟨y0, y1, y2, y3, y4, y5, y6⟩, x0, x1, x2, x3, x4, x5, x6⟩ := hSw
            (go_simp) <;> (with_reducible rfl)
          simp only [Act.put, List.getElem_toArray, List.getElem_cons_zero, List.getElem_cons_succ, List.setIfInBounds_toArray, List.set_cons_zero, List.set_cons_succ]
          refine wpAnyH_ready (rs := [12]) (by kernel_rfl) (by simp) ?_
          refine AllReadyH.cons (o := _) rfl (fun K hK => ?_) AllReadyH.nil
          simp only [Act.put, List.getElem_toArray, List.getElem_cons_zero, List.getElem_cons_succ, List.setIfInBounds_toArray, List.set_cons_zero, List.set_cons_succ]
          go_simp
          refine (HF.out _ _).mono ?_
          rintro e V4 ⟨rfl, b⟩
          go_simp
          have HM := Lib.hid (HM.out.below b)
          have HROW := Lib.hid (HROW.out.below b)
          with_reducible refine hK.out _ _ HM.out.c (fun hHeld => ?_)
          clear hK K b
          (try simp only [Act.put, List.getElem_toArray, List.getElem_cons_zero, List.getElem_cons_succ, List.setIfInBounds_toArray, List.set_cons_zero, List.set_cons_succ])
          refine wpAnyH_ready (rs := [13]) (by kernel_rfl) (by simp) ?_
          refine AllReadyH.cons (o := _) rfl (fun K hK => ?_) AllReadyH.nil
          simp only [Act.put, List.getElem_toArray, List.getElem_cons_zero, List.getElem_cons_succ, List.setIfInBounds_toArray, List.set_cons_zero, List.set_cons_succ]
          go_simp
          refine (HCK.out _).mono ?_
          rintro e V5 ⟨rfl, rfl⟩
          go_simp
          have b := True.intro
          with_reducible refine hK.out _ _ HM.out.c (fun hHeld => ?_)
          clear hK K b
          (try simp only [Act.put, List.getElem_toArray, List.getElem_cons_zero, List.getElem_cons_succ, List.setIfInBounds_toArray, List.set_cons_zero, List.set_cons_succ])
          refine wpAnyH_take (i := 14) (oi := _) (v := ?_) rfl (by kernel_rfl) (by kernel_rfl) (by kernel_rfl) (fun _ _ _ h => h) (Or.inl ⟨by rfl, ?_⟩) (by assumption) ?_
          rotate_left
          · intro wx hSw
            obtain ⟨⟨y0, y1, y2, y3, y4, y5, y6⟩, x0, x1, x2, x3, x4, x5, x6⟩ := hSw
            (go_simp) <;> (with_reducible rfl)
          simp only [Act.put, List.getElem_toArray, List.getElem_cons_zero, List.getElem_cons_succ, List.setIfInBounds_toArray, List.set_cons_zero, List.set_cons_succ]
          refine wpAnyH_take (i := 15) (oi := _) (v := ?_) rfl (by kernel_rfl) (by kernel_rfl) (by kernel_rfl) (fun _ _ _ h => h) (Or.inl ⟨by rfl, ?_⟩) (by assumption) ?_
          rotate_left
          · intro wx hSw
            obtain ⟨⟨y0, y1, y2, y3, y4, y5, y6⟩, x0, x1, x2, x3, x4, x5, x6⟩ := hSw
            (go_simp) <;> (with_reducible rfl)
          simp only [Act.put, List.getElem_toArray, List.getElem_cons_zero, List.getElem_cons_succ, List.setIfInBounds_toArray, List.set_cons_zero, List.set_cons_succ]
          refine wpAnyH_take (i := 16) (oi := _) (v := ?_) rfl (by kernel_rfl) (by kernel_rfl) (by kernel_rfl) (fun _ _ _ h => h) (Or.inl ⟨by rfl, ?_⟩) (by assumption) ?_
          rotate_left
          · intro wx hSw
            obtain ⟨⟨y0, y1, y2, y3, y4, y5, y6⟩, x0, x1, x2, x3, x4, x5, x6⟩ := hSw
            (go_simp) <;> (with_reducible rfl)
          simp only [Act.put, List.getElem_toArray, List.getElem_cons_zero, List.getElem_cons_succ, List.setIfInBounds_toArray, List.set_cons_zero, List.set_cons_succ]
          refine wpAnyH_take (i := 17) (oi := _) (v := ?_) rfl (by kernel_rfl) (by kernel_rfl) (by kernel_rfl) (fun _ _ _ h => h) (Or.inl ⟨by rfl, ?_⟩) (by assumption) ?_
          rotate_left
          · intro wx hSw
            obtain ⟨⟨y0, y1, y2, y3, y4, y5, y6⟩, x0, x1, x2, x3, x4, x5, x6⟩ := hSw
            (go_simp) <;> (with_reducible rfl)
          simp only [Act.put, List.getElem_toArray, List.getElem_cons_zero, List.getElem_cons_succ, List.setIfInBounds_toArray, List.set_cons_zero, List.set_cons_succ]
          refine wpAnyH_take (i := 18) (oi := _) (v := ?_) rfl (by kernel_rfl) (by kernel_rfl) (by kernel_rfl) (fun _ _ _ h => h) (Or.inl ⟨by rfl, ?_⟩) (by assumption) ?_
          rotate_left
          · intro wx hSw
            obtain ⟨⟨y0, y1, y2, y3, y4, y5, y6⟩, x0, x1, x2, x3, x4, x5, x6⟩ := hSw
            (go_simp) <;> (with_reducible rfl)
          simp only [Act.put, List.getElem_toArray, List.getElem_cons_zero, List.getElem_cons_succ, List.setIfInBounds_toArray, List.set_cons_zero, List.set_cons_succ]
          refine wpAnyH_take (i := 19) (oi := _) (v := ?_) rfl (by kernel_rfl) (by kernel_rfl) (by kernel_rfl) (fun _ _ _ h => h) (Or.inl ⟨by rfl, ?_⟩) (by assumption) ?_
          rotate_left
          · intro wx hSw
            obtain ⟨⟨y0, y1, y2, y3, y4, y5, y6⟩, x0, x1, x2, x3, x4, x5, x6⟩ := hSw
            (go_simp) <;> (with_reducible rfl)
          simp only [Act.put, List.getElem_toArray, List.getElem_cons_zero, List.getElem_cons_succ, List.setIfInBounds_toArray, List.set_cons_zero, List.set_cons_succ]
          refine wpAnyH_take (i := 20) (oi := _) (v := ?_) rfl (by kernel_rfl) (by kernel_rfl) (by kernel_rfl) (fun _ _ _ h => h) (Or.inl ⟨by rfl, ?_⟩) (by assumption) ?_
          rotate_left
          · intro wx hSw
            obtain ⟨⟨y0, y1, y2, y3, y4, y5, y6⟩, x0, x1, x2, x3, x4, x5, x6⟩ := hSw
            (go_simp) <;> (with_reducible rfl)
          simp only [Act.put, List.getElem_toArray, List.getElem_cons_zero, List.getElem_cons_succ, List.setIfInBounds_toArray, List.set_cons_zero, List.set_cons_succ]
          refine wpAnyH_done (by kernel_rfl) ?_ _
          go_wp2_with fail
          go_meet
          exact ⟨rfl, HM.out, HROW.out⟩
        case rest =>
          obtain ⟨rfl, hM, hrow⟩ := hcut
          have HM := Lib.hid hM.m
          have HROW := Lib.hid hrow
          clear hM hrow HTO HSM HF HCK
          obtain ⟨J, hJ, hIX⟩ := pick_ix a3 (rowL k).length HLEN.out
          have hmay := row_may k hk4 hk7 J hJ
          have hcell := (HROW.out.2 J hJ).1
          have hcl : ((rowL k).getD J 0).toNat < 256 := ((rowL k).getD J 0).toNat_lt
          obtain ⟨code, hcode⟩ : ∃ code : Int, (((rowL k).getD J 0).toNat : Int) = code := ⟨_, rfl⟩
          rw [hcode] at hmay hcell
          have hc0 : 0 ≤ code := by omega
          have hc1 : code < 256 := by omega
          have HMAY := Lib.hid hmay
          clear hmay hcode hcl HROW HLEN
          generalize (rowL k).length = LL at *
          by_cases hw : why.toList = []
          · have hwe : why.toList.isEmpty = true := by rw [hw]; rfl
            have hA1' := hA1
            have hA2' := hA2
            go_wp2_with fail
            have bl := below_one wc (.cells #[.int .i64 k, .int .u32 n2, .int .u8 code, .slice none 0 0] 71)
            have HAX := Lib.hid (show Ax w wc.heap.size k n2 code none 0 0 [] (wc.alloc (.cells #[.int .i64 k, .int .u32 n2, .int .u8 code, .slice none 0 0] 71)) from ⟨Below.next HM.out.bel bl, Blk.made HM.out.lt _ _, PropsAt.nil _ 0⟩)
            clear bl hIX hJ hcell hpos HM
            generalize wc.alloc (.cells #[.int .i64 k, .int .u32 n2, .int .u8 code, .slice none 0 0] 71) = W8 at *
            generalize wc.heap.size = ab at *
            have hac := ack_c k n2 code [] 0 rfl hk4 hk7 hA1 hA2 hc0 hc1 HMAY.out (fun p hp => by cases hp) (by decide) (fun h => absurd rfl h)
            generalize str (packL ⟨k, n2, code, []⟩) = AB at *
            have HAC := Lib.hid hac
            clear hac
            obtain ⟨a0, a1', a2', a3', af⟩ := cells4 HAX.out.a.at_
            go_wp2_with fail
            refine (HAC.out.text _ _ _ HAX.out.ps).mono ?_
            rintro e V2 ⟨rfl, b⟩
            have HAX := Lib.hid (HAX.out.below b)
            clear b a0 a1' a2' a3' af
            go_wp2_with fail
            refine (HAC.out.parse _ (HT.out.below HAX.out.bel)).mono ?_
            rintro e V3 ⟨ua, uc, rfl, hp, b⟩
            have HAX := Lib.hid (HAX.out.below b)
            have bl := below_one V3 (.cells #[.int .i64 k, .int .u32 n2, .int .u8 code, .slice ua 0 uc] 71)
            have HBX := Lib.hid (show Ax w V3.heap.size k n2 code ua 0 uc [] (V3.alloc (.cells #[.int .i64 k, .int .u32 n2, .int .u8 code, .slice ua 0 uc] 71)) from ⟨Below.next HAX.out.bel bl, Blk.made (Nat.lt_trans HAX.out.a.ge HAX.out.a.lt) _ _, hp.below bl⟩)
            have HAX := Lib.hid (HAX.out.below bl)
            clear b bl hp
            go_wp2_with fail
            generalize V3.alloc (.cells #[.int .i64 k, .int .u32 n2, .int .u8 code, .slice ua 0 uc] 71) = W9 at *
            generalize V3.heap.size = bb at *
            have HAX := Lib.hid HAX.out.drew
            have HBX := Lib.hid HBX.out.drew
            refine wp_region_held_drew (S := AxC ab bb k n2 code none 0 0 ua uc) (by kernel_rfl) (ax_c HAX.out HBX.out) (fun hHeld => ?_)
            refine wpAnyH_take (i := 0) (oi := _) (v := ?_) rfl (by kernel_rfl) (by kernel_rfl) (by kernel_rfl) (fun _ _ _ h => h) (Or.inl ⟨by rfl, ?_⟩) (by assumption) ?_
            rotate_left
            · intro wx hSw
              obtain ⟨⟨y0, y1, y2, y3⟩, x0, x1, x2, x3⟩ := hSw
              (go_simp) <;> (with_reducible rfl)
            simp only [Act.put, List.getElem_toArray, List.getElem_cons_zero, List.setIfInBounds_toArray, List.set_cons_zero, List.set_cons_succ]
            refine wpAnyH_take (i := 1) (oi := _) (v := ?_) rfl (by kernel_rfl) (by kernel_rfl) (by kernel_rfl) (fun _ _ _ h => h) (Or.inl ⟨by rfl, ?_⟩) (by assumption) ?_
            rotate_left
            · intro wx hSw
              obtain ⟨⟨y0, y1, y2, y3⟩, x0, x1, x2, x3⟩ := hSw
              (go_simp) <;> (with_reducible rfl)
            simp only [Act.put, List.getElem_toArray, List.getElem_cons_zero, List.getElem_cons_succ, List.setIfInBounds_toArray, List.set_cons_zero, List.set_cons_succ]
            refine wpAnyH_take (i := 2) (oi := _) (v := ?_) rfl (by kernel_rfl) (by kernel_rfl) (by kernel_rfl) (fun _ _ _ h => h) (Or.inl ⟨by rfl, ?_⟩) (by assumption) ?_
            rotate_left
            · intro wx hSw
              obtain ⟨⟨y0, y1, y2, y3⟩, x0, x1, x2, x3⟩ := hSw
              (go_simp) <;> (with_reducible rfl)
            simp only [Act.put, List.getElem_toArray, List.getElem_cons_zero, List.getElem_cons_succ, List.setIfInBounds_toArray, List.set_cons_zero, List.set_cons_succ]
            refine wpAnyH_take (i := 3) (oi := _) (v := ?_) rfl (by kernel_rfl) (by kernel_rfl) (by kernel_rfl) (fun _ _ _ h => h) (Or.inl ⟨by rfl, ?_⟩) (by assumption) ?_
            rotate_left
            · intro wx hSw
              obtain ⟨⟨y0, y1, y2, y3⟩, x0, x1, x2, x3⟩ := hSw
              (go_simp) <;> (with_reducible rfl)
            simp only [Act.put, List.getElem_toArray, List.getElem_cons_zero, List.getElem_cons_succ, List.setIfInBounds_toArray, List.set_cons_zero, List.set_cons_succ]
            refine wpAnyH_take (i := 5) (oi := _) (v := ?_) rfl (by kernel_rfl) (by kernel_rfl) (by kernel_rfl) (fun _ _ _ h => h) (Or.inl ⟨by rfl, ?_⟩) (by assumption) ?_
            rotate_left
            · intro wx hSw
              obtain ⟨⟨y0, y1, y2, y3⟩, x0, x1, x2, x3⟩ := hSw
              (go_simp) <;> (with_reducible rfl)
            simp only [Act.put, List.getElem_toArray, List.getElem_cons_zero, List.getElem_cons_succ, List.setIfInBounds_toArray, List.set_cons_zero, List.set_cons_succ]
            refine wpAnyH_ready (rs := [4]) (by kernel_rfl) (by simp) ?_
            refine AllReadyH.cons (o := _) rfl (fun K hK => ?_) AllReadyH.nil
            simp only [Act.put, List.getElem_toArray, List.getElem_cons_zero, List.getElem_cons_succ, List.setIfInBounds_toArray, List.set_cons_zero, List.set_cons_succ]
            go_simp
            refine (HAC.out.acks _ _ _ _ HBX.out.ps).mono ?_
            rintro e V1 ⟨p1, m1, q1, rfl, hp1, b⟩
            go_simp
            have HAX := Lib.hid (HAX.out.below b)
            have HBX := Lib.hid (HBX.out.below b)
            have HP1 := Lib.hid hp1
            clear hp1
            with_reducible refine hK.out _ _ (ax_c HAX.out HBX.out) (fun hHeld => ?_)
            clear hK K b
            (try simp only [Act.put, List.getElem_toArray, List.getElem_cons_zero, List.getElem_cons_succ, List.setIfInBounds_toArray, List.set_cons_zero, List.set_cons_succ])
            refine wpAnyH_ready (rs := [6]) (by kernel_rfl) (by simp) ?_
            refine AllReadyH.cons (o := _) rfl (fun K hK => ?_) AllReadyH.nil
            simp only [Act.put, List.getElem_toArray, List.getElem_cons_zero, List.getElem_cons_succ, List.setIfInBounds_toArray, List.set_cons_zero, List.set_cons_succ]
            go_simp
            refine (HAC.out.acks _ _ _ _ HAX.out.ps).mono ?_
            rintro e V2 ⟨p2, m2, q2, rfl, hp2, b⟩
            go_simp
            have HAX := Lib.hid (HAX.out.below b)
            have HBX := Lib.hid (HBX.out.below b)
            have HP1 := Lib.hid (HP1.out.below b)
            have HP2 := Lib.hid hp2
            clear hp2
            with_reducible refine hK.out _ _ (ax_c HAX.out HBX.out) (fun hHeld => ?_)
            clear hK K b
            (try simp only [Act.put, List.getElem_toArray, List.getElem_cons_zero, List.getElem_cons_succ, List.setIfInBounds_toArray, List.set_cons_zero, List.set_cons_succ])
            refine wpAnyH_ready (rs := [7]) (by kernel_rfl) (by simp) ?_
            refine AllReadyH.cons (o := _) rfl (fun K hK => ?_) AllReadyH.nil
            simp only [Act.put, List.getElem_toArray, List.getElem_cons_zero, List.getElem_cons_succ, List.setIfInBounds_toArray, List.set_cons_zero, List.set_cons_succ]
            go_simp
            refine (HAC.out.same _ _ _ _ _ _ _ HP1.out HP2.out).mono ?_
            rintro e V3 ⟨rfl, b⟩
            go_simp
            have HAX := Lib.hid (HAX.out.below b)
            have HBX := Lib.hid (HBX.out.below b)
            clear HP1 HP2
            with_reducible refine hK.out _ _ (ax_c HAX.out HBX.out) (fun hHeld => ?_)
            clear hK K b
            (try simp only [Act.put, List.getElem_toArray, List.getElem_cons_zero, List.getElem_cons_succ, List.setIfInBounds_toArray, List.set_cons_zero, List.set_cons_succ])
            refine wpAnyH_take (i := 8) (oi := _) (v := ?_) rfl (by kernel_rfl) (by kernel_rfl) (by kernel_rfl) (fun _ _ _ h => h) (Or.inl ⟨by rfl, ?_⟩) (by assumption) ?_
            rotate_left
            · intro wx hSw
              obtain ⟨⟨y0, y1, y2, y3⟩, x0, x1, x2, x3⟩ := hSw
              (go_simp) <;> (with_reducible rfl)
            simp only [Act.put, List.getElem_toArray, List.getElem_cons_zero, List.getElem_cons_succ, List.setIfInBounds_toArray, List.set_cons_zero, List.set_cons_succ]
            refine wpAnyH_take (i := 9) (oi := _) (v := ?_) rfl (by kernel_rfl) (by kernel_rfl) (by kernel_rfl) (fun _ _ _ h => h) (Or.inl ⟨by rfl, ?_⟩) (by assumption) ?_
            rotate_left
            · intro wx hSw
              obtain ⟨⟨y0, y1, y2, y3⟩, x0, x1, x2, x3⟩ := hSw
              (go_simp) <;> (with_reducible rfl)
            simp only [Act.put, List.getElem_toArray, List.getElem_cons_zero, List.getElem_cons_succ, List.setIfInBounds_toArray, List.set_cons_zero, List.set_cons_succ]
            refine wpAnyH_done (by kernel_rfl) ?_ _
            go_wp2
            go_ret
            exact ⟨rfl, HAX.out.bel⟩
          · have hwe : why.toList.isEmpty = false := by cases h : why.toList <;> simp_all
            have hA1' := hA1
            have hA2' := hA2
            go_wp2_with fail
            have bl := below_one wc (.cells #[.int .i64 k, .int .u32 n2, .int .u8 code, .slice none 0 0] 71)
            have HAX := Lib.hid (show Ax w wc.heap.size k n2 code none 0 0 [] (wc.alloc (.cells #[.int .i64 k, .int .u32 n2, .int .u8 code, .slice none 0 0] 71)) from ⟨Below.next HM.out.bel bl, Blk.made HM.out.lt _ _, PropsAt.nil _ 0⟩)
            clear bl hIX hJ hcell hpos HM
            generalize wc.alloc (.cells #[.int .i64 k, .int .u32 n2, .int .u8 code, .slice none 0 0] 71) = W8 at *
            generalize wc.heap.size = ab at *
            have hac := ack_c k n2 code [⟨31, 0, M, ⟨#[]⟩⟩] 1 rfl hk4 hk7 hA1 hA2 hc0 hc1 HMAY.out (fun p hp => by simp at hp; subst hp; exact hMok) (by show 1 ≤ 1000; decide) (fun _ => HMT.out)
            generalize str (packL ⟨k, n2, code, [⟨31, 0, M, ⟨#[]⟩⟩]⟩) = AB at *
            obtain ⟨a0, a1', a2', a3', af⟩ := cells4 HAX.out.a.at_
            go_wp2_with fail
            refine (HWHY.out _).mono ?_
            rintro e V1 ⟨rfl, b⟩
            have HAX := Lib.hid (HAX.out.below b)
            clear b a0 a1' a2' a3' af
            obtain ⟨a0, a1', a2', a3', af⟩ := cells4 HAX.out.a.at_
            have hgb := HAX.out.a.lt
            have HAX := Lib.hid (ax_named (M := M) HAX.out)
            clear HMT
            go_wp2_with fail
            clear a0 a1' a2' a3' af
            generalize (V1.setCell ⟨ab, 3, none⟩ (.slice (some ⟨V1.heap.size, 0, none⟩) 1 1)).alloc (.cells #[.int .i64 31, .int .u32 0, .string M, .string ⟨#[]⟩] 85) = W8b at *
            generalize V1.heap.size = gb at *
            have HAC := Lib.hid hac
            clear hac
            obtain ⟨a0, a1', a2', a3', af⟩ := cells4 HAX.out.a.at_
            go_wp2_with fail
            refine (HAC.out.text _ _ _ HAX.out.ps).mono ?_
            rintro e V2 ⟨rfl, b⟩
            have HAX := Lib.hid (HAX.out.below b)
            clear b a0 a1' a2' a3' af
            go_wp2_with fail
            refine (HAC.out.parse _ (HT.out.below HAX.out.bel)).mono ?_
            rintro e V3 ⟨ua, uc, rfl, hp, b⟩
            have HAX := Lib.hid (HAX.out.below b)
            have bl := below_one V3 (.cells #[.int .i64 k, .int .u32 n2, .int .u8 code, .slice ua 1 uc] 71)
            have HBX := Lib.hid (show Ax w V3.heap.size k n2 code ua 1 uc [⟨31, 0, M, ⟨#[]⟩⟩] (V3.alloc (.cells #[.int .i64 k, .int .u32 n2, .int .u8 code, .slice ua 1 uc] 71)) from ⟨Below.next HAX.out.bel bl, Blk.made (Nat.lt_trans HAX.out.a.ge HAX.out.a.lt) _ _, hp.below bl⟩)
            have HAX := Lib.hid (HAX.out.below bl)
            clear b bl hp
            go_wp2_with fail
            generalize V3.alloc (.cells #[.int .i64 k, .int .u32 n2, .int .u8 code, .slice ua 1 uc] 71) = W9 at *
            generalize V3.heap.size = bb at *
            have HAX := Lib.hid HAX.out.drew
            have HBX := Lib.hid HBX.out.drew
            refine wp_region_held_drew (S := AxC ab bb k n2 code (some ⟨gb, 0, none⟩) 1 1 ua uc) (by kernel_rfl) (ax_c HAX.out HBX.out) (fun hHeld => ?_)
            refine wpAnyH_take (i := 0) (oi := _) (v := ?_) rfl (by kernel_rfl) (by kernel_rfl) (by kernel_rfl) (fun _ _ _ h => h) (Or.inl ⟨by rfl, ?_⟩) (by assumption) ?_
            rotate_left
            · intro wx hSw
              obtain ⟨⟨y0, y1, y2, y3⟩, x0, x1, x2, x3⟩ := hSw
              (go_simp) <;> (with_reducible rfl)
            simp only [Act.put, List.getElem_toArray, List.getElem_cons_zero, List.setIfInBounds_toArray, List.set_cons_zero, List.set_cons_succ]
            refine wpAnyH_take (i := 1) (oi := _) (v := ?_) rfl (by kernel_rfl) (by kernel_rfl) (by kernel_rfl) (fun _ _ _ h => h) (Or.inl ⟨by rfl, ?_⟩) (by assumption) ?_
            rotate_left
            · intro wx hSw
              obtain ⟨⟨y0, y1, y2, y3⟩, x0, x1, x2, x3⟩ := hSw
              (go_simp) <;> (with_reducible rfl)
            simp only [Act.put, List.getElem_toArray, List.getElem_cons_zero, List.getElem_cons_succ, List.setIfInBounds_toArray, List.set_cons_zero, List.set_cons_succ]
            refine wpAnyH_take (i := 2) (oi := _) (v := ?_) rfl (by kernel_rfl) (by kernel_rfl) (by kernel_rfl) (fun _ _ _ h => h) (Or.inl ⟨by rfl, ?_⟩) (by assumption) ?_
            rotate_left
            · intro wx hSw
              obtain ⟨⟨y0, y1, y2, y3⟩, x0, x1, x2, x3⟩ := hSw
              (go_simp) <;> (with_reducible rfl)
            simp only [Act.put, List.getElem_toArray, List.getElem_cons_zero, List.getElem_cons_succ, List.setIfInBounds_toArray, List.set_cons_zero, List.set_cons_succ]
            refine wpAnyH_take (i := 3) (oi := _) (v := ?_) rfl (by kernel_rfl) (by kernel_rfl) (by kernel_rfl) (fun _ _ _ h => h) (Or.inl ⟨by rfl, ?_⟩) (by assumption) ?_
            rotate_left
            · intro wx hSw
              obtain ⟨⟨y0, y1, y2, y3⟩, x0, x1, x2, x3⟩ := hSw
              (go_simp) <;> (with_reducible rfl)
            simp only [Act.put, List.getElem_toArray, List.getElem_cons_zero, List.getElem_cons_succ, List.setIfInBounds_toArray, List.set_cons_zero, List.set_cons_succ]
            refine wpAnyH_take (i := 5) (oi := _) (v := ?_) rfl (by kernel_rfl) (by kernel_rfl) (by kernel_rfl) (fun _ _ _ h => h) (Or.inl ⟨by rfl, ?_⟩) (by assumption) ?_
            rotate_left
            · intro wx hSw
              obtain ⟨⟨y0, y1, y2, y3⟩, x0, x1, x2, x3⟩ := hSw
              (go_simp) <;> (with_reducible rfl)
            simp only [Act.put, List.getElem_toArray, List.getElem_cons_zero, List.getElem_cons_succ, List.setIfInBounds_toArray, List.set_cons_zero, List.set_cons_succ]
            refine wpAnyH_ready (rs := [4]) (by kernel_rfl) (by simp) ?_
            refine AllReadyH.cons (o := _) rfl (fun K hK => ?_) AllReadyH.nil
            simp only [Act.put, List.getElem_toArray, List.getElem_cons_zero, List.getElem_cons_succ, List.setIfInBounds_toArray, List.set_cons_zero, List.set_cons_succ]
            go_simp
            refine (HAC.out.acks _ _ _ _ HBX.out.ps).mono ?_
            rintro e V1 ⟨p1, m1, q1, rfl, hp1, b⟩
            go_simp
            have HAX := Lib.hid (HAX.out.below b)
            have HBX := Lib.hid (HBX.out.below b)
            have HP1 := Lib.hid hp1
            clear hp1
            with_reducible refine hK.out _ _ (ax_c HAX.out HBX.out) (fun hHeld => ?_)
            clear hK K b
            (try simp only [Act.put, List.getElem_toArray, List.getElem_cons_zero, List.getElem_cons_succ, List.setIfInBounds_toArray, List.set_cons_zero, List.set_cons_succ])
            refine wpAnyH_ready (rs := [6]) (by kernel_rfl) (by simp) ?_
            refine AllReadyH.cons (o := _) rfl (fun K hK => ?_) AllReadyH.nil
            simp only [Act.put, List.getElem_toArray, List.getElem_cons_zero, List.getElem_cons_succ, List.setIfInBounds_toArray, List.set_cons_zero, List.set_cons_succ]
            go_simp
            refine (HAC.out.acks _ _ _ _ HAX.out.ps).mono ?_
            rintro e V2 ⟨p2, m2, q2, rfl, hp2, b⟩
            go_simp
            have HAX := Lib.hid (HAX.out.below b)
            have HBX := Lib.hid (HBX.out.below b)
            have HP1 := Lib.hid (HP1.out.below b)
            have HP2 := Lib.hid hp2
            clear hp2
            with_reducible refine hK.out _ _ (ax_c HAX.out HBX.out) (fun hHeld => ?_)
            clear hK K b
            (try simp only [Act.put, List.getElem_toArray, List.getElem_cons_zero, List.getElem_cons_succ, List.setIfInBounds_toArray, List.set_cons_zero, List.set_cons_succ])
            refine wpAnyH_ready (rs := [7]) (by kernel_rfl) (by simp) ?_
            refine AllReadyH.cons (o := _) rfl (fun K hK => ?_) AllReadyH.nil
            simp only [Act.put, List.getElem_toArray, List.getElem_cons_zero, List.getElem_cons_succ, List.setIfInBounds_toArray, List.set_cons_zero, List.set_cons_succ]
            go_simp
            refine (HAC.out.same _ _ _ _ _ _ _ HP1.out HP2.out).mono ?_
            rintro e V3 ⟨rfl, b⟩
            go_simp
            have HAX := Lib.hid (HAX.out.below b)
            have HBX := Lib.hid (HBX.out.below b)
            clear HP1 HP2
            with_reducible refine hK.out _ _ (ax_c HAX.out HBX.out) (fun hHeld => ?_)
            clear hK K b
            (try simp only [Act.put, List.getElem_toArray, List.getElem_cons_zero, List.getElem_cons_succ, List.setIfInBounds_toArray, List.set_cons_zero, List.set_cons_succ])
            refine wpAnyH_take (i := 8) (oi := _) (v := ?_) rfl (by kernel_rfl) (by kernel_rfl) (by kernel_rfl) (fun _ _ _ h => h) (Or.inl ⟨by rfl, ?_⟩) (by assumption) ?_
            rotate_left
            · intro wx hSw
              obtain ⟨⟨y0, y1, y2, y3⟩, x0, x1, x2, x3⟩ := hSw
              (go_simp) <;> (with_reducible rfl)
            simp only [Act.put, List.getElem_toArray, List.getElem_cons_zero, List.getElem_cons_succ, List.setIfInBounds_toArray, List.set_cons_zero, List.set_cons_succ]
            refine wpAnyH_take (i := 9) (oi := _) (v := ?_) rfl (by kernel_rfl) (by kernel_rfl) (by kernel_rfl) (fun _ _ _ h => h) (Or.inl ⟨by rfl, ?_⟩) (by assumption) ?_
            rotate_left
            · intro wx hSw
              obtain ⟨⟨y0, y1, y2, y3⟩, x0, x1, x2, x3⟩ := hSw
              (go_simp) <;> (with_reducible rfl)
            simp only [Act.put, List.getElem_toArray, List.getElem_cons_zero, List.getElem_cons_succ, List.setIfInBounds_toArray, List.set_cons_zero, List.set_cons_succ]
            refine wpAnyH_done (by kernel_rfl) ?_ _
            go_wp2
            go_ret
            exact ⟨rfl, HAX.out.bel⟩

theorem flag_back : ∀ Q ∈ [(0 : Int), 1, 2], ∀ D ret : Bool, (D = true → 0 < Q) → fQua (pflags Q D ret) = Q ∧ fDup (pflags Q D ret) = D ∧ fRet (pflags Q D ret) = ret ∧ chkB 3 (pflags Q D ret) = true := by decide +kernel
theorem in_3 : (ruleL 3).kind = 5 ∧ ¬ bits .and .i64 (ruleL 3).inn (placeN 3 false) = 0 := by decide +kernel
theorem in_31 : ∀ k ∈ [(4 : Int), 5, 6, 7], (ruleL 31).kind = 5 ∧ ¬ bits .and .i64 (ruleL 31).inn (placeN k false) = 0 := by decide +kernel

theorem walk (v0 : Value) (x : Pb × Option Addr × Nat × Nat) (a1 : Int) (w1 : (Lit.int .i64 a1).wf = true) (a2 : Int) (w2 : (Lit.int .u32 a2).wf = true) (a3 : Int) (w3 : (Lit.int .i64 a3).wf = true) (why : ByteArray) (w4 : why.size ≤ maxLen) (w : World) (h0 : PubArg w v0 x) (hT : Tabs w) :
    Calls Tryd.prog 7 #[v0, .int .i64 a1, .int .u32 a2, .int .i64 a3, .string why] w fun e w' => e = .returned (.bool true) ∧ Below w.heap.size w w' := by
  obtain ⟨⟨dup, ret, q, i, ps, tp, pl⟩, va, vn, vc⟩ := x
  obtain ⟨rfl, q0, q1, i0, i1, z1, z2⟩ := h0
  dsimp only at *
  have hb := bounds_u32 w2
  have hk := i64_and3 a1
  have hQ : q.tmod 3 = q % 3 := Int.tmod_eq_emod_of_nonneg q0
  obtain ⟨Q, hQd⟩ : ∃ Q, q % 3 = Q := ⟨_, rfl⟩
  rw [hQd] at hQ
  have hQ0 : 0 ≤ Q := by omega
  have hQ2 : Q ≤ 2 := by omega
  obtain ⟨D, hD⟩ : ∃ D, (dup && decide (0 < Q)) = D := ⟨_, rfl⟩
  have hDQ : D = true → 0 < Q := fun e => by rw [e] at hD; simp at hD; exact hD.2
  obtain ⟨f1, f2, f3, f4⟩ := flag_back Q (by rcases (show Q = 0 ∨ Q = 1 ∨ Q = 2 by omega) with rfl | rfl | rfl <;> decide) D ret hDQ
  obtain ⟨n2, hn2⟩ : ∃ n2, 1 + a2 % 65535 = n2 := ⟨_, rfl⟩
  have hA1 : 1 ≤ n2 := by omega
  have hA2 : n2 ≤ 65535 := by omega
  obtain ⟨n, hn⟩ : ∃ n, (if Q = 0 then 0 else n2) = n := ⟨_, rfl⟩
  have hn0 : 0 ≤ n := by rw [← hn]; split <;> omega
  have hn1 : n < 4294967296 := by rw [← hn]; split <;> omega
  have ll : (tp.data.toList.take 20).length ≤ 20 := by rw [List.length_take]; omega
  have lm : (why.data.toList.take 20).length ≤ 20 := by rw [List.length_take]; omega
  have hg : goodB (str (lets (tp.data.toList.take 20))) = true := good_lets _ (by omega)
  have hzl : (str (lets (tp.data.toList.take 20))).size ≤ 65535 := by rw [str_size, lets_len]; omega
  have hzp : (pl.extract 0 50).size ≤ 65535 := by simp; omega
  have r3 := text_right (placeN 3 false) 3 in_3.1 in_3.2 _ lm
  have t3 := text_take (placeN 3 false) 3 in_3.1 in_3.2 _ lm
  have hkk : 4 + bits .and .i64 a1 3 = 4 + a1 % 4 := by rw [hk]
  obtain ⟨k, hkd⟩ : ∃ k, 4 + bits .and .i64 a1 3 = k := ⟨_, rfl⟩
  have hk4 : 4 ≤ k := by omega
  have hk7 : k ≤ 7 := by omega
  have h31 := in_31 k (by rcases (show k = 4 ∨ k = 5 ∨ k = 6 ∨ k = 7 by omega) with rfl | rfl | rfl | rfl <;> decide)
  have r31 := text_right (placeN k false) 31 h31.1 h31.2 _ lm
  have t31 := text_take (placeN k false) 31 h31.1 h31.2 _ lm
  have hL := letters7_calls (a := tp) (ha := z1)
  have hM := letters7_calls (a := why) (ha := w4)
  have hP := fun V => cut_calls V pl 50 z2
  generalize str (lets (tp.data.toList.take 20)) = L at *
  generalize str (lets (why.data.toList.take 20)) = M at *
  generalize pl.extract 0 50 = P at *
  have ok : (Pb.mk D ret Q n [⟨3, 0, M, ⟨#[]⟩⟩] L P).ok := ⟨hQ0, by show Q < 256; omega, hn0, hn1, hzl, hzp, (fun p hp => by simp at hp; subst hp; exact r3.ok), by show 1 ≤ 1000; decide⟩
  obtain ⟨s1, x1, s2, x2, s3, x3, s4, x4, hof⟩ := pub_back (Pb.mk D ret Q n [⟨3, 0, M, ⟨#[]⟩⟩] L P) ok hg (fun e => by show n = 0; rw [← hn, if_pos e]) (fun e => by have e' : Q ≠ 0 := e; show 1 ≤ n ∧ n ≤ 65535; rw [← hn, if_neg e']; exact ⟨hA1, hA2⟩) t3
  refine walk1 dup ret q i va vn vc tp pl a1 a2 a3 why w hT Q hQ hQ0 hQ2 D hD L P M hL hP n n2 hb.1 (by omega) hn2 hn (pflags Q D ret) (str (pubL (Pb.mk D ret Q n [⟨3, 0, M, ⟨#[]⟩⟩] L P))) ?_ ?_ ?_ ?_ ?_ ?_ k hkd hk4 hk7 hA1 hA2 t31 r31.ok hM
  · exact fun V vs => pflags_calls V ⟨D, ret, Q, n, [⟨3, 0, M, ⟨#[]⟩⟩], L, P⟩ vs hQ0 (by show Q < 256; omega)
  · exact fun V va vn vc hv => pubtext_calls V ⟨D, ret, Q, n, [⟨3, 0, M, ⟨#[]⟩⟩], L, P⟩ va vn vc ok hv
  · intro V hV
    refine (pub_calls V (pflags Q D ret) _ hV (by rw [f1]; omega) (by rw [f1]; omega) (by rw [f1]; exact hof) ⟨D, ret, Q, n, [⟨3, 0, M, ⟨#[]⟩⟩], L, P⟩ (by rw [f1, f2, f3]; rfl)).mono ?_
    rintro e w' ⟨v, rfl, o, b⟩
    have ho := o
    obtain ⟨a, c, rfl⟩ := o.form
    exact ⟨a, c, rfl, ho, b⟩
  · intro V va vn vc hv
    refine (told7_calls V ⟨D, ret, Q, n, [⟨3, 0, M, ⟨#[]⟩⟩], L, P⟩ va vn vc hv (by show 1 ≤ 1000000; decide)).mono ?_
    rintro e w' ⟨a, m, p, rfl, hp, b⟩
    exact ⟨p, m, a, rfl, hp, b⟩
  · exact fun V va vn vc ua un uc hv hu => same7_calls V D ret Q n L P va vn vc ua un uc _ hv hu (by show 1 ≤ 1000000; decide)
  · intro V
    refine (check_calls V 3 (pflags Q D ret)).mono ?_
    rw [f4]
    rintro e w' ⟨rfl, rfl⟩
    exact ⟨rfl, rfl⟩

set_option maxRecDepth 100000 in
set_option maxHeartbeats 2000000 in
theorem lifted (os : Os) (started : os.Started) (H : Type) (enc : TypeId × Value → H) (F : Stop.Interp) :
    ReturnsInHanded {} Tryd.checked os 7 .any ((OpenSpec.ofChange Rows.publishBackSpec).preRow enc Tryd.prog Tryd.f7 Rows.publishBackRow.domain false Rows.publishBackRow.laid) (((OpenSpec.ofChange Rows.publishBackSpec).at F).post enc Tryd.prog Tryd.f7 false true false false) := by
  obtain ⟨places, hx⟩ := reads os enc
  refine returnsInHanded_of_row (C := Tryd.checked) (s := OpenSpec.ofChange Rows.publishBackSpec) own started (by kernel_rfl) Tryd.func7
    (witness_row_at (enc := enc) (C := Tryd.checked) false (laidWorld os) #[.agg #[.bool false, .bool false, .int .u8 0, .int .u32 0, .slice none 0 0, .string ByteArray.empty, .string ByteArray.empty], .int .i64 0, .int .u32 0, .int .i64 0, .string ByteArray.empty] rfl (by kernel_rfl) (by kernel_rfl) (by kernel_rfl)
      (OpenSpec.preRow_of_cond 8 hx (by kernel_rfl) (fun k hk => by cases hk) (by kernel_rfl) (laid_met os))) ?_
  intro W base args ds gs before hval0 hW _ _ _ hL hShp _
  have hval : ∀ (j : Nat) t v, Tryd.f7.params[j]? = some t → args[j]? = some v → Value.okWide Tryd.prog W .any base t v := hval0
  have hW' := hW
  obtain ⟨p, q, hA0, hV, rfl, hfz, hnd⟩ := hW
  have hA : DataW.TrodAll enc Tryd.prog W 0 (fun _ => true) true Tryd.f7.params.toList args.toList ds p := hA0
  rw [Tryd.params7] at hA hval
  obtain ⟨v0, vs0, d0, ds0, p0, q0, hargs, rfl, rfl, h0, r0⟩ := trodAll_cons hA
  obtain ⟨v1, vs1, d1, ds1, p1, q1, rfl, rfl, rfl, h1, r1⟩ := trodAll_cons r0
  obtain ⟨v2, vs2, d2, ds2, p2, q2, rfl, rfl, rfl, h2, r2⟩ := trodAll_cons r1
  obtain ⟨v3, vs3, d3, ds3, p3, q3, rfl, rfl, rfl, h3, r3⟩ := trodAll_cons r2
  obtain ⟨v4, vs4, d4, ds4, p4, q4, rfl, rfl, rfl, h4, r4⟩ := trodAll_cons r3
  obtain ⟨rfl, rfl, rfl⟩ := trodAll_nil r4
  obtain rfl : args = #[v0, v1, v2, v3, v4] := by cases args; simp_all
  obtain ⟨rfl, rfl⟩ := trodVars_none hV
  have k0 := h0
  have lt0 : ∀ x ∈ p0, x.block < W.heap.size := by obtain ⟨m, hm⟩ := k0; exact DataW.trod_lt m _ _ _ hm
  obtain ⟨a0, w0⟩ := open_pub (hval 0 63 v0 rfl rfl) h0
  obtain ⟨a1, rfl, rfl, rfl, w1⟩ := open_int Tryd.underlying3 (hval 1 3 v1 rfl rfl) h1
  obtain ⟨a2, rfl, rfl, rfl, w2⟩ := open_int Tryd.underlying23 (hval 2 23 v2 rfl rfl) h2
  obtain ⟨a3, rfl, rfl, rfl, w3⟩ := open_int Tryd.underlying3 (hval 3 3 v3 rfl rfl) h3
  obtain ⟨a4, rfl, rfl, rfl, w4⟩ := open_string Tryd.underlying9 (hval 4 9 v4 rfl rfl) h4
  clear hA0 hval0
  have hT : Tabs W := utf8Tabs_of_readsT (U8Types.of196 Tryd.lays196) ⟨by kernel_rfl, by kernel_rfl, by kernel_rfl, by kernel_rfl, by kernel_rfl, by kernel_rfl, by kernel_rfl⟩ (first_eq ▸ Lib.laidMet.reads hL (.tail _ (.head _))) (accept_eq ▸ Lib.laidMet.reads hL (.head _))
  refine (walk v0 a0 a1 w1 a2 w2 a3 w3 a4 w4 W w0 hT).mono fun e W' ⟨he, bel⟩ => ?_
  subst he
  exact ⟨_, rfl, _, _, _, [], _, [], hW', trodAll_mk1 (shut_bool Tryd.underlying4 _), (trodAll_cons_mk (Below.trod laidOut (by kernel_rfl) (of_decide_eq_true (by kernel_rfl)) k0 bel lt0) (trodAll_cons_mk (shut_int Tryd.underlying3 w1) (trodAll_cons_mk (shut_int Tryd.underlying23 w2) (trodAll_cons_mk (shut_int Tryd.underlying3 w3) (trodAll_cons_mk (shut_string Tryd.underlying9 w4) trodAll_mk0))))), rfl, bel.frame _, fun h => by cases h⟩

theorem said : Rows.PublishBackSaid :=
  OpenClaim.holds_of_cond 7 Tryd.f7 rfl rfl rfl rfl rfl rfl rfl ⟨rfl, rfl, rfl, rfl, rfl⟩ rfl rfl rfl rfl rfl (by kernel_rfl) Tryd.func7 closed
    (of_decide_eq_true (by kernel_rfl)) (by unfold Func.isWrapper; first | (rw [if_pos (by decide +kernel)]; kernel_rfl) | (rw [if_neg (by decide +kernel)]; exact ⟨rfl, rfl⟩))
    (fun os started H enc _ F => by rw [OpenClaim.pre_eq_preRow]; exact lifted os started H enc F)

theorem plain (f : FuncId) (fn : Func) (hf : Tryd.pinned.checked.prog.funcNamed Tryd.f7.name = some f) (hfn : Tryd.pinned.checked.prog.funcs[f]? = some fn) :
    false = Tryd.pinned.checked.prog.looks [] ∧ ∀ (j : Nat) t, fn.params[j]? = some t → Tryd.pinned.checked.prog.wantsStandIn t = false := by
  obtain rfl : f = 7 := Option.some.inj ((show Tryd.prog.funcNamed Tryd.f7.name = some 7 by kernel_rfl).symm.trans hf) |>.symm
  obtain rfl : fn = Tryd.f7 := (Option.some.inj (Tryd.func7.symm.trans hfn)).symm
  refine ⟨fac_looks, fun j t ht => ?_⟩
  rw [Tryd.params7] at ht
  have hm : t = 63 ∨ t = 3 ∨ t = 23 ∨ t = 3 ∨ t = 9 := by simpa using Array.mem_of_getElem? ht
  rcases hm with rfl | rfl | rfl | rfl | rfl
  · exact (show Tryd.prog.wantsStandIn 63 = false by kernel_rfl)
  · exact (show Tryd.prog.wantsStandIn 3 = false by kernel_rfl)
  · exact (show Tryd.prog.wantsStandIn 23 = false by kernel_rfl)
  · exact (show Tryd.prog.wantsStandIn 3 = false by kernel_rfl)
  · exact (show Tryd.prog.wantsStandIn 9 = false by kernel_rfl)

end Go.Proofs.YtacffjimkplieaaDoor.publishBack
namespace Go.Proofs.YtacffjimkplieaaDoor
/-- The statement. -/
theorem publishBack_holds : Rows.PublishBackCardSaid :=
  Claim7.holds_tied_plain_at .later [] _ _ _ _ publishBack.said (fun _ h => by cases h) publishBack.wft (fun _ h => by cases h) publishBack_row_tie rfl ⟨rfl, rfl⟩ fac_main rfl publishBack.plain publishBack.goes
#print axioms publishBack_holds
end Go.Proofs.YtacffjimkplieaaDoor
