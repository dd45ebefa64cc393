/-
  Few of layer 7's statements. (No statement: contracts that the proofs of the statements use.)
-/
import Derived.Test.YtdbocpkeafcmaaaDoorJSam7b
import Derived.StillTailTactics
namespace Go.Proofs.YtdbocpkeafcmaaaDoor
open Go.RowKit

theorem PropsIn.below {W W' : World} {v : Value} {P : List Pr} (h : PropsIn W v P) (hb : Below W.heap.size W W') : PropsIn W' v P := ⟨h.1.below hb, h.2, h.3⟩

set_option maxRecDepth 100000 in
set_option maxHeartbeats 4000000 in
theorem few7_calls (w : World) (D R : Bool) (q i : Int) (va : Option Addr) (vn vc : Nat) (tp pl : ByteArray) (P : List Pr) (hv : PropsIn w (.slice va vn vc) P) (z1 : tp.size ≤ maxLen) (z2 : pl.size ≤ maxLen) :
    Calls Tryd.prog 59 #[.agg #[.bool D, .bool R, .int .u8 q, .int .u32 i, .slice va vn vc, .string tp, .string pl]] w (fun e w' => ∃ a c, e = .returned (.agg #[.bool D, .bool R, .int .u8 q, .int .u32 i, .slice a (fewL P).length c, .string (tp.extract 0 30), .string (pl.extract 0 50)]) ∧ OwnP w.heap.size 41 w' (.slice a (fewL P).length c) (fewL P) ∧ Below w.heap.size w w') := by
  have HR0 := Lib.hid (show ((w.alloc (.cells #[.bool D, .bool R, .int .u8 q, .int .u32 i, .slice va vn vc, .string tp, .string pl] 86)).alloc (.cells #[.bool false, .bool false, .int .u8 0, .int .u32 0, .slice none 0 0, .string ⟨#[]⟩, .string ⟨#[]⟩] 86)).heap[w.heap.size + 1]? = some (.cells #[.bool false, .bool false, .int .u8 0, .int .u32 0, .slice none 0 0, .string ⟨#[]⟩, .string ⟨#[]⟩] 86 (0, 0)) from by have := heap_alloc_new (w.alloc (.cells #[.bool D, .bool R, .int .u8 q, .int .u32 i, .slice va vn vc, .string tp, .string pl] 86)) (.cells #[.bool false, .bool false, .int .u8 0, .int .u32 0, .slice none 0 0, .string ⟨#[]⟩, .string ⟨#[]⟩] 86); rw [World.size_alloc] at this; exact this)
  have HB0 := Lib.hid (show ((w.alloc (.cells #[.bool D, .bool R, .int .u8 q, .int .u32 i, .slice va vn vc, .string tp, .string pl] 86)).alloc (.cells #[.bool false, .bool false, .int .u8 0, .int .u32 0, .slice none 0 0, .string ⟨#[]⟩, .string ⟨#[]⟩] 86)).heap[w.heap.size]? = some (.cells #[.bool D, .bool R, .int .u8 q, .int .u32 i, .slice va vn vc, .string tp, .string pl] 86 (0, 0)) from by rw [Below.heap_alloc _ _ _ (by simp)]; exact heap_alloc_new w _)
  have B0 := Lib.hid (below_two w (.cells #[.bool D, .bool R, .int .u8 q, .int .u32 i, .slice va vn vc, .string tp, .string pl] 86) (.cells #[.bool false, .bool false, .int .u8 0, .int .u32 0, .slice none 0 0, .string ⟨#[]⟩, .string ⟨#[]⟩] 86))
  have HV := Lib.hid hv
  clear hv
  go_enter Tryd.func59, Tryd.ntmps59
  go_wp2_with fail
  generalize (w.alloc (.cells #[.bool D, .bool R, .int .u8 q, .int .u32 i, .slice va vn vc, .string tp, .string pl] 86)).alloc (.cells #[.bool false, .bool false, .int .u8 0, .int .u32 0, .slice none 0 0, .string ⟨#[]⟩, .string ⟨#[]⟩] 86) = W0 at *
  obtain ⟨d0, d1, d2, d3, d4, d5, d6, df⟩ := cells7 HB0.out
  go_wp2_with fail
  refine (few_calls _ (.slice va vn vc) P (HV.out.below B0.out)).mono ?_
  rintro e V1 ⟨v, rfl, o1, b1⟩
  obtain ⟨a, c, rfl⟩ := o1.form
  have hrl : w.heap.size + 1 < W0.heap.size := lt_of_block HR0.out
  have R1 := Lib.hid ((b1.block _ (lt_of_block HR0.out)).trans HR0.out)
  have X1 := Lib.hid ((b1.block _ (lt_of_block HB0.out)).trans HB0.out)
  have B1 := Lib.hid (Below.next B0.out b1)
  have O1 := Lib.hid o1
  clear d0 d1 d2 d3 d4 d5 d6 df o1 b1 HB0 HR0 B0
  obtain ⟨d0, d1, d2, d3, d4, d5, d6, df⟩ := cells7 X1.out
  have dl := lt_of_block X1.out
  have R2 := Lib.hid (show (V1.setCell ⟨w.heap.size, 4, none⟩ (.slice a (fewL P).length c)).heap[w.heap.size + 1]? = _ from (Below.heap_setCell _ _ _ _ (by show w.heap.size + 1 ≠ w.heap.size; omega)).trans R1.out)
  have X2 := Lib.hid (show (V1.setCell ⟨w.heap.size, 4, none⟩ (.slice a (fewL P).length c)).heap[w.heap.size]? = some (.cells #[.bool D, .bool R, .int .u8 q, .int .u32 i, .slice a (fewL P).length c, .string tp, .string pl] 86 (0, 0)) from set_cells X1.out 4 _)
  have B2 := Lib.hid (below_set B1.out (Nat.le_refl _) 4 (.slice a (fewL P).length c))
  have O2 := Lib.hid (O1.out.set (j := 4) (y := .slice a (fewL P).length c) (show w.heap.size < W0.heap.size by omega))
  go_wp2_with fail
  generalize V1.setCell ⟨w.heap.size, 4, none⟩ (.slice a (fewL P).length c) = V2 at *
  clear d0 d1 d2 d3 d4 d5 d6 df dl R1 X1 B1 O1
  obtain ⟨d0, d1, d2, d3, d4, d5, d6, df⟩ := cells7 X2.out
  go_still_tail 7, (by kernel_rfl)
  still_call ((cut_calls _ tp 30 z1).mono (fun e w' h => ⟨h.1, h.2.symm⟩))
  repeat still_step
  still_call ((cut_calls _ pl 50 z2).mono (fun e w' h => ⟨h.1, h.2.symm⟩))
  repeat still_step
  refine wpStill_nil ?_
  change wpList _ _ _ _ _ V2.drew
  have R3 := Lib.hid (show V2.drew.heap[w.heap.size + 1]? = some (.cells #[.bool false, .bool false, .int .u8 0, .int .u32 0, .slice none 0 0, .string ⟨#[]⟩, .string ⟨#[]⟩] 86 (0, 0)) from R2.out)
  have X3 := Lib.hid (show V2.drew.heap[w.heap.size]? = some (.cells #[.bool D, .bool R, .int .u8 q, .int .u32 i, .slice a (fewL P).length c, .string tp, .string pl] 86 (0, 0)) from X2.out)
  have B3 := Lib.hid B2.out.drew
  have O3 := Lib.hid (show OwnP W0.heap.size 41 V2.drew (.slice a (fewL P).length c) (fewL P) from O2.out)
  clear d0 d1 d2 d3 d4 d5 d6 df R2 X2 B2 O2
  generalize V2.drew = V3 at *
  obtain ⟨d0, d1, d2, d3, d4, d5, d6, df⟩ := cells7 X3.out
  obtain ⟨r0, r1, r2, r3, r4, r5, r6, rf⟩ := cells7 R3.out
  have dl := lt_of_block X3.out
  have rl := lt_of_block R3.out
  go_wp2
  refine bodyPost_ret (v := .agg #[.bool D, .bool R, .int .u8 q, .int .u32 i, .slice a (fewL P).length c, .string (tp.extract 0 30), .string (pl.extract 0 50)]) ?_ rfl ⟨a, c, rfl, ?_, ?_⟩
  · simp [results, Tryd.results59, go_sem, r0, r1, r2, r3, r4, r5, r6]
  · refine OwnP.mono ?_ (show w.heap.size ≤ W0.heap.size by omega)
    iterate 7 (refine OwnP.set ?_ hrl)
    iterate 2 (refine OwnP.set ?_ (show w.heap.size < W0.heap.size by omega))
    exact O3.out
  · iterate 7 (refine below_set ?_ (Nat.le_succ _) _ _)
    iterate 2 (refine below_set ?_ (Nat.le_refl _) _ _)
    exact B3.out

#print axioms few7_calls
end Go.Proofs.YtdbocpkeafcmaaaDoor
