/-
  Same of the document, Told of layer 7's statements. (No statement: contracts that the proofs of the statements use.)
-/
import Derived.Test.YtacffjimkplieaaDoorJSam7
namespace Go.Proofs.YtacffjimkplieaaDoor
open Go.RowKit

set_option maxRecDepth 100000 in
set_option maxHeartbeats 4000000 in
theorem same7_calls (w : World) (D R : Bool) (q i : Int) (tp pl : ByteArray) (va : Option Addr) (vn vc : Nat) (ua : Option Addr) (un uc : Nat) (P : List Pr) (hv : PropsAt w (.slice va vn vc) P) (hu : PropsAt w (.slice ua un uc) P) (hn : P.length ≤ 1000000) :
    Calls Tryd.prog 34 #[.agg #[.bool D, .bool R, .int .u8 q, .int .u32 i, .slice va vn vc, .string tp, .string pl], .agg #[.bool D, .bool R, .int .u8 q, .int .u32 i, .slice ua un uc, .string tp, .string pl]] w fun e w' => e = .returned (.bool true) ∧ Below w.heap.size w w' := by
  have HV := Lib.hid hv
  have HU := Lib.hid hu
  clear hv hu
  have b0 := Lib.hid (below_two w (.cells #[.bool D, .bool R, .int .u8 q, .int .u32 i, .slice va vn vc, .string tp, .string pl] 67) (.cells #[.bool D, .bool R, .int .u8 q, .int .u32 i, .slice ua un uc, .string tp, .string pl] 67))
  have x0 := Lib.hid (show ((w.alloc (.cells #[.bool D, .bool R, .int .u8 q, .int .u32 i, .slice va vn vc, .string tp, .string pl] 67)).alloc (.cells #[.bool D, .bool R, .int .u8 q, .int .u32 i, .slice ua un uc, .string tp, .string pl] 67)).heap[w.heap.size]? = some (.cells #[.bool D, .bool R, .int .u8 q, .int .u32 i, .slice va vn vc, .string tp, .string pl] 67 (0, 0)) from by rw [Below.heap_alloc _ _ _ (by simp)]; exact heap_alloc_new w _)
  have y0 := Lib.hid (show ((w.alloc (.cells #[.bool D, .bool R, .int .u8 q, .int .u32 i, .slice va vn vc, .string tp, .string pl] 67)).alloc (.cells #[.bool D, .bool R, .int .u8 q, .int .u32 i, .slice ua un uc, .string tp, .string pl] 67)).heap[w.heap.size + 1]? = some (.cells #[.bool D, .bool R, .int .u8 q, .int .u32 i, .slice ua un uc, .string tp, .string pl] 67 (0, 0)) from by have := heap_alloc_new (w.alloc (.cells #[.bool D, .bool R, .int .u8 q, .int .u32 i, .slice va vn vc, .string tp, .string pl] 67)) (.cells #[.bool D, .bool R, .int .u8 q, .int .u32 i, .slice ua un uc, .string tp, .string pl] 67); rw [World.size_alloc] at this; exact this)
  go_enter Tryd.func34, Tryd.ntmps34
  go_wp2_with fail
  generalize (w.alloc (.cells #[.bool D, .bool R, .int .u8 q, .int .u32 i, .slice va vn vc, .string tp, .string pl] 67)).alloc (.cells #[.bool D, .bool R, .int .u8 q, .int .u32 i, .slice ua un uc, .string tp, .string pl] 67) = W0 at *
  refine (r6props_calls _ _ _ P (HV.out.below b0.out) (HU.out.below b0.out) hn).mono ?_
  rintro e w1 ⟨rfl, b1⟩
  have B1 := Lib.hid (Below.next b0.out b1)
  obtain ⟨d0, d1, d2, d3, d4, d5, d6, df⟩ := cells7 ((b1.block _ (lt_of_block x0.out)).trans x0.out)
  obtain ⟨f0, f1, f2, f3, f4, f5, f6, ff⟩ := cells7 ((b1.block _ (lt_of_block y0.out)).trans y0.out)
  clear b1 x0 y0
  go_wp2
  go_ret
  exact ⟨rfl, B1.out⟩

/-- What Told answers. -/
def ToldOf (w : World) (c : Pb) (e : Ending) (w' : World) : Prop := ∃ a n : Nat, ∃ p : Option Addr, e = .returned (.agg #[.bool c.dup, .bool c.ret, .int .u8 c.q, .int .u32 c.id, .slice p n a, .string c.tp, .string c.pl]) ∧ PropsAt w' (.slice p n a) c.ps ∧ Below w.heap.size w w'

set_option maxRecDepth 100000 in
set_option maxHeartbeats 4000000 in
theorem told7_calls (w : World) (c : Pb) (va : Option Addr) (vn vc : Nat) (hv : PropsAt w (.slice va vn vc) c.ps) (hn : c.ps.length ≤ 1000000) :
    Calls Tryd.prog 35 #[.agg #[.bool c.dup, .bool c.ret, .int .u8 c.q, .int .u32 c.id, .slice va vn vc, .string c.tp, .string c.pl]] w (ToldOf w c) := by
  obtain ⟨D, R, q, i, ps, tp, pl⟩ := c
  dsimp only at *
  unfold ToldOf
  dsimp only
  have HB0 := Lib.hid (show ((w.alloc (.cells #[.bool D, .bool R, .int .u8 q, .int .u32 i, .slice va vn vc, .string tp, .string pl] 63)).alloc (.cells #[.bool false, .bool false, .int .u8 0, .int .u32 0, .slice none 0 0, .string ⟨#[]⟩, .string ⟨#[]⟩] 67)).heap[w.heap.size]? = some (.cells #[.bool D, .bool R, .int .u8 q, .int .u32 i, .slice va vn vc, .string tp, .string pl] 63 (0, 0)) from by rw [Below.heap_alloc _ _ _ (by simp)]; exact heap_alloc_new w _)
  have HR0 := Lib.hid (show ((w.alloc (.cells #[.bool D, .bool R, .int .u8 q, .int .u32 i, .slice va vn vc, .string tp, .string pl] 63)).alloc (.cells #[.bool false, .bool false, .int .u8 0, .int .u32 0, .slice none 0 0, .string ⟨#[]⟩, .string ⟨#[]⟩] 67)).heap[w.heap.size + 1]? = some (.cells #[.bool false, .bool false, .int .u8 0, .int .u32 0, .slice none 0 0, .string ⟨#[]⟩, .string ⟨#[]⟩] 67 (0, 0)) from by have := heap_alloc_new (w.alloc (.cells #[.bool D, .bool R, .int .u8 q, .int .u32 i, .slice va vn vc, .string tp, .string pl] 63)) (.cells #[.bool false, .bool false, .int .u8 0, .int .u32 0, .slice none 0 0, .string ⟨#[]⟩, .string ⟨#[]⟩] 67); rw [World.size_alloc] at this; exact this)
  have B0 := Lib.hid (below_two w (.cells #[.bool D, .bool R, .int .u8 q, .int .u32 i, .slice va vn vc, .string tp, .string pl] 63) (.cells #[.bool false, .bool false, .int .u8 0, .int .u32 0, .slice none 0 0, .string ⟨#[]⟩, .string ⟨#[]⟩] 67))
  have HV := Lib.hid hv
  clear hv
  go_enter Tryd.func35, Tryd.ntmps35
  go_wp2_with fail
  generalize (w.alloc (.cells #[.bool D, .bool R, .int .u8 q, .int .u32 i, .slice va vn vc, .string tp, .string pl] 63)).alloc (.cells #[.bool false, .bool false, .int .u8 0, .int .u32 0, .slice none 0 0, .string ⟨#[]⟩, .string ⟨#[]⟩] 67) = W0 at *
  have hrl : w.heap.size + 1 < W0.drew.heap.size := lt_of_block HR0.out
  have HT := Lib.hid (told_calls W0.drew (.slice va vn vc) ps (HV.out.below B0.out.drew) hn)
  have HL0 := Lib.hid (show Loc w 63 w.heap.size #[.bool D, .bool R, .int .u8 q, .int .u32 i, .slice va vn vc, .string tp, .string pl] W0.drew from ⟨HB0.out, B0.out.drew, Nat.le_refl _⟩)
  have KC := Lib.hid (show ∀ V : World, Loc w 63 w.heap.size #[.bool D, .bool R, .int .u8 q, .int .u32 i, .slice va vn vc, .string tp, .string pl] V → V.cell? ⟨w.heap.size, 0, none⟩ = some (.bool D) ∧ V.cell? ⟨w.heap.size, 1, none⟩ = some (.bool R) ∧ V.cell? ⟨w.heap.size, 2, none⟩ = some (.int .u8 q) ∧ V.cell? ⟨w.heap.size, 3, none⟩ = some (.int .u32 i) ∧ V.cell? ⟨w.heap.size, 4, none⟩ = some (.slice va vn vc) ∧ V.cell? ⟨w.heap.size, 5, none⟩ = some (.string tp) ∧ V.cell? ⟨w.heap.size, 6, none⟩ = some (.string pl) from fun V h => by obtain ⟨d0, d1, d2, d3, d4, d5, d6, df⟩ := cells7 h.loc; exact ⟨d0, d1, d2, d3, d4, d5, d6⟩)
  have S7 := Lib.hid (show ∀ V A u0 u1 u2 u3 u4 u5 u6, Loc w 63 w.heap.size A V → Loc w 63 w.heap.size A (((((((V.setCell ⟨w.heap.size + 1, 0, none⟩ u0).setCell ⟨w.heap.size + 1, 1, none⟩ u1).setCell ⟨w.heap.size + 1, 2, none⟩ u2).setCell ⟨w.heap.size + 1, 3, none⟩ u3).setCell ⟨w.heap.size + 1, 4, none⟩ u4).setCell ⟨w.heap.size + 1, 5, none⟩ u5).setCell ⟨w.heap.size + 1, 6, none⟩ u6) from fun V A u0 u1 u2 u3 u4 u5 u6 h => by (iterate 7 (refine Loc.set ?_ (Nat.lt_succ_self _) _ _)); exact h)
  clear HB0
  go_region_held3 (fun V => V.cell? ⟨w.heap.size, 0, none⟩ = some (.bool D) ∧ V.cell? ⟨w.heap.size, 1, none⟩ = some (.bool R) ∧ V.cell? ⟨w.heap.size, 2, none⟩ = some (.int .u8 q) ∧ V.cell? ⟨w.heap.size, 3, none⟩ = some (.int .u32 i) ∧ V.cell? ⟨w.heap.size, 4, none⟩ = some (.slice va vn vc) ∧ V.cell? ⟨w.heap.size, 5, none⟩ = some (.string tp) ∧ V.cell? ⟨w.heap.size, 6, none⟩ = some (.string pl))
    (first | (with_reducible exact KC.out _ HL0.out) | (with_reducible exact KC.out _ HL1.out) | (with_reducible exact KC.out _ (S7.out _ _ _ _ _ _ _ _ _ HL1.out)) | fail)
    (first
      | (go_at_call 20; (with_reducible refine HT.out.mono ?_); rintro e V1 ⟨v, rfl, o1, b1⟩; obtain ⟨pa, pc, rfl⟩ := o1.form; have HO := Lib.hid o1; have HR1 := Lib.hid ((b1.block _ (lt_of_block HR0.out)).trans HR0.out); (with_reducible have HL1 := Lib.hid (HL0.out.below b1)); obtain ⟨r0, r1, r2, r3, r4, r5, r6, rf⟩ := cells7 HR1.out; have rl := lt_of_block HR1.out; clear o1 b1))
  rename_i hHeld
  clear hHeld HL0 KC S7 HR0 B0 HT
  go_wp2
  refine bodyPost_ret (v := .agg #[.bool D, .bool R, .int .u8 q, .int .u32 i, .slice pa ps.length pc, .string tp, .string pl]) ?_ rfl ⟨pc, ps.length, pa, rfl, ?_, ?_⟩
  · simp [results, Tryd.results35, go_sem, r0, r1, r2, r3, r4, r5, r6]
  · refine OwnP.props (B := W0.drew.heap.size) (e := 153) ?_
    iterate 7 (refine OwnP.set ?_ hrl)
    exact HO.out
  · exact below_set7 HL1.out.bel (by omega)

#print axioms told7_calls
end Go.Proofs.YtacffjimkplieaaDoor
