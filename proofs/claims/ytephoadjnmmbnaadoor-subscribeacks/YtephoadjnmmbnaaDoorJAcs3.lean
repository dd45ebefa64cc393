/-
  The law's answers told, the document's same answers: layer 8. (No statement: contracts that the proofs of the statements use.)
-/
import Derived.Test.YtephoadjnmmbnaaDoorJAcs2
import Derived.Test.YtephoadjnmmbnaaDoorJSam7
import Derived.Deep.RegionHeld3
namespace Go.Proofs.YtephoadjnmmbnaaDoor
open Go.RowKit

def AcksOf8 (w : World) (c : Sk) (e : Ending) (w' : World) : Prop := ∃ a n : Nat, ∃ p : Option Addr, e = .returned (.agg #[.int .i64 c.k, .int .u32 c.id, .slice p n a, .string c.cs]) ∧ PropsAt w' (.slice p n a) c.ps ∧ Below w.heap.size w w'

set_option maxRecDepth 100000 in
set_option maxHeartbeats 4000000 in
theorem acks8_calls (w : World) (c : Sk) (va : Option Addr) (vn vc : Nat) (hv : PropsAt w (.slice va vn vc) c.ps) (hn : c.ps.length ≤ 1000000) :
    Calls Tryd.prog 75 #[.agg #[.int .i64 c.k, .int .u32 c.id, .slice va vn vc, .string c.cs]] w (AcksOf8 w c) := by
  obtain ⟨k, i, ps, c⟩ := c
  dsimp only at *
  unfold AcksOf8
  dsimp only
  have HR0 := Lib.hid (show ((w.alloc (.cells #[.int .i64 k, .int .u32 i, .slice va vn vc, .string c] 113)).alloc (.cells #[.int .i64 0, .int .u32 0, .slice none 0 0, .string ⟨#[]⟩] 125)).heap[w.heap.size + 1]? = some (.cells #[.int .i64 0, .int .u32 0, .slice none 0 0, .string ⟨#[]⟩] 125 (0, 0)) from by have := heap_alloc_new (w.alloc (.cells #[.int .i64 k, .int .u32 i, .slice va vn vc, .string c] 113)) (.cells #[.int .i64 0, .int .u32 0, .slice none 0 0, .string ⟨#[]⟩] 125); rw [World.size_alloc] at this; exact this)
  have HB0 := Lib.hid (show ((w.alloc (.cells #[.int .i64 k, .int .u32 i, .slice va vn vc, .string c] 113)).alloc (.cells #[.int .i64 0, .int .u32 0, .slice none 0 0, .string ⟨#[]⟩] 125)).heap[w.heap.size]? = some (.cells #[.int .i64 k, .int .u32 i, .slice va vn vc, .string c] 113 (0, 0)) from by rw [Below.heap_alloc _ _ _ (by simp)]; exact heap_alloc_new w _)
  have B0 := Lib.hid (below_two w (.cells #[.int .i64 k, .int .u32 i, .slice va vn vc, .string c] 113) (.cells #[.int .i64 0, .int .u32 0, .slice none 0 0, .string ⟨#[]⟩] 125))
  have HV := Lib.hid hv
  clear hv
  go_enter Tryd.func75, Tryd.ntmps75
  go_wp2_with fail
  generalize (w.alloc (.cells #[.int .i64 k, .int .u32 i, .slice va vn vc, .string c] 113)).alloc (.cells #[.int .i64 0, .int .u32 0, .slice none 0 0, .string ⟨#[]⟩] 125) = W0 at *
  have hrl : w.heap.size + 1 < W0.drew.heap.size := lt_of_block HR0.out
  have HT := Lib.hid (told_calls W0.drew (.slice va vn vc) ps (HV.out.below B0.out.drew) hn)
  obtain ⟨d0, d1, d2, d3, df⟩ := cells4 HB0.out
  have HS0 := Lib.hid (show W0.drew.cell? ⟨w.heap.size, 0, none⟩ = some (.int .i64 k) ∧ W0.drew.cell? ⟨w.heap.size, 1, none⟩ = some (.int .u32 i) ∧ W0.drew.cell? ⟨w.heap.size, 2, none⟩ = some (.slice va vn vc) ∧ W0.drew.cell? ⟨w.heap.size, 3, none⟩ = some (.string c) from ⟨d0, d1, d2, d3⟩)
  have S4 := Lib.hid (show ∀ (V : World) (u0 u1 u2 u3 : Value), (V.cell? ⟨w.heap.size, 0, none⟩ = some (.int .i64 k) ∧ V.cell? ⟨w.heap.size, 1, none⟩ = some (.int .u32 i) ∧ V.cell? ⟨w.heap.size, 2, none⟩ = some (.slice va vn vc) ∧ V.cell? ⟨w.heap.size, 3, none⟩ = some (.string c)) → ((((V.setCell ⟨w.heap.size + 1, 0, none⟩ u0).setCell ⟨w.heap.size + 1, 1, none⟩ u1).setCell ⟨w.heap.size + 1, 2, none⟩ u2).setCell ⟨w.heap.size + 1, 3, none⟩ u3).cell? ⟨w.heap.size, 0, none⟩ = some (.int .i64 k) ∧ ((((V.setCell ⟨w.heap.size + 1, 0, none⟩ u0).setCell ⟨w.heap.size + 1, 1, none⟩ u1).setCell ⟨w.heap.size + 1, 2, none⟩ u2).setCell ⟨w.heap.size + 1, 3, none⟩ u3).cell? ⟨w.heap.size, 1, none⟩ = some (.int .u32 i) ∧ ((((V.setCell ⟨w.heap.size + 1, 0, none⟩ u0).setCell ⟨w.heap.size + 1, 1, none⟩ u1).setCell ⟨w.heap.size + 1, 2, none⟩ u2).setCell ⟨w.heap.size + 1, 3, none⟩ u3).cell? ⟨w.heap.size, 2, none⟩ = some (.slice va vn vc) ∧ ((((V.setCell ⟨w.heap.size + 1, 0, none⟩ u0).setCell ⟨w.heap.size + 1, 1, none⟩ u1).setCell ⟨w.heap.size + 1, 2, none⟩ u2).setCell ⟨w.heap.size + 1, 3, none⟩ u3).cell? ⟨w.heap.size, 3, none⟩ = some (.string c) from fun V u0 u1 u2 u3 h => by
    have hb := far4 (w := V) (b := w.heap.size + 1) (c := w.heap.size) (u0 := u0) (u1 := u1) (u2 := u2) (u3 := u3) (by omega)
    exact ⟨(World.cell?_of_block (w := V) hb).trans h.1, (World.cell?_of_block (w := V) hb).trans h.2.1, (World.cell?_of_block (w := V) hb).trans h.2.2.1, (World.cell?_of_block (w := V) hb).trans h.2.2.2⟩)
  clear d0 d1 d2 d3 df
  go_region_held3 (fun wx => wx.cell? ⟨w.heap.size, 0, none⟩ = some (.int .i64 k) ∧ wx.cell? ⟨w.heap.size, 1, none⟩ = some (.int .u32 i) ∧ wx.cell? ⟨w.heap.size, 2, none⟩ = some (.slice va vn vc) ∧ wx.cell? ⟨w.heap.size, 3, none⟩ = some (.string c))
    (first | (with_reducible exact HS0.out) | (with_reducible exact HS1.out) | (with_reducible exact S4.out _ _ _ _ _ HS1.out) | fail)
    (first
      | (go_at_call 47; (with_reducible refine HT.out.mono ?_); rintro e V1 ⟨v, rfl, o1, b1⟩; obtain ⟨pa, pc, rfl⟩ := o1.form; have HO := Lib.hid o1; have HB1 := Lib.hid ((b1.block _ (lt_of_block HB0.out)).trans HB0.out); have HR1 := Lib.hid ((b1.block _ (lt_of_block HR0.out)).trans HR0.out); have HBL := Lib.hid (Below.next B0.out.drew b1); have HS1 := Lib.hid (show V1.cell? ⟨w.heap.size, 0, none⟩ = some (.int .i64 k) ∧ V1.cell? ⟨w.heap.size, 1, none⟩ = some (.int .u32 i) ∧ V1.cell? ⟨w.heap.size, 2, none⟩ = some (.slice va vn vc) ∧ V1.cell? ⟨w.heap.size, 3, none⟩ = some (.string c) from ⟨(cells4 HB1.out).1, (cells4 HB1.out).2.1, (cells4 HB1.out).2.2.1, (cells4 HB1.out).2.2.2.1⟩); obtain ⟨r0, r1, r2, r3, rf⟩ := cells4 HR1.out; have rl := lt_of_block HR1.out; clear o1 b1))
  rename_i hHeld
  clear hHeld HS0 HS1 S4 HB0 HR0 B0 HB1 HT
  go_wp2
  refine bodyPost_ret (v := .agg #[.int .i64 k, .int .u32 i, .slice pa ps.length pc, .string c]) ?_ rfl ⟨pc, ps.length, pa, rfl, ?_, ?_⟩
  · simp [results, Tryd.results75, go_sem, r0, r1, r2, r3]
  · refine OwnP.props (B := W0.drew.heap.size) (e := 168) ?_
    iterate 4 (refine OwnP.set ?_ hrl)
    exact HO.out
  · iterate 4 (refine below_set ?_ (by omega) _ _)
    exact HBL.out

set_option maxRecDepth 100000 in
set_option maxHeartbeats 4000000 in
theorem sameAck8_calls (w : World) (k i : Int) (c : ByteArray) (va : Option Addr) (vn vc : Nat) (ua : Option Addr) (un uc : Nat) (P : List Pr) (hv : PropsAt w (.slice va vn vc) P) (hu : PropsAt w (.slice ua un uc) P) (hn : P.length ≤ 1000000) :
    Calls Tryd.prog 83 #[.agg #[.int .i64 k, .int .u32 i, .slice va vn vc, .string c], .agg #[.int .i64 k, .int .u32 i, .slice ua un uc, .string c]] w fun e w' => e = .returned (.bool true) ∧ Below w.heap.size w w' := by
  have hA := heap_alloc_new w (.cells #[.int .i64 k, .int .u32 i, .slice va vn vc, .string c] 125)
  have HB1 := Lib.hid (heap_alloc_new (w.alloc (.cells #[.int .i64 k, .int .u32 i, .slice va vn vc, .string c] 125)) (.cells #[.int .i64 k, .int .u32 i, .slice ua un uc, .string c] 125))
  have HA1 := Lib.hid ((Below.heap_alloc (w.alloc (.cells #[.int .i64 k, .int .u32 i, .slice va vn vc, .string c] 125)) (.cells #[.int .i64 k, .int .u32 i, .slice ua un uc, .string c] 125) w.heap.size (by simp)).trans hA)
  have B0 := Lib.hid (below_two w (.cells #[.int .i64 k, .int .u32 i, .slice va vn vc, .string c] 125) (.cells #[.int .i64 k, .int .u32 i, .slice ua un uc, .string c] 125))
  have HV := Lib.hid hv
  have HU := Lib.hid hu
  clear hA hv hu
  rw [World.size_alloc] at HB1
  go_enter Tryd.func83, Tryd.ntmps83
  go_wp2_with fail
  generalize (w.alloc (.cells #[.int .i64 k, .int .u32 i, .slice va vn vc, .string c] 125)).alloc (.cells #[.int .i64 k, .int .u32 i, .slice ua un uc, .string c] 125) = W0 at *
  refine (r6props_calls W0 _ _ P (HV.out.below B0.out) (HU.out.below B0.out) hn).mono ?_
  rintro e V ⟨rfl, b⟩
  have HA2 := Lib.hid ((b.block _ (lt_of_block HA1.out)).trans HA1.out)
  have HB2 := Lib.hid ((b.block _ (lt_of_block HB1.out)).trans HB1.out)
  have BV := Lib.hid (Below.next B0.out b)
  obtain ⟨⟨a0, a1, a2, a3⟩, -⟩ := four_cells HA2.out
  obtain ⟨⟨b0, b1, b2, b3⟩, -⟩ := four_cells HB2.out
  clear b
  go_wp2
  go_ret
  exact ⟨rfl, BV.out⟩

#print axioms acks8_calls
end Go.Proofs.YtephoadjnmmbnaaDoor
