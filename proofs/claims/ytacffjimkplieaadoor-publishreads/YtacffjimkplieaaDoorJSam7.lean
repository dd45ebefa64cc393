/-
  Props and SameAck of the document; Acks of layer 7's statements. (No statement: contracts that the proofs of the statements use.)
-/
import Derived.Test.YtacffjimkplieaaDoorJPropsB
import Derived.Test.YtacffjimkplieaaDoorJPub7
import Derived.Deep.RegionHeld3
namespace Go.Proofs.YtacffjimkplieaaDoor
open Go.RowKit

set_option maxRecDepth 100000 in
set_option maxHeartbeats 1000000 in
theorem r6same_calls (w : World) (v u : Value) (P : List Pr) (hv : PropsAt w v P) (hu : PropsAt w u P) (hn : P.length ≤ 1000000) :
    Calls Tryd.prog 83 #[v, u] w fun e w' => e = .returned (.bool true) ∧ Below w.heap.size w w' := by
  obtain ⟨A, cap, rfl, hc⟩ := hv
  obtain ⟨A2, cap2, rfl, hc2⟩ := hu
  have HC := Lib.hid hc
  have HC2 := Lib.hid hc2
  clear hc hc2
  go_enter Tryd.func83, Tryd.ntmps83
  go_wp2
  go_loopw [13] (fun j wr => ∃ k n : Nat, k ≤ P.length ∧ j = .int .i64 k ∧ wr = w.drewN n) (fun j _ => P.length - (intOf j).toNat)
  case atStart => exact ⟨0, 0, by omega, rfl, rfl⟩
  case round =>
    obtain ⟨k, n, hk, rfl, rfl⟩ := hrel
    by_cases hlt : k < P.length
    · obtain ⟨x, hx⟩ : ∃ x, P[k]? = some x := ⟨_, List.getElem?_eq_getElem hlt⟩
      obtain ⟨b, off, hA, hbl, c0, c1, c2, c3⟩ := HC.out k x hx
      obtain ⟨b', off', hA', hbl', d0, d1, d2, d3⟩ := HC2.out k x hx
      subst hA hA'
      have hq := neq_rprop x
      have hltI : (k : Int) < P.length := by omega
      clear HC HC2 hx
      go_wp2_with fail
      go_quiet (fail)
      go_wp2
      go_roundw
      case rel => exact ⟨k + 1, _, by omega, by go_num, rfl⟩
      case measure => simp [intOf]; omega
    · obtain rfl : k = P.length := by omega
      clear HC HC2
      go_wp2
      go_ret
      exact ⟨rfl, drewN_below (Below.refl _ _) n⟩

theorem r6props_calls (w : World) (v u : Value) (P : List Pr) (hv : PropsAt w v P) (hu : PropsAt w u P) (hn : P.length ≤ 1000000) :
    Calls Tryd.prog 19 #[v, u] w fun e w' => e = .returned (.bool true) ∧ Below w.heap.size w w' := by
  have HS := Lib.hid (r6same_calls w v u P hv hu hn)
  obtain ⟨A, cap, rfl, hc⟩ := hv
  obtain ⟨A2, cap2, rfl, hc2⟩ := hu
  clear hc hc2
  go_enter Tryd.func19, Tryd.ntmps19
  go_wp2_with fail
  refine HS.out.mono ?_
  rintro e w1 ⟨rfl, b1⟩
  have B1 := Lib.hid b1
  clear b1
  go_wp2
  go_ret
  exact ⟨rfl, B1.out⟩

set_option maxRecDepth 100000 in
set_option maxHeartbeats 4000000 in
theorem sameAck_calls (w : World) (k i c : Int) (va : Option Addr) (vn vc : Nat) (ua : Option Addr) (un uc : Nat) (P : List Pr) (hv : PropsAt w (.slice va vn vc) P) (hu : PropsAt w (.slice ua un uc) P) (hn : P.length ≤ 1000000) :
    Calls Tryd.prog 36 #[.agg #[.int .i64 k, .int .u32 i, .int .u8 c, .slice va vn vc], .agg #[.int .i64 k, .int .u32 i, .int .u8 c, .slice ua un uc]] w fun e w' => e = .returned (.bool true) ∧ Below w.heap.size w w' := by
  have HV := Lib.hid hv
  have HU := Lib.hid hu
  clear hv hu
  have b0 := Lib.hid (below_two w (.cells #[.int .i64 k, .int .u32 i, .int .u8 c, .slice va vn vc] 75) (.cells #[.int .i64 k, .int .u32 i, .int .u8 c, .slice ua un uc] 75))
  go_enter Tryd.func36, Tryd.ntmps36
  go_wp2_with fail
  refine (r6props_calls _ _ _ P (HV.out.below b0.out) (HU.out.below b0.out) hn).mono ?_
  rintro e w1 ⟨rfl, b1⟩
  have B1 := Lib.hid (Below.next b0.out b1)
  clear b1
  go_wp2
  go_ret
  exact ⟨rfl, B1.out⟩

/-- What Acks answers. -/
def AcksOf (w : World) (c : Pk) (e : Ending) (w' : World) : Prop := ∃ a n : Nat, ∃ p : Option Addr, e = .returned (.agg #[.int .i64 c.k, .int .u32 c.id, .int .u8 c.code, .slice p n a]) ∧ PropsAt w' (.slice p n a) c.ps ∧ Below w.heap.size w w'

set_option maxRecDepth 100000 in
set_option maxHeartbeats 4000000 in
theorem acks7_calls (w : World) (c : Pk) (va : Option Addr) (vn vc : Nat) (hv : PropsAt w (.slice va vn vc) c.ps) (hn : c.ps.length ≤ 1000000) :
    Calls Tryd.prog 37 #[.agg #[.int .i64 c.k, .int .u32 c.id, .int .u8 c.code, .slice va vn vc]] w (AcksOf w c) := by
  obtain ⟨k, i, c, ps⟩ := c
  dsimp only at *
  unfold AcksOf
  dsimp only
  have HR0 := Lib.hid (show ((w.alloc (.cells #[.int .i64 k, .int .u32 i, .int .u8 c, .slice va vn vc] 71)).alloc (.cells #[.int .i64 0, .int .u32 0, .int .u8 0, .slice none 0 0] 75)).heap[w.heap.size + 1]? = some (.cells #[.int .i64 0, .int .u32 0, .int .u8 0, .slice none 0 0] 75 (0, 0)) from by have := heap_alloc_new (w.alloc (.cells #[.int .i64 k, .int .u32 i, .int .u8 c, .slice va vn vc] 71)) (.cells #[.int .i64 0, .int .u32 0, .int .u8 0, .slice none 0 0] 75); rw [World.size_alloc] at this; exact this)
  have HB0 := Lib.hid (show ((w.alloc (.cells #[.int .i64 k, .int .u32 i, .int .u8 c, .slice va vn vc] 71)).alloc (.cells #[.int .i64 0, .int .u32 0, .int .u8 0, .slice none 0 0] 75)).heap[w.heap.size]? = some (.cells #[.int .i64 k, .int .u32 i, .int .u8 c, .slice va vn vc] 71 (0, 0)) from by rw [Below.heap_alloc _ _ _ (by simp)]; exact heap_alloc_new w _)
  have B0 := Lib.hid (below_two w (.cells #[.int .i64 k, .int .u32 i, .int .u8 c, .slice va vn vc] 71) (.cells #[.int .i64 0, .int .u32 0, .int .u8 0, .slice none 0 0] 75))
  have HV := Lib.hid hv
  clear hv
  go_enter Tryd.func37, Tryd.ntmps37
  go_wp2_with fail
  generalize (w.alloc (.cells #[.int .i64 k, .int .u32 i, .int .u8 c, .slice va vn vc] 71)).alloc (.cells #[.int .i64 0, .int .u32 0, .int .u8 0, .slice none 0 0] 75) = W0 at *
  have hrl : w.heap.size + 1 < W0.drew.heap.size := lt_of_block HR0.out
  have HT := Lib.hid (told_calls W0.drew (.slice va vn vc) ps (HV.out.below B0.out.drew) hn)
  obtain ⟨d0, d1, d2, d3, df⟩ := cells4 HB0.out
  have HS0 := Lib.hid (show W0.drew.cell? ⟨w.heap.size, 0, none⟩ = some (.int .i64 k) ∧ W0.drew.cell? ⟨w.heap.size, 1, none⟩ = some (.int .u32 i) ∧ W0.drew.cell? ⟨w.heap.size, 2, none⟩ = some (.int .u8 c) ∧ W0.drew.cell? ⟨w.heap.size, 3, none⟩ = some (.slice va vn vc) from ⟨d0, d1, d2, d3⟩)
  have S4 := Lib.hid (show ∀ (V : World) (u0 u1 u2 u3 : Value), (V.cell? ⟨w.heap.size, 0, none⟩ = some (.int .i64 k) ∧ V.cell? ⟨w.heap.size, 1, none⟩ = some (.int .u32 i) ∧ V.cell? ⟨w.heap.size, 2, none⟩ = some (.int .u8 c) ∧ V.cell? ⟨w.heap.size, 3, none⟩ = some (.slice va vn vc)) → ((((V.setCell ⟨w.heap.size + 1, 0, none⟩ u0).setCell ⟨w.heap.size + 1, 1, none⟩ u1).setCell ⟨w.heap.size + 1, 2, none⟩ u2).setCell ⟨w.heap.size + 1, 3, none⟩ u3).cell? ⟨w.heap.size, 0, none⟩ = some (.int .i64 k) ∧ ((((V.setCell ⟨w.heap.size + 1, 0, none⟩ u0).setCell ⟨w.heap.size + 1, 1, none⟩ u1).setCell ⟨w.heap.size + 1, 2, none⟩ u2).setCell ⟨w.heap.size + 1, 3, none⟩ u3).cell? ⟨w.heap.size, 1, none⟩ = some (.int .u32 i) ∧ ((((V.setCell ⟨w.heap.size + 1, 0, none⟩ u0).setCell ⟨w.heap.size + 1, 1, none⟩ u1).setCell ⟨w.heap.size + 1, 2, none⟩ u2).setCell ⟨w.heap.size + 1, 3, none⟩ u3).cell? ⟨w.heap.size, 2, none⟩ = some (.int .u8 c) ∧ ((((V.setCell ⟨w.heap.size + 1, 0, none⟩ u0).setCell ⟨w.heap.size + 1, 1, none⟩ u1).setCell ⟨w.heap.size + 1, 2, none⟩ u2).setCell ⟨w.heap.size + 1, 3, none⟩ u3).cell? ⟨w.heap.size, 3, none⟩ = some (.slice va vn vc) from fun V u0 u1 u2 u3 h => by
    have hb := far4 (w := V) (b := w.heap.size + 1) (c := w.heap.size) (u0 := u0) (u1 := u1) (u2 := u2) (u3 := u3) (by omega)
    exact ⟨(World.cell?_of_block (w := V) hb).trans h.1, (World.cell?_of_block (w := V) hb).trans h.2.1, (World.cell?_of_block (w := V) hb).trans h.2.2.1, (World.cell?_of_block (w := V) hb).trans h.2.2.2⟩)
  clear d0 d1 d2 d3 df
  go_region_held3 (fun wx => wx.cell? ⟨w.heap.size, 0, none⟩ = some (.int .i64 k) ∧ wx.cell? ⟨w.heap.size, 1, none⟩ = some (.int .u32 i) ∧ wx.cell? ⟨w.heap.size, 2, none⟩ = some (.int .u8 c) ∧ wx.cell? ⟨w.heap.size, 3, none⟩ = some (.slice va vn vc))
    (first | (with_reducible exact HS0.out) | (with_reducible exact HS1.out) | (with_reducible exact S4.out _ _ _ _ _ HS1.out) | fail)
    (first
      | (go_at_call 20; (with_reducible refine HT.out.mono ?_); rintro e V1 ⟨v, rfl, o1, b1⟩; obtain ⟨pa, pc, rfl⟩ := o1.form; have HO := Lib.hid o1; have HB1 := Lib.hid ((b1.block _ (lt_of_block HB0.out)).trans HB0.out); have HR1 := Lib.hid ((b1.block _ (lt_of_block HR0.out)).trans HR0.out); have HBL := Lib.hid (Below.next B0.out.drew b1); have HS1 := Lib.hid (show V1.cell? ⟨w.heap.size, 0, none⟩ = some (.int .i64 k) ∧ V1.cell? ⟨w.heap.size, 1, none⟩ = some (.int .u32 i) ∧ V1.cell? ⟨w.heap.size, 2, none⟩ = some (.int .u8 c) ∧ V1.cell? ⟨w.heap.size, 3, none⟩ = some (.slice va vn vc) from ⟨(cells4 HB1.out).1, (cells4 HB1.out).2.1, (cells4 HB1.out).2.2.1, (cells4 HB1.out).2.2.2.1⟩); obtain ⟨r0, r1, r2, r3, rf⟩ := cells4 HR1.out; have rl := lt_of_block HR1.out; clear o1 b1))
  rename_i hHeld
  clear hHeld HS0 HS1 S4 HB0 HR0 B0 HB1 HT
  go_wp2
  refine bodyPost_ret (v := .agg #[.int .i64 k, .int .u32 i, .int .u8 c, .slice pa ps.length pc]) ?_ rfl ⟨pc, ps.length, pa, rfl, ?_, ?_⟩
  · simp [results, Tryd.results37, go_sem, r0, r1, r2, r3]
  · refine OwnP.props (B := W0.drew.heap.size) (e := 153) ?_
    iterate 4 (refine OwnP.set ?_ hrl)
    exact HO.out
  · iterate 4 (refine below_set ?_ (by omega) _ _)
    exact HBL.out

#print axioms acks7_calls
end Go.Proofs.YtacffjimkplieaaDoor
