/-
  A thing taken of both: kind 4. (No statement.)
-/
import Derived.Test.YtgdbfdmnfndojaaTake0
namespace Go.Proofs.Ytgdbfdmnfndojaa
open Go.RowKit

set_option maxRecDepth 100000 in
set_option maxHeartbeats 2000000 in
theorem take4_calls (w : World) (p : Nat) (s : ByteArray) (x : Int) (n : Int) (z : ByteArray) (h : InAt w p s x) :
    Calls Try.prog 15 #[.pointer (some ⟨p, 0, none⟩), cur s x, .agg #[.int .i64 4, .int .u32 n, .string z]] w (Tookn w p) := by
  have hp := h.lt
  rcases hr : varT 3 0 0 s x with ⟨N, s', x'⟩
  have HR := Lib.hid hr
  clear hr
  have hW := Below.refl (((w.alloc (.cells #[.string s, .int .i64 x] 39)).alloc (.cells #[.int .i64 4, .int .u32 n, .string z] 31)).alloc (.cells #[.string ⟨#[]⟩, .int .i64 0] 39)).heap.size (((w.alloc (.cells #[.string s, .int .i64 x] 39)).alloc (.cells #[.int .i64 4, .int .u32 n, .string z] 31)).alloc (.cells #[.string ⟨#[]⟩, .int .i64 0] 39))
  have hi := three_in h hW
  clear h
  go_enter Try.func15, Try.ntmps15
  go_wp2_with fail
  refine (varIn_calls _ p s x N s' x' HR.out hi).mono ?_
  rintro e w1 ⟨rfl, hi1, ho⟩
  obtain ⟨k1, k2, k3, hz, hc⟩ := three_only hp hW ho
  obtain ⟨c0, c1, f0, f1⟩ := pair_cells k1
  obtain ⟨t0, t1, t2⟩ := triple_cells k2
  have HC := Lib.hid hc
  have K3 := Lib.hid k3
  clear hi hW ho k1 k2 k3 hc f0 f1
  go_wp2_with fail
  refine (r1takevar_calls _ s x N s' x' HR.out).mono ?_
  rintro e w2 ⟨rfl, hb2⟩
  have k3' : w2.heap[w.heap.size + 1 + 1]? = some (.cells #[.string ⟨#[]⟩, .int .i64 0] 39 (0, 0)) := by
    rw [hb2.block _ (by omega)]
    exact K3.out
  obtain ⟨d0, d1, g0, g1⟩ := pair_cells k3'
  have hz2 : w.heap.size + 1 + 1 < w2.heap.size := lt_of_block k3'
  have HI2 := Lib.hid (hi1.kept hb2)
  have HC2 := Lib.hid (HC.out.trans (Chg1.of_below hb2))
  clear hb2 hi1 HC K3 k3' c0 c1 t0 t1 t2
  go_wp2
  obtain ⟨r0, r1, rI, rC⟩ := fin_take (u := .string s') (v := .int .i64 x') d0 d1 (show w.heap.size ≤ w.heap.size + 1 + 1 by omega) hp HI2.out HC2.out (.cells #[.string s', .int .i64 x'] 39)
  exact bodyPost_ret (v := .tuple #[cur s' x', .bool true]) (by simp [results, Try.results15, go_sem, r0, r1]) rfl ⟨s', x', rfl, rI, rC⟩

end Go.Proofs.Ytgdbfdmnfndojaa
