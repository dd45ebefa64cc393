/-
  Text of publish. (No statement: contracts that the proofs of the statements use.)
-/
import Derived.Test.YtacffjimkplieaaDoorJPub1
namespace Go.Proofs.YtacffjimkplieaaDoor
open Go.RowKit

/-- A Publish's body. -/
def pubL (c : Pb) : List UInt8 := [] ++ datL c.tp ++ (if (c.q != 0) = true then two c.id else []) ++ propsL c.ps ++ c.pl.data.toList
/-- What of a Publish can be put. -/
structure Pb.ok (c : Pb) : Prop where
  q0 : 0 ≤ c.q
  q1 : c.q < 256
  i0 : 0 ≤ c.id
  i1 : c.id < 4294967296
  tp : c.tp.size ≤ 65535
  pl : c.pl.size ≤ 65535
  ps : ∀ p ∈ c.ps, p.ok
  pn : c.ps.length ≤ 1000

set_option maxRecDepth 100000 in
set_option maxHeartbeats 4000000 in
theorem pubtext_calls (w : World) (c : Pb) (va : Option Addr) (vn vc : Nat) (ok : c.ok) (hv : PropsAt w (.slice va vn vc) c.ps) :
    Calls Tryd.prog 40 #[pbV c (.slice va vn vc)] w fun e w' => e = .returned (.string (str (pubL c))) ∧ Below w.heap.size w w' := by
  obtain ⟨q0, q1, i0, i1, z1, z2, okp, hpn⟩ := ok
  obtain ⟨dup, ret, q, i, ps, tp, pl⟩ := c
  dsimp only at *
  unfold pubL pbV pbC
  dsimp only
  have T0 := Lib.hid (Tx.start w 63 #[.bool dup, .bool ret, .int .u8 q, .int .u32 i, .slice va vn vc, .string tp, .string pl])
  have l1 := propsL_len ps okp hpn
  have l2 := datL_len tp z1
  have HV := Lib.hid hv
  clear hv
  have HL1 := Lib.hid l1
  cases hq : (q != 0)
  · rw [if_neg (by simp)]
    go_enter Tryd.func40, Tryd.ntmps40
    go_wp2_with fail
    generalize (w.alloc (.cells #[.bool dup, .bool ret, .int .u8 q, .int .u32 i, .slice va vn vc, .string tp, .string pl] 63)).alloc (.cells #[.slice none 0 0] 155) = W0 at *
    obtain ⟨d0, d1, d2, d3, d4, d5, d6, df⟩ := cells7 T0.out.box
    go_wp2_with fail
    refine (data_calls _ (w.heap.size + 1) none [] tp T0.out.out z1 (by simp)).mono ?_
    rintro e V1 ⟨rfl, r1, h1, s1⟩
    have T1 := Lib.hid (T0.out.put (bs' := [] ++ datL tp) h1 s1)
    clear h1 s1 d0 d1 d2 d3 d4 d5 d6 df T0
    generalize hG : [] ++ datL tp = G at *
    have lG : G.length ≤ 65537 := by rw [← hG, List.nil_append]; exact l2
    obtain ⟨d0, d1, d2, d3, d4, d5, d6, df⟩ := cells7 T1.out.box
    go_wp2_with fail
    refine (put3_calls _ (w.heap.size + 1) r1 G (.slice va vn vc) ps (HV.out.below T1.out.bel) okp hpn T1.out.out (by omega)).mono ?_
    rintro e V2 ⟨rfl, r2, h2, s2⟩
    have T2 := Lib.hid (T1.out.put h2 s2)
    clear h2 s2 d0 d1 d2 d3 d4 d5 d6 df T1
    have lG2 : (G ++ propsL ps).length ≤ 140065600 := by rw [List.length_append]; omega
    generalize hG2 : G ++ propsL ps = G2 at *
    obtain ⟨d0, d1, d2, d3, d4, d5, d6, df⟩ := cells7 T2.out.box
    have HG := Lib.hid hG
    have HG2 := Lib.hid hG2
    clear hG hG2
    go_wp2_with fail
    refine (raw_calls _ (w.heap.size + 1) r2 G2 pl T2.out.out (by omega)).mono ?_
    rintro e V3 ⟨rfl, r3, h3, s3⟩
    have T3 := Lib.hid (T2.out.put h3 s3)
    clear h3 s3 d0 d1 d2 d3 d4 d5 d6 df T2
    go_wp2_with fail
    refine (text_calls _ (w.heap.size + 1) r3 _ T3.out.out).mono ?_
    rintro e V4 ⟨rfl, rfl⟩
    have BF := Lib.hid T3.out.bel
    clear T3
    go_wp2
    go_ret
    exact ⟨ret_str (by rw [← HG2.out, ← HG.out]; simp), BF.out⟩
  · rw [if_pos rfl]
    go_enter Tryd.func40, Tryd.ntmps40
    go_wp2_with fail
    generalize (w.alloc (.cells #[.bool dup, .bool ret, .int .u8 q, .int .u32 i, .slice va vn vc, .string tp, .string pl] 63)).alloc (.cells #[.slice none 0 0] 155) = W0 at *
    obtain ⟨d0, d1, d2, d3, d4, d5, d6, df⟩ := cells7 T0.out.box
    go_wp2_with fail
    refine (data_calls _ (w.heap.size + 1) none [] tp T0.out.out z1 (by simp)).mono ?_
    rintro e V1 ⟨rfl, r1, h1, s1⟩
    have T1 := Lib.hid (T0.out.put (bs' := [] ++ datL tp) h1 s1)
    clear h1 s1 d0 d1 d2 d3 d4 d5 d6 df T0
    generalize hG : [] ++ datL tp = G at *
    have lG : G.length ≤ 65537 := by rw [← hG, List.nil_append]; exact l2
    obtain ⟨d0, d1, d2, d3, d4, d5, d6, df⟩ := cells7 T1.out.box
    go_wp2_with fail
    refine (two_calls _ (w.heap.size + 1) r1 G i i0 i1 T1.out.out (by omega)).mono ?_
    rintro e V1 ⟨rfl, r1', h1, s1⟩
    have T1' := Lib.hid (T1.out.put h1 s1)
    clear h1 s1 d0 d1 d2 d3 d4 d5 d6 df T1
    have lG1 : (G ++ two i).length ≤ 65539 := by rw [List.length_append, two_len]; omega
    generalize hG1 : G ++ two i = G1 at *
    obtain ⟨d0, d1, d2, d3, d4, d5, d6, df⟩ := cells7 T1'.out.box
    go_wp2_with fail
    refine (put3_calls _ (w.heap.size + 1) r1' G1 (.slice va vn vc) ps (HV.out.below T1'.out.bel) okp hpn T1'.out.out (by omega)).mono ?_
    rintro e V2 ⟨rfl, r2, h2, s2⟩
    have T2 := Lib.hid (T1'.out.put h2 s2)
    clear h2 s2 d0 d1 d2 d3 d4 d5 d6 df T1'
    have lG2 : (G1 ++ propsL ps).length ≤ 140065600 := by rw [List.length_append]; omega
    generalize hG2 : G1 ++ propsL ps = G2 at *
    obtain ⟨d0, d1, d2, d3, d4, d5, d6, df⟩ := cells7 T2.out.box
    have HG := Lib.hid hG
    have HG1 := Lib.hid hG1
    have HG2 := Lib.hid hG2
    clear hG hG1 hG2
    go_wp2_with fail
    refine (raw_calls _ (w.heap.size + 1) r2 G2 pl T2.out.out (by omega)).mono ?_
    rintro e V3 ⟨rfl, r3, h3, s3⟩
    have T3 := Lib.hid (T2.out.put h3 s3)
    clear h3 s3 d0 d1 d2 d3 d4 d5 d6 df T2
    go_wp2_with fail
    refine (text_calls _ (w.heap.size + 1) r3 _ T3.out.out).mono ?_
    rintro e V4 ⟨rfl, rfl⟩
    have BF := Lib.hid T3.out.bel
    clear T3
    go_wp2
    go_ret
    exact ⟨ret_str (by rw [← HG2.out, ← HG1.out, ← HG.out]; simp), BF.out⟩

#print axioms pubtext_calls
end Go.Proofs.YtacffjimkplieaaDoor
