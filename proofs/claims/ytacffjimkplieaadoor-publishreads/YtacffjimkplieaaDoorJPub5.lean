/-
  Text of an answer to a publish. (No statement: contracts that the proofs of the statements use.)
-/
import Derived.Test.YtacffjimkplieaaDoorJPub4
namespace Go.Proofs.YtacffjimkplieaaDoor
open Go.RowKit

/-- An answer's body. -/
def packL (c : Pk) : List UInt8 := [] ++ two c.id ++ (if (c.code != 0) = true ∨ c.ps.length ≠ 0 then [UInt8.ofNat c.code.toNat] else []) ++ (if c.ps.length = 0 then [] else propsL c.ps)
/-- What of an answer can be put. -/
structure Pk.ok (c : Pk) : Prop where
  c0 : 0 ≤ c.code
  c1 : c.code < 256
  i0 : 0 ≤ c.id
  i1 : c.id < 4294967296
  ps : ∀ p ∈ c.ps, p.ok
  pn : c.ps.length ≤ 1000

set_option maxRecDepth 100000 in
set_option maxHeartbeats 4000000 in
theorem packtext_calls (w : World) (c : Pk) (va : Option Addr) (vc : Nat) (ok : c.ok) (hv : PropsAt w (.slice va c.ps.length vc) c.ps) :
    Calls Tryd.prog 42 #[pkV c (.slice va c.ps.length vc)] w fun e w' => e = .returned (.string (str (packL c))) ∧ Below w.heap.size w w' := by
  obtain ⟨c0, c1, i0, i1, okp, hpn⟩ := ok
  obtain ⟨k, i, c, ps⟩ := c
  dsimp only at *
  unfold packL pkV
  dsimp only
  generalize hn : ps.length = n at *
  have T0 := Lib.hid (Tx.start w 71 #[.int .i64 k, .int .u32 i, .int .u8 c, .slice va n vc])
  have HV := Lib.hid hv
  have HN := Lib.hid hn
  clear hv hn
  by_cases hz : n = 0
  · subst hz
    rw [if_pos (rfl : (0 : Nat) = 0)]
    cases hc : (c != 0)
    · rw [if_neg (by simp)]
      go_enter Tryd.func42, Tryd.ntmps42
      go_wp2_with fail
      generalize (w.alloc (.cells #[.int .i64 k, .int .u32 i, .int .u8 c, .slice va 0 vc] 71)).alloc (.cells #[.slice none 0 0] 155) = W0 at *
      obtain ⟨d0, d1, d2, d3, df⟩ := cells4 T0.out.box
      go_wp2_with fail
      refine (two_calls _ (w.heap.size + 1) none [] i i0 i1 T0.out.out (by simp)).mono ?_
      rintro e V1 ⟨rfl, r1, h1, s1⟩
      have T1 := Lib.hid (T0.out.put h1 s1)
      clear h1 s1 d0 d1 d2 d3 df T0
      obtain ⟨d0, d1, d2, d3, df⟩ := cells4 T1.out.box
      go_wp2_with fail
      refine (text_calls _ (w.heap.size + 1) r1 _ T1.out.out).mono ?_
      rintro e V4 ⟨rfl, rfl⟩
      have BF := Lib.hid T1.out.bel
      clear T1 d0 d1 d2 d3 df
      go_wp2
      go_ret
      exact ⟨ret_str (by simp), BF.out⟩
    · rw [if_pos (.inl rfl)]
      go_enter Tryd.func42, Tryd.ntmps42
      go_wp2_with fail
      generalize (w.alloc (.cells #[.int .i64 k, .int .u32 i, .int .u8 c, .slice va 0 vc] 71)).alloc (.cells #[.slice none 0 0] 155) = W0 at *
      obtain ⟨d0, d1, d2, d3, df⟩ := cells4 T0.out.box
      go_wp2_with fail
      refine (two_calls _ (w.heap.size + 1) none [] i i0 i1 T0.out.out (by simp)).mono ?_
      rintro e V1 ⟨rfl, r1, h1, s1⟩
      have T1 := Lib.hid (T0.out.put h1 s1)
      clear h1 s1 d0 d1 d2 d3 df T0
      obtain ⟨d0, d1, d2, d3, df⟩ := cells4 T1.out.box
      go_wp2_with fail
      refine (byte_calls _ (w.heap.size + 1) r1 _ c c0 c1 T1.out.out (by rw [List.nil_append, two_len]; omega)).mono ?_
      rintro e V2 ⟨rfl, r2, h2, s2⟩
      have T2 := Lib.hid (T1.out.put h2 s2)
      clear h2 s2 d0 d1 d2 d3 df T1
      obtain ⟨d0, d1, d2, d3, df⟩ := cells4 T2.out.box
      go_wp2_with fail
      refine (text_calls _ (w.heap.size + 1) r2 _ T2.out.out).mono ?_
      rintro e V4 ⟨rfl, rfl⟩
      have BF := Lib.hid T2.out.bel
      clear T2 d0 d1 d2 d3 df
      go_wp2
      go_ret
      exact ⟨ret_str (by simp), BF.out⟩
  · rw [if_neg hz, if_pos (.inr hz)]
    have g1 : decide ((0 : Int) < (n : Int)) = true := decide_eq_true (by omega)
    have g2 : decide (0 < n) = true := decide_eq_true (by omega)
    have g3 : 0 < n := by omega
    have HI : Hid (∀ W0, Tx w 71 #[.int .i64 k, .int .u32 i, .int .u8 c, .slice va n vc] none [] W0 → True) := fun _ _ => trivial
    cases hc : (c != 0)
    all_goals
      go_enter Tryd.func42, Tryd.ntmps42
      go_wp2_with fail
      generalize (w.alloc (.cells #[.int .i64 k, .int .u32 i, .int .u8 c, .slice va n vc] 71)).alloc (.cells #[.slice none 0 0] 155) = W0 at *
      obtain ⟨d0, d1, d2, d3, df⟩ := cells4 T0.out.box
      go_wp2_with fail
      refine (two_calls _ (w.heap.size + 1) none [] i i0 i1 T0.out.out (by simp)).mono ?_
      rintro e V1 ⟨rfl, r1, h1, s1⟩
      have T1 := Lib.hid (T0.out.put h1 s1)
      clear h1 s1 d0 d1 d2 d3 df T0 HI
      obtain ⟨d0, d1, d2, d3, df⟩ := cells4 T1.out.box
      go_wp2_with fail
      refine (byte_calls _ (w.heap.size + 1) r1 _ c c0 c1 T1.out.out (by rw [List.nil_append, two_len]; omega)).mono ?_
      rintro e V2 ⟨rfl, r2, h2, s2⟩
      have T2 := Lib.hid (T1.out.put h2 s2)
      clear h2 s2 d0 d1 d2 d3 df T1
      obtain ⟨d0, d1, d2, d3, df⟩ := cells4 T2.out.box
      go_wp2_with fail
      refine (put3_calls _ (w.heap.size + 1) r2 _ (.slice va n vc) ps (HV.out.below T2.out.bel) okp (by rw [HN.out]; exact hpn) T2.out.out (by rw [List.length_append, List.nil_append, two_len]; simp)).mono ?_
      rintro e V3 ⟨rfl, r3, h3, s3⟩
      have T3 := Lib.hid (T2.out.put h3 s3)
      clear h3 s3 d0 d1 d2 d3 df T2
      go_wp2_with fail
      refine (text_calls _ (w.heap.size + 1) r3 _ T3.out.out).mono ?_
      rintro e V4 ⟨rfl, rfl⟩
      have BF := Lib.hid T3.out.bel
      clear T3
      go_wp2
      go_ret
      exact ⟨ret_str (by simp), BF.out⟩

#print axioms packtext_calls
end Go.Proofs.YtacffjimkplieaaDoor
