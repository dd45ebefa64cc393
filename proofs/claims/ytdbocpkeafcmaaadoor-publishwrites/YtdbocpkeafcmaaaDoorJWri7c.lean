/-
  The document's AckText of layer 7. (No statement: contracts that the proofs of the statements use.)
-/
import Derived.Test.YtdbocpkeafcmaaaDoorJWri7b
import Derived.Deep.RegionWith
namespace Go.Proofs.YtdbocpkeafcmaaaDoor
open Go.RowKit

theorem conv1_in {w : World} {g : Nat} {x : Int} (hh : w.heap[g]? = some (.cells #[.int .u8 x] 5 (0, 0))) : (convert 46 9 (.slice (some ⟨g, 0, none⟩) 1 1)).run Tryd.prog w = .ok (.string (str [UInt8.ofNat x.toNat])) w := by
  rw [run_convert_bytes_arg _ 46 5 Tryd.underlying46 Tryd.underlying5 g 0 1 1 [x] rfl ?_ 9 Tryd.underlying9]
  · rfl
  · intro i hi
    obtain rfl : i = 0 := by omega
    simp [World.cell?, hh]

set_option maxRecDepth 100000 in
set_option maxHeartbeats 4000000 in
theorem r7acktext_calls (w : World) (c : Pk) (va : Option Addr) (vc : Nat) (ok : c.ok) (hv : PropsAt w (.slice va c.ps.length vc) c.ps) :
    Calls Tryd.prog 65 #[.agg #[.int .i64 c.k, .int .u32 c.id, .int .u8 c.code, .slice va c.ps.length vc]] w fun e w' => e = .returned (.string (str (packL c))) ∧ Below w.heap.size w w' := by
  obtain ⟨c0, c1, i0, i1, okp, hpn⟩ := ok
  obtain ⟨k, i, c, ps⟩ := c
  dsimp only at *
  unfold packL
  dsimp only
  have l1 := propsL_len ps okp hpn
  have HV := Lib.hid hv
  generalize hn : ps.length = n at *
  have HL0 := Lib.hid (show Loc w 98 w.heap.size #[.int .i64 k, .int .u32 i, .int .u8 c, .slice va n vc] (w.alloc (.cells #[.int .i64 k, .int .u32 i, .int .u8 c, .slice va n vc] 98)) from ⟨heap_alloc_new w _, below_one w _, Nat.le_refl _⟩)
  have HW := Lib.hid (show ∀ W, Calls Tryd.prog 130 #[.int .u32 i] W (fun e w' => e = .returned (.string (str (two i))) ∧ Below W.heap.size W w') from fun W => r1two_calls W i i0 i1)
  have s3 : (str (two i)).size = 2 := by rw [str_size]; rfl
  have s4 : (str [UInt8.ofNat c.toNat]).size = 1 := by rw [str_size]; rfl
  clear hv
  by_cases hz : n = 0
  · subst hz
    rw [if_pos (rfl : (0 : Nat) = 0)]
    cases hc : (c != 0)
    · rw [if_neg (by simp), List.nil_append, List.append_nil, List.append_nil]
      have g : decide (0 < c) = false := by
        have : c = 0 := by simpa using hc
        subst this
        rfl
      generalize str (two i) = SA at *
      go_enter Tryd.func65, Tryd.ntmps65
      go_wp2_with fail
      generalize w.alloc (.cells #[.int .i64 k, .int .u32 i, .int .u8 c, .slice va 0 vc] 98) = W0 at *
      refine (HW.out _).mono ?_
      rintro e W1 ⟨rfl, b1⟩
      have HL1 := Lib.hid (HL0.out.below b1)
      obtain ⟨d0, d1, d2, d3, df⟩ := cells4 HL1.out.loc
      clear b1 HL0
      go_wp2
      go_ret
      exact ⟨rfl, HL1.out.bel⟩
    · rw [if_pos (.inl rfl), List.nil_append, List.append_nil]
      have g : decide (0 < c) = true := by
        have : c ≠ 0 := by simpa using hc
        exact decide_eq_true (by omega)
      have e := str_append (two i) [UInt8.ofNat c.toNat]
      rw [← e]
      have p1 := str_sum (str (two i)) (str [UInt8.ofNat c.toNat]) (by omega)
      clear e
      generalize str (two i) = SA at *
      generalize hSB : str [UInt8.ofNat c.toNat] = SB at *
      have HSB := Lib.hid hSB
      clear hSB
      go_enter Tryd.func65, Tryd.ntmps65
      go_wp2_with fail
      generalize w.alloc (.cells #[.int .i64 k, .int .u32 i, .int .u8 c, .slice va 0 vc] 98) = W0 at *
      refine (HW.out _).mono ?_
      rintro e W1 ⟨rfl, b1⟩
      have HL1 := Lib.hid (HL0.out.below b1)
      obtain ⟨d0, d1, d2, d3, df⟩ := cells4 HL1.out.loc
      have hcv := conv1 W1 c
      rw [HSB.out] at hcv
      clear b1 HL0
      go_wp2
      go_ret
      exact ⟨rfl, (HL1.out.alloc _).bel⟩
  · rw [if_neg hz, if_pos (.inr hz), List.nil_append]
    have g1 : decide ((0 : Int) < (n : Int)) = true := decide_eq_true (by omega)
    have g2 : decide (0 < n) = true := decide_eq_true (by omega)
    have s2 : (str (propsL ps)).size ≤ 140000004 := by rw [str_size]; exact l1
    have HX := Lib.hid (show ∀ W, Below w.heap.size w W → Calls Tryd.prog 129 #[.slice va n vc] W (fun e w' => e = .returned (.string (str (propsL ps))) ∧ Below W.heap.size W w') from fun W hW => r3text_calls W (.slice va n vc) ps (HV.out.below hW) okp (by rw [hn]; exact hpn))
    have e := str_append (two i) [UInt8.ofNat c.toNat]
    have e2 := str_append (two i ++ [UInt8.ofNat c.toNat]) (propsL ps)
    rw [← e2, ← e]
    have p1 := str_sum (str (two i)) (str [UInt8.ofNat c.toNat]) (by omega)
    have p2 := str_sum (str (two i) ++ str [UInt8.ofNat c.toNat]) (str (propsL ps)) (by rw [ByteArray.size_append]; omega)
    clear e e2
    generalize str (two i) = SA at *
    generalize str (propsL ps) = SC at *
    go_enter Tryd.func65, Tryd.ntmps65
    go_wp2_with fail
    generalize w.alloc (.cells #[.int .i64 k, .int .u32 i, .int .u8 c, .slice va n vc] 98) = W0 at *
    refine (HW.out _).mono ?_
    rintro e W1 ⟨rfl, b1⟩
    have HL1 := Lib.hid (HL0.out.below b1)
    obtain ⟨d0, d1, d2, d3, df⟩ := cells4 HL1.out.loc
    have dl := lt_of_block HL1.out.loc
    clear b1 HL0
    go_wp2_with fail
    have hcv := conv1_in (w := (W1.alloc (.cells #[.int .u8 c] 5)).drew) (g := W1.heap.size) (x := c) (heap_alloc_new W1 _)
    have HLD := Lib.hid HL1.out.drew
    have HLA := Lib.hid (HL1.out.alloc (.cells #[.int .u8 c] 5)).drew
    go_region_with (first
      | (go_at_call 129; (with_reducible refine (HX.out _ HLD.out.bel).mono ?_); rintro e V2 ⟨rfl, b2⟩; (with_reducible have HL2 := Lib.hid (HLD.out.below b2)); obtain ⟨k0, k1, k2, k3, kf⟩ := cells4 HL2.out.loc; have kl := lt_of_block HL2.out.loc; have hcw := conv1_in (w := V2.alloc (.cells #[.int .u8 c] 5)) (g := V2.heap.size) (x := c) (heap_alloc_new V2 _); clear b2)
      | (go_at_call 129; (with_reducible refine (HX.out _ HLA.out.bel).mono ?_); rintro e V2 ⟨rfl, b2⟩; (with_reducible have HL2 := Lib.hid (HLA.out.below b2)); (with_reducible have hcw := conv1_in (zkeepD b2)); clear b2))
    all_goals
      go_wp2
      go_ret
      first | exact ⟨rfl, HL2.out.bel⟩ | exact ⟨rfl, (HL2.out.alloc _).bel⟩

#print axioms r7acktext_calls
end Go.Proofs.YtdbocpkeafcmaaaDoor
