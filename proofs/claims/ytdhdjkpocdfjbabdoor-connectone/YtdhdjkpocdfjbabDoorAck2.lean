/-
  Text of a connack. (No statement: contracts that the proofs of the statements use.)
-/
import Derived.Test.YtdhdjkpocdfjbabDoorAck1
import Derived.Deep.RegionHeld3
namespace Go.Proofs.YtdhdjkpocdfjbabDoor
open Go.RowKit

/-- While a body is put: the Connack at w's end, the Out behind it. -/
structure AxC (w : World) (b : Bool) (n : Int) (v : Value) (r : Option Nat) (bs : List UInt8) (W : World) : Prop where
  box : W.heap[w.heap.size]? = some (.cells #[.bool b, .int .u8 n, v] 41 (0, 0))
  out : OutAt W (w.heap.size + 1) r bs
  bel : Below w.heap.size w W
  row : ∀ g, r = some g → w.heap.size + 2 ≤ g

section
variable {w : World} {b : Bool} {n : Int} {v : Value} {r : Option Nat} {bs : List UInt8} {W : World}
theorem AxC.start (w : World) (b : Bool) (n : Int) (v : Value) : AxC w b n v none [] ((w.alloc (.cells #[.bool b, .int .u8 n, v] 41)).alloc (.cells #[.slice none 0 0] 90)) := by
  refine ⟨?_, ?_, below_two w _ _, fun g hg => by cases hg⟩
  · rw [Below.heap_alloc _ _ _ (by simp)]; exact heap_alloc_new w _
  · have := OutAt.new (w.alloc (.cells #[.bool b, .int .u8 n, v] 41)); rw [World.size_alloc] at this; exact this
theorem AxC.ne (h : AxC w b n v r bs W) : some w.heap.size ≠ r := fun e => by have := h.row _ e.symm; omega
theorem AxC.put (h : AxC w b n v r bs W) {bs' : List UInt8} {W' : World} {r' : Option Nat} (ho : OutAt W' (w.heap.size + 1) r' bs') (hs : Step W W' (w.heap.size + 1) r r') : AxC w b n v r' bs' W' := by
  have hlt := lt_of_block h.box
  have hlo := h.out.lt
  refine ⟨(hs.block _ hlt (by omega) h.ne).trans h.box, ho, h.bel.trans (hs.below (by omega) (by omega) (fun g hg => by have := h.row g hg; omega)), hs.row_ge (by omega) h.row⟩
theorem AxC.below (h : AxC w b n v r bs W) {W' : World} (hb : Below W.heap.size W W') : AxC w b n v r bs W' :=
  ⟨(hb.block _ (lt_of_block h.box)).trans h.box, h.out.below hb, h.bel.trans (hb.mono h.bel.size), h.row⟩
theorem AxC.drew (h : AxC w b n v r bs W) : AxC w b n v r bs W.drew := ⟨h.box, h.out, h.bel.drew, h.row⟩
end

set_option maxRecDepth 100000 in
set_option maxHeartbeats 4000000 in
theorem acktext_calls (w : World) (a : Ak) (va : Option Addr) (vn vc : Nat) (c0 : 0 ≤ a.code) (c1 : a.code < 256) (okp : ∀ p ∈ a.ps, p.ok) (hpn : a.ps.length ≤ 1000) (hv : PropsAt w (.slice va vn vc) a.ps) :
    Calls Tryd.prog 22 #[.agg #[.bool a.pr, .int .u8 a.code, .slice va vn vc]] w fun e w' => e = .returned (.string (str (ackL a))) ∧ Below w.heap.size w w' := by
  obtain ⟨b, n, ps⟩ := a
  dsimp only at *
  unfold ackL
  dsimp only
  have T0 := Lib.hid (AxC.start w b n (.slice va vn vc))
  have hfr := btN_range b 1 (by omega) (by omega)
  have HBT := Lib.hid (show ∀ W, Calls Tryd.prog 54 #[.bool b, .int .u8 1] W (fun e w' => e = .returned (.int .u8 (btN b 1)) ∧ Below W.heap.size W w') from fun W => (bit_calls' W b 1).mono (by rintro e w' ⟨rfl, rfl⟩; exact ⟨rfl, Below.refl _ _⟩))
  have l1 := propsL_len ps okp hpn
  generalize btN b 1 = FN at *
  obtain ⟨hf0, hf1⟩ := hfr
  have HV := Lib.hid hv
  clear hv
  go_enter Tryd.func22, Tryd.ntmps22
  go_wp2_with fail
  generalize (w.alloc (.cells #[.bool b, .int .u8 n, .slice va vn vc] 41)).alloc (.cells #[.slice none 0 0] 90) = W0 at *
  have TD := Lib.hid T0.out.drew
  have KC := Lib.hid (show ∀ r' bs' Wx, AxC w b n (.slice va vn vc) r' bs' Wx → Wx.cell? ⟨w.heap.size, 0, none⟩ = some (.bool b) ∧ Wx.cell? ⟨w.heap.size, 1, none⟩ = some (.int .u8 n) ∧ Wx.cell? ⟨w.heap.size, 2, none⟩ = some (.slice va vn vc) from fun r' bs' Wx h => ⟨(cells3 h.box).1, (cells3 h.box).2.1, (cells3 h.box).2.2.1⟩)
  have K0 := Lib.hid (KC.out _ _ _ TD.out)
  clear T0
  have LG1 := Lib.hid (show ([] ++ [UInt8.ofNat FN.toNat]).length < 1000000000 by simp)
  go_region_held3 (fun wx => wx.cell? ⟨w.heap.size, 0, none⟩ = some (.bool b) ∧ wx.cell? ⟨w.heap.size, 1, none⟩ = some (.int .u8 n) ∧ wx.cell? ⟨w.heap.size, 2, none⟩ = some (.slice va vn vc))
    (first | (with_reducible exact K0.out) | (with_reducible exact K1.out) | (with_reducible exact K2.out) | (with_reducible exact K3.out) | fail)
    (first
      | (go_at_call 54; (with_reducible refine (HBT.out _).mono ?_); rintro e V1 ⟨rfl, b1⟩; have T1 := Lib.hid (TD.out.below b1); have K1 := Lib.hid (KC.out _ _ _ T1.out); clear b1)
      | (go_at_call 45; (with_reducible refine (byte_calls _ (w.heap.size + 1) none [] FN hf0 hf1 T1.out.out (by simp)).mono ?_); rintro e V2 ⟨rfl, r2, h2, s2⟩; have T2 := Lib.hid (T1.out.put h2 s2); have K2 := Lib.hid (KC.out _ _ _ T2.out); clear h2 s2)
      | (go_at_call 45; (with_reducible refine (byte_calls _ (w.heap.size + 1) r2 _ n c0 c1 T2.out.out LG1.out).mono ?_); rintro e V3 ⟨rfl, r3, h3, s3⟩; have T3 := Lib.hid (T2.out.put h3 s3); have K3 := Lib.hid (KC.out _ _ _ T3.out); clear h3 s3))
  rename_i hHeld
  clear hHeld K0 K1 K2 K3 TD T1 T2 HBT LG1
  have lG : ([] ++ [UInt8.ofNat FN.toNat] ++ [UInt8.ofNat n.toNat]).length ≤ 2 := by simp
  generalize hG : [] ++ [UInt8.ofNat FN.toNat] ++ [UInt8.ofNat n.toNat] = G at *
  have HG := Lib.hid hG
  clear hG
  obtain ⟨d0, d1, d2⟩ := KC.out _ _ _ T3.out
  go_wp2_with fail
  refine (put3_calls _ (w.heap.size + 1) r3 _ (.slice va vn vc) ps (HV.out.below T3.out.bel) okp hpn T3.out.out (by omega)).mono ?_
  rintro e V6 ⟨rfl, r6, h6, s6⟩
  have T6 := Lib.hid (T3.out.put h6 s6)
  clear h6 s6 d0 d1 d2 T3
  obtain ⟨d0, d1, d2⟩ := KC.out _ _ _ T6.out
  go_wp2_with fail
  refine (text_calls _ (w.heap.size + 1) r6 _ T6.out.out).mono ?_
  rintro e w9 ⟨rfl, rfl⟩
  have BF := Lib.hid T6.out.bel
  clear T6 d0 d1 d2
  go_wp2
  go_ret
  exact ⟨ret_str (by rw [← HG.out]; simp), BF.out⟩

#print axioms acktext_calls
end Go.Proofs.YtdhdjkpocdfjbabDoor
