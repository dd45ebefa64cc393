/-
  A Connect's body: the beginning. (No statement: what the proofs of the statements use.)
-/
import Derived.Test.YtdhdjkpocdfjbabDoorCon7
import Derived.Deep.RegionHeld3
namespace Go.Proofs.YtdhdjkpocdfjbabDoor
open Go.RowKit

/-- Binary data. -/
def datL (s : ByteArray) : List UInt8 := two s.size ++ s.data.toList
/-- The parts of a body. -/
def headL (c : Cn) : List UInt8 := datL mqtt ++ [5] ++ [UInt8.ofNat (flagsN c).toNat] ++ two c.keep
def willL (c : Cn) : List UInt8 := if c.hw = true then propsL c.wp ++ datL c.tp ++ datL c.py else []
def userL (c : Cn) : List UInt8 := if c.hu = true then datL c.us else []
def passL (c : Cn) : List UInt8 := if c.hp = true then datL c.pw else []
def textL (c : Cn) : List UInt8 := headL c ++ propsL c.ps ++ datL c.id ++ willL c ++ userL c ++ passL c

/-- What of a Connect can be put. -/
structure Cn.ok (c : Cn) : Prop where
  k0 : 0 ≤ c.keep
  k1 : c.keep < 4294967296
  q0 : 0 ≤ c.q
  q1 : c.q < 256
  id : c.id.size ≤ 65535
  tp : c.tp.size ≤ 65535
  py : c.py.size ≤ 65535
  us : c.us.size ≤ 65535
  pw : c.pw.size ≤ 65535
  ps : ∀ p ∈ c.ps, p.ok
  wp : ∀ p ∈ c.wp, p.ok
  pn : c.ps.length ≤ 1000
  wn : c.wp.length ≤ 1000

theorem ret_str {a b : List UInt8} (h : b = a) : Ending.returned (.string (str a)) = .returned (.string (str b)) := by rw [h]
theorem datL_len (s : ByteArray) (h : s.size ≤ 65535) : (datL s).length ≤ 65537 := by unfold datL; rw [List.length_append, two_len, ba_size]; omega
theorem propsL_len (P : List Pr) (h : ∀ p ∈ P, p.ok) (hn : P.length ≤ 1000) : (propsL P).length ≤ 140000004 := by
  have := bodyL_len P h
  have := varb_len 3 (bodyL P).length
  unfold propsL
  rw [List.length_append]
  have : 140000 * P.length ≤ 140000000 := by omega
  omega

theorem or_range (a b : Int) (h0 : 0 ≤ a) (h1 : a < 256) (h2 : 0 ≤ b) (h3 : b < 256) : 0 ≤ bits .or .u8 a b ∧ bits .or .u8 a b < 256 := by
  rw [u8_or a b h0 h1 h2 h3]
  have : a.toNat ||| b.toNat < 2 ^ 8 := Nat.or_lt_two_pow (by omega) (by omega)
  omega
theorem btN_range (b : Bool) (n : Int) (h0 : 0 ≤ n) (h1 : n < 256) : 0 ≤ btN b n ∧ btN b n < 256 := by unfold btN; split <;> omega
theorem flagsN_range (c : Cn) (h : c.ok) : 0 ≤ flagsN c ∧ flagsN c < 256 := by
  have a1 := btN_range c.cl 2 (by omega) (by omega)
  have a2 := btN_range c.hp 64 (by omega) (by omega)
  have a3 := btN_range c.hu 128 (by omega) (by omega)
  have a4 := btN_range c.rt 32 (by omega) (by omega)
  have o1 := or_range _ _ a1.1 a1.2 a2.1 a2.2
  have o2 := or_range _ _ o1.1 o1.2 a3.1 a3.2
  have r3 := and3_range c.q h.q0 h.q1
  have o3 := or_range 4 (bits .and .u8 c.q 3 * 8) (by omega) (by omega) (by omega) (by omega)
  have o4 := or_range _ _ o3.1 o3.2 a4.1 a4.2
  unfold flagsN
  split
  · exact or_range _ _ o2.1 o2.2 o4.1 o4.2
  · exact o2

/-- While a body is put: the Connect at w's end, the Out behind it. -/
structure TxC (w : World) (c : Cn) (v u : Value) (r : Option Nat) (bs : List UInt8) (W : World) : Prop where
  box : W.heap[w.heap.size]? = some (.cells (cnC c v u) 29 (0, 0))
  out : OutAt W (w.heap.size + 1) r bs
  bel : Below w.heap.size w W
  row : ∀ g, r = some g → w.heap.size + 2 ≤ g

section
variable {w : World} {c : Cn} {v u : Value} {r : Option Nat} {bs : List UInt8} {W : World}
theorem TxC.start (w : World) (c : Cn) (v u : Value) : TxC w c v u none [] ((w.alloc (.cells (cnC c v u) 29)).alloc (.cells #[.slice none 0 0] 90)) := by
  refine ⟨?_, ?_, below_two w _ _, fun g hg => by cases hg⟩
  · rw [Below.heap_alloc _ _ _ (by simp)]; exact heap_alloc_new w _
  · have := OutAt.new (w.alloc (.cells (cnC c v u) 29)); rw [World.size_alloc] at this; exact this
theorem TxC.ne (h : TxC w c v u r bs W) : some w.heap.size ≠ r := fun e => by have := h.row _ e.symm; omega
theorem TxC.put (h : TxC w c v u r bs W) {bs' : List UInt8} {W' : World} {r' : Option Nat} (ho : OutAt W' (w.heap.size + 1) r' bs') (hs : Step W W' (w.heap.size + 1) r r') : TxC w c v u r' bs' W' := by
  have hlt := lt_of_block h.box
  have hlo := h.out.lt
  refine ⟨(hs.block _ hlt (by omega) h.ne).trans h.box, ho, h.bel.trans (hs.below (by omega) (by omega) (fun g hg => by have := h.row g hg; omega)), hs.row_ge (by omega) h.row⟩
theorem TxC.below (h : TxC w c v u r bs W) {W' : World} (hb : Below W.heap.size W W') : TxC w c v u r bs W' :=
  ⟨(hb.block _ (lt_of_block h.box)).trans h.box, h.out.below hb, h.bel.trans (hb.mono h.bel.size), h.row⟩
theorem TxC.drew (h : TxC w c v u r bs W) : TxC w c v u r bs W.drew := ⟨h.box, h.out, h.bel.drew, h.row⟩
end

#print axioms flagsN_range
end Go.Proofs.YtdhdjkpocdfjbabDoor
