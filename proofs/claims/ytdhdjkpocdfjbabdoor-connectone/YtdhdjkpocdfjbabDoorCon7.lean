/-
  The byte of flags that a Connect has. (No statement: contracts that the proofs of the statements use.)
-/
import Derived.Test.YtdhdjkpocdfjbabDoorCon6
namespace Go.Proofs.YtdhdjkpocdfjbabDoor
open Go.RowKit

/-- A flag, if it is set. -/
def btN (b : Bool) (n : Int) : Int := if b = true then n else 0
/-- The byte of flags. -/
def flags0 (c : Cn) : Int := bits .or .u8 (bits .or .u8 (btN c.cl 2) (btN c.hp 64)) (btN c.hu 128)
def flags1 (c : Cn) : Int := bits .or .u8 (bits .or .u8 4 (bits .and .u8 c.q 3 * 8)) (btN c.rt 32)
def flagsN (c : Cn) : Int := if c.hw = true then bits .or .u8 (flags0 c) (flags1 c) else flags0 c

theorem and3_range (q : Int) (h0 : 0 ≤ q) (h1 : q < 256) : 0 ≤ bits .and .u8 q 3 ∧ bits .and .u8 q 3 ≤ 3 := by
  have key : ∀ k : Fin 256, 0 ≤ bits .and .u8 (k.val : Int) 3 ∧ bits .and .u8 (k.val : Int) 3 ≤ 3 := by decide +kernel
  obtain ⟨n, rfl⟩ := Int.eq_ofNat_of_zero_le h0
  exact key ⟨n, by omega⟩

theorem bit_calls' (w : World) (b : Bool) (n : Int) : Calls Tryd.prog 54 #[.bool b, .int .u8 n] w fun e w' => e = .returned (.int .u8 (btN b n)) ∧ w' = w := bit_calls w b n

set_option maxRecDepth 100000 in
set_option maxHeartbeats 1000000 in
theorem flagsOf_calls (w : World) (c : Cn) (v u : Value) (hq0 : 0 ≤ c.q) (hq1 : c.q < 256) :
    Calls Tryd.prog 46 #[cnV c v u] w fun e w' => e = .returned (.int .u8 (flagsN c)) ∧ Below w.heap.size w w' := by
  have hqr := and3_range c.q hq0 hq1
  obtain ⟨cl, keep, ps, id, hw, wp, tp, py, q, rt, hu, hp, us, pw⟩ := c
  unfold flagsN flags0 flags1 cnV cnC
  dsimp only at *
  generalize ha : bits .and .u8 q 3 = A at *
  have hwr : IntKind.u8.wrap (A * 8) = A * 8 := by rw [IntKind.wrap_u8']; omega
  have hmd : (A * 8) % 256 = A * 8 := by omega
  have hbx := heap_alloc_new w (.cells #[.bool cl, .int .u32 keep, v, .string id, .bool hw, u, .string tp, .string py, .int .u8 q, .bool rt, .bool hu, .bool hp, .string us, .string pw] 29)
  have b1 := below_one w (.cells #[.bool cl, .int .u32 keep, v, .string id, .bool hw, u, .string tp, .string py, .int .u8 q, .bool rt, .bool hu, .bool hp, .string us, .string pw] 29)
  obtain ⟨⟨d0, d1, d2, d3, d4, d5, d6⟩, ⟨d7, d8, d9, d10, d11, d12, d13⟩, df⟩ := cells14 hbx
  have B1 := Lib.hid b1
  clear hbx b1
  obtain ⟨hA0, hA3⟩ := hqr
  cases hw
  · rw [if_neg (by simp)]
    go_enter Tryd.func46, Tryd.ntmps46
    go_wp2_with fail
    generalize w.alloc (.cells #[.bool cl, .int .u32 keep, v, .string id, .bool false, u, .string tp, .string py, .int .u8 q, .bool rt, .bool hu, .bool hp, .string us, .string pw] 29) = W at *
    go_quiet ((go_at_call 54; exact Calls.quiet_of_same (bit_calls' _ _ _)))
    rename_i nq
    go_wp2
    go_ret
    exact ⟨rfl, drewN_below B1.out nq⟩
  · rw [if_pos rfl]
    go_enter Tryd.func46, Tryd.ntmps46
    go_wp2_with fail
    generalize w.alloc (.cells #[.bool cl, .int .u32 keep, v, .string id, .bool true, u, .string tp, .string py, .int .u8 q, .bool rt, .bool hu, .bool hp, .string us, .string pw] 29) = W at *
    go_quiet ((go_at_call 54; exact Calls.quiet_of_same (bit_calls' _ _ _)))
    rename_i nq
    have B2 := Lib.hid (drewN_below B1.out nq)
    have e4 : (W.drewN nq).cell? ⟨w.heap.size, 4, none⟩ = some (.bool true) := d4
    have e8 : (W.drewN nq).cell? ⟨w.heap.size, 8, none⟩ = some (.int .u8 q) := d8
    have e9 : (W.drewN nq).cell? ⟨w.heap.size, 9, none⟩ = some (.bool rt) := d9
    generalize W.drewN nq = W2 at *
    go_wp2_with fail
    go_quiet ((go_at_call 54; exact Calls.quiet_of_same (bit_calls' _ _ _)))
    go_wp2
    go_ret
    exact ⟨rfl, drewN_below B2.out _⟩

#print axioms flagsOf_calls
end Go.Proofs.YtdhdjkpocdfjbabDoor
