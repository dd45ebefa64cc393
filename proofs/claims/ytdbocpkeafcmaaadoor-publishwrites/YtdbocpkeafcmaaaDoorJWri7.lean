/-
  The document's Flags and Text of a publish. (No statement: contracts that the proofs of the statements use.)
-/
import Derived.Test.YtdbocpkeafcmaaaDoorJSam7b
import Derived.Deep.RegionHeld3
namespace Go.Proofs.YtdbocpkeafcmaaaDoor
open Go.RowKit

/-- The document's flags. -/
def rflags (q : Int) (dup ret : Bool) : Int := if ret = true then (if dup = true then q % 4 * 2 + 8 else q % 4 * 2) + 1 else (if dup = true then q % 4 * 2 + 8 else q % 4 * 2)
theorem rflags_eq : ∀ (k : Fin 256) (dup ret : Bool), rflags (k.val : Int) dup ret = pflags (k.val : Int) dup ret := by decide +kernel

set_option maxRecDepth 100000 in
set_option maxHeartbeats 1000000 in
theorem r7flags_calls (w : World) (D R : Bool) (q i : Int) (va : Option Addr) (vn vc : Nat) (tp pl : ByteArray) (q0 : 0 ≤ q) (q1 : q < 256) :
    Calls Tryd.prog 61 #[.agg #[.bool D, .bool R, .int .u8 q, .int .u32 i, .slice va vn vc, .string tp, .string pl]] w fun e w' => e = .returned (.int .i64 (pflags q D R)) ∧ Below w.heap.size w w' := by
  have he := rflags_eq ⟨q.toNat, by omega⟩ D R
  have hc : ((q.toNat : Nat) : Int) = q := by omega
  dsimp only at he
  rw [hc] at he
  rw [← he]
  unfold rflags
  have hm : q.tmod 4 = q % 4 := Int.tmod_eq_emod_of_nonneg q0
  have hw : wrap64 q = q := by unfold wrap64; omega
  generalize hA : q % 4 = A at *
  have hA0 : 0 ≤ A := by omega
  have hA3 : A ≤ 3 := by omega
  clear he hc
  cases D <;> cases R
  all_goals
    go_enter Tryd.func61, Tryd.ntmps61
    go_wp2
    go_ret
    exact ⟨ret_int (by first | rfl | (unfold wrap64; omega) | omega), below_one w _⟩

#print axioms r7flags_calls
end Go.Proofs.YtdbocpkeafcmaaaDoor
