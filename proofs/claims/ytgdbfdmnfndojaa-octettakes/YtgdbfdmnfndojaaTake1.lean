/-
  A thing taken of both, of whatever kind. (No statement: a contract that the proof of the statement OctetTakes uses.)
-/
import Derived.Test.YtgdbfdmnfndojaaTake0k1
import Derived.Test.YtgdbfdmnfndojaaTake0k2
import Derived.Test.YtgdbfdmnfndojaaTake0k3
import Derived.Test.YtgdbfdmnfndojaaTake0k4
import Derived.Test.YtgdbfdmnfndojaaTake0k5
import Derived.Test.YtgdbfdmnfndojaaTake0k6
namespace Go.Proofs.Ytgdbfdmnfndojaa
open Go.RowKit

set_option maxRecDepth 100000 in
set_option maxHeartbeats 2000000 in
theorem takeElse_calls (w : World) (p : Nat) (s : ByteArray) (x : Int) (k n : Int) (z : ByteArray) (h1 : (k == 1) = false) (h2 : (k == 2) = false) (h3 : (k == 3) = false) (h4 : (k == 4) = false) (h5 : (k == 5) = false) (h6 : (k == 6) = false) (h : InAt w p s x) :
    Calls Try.prog 15 #[.pointer (some ⟨p, 0, none⟩), cur s x, .agg #[.int .i64 k, .int .u32 n, .string z]] w (Tookn w p) := by
  have hp := h.lt
  have H := Lib.hid h
  have hb := Below.next (below_two w (.cells #[.string s, .int .i64 x] 39) (.cells #[.int .i64 k, .int .u32 n, .string z] 31)) (below_one _ (.cells #[.string s, .int .i64 x] 39))
  have HB := Lib.hid hb
  clear h hb
  go_enter Try.func15, Try.ntmps15
  go_wp2
  exact bodyPost_ret (v := .tuple #[cur s x, .bool true]) (by simp [results, Try.results15, go_sem]) rfl ⟨s, x, rfl, H.out.kept HB.out, Chg1.of_below HB.out⟩

theorem take_calls (w : World) (p : Nat) (s : ByteArray) (x : Int) (k n : Int) (z : ByteArray) (n0 : 0 ≤ n) (n1 : n < 4294967296) (h : InAt w p s x) :
    Calls Try.prog 15 #[.pointer (some ⟨p, 0, none⟩), cur s x, .agg #[.int .i64 k, .int .u32 n, .string z]] w (Tookn w p) := by
  by_cases h1 : k = 1
  · subst h1; exact take1_calls w p s x n z h
  by_cases h2 : k = 2
  · subst h2; exact take2_calls w p s x n z h
  by_cases h3 : k = 3
  · subst h3; exact take3_calls w p s x n z h
  by_cases h4 : k = 4
  · subst h4; exact take4_calls w p s x n z h
  by_cases h5 : k = 5
  · subst h5; exact take5_calls w p s x n z n0 n1 h
  by_cases h6 : k = 6
  · subst h6; exact take6_calls w p s x n z h
  exact takeElse_calls w p s x k n z (by simpa using h1) (by simpa using h2) (by simpa using h3) (by simpa using h4) (by simpa using h5) (by simpa using h6) h

#print axioms take_calls
end Go.Proofs.Ytgdbfdmnfndojaa
