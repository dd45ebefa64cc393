/-
  Flags, takeID, takeCode of publish. (No statement: contracts that the proofs of the statements use.)
-/
import Derived.Test.YtacffjimkplieaaDoorJPropsA
import Derived.Test.YtacffjimkplieaaDoorJReason
namespace Go.Proofs.YtacffjimkplieaaDoor
open Go.RowKit

/-- A Publish. -/
structure Pb where
  dup : Bool
  ret : Bool
  q : Int
  id : Int
  ps : List Pr
  tp : ByteArray
  pl : ByteArray
/-- Its cells, its list lying at v. -/
def pbC (c : Pb) (v : Value) : Array Value := #[.bool c.dup, .bool c.ret, .int .u8 c.q, .int .u32 c.id, v, .string c.tp, .string c.pl]
def pbV (c : Pb) (v : Value) : Value := .agg (pbC c v)
def pbZ : Pb := ⟨false, false, 0, 0, [], ⟨#[]⟩, ⟨#[]⟩⟩

/-- A Publish's flags. -/
def pflags (q : Int) (dup ret : Bool) : Int :=
  if ret = true then bits .or .i64 (if dup = true then bits .or .i64 (bits .and .u8 q 3 * 2) 8 else bits .and .u8 q 3 * 2) 1 else (if dup = true then bits .or .i64 (bits .and .u8 q 3 * 2) 8 else bits .and .u8 q 3 * 2)

theorem and3_range' (q : Int) (h0 : 0 ≤ q) (h1 : q < 256) : 0 ≤ bits .and .u8 q 3 ∧ bits .and .u8 q 3 ≤ 3 := by
  have key : ∀ k : Fin 256, 0 ≤ bits .and .u8 (k.val : Int) 3 ∧ bits .and .u8 (k.val : Int) 3 ≤ 3 := by decide +kernel
  obtain ⟨n, rfl⟩ := Int.eq_ofNat_of_zero_le h0
  exact key ⟨n, by omega⟩

set_option maxRecDepth 100000 in
set_option maxHeartbeats 1000000 in
theorem pflags_calls (w : World) (c : Pb) (v : Value) (hq0 : 0 ≤ c.q) (hq1 : c.q < 256) :
    Calls Tryd.prog 39 #[pbV c v] w fun e w' => e = .returned (.int .i64 (pflags c.q c.dup c.ret)) ∧ Below w.heap.size w w' := by
  have hqr := and3_range' c.q hq0 hq1
  obtain ⟨dup, ret, q, i, ps, tp, pl⟩ := c
  unfold pflags pbV pbC
  dsimp only at *
  generalize ha : bits .and .u8 q 3 = A at *
  obtain ⟨hA0, hA3⟩ := hqr
  cases dup <;> cases ret
  all_goals
    go_enter Tryd.func39, Tryd.ntmps39
    go_wp2
    go_ret
    exact ⟨rfl, below_one w _⟩

/-- An identifier: it, what is left, the error. -/
def idT (s : ByteArray) (x : Int) : Int × ByteArray × Int :=
  (numL (rawT s x 2).1.data.toList, (rawT s x 2).2.1, if numL (rawT s x 2).1.data.toList = 0 then failed (rawT s x 2).2.2 3 else (rawT s x 2).2.2)

theorem takeID_calls (w : World) (p : Nat) (s : ByteArray) (x : Int) (n : Int) (s2 : ByteArray) (x2 : Int) (hi : idT s x = (n, s2, x2)) (h : InAt w p s x) :
    Calls Tryd.prog 97 #[.pointer (some ⟨p, 0, none⟩)] w fun e w' => e = .returned (.int .u32 n) ∧ InAt w' p s2 x2 ∧ Only p w w' := by
  unfold idT at hi
  rcases hr : rawT s x 2 with ⟨t, s1, x1⟩
  rw [hr] at hi
  dsimp only at hi
  injection hi with e1 hi
  injection hi with e2 e3
  subst e1 e2
  have HR := Lib.hid hr
  clear hr
  by_cases hz : numL t.data.toList = 0
  · rw [hz, if_pos rfl] at e3
    rw [hz]
    have HZ := Lib.hid hz
    clear hz
    go_enter Tryd.func97, Tryd.ntmps97
    go_wp2_with fail
    refine (twoIn_calls _ p s x t s1 x1 HR.out h).mono ?_
    rw [HZ.out]
    rintro e w1 ⟨rfl, i1, o1⟩
    go_wp2_with fail
    refine (fail_calls _ p s1 x1 3 i1).mono ?_
    rw [e3]
    rintro e w2 ⟨rfl, i2, o2⟩
    have I2 := Lib.hid i2
    have O2 := Lib.hid (o1.trans o2)
    clear i1 o1 i2 o2 h
    go_wp2
    go_ret
    exact ⟨rfl, I2.out, O2.out⟩
  · rw [if_neg hz] at e3
    subst e3
    generalize hn : numL t.data.toList = m at *
    have HN := Lib.hid hn
    clear hn
    have hzb : ((m : Int) == 0) = false := by simp; omega
    have hzn : (m == 0) = false := by simpa using hz
    go_enter Tryd.func97, Tryd.ntmps97
    go_wp2_with fail
    refine (twoIn_calls _ p s x t s1 x1 HR.out h).mono ?_
    rw [HN.out]
    rintro e w1 ⟨rfl, i1, o1⟩
    have I2 := Lib.hid i1
    have O2 := Lib.hid o1
    clear i1 o1 h
    go_wp2
    go_ret
    exact ⟨rfl, I2.out, O2.out⟩

/-- A code: it, what is left, the error. -/
def codeT (k : Int) (s : ByteArray) (x : Int) : Int × ByteArray × Int :=
  (numL (rawT s x 1).1.data.toList, (rawT s x 1).2.1, if mayB k (numL (rawT s x 1).1.data.toList) = true then (rawT s x 1).2.2 else failed (rawT s x 1).2.2 2)

theorem takeCode_calls (w : World) (p : Nat) (s : ByteArray) (x k : Int) (n : Int) (s2 : ByteArray) (x2 : Int) (hi : codeT k s x = (n, s2, x2)) (h : InAt w p s x) :
    Calls Tryd.prog 101 #[.pointer (some ⟨p, 0, none⟩), .int .i64 k] w fun e w' => e = .returned (.int .u8 n) ∧ InAt w' p s2 x2 ∧ Only p w w' := by
  unfold codeT at hi
  rcases hr : rawT s x 1 with ⟨t, s1, x1⟩
  rw [hr] at hi
  dsimp only at hi
  injection hi with e1 hi
  injection hi with e2 e3
  subst e2
  have HR := Lib.hid hr
  have HN := Lib.hid e1
  rw [e1] at e3
  clear hr e1
  cases hm : mayB k n with
  | true =>
    rw [hm, if_pos rfl] at e3
    subst e3
    have HM := Lib.hid hm
    clear hm
    go_enter Tryd.func101, Tryd.ntmps101
    go_wp2_with fail
    refine (byteIn_calls _ p s x t s1 x1 HR.out h).mono ?_
    rw [HN.out]
    rintro e w1 ⟨rfl, i1, o1⟩
    go_wp2_with fail
    refine (may_calls _ k n).mono ?_
    rw [HM.out]
    rintro e w2 ⟨rfl, rfl⟩
    have I2 := Lib.hid i1
    have O2 := Lib.hid o1
    clear i1 o1 h
    go_wp2
    go_ret
    exact ⟨rfl, I2.out, O2.out⟩
  | false =>
    rw [hm, if_neg (by simp)] at e3
    have HM := Lib.hid hm
    clear hm
    go_enter Tryd.func101, Tryd.ntmps101
    go_wp2_with fail
    refine (byteIn_calls _ p s x t s1 x1 HR.out h).mono ?_
    rw [HN.out]
    rintro e w1 ⟨rfl, i1, o1⟩
    go_wp2_with fail
    refine (may_calls _ k n).mono ?_
    rw [HM.out]
    rintro e w2 ⟨rfl, rfl⟩
    go_wp2_with fail
    refine (fail_calls _ p s1 x1 2 i1).mono ?_
    rw [e3]
    rintro e w2 ⟨rfl, i2, o2⟩
    have I2 := Lib.hid i2
    have O2 := Lib.hid (o1.trans o2)
    clear i1 o1 i2 o2 h
    go_wp2
    go_ret
    exact ⟨rfl, I2.out, O2.out⟩

#print axioms takeCode_calls
end Go.Proofs.YtacffjimkplieaaDoor
