/-
  Options, takeHead, more, takeSub, mayAll, putHead of subscribe. (No statement: contracts that the proofs of the statements use.)
-/
import Derived.Test.YtacffjimkplieaaDoorJPub7
namespace Go.Proofs.YtacffjimkplieaaDoor
open Go.RowKit

/-- A Sub. -/
structure Sb where
  f : ByteArray
  q : Int
  nl : Bool
  ap : Bool
  h : Int
def sbC (c : Sb) : List Value := [.string c.f, .int .u8 c.q, .bool c.nl, .bool c.ap, .int .u8 c.h]

theorem cells5 {w : World} {b : Nat} {t : TypeId} {u0 u1 u2 u3 u4 : Value} (h : w.heap[b]? = some (.cells #[u0, u1, u2, u3, u4] t (0, 0))) :
    w.cell? ⟨b, 0, none⟩ = some u0 ∧ w.cell? ⟨b, 1, none⟩ = some u1 ∧ w.cell? ⟨b, 2, none⟩ = some u2 ∧ w.cell? ⟨b, 3, none⟩ = some u3 ∧ w.cell? ⟨b, 4, none⟩ = some u4 ∧ ∀ j, w.frozen? ⟨b, j, none⟩ = false := by
  simp [World.cell?, World.frozen?, h]

/-- The byte of options. -/
def optN (c : Sb) : Int :=
  if c.ap = true then bits .or .u8 (if c.nl = true then bits .or .u8 (bits .or .u8 (bits .and .u8 c.q 3) (bits .and .u8 c.h 3 * 16)) 4 else bits .or .u8 (bits .and .u8 c.q 3) (bits .and .u8 c.h 3 * 16)) 8
  else (if c.nl = true then bits .or .u8 (bits .or .u8 (bits .and .u8 c.q 3) (bits .and .u8 c.h 3 * 16)) 4 else bits .or .u8 (bits .and .u8 c.q 3) (bits .and .u8 c.h 3 * 16))

set_option maxRecDepth 100000 in
set_option maxHeartbeats 1000000 in
theorem options_calls (w : World) (c : Sb) (h0 : 0 ≤ c.h) (h1 : c.h < 256) :
    Calls Tryd.prog 110 #[.agg #[.string c.f, .int .u8 c.q, .bool c.nl, .bool c.ap, .int .u8 c.h]] w fun e w' => e = .returned (.int .u8 (optN c)) ∧ Below w.heap.size w w' := by
  have hhr := and3_range' c.h h0 h1
  obtain ⟨f, q, nl, ap, h⟩ := c
  unfold optN
  dsimp only at *
  generalize ha : bits .and .u8 h 3 = A at *
  obtain ⟨hA0, hA3⟩ := hhr
  have hwr : IntKind.u8.wrap (A * 16) = A * 16 := by rw [IntKind.wrap_u8']; omega
  have hmd : (A * 16) % 256 = A * 16 := by omega
  cases nl <;> cases ap
  all_goals
    go_enter Tryd.func110, Tryd.ntmps110
    go_wp2
    go_ret
    exact ⟨rfl, below_one w _⟩

theorem more_calls (w : World) (p : Nat) (s : ByteArray) (x : Int) (h : InAt w p s x) :
    Calls Tryd.prog 105 #[.pointer (some ⟨p, 0, none⟩)] w fun e w' => e = .returned (.bool (decide (x = 0) && decide (s.size ≠ 0))) ∧ w = w' := by
  by_cases hx : x = 0
  · subst hx
    by_cases hz : s.size = 0
    · have g1 : decide (0 < s.size) = false := decide_eq_false (by omega)
      have g2 : decide ((0 : Int) < (s.size : Int)) = false := decide_eq_false (by omega)
      rw [decide_eq_false (show ¬ (s.size ≠ 0) by omega)]
      go_enter Tryd.func105, Tryd.ntmps105
      go_wp2_with fail
      refine (err_calls _ p s 0 h).mono ?_
      rintro e w1 ⟨rfl, rfl⟩
      go_wp2_with fail
      refine (left_calls _ p s 0 h).mono ?_
      rintro e w1 ⟨rfl, rfl⟩
      clear h
      go_wp2
      go_ret
      exact ⟨rfl, rfl⟩
    · have g1 : decide (0 < s.size) = true := decide_eq_true (by omega)
      have g2 : decide ((0 : Int) < (s.size : Int)) = true := decide_eq_true (by omega)
      rw [decide_eq_true (show s.size ≠ 0 from hz)]
      go_enter Tryd.func105, Tryd.ntmps105
      go_wp2_with fail
      refine (err_calls _ p s 0 h).mono ?_
      rintro e w1 ⟨rfl, rfl⟩
      go_wp2_with fail
      refine (left_calls _ p s 0 h).mono ?_
      rintro e w1 ⟨rfl, rfl⟩
      clear h
      go_wp2
      go_ret
      exact ⟨rfl, rfl⟩
  · have hxb : (x == 0) = false := by simpa using hx
    rw [decide_eq_false hx]
    go_enter Tryd.func105, Tryd.ntmps105
    go_wp2_with fail
    refine (err_calls _ p s x h).mono ?_
    rintro e w1 ⟨rfl, rfl⟩
    clear h
    go_wp2
    go_ret
    exact ⟨rfl, rfl⟩

/-- What all the bodies begin with: the identifier, the properties, what is left, the error. -/
structure HeadOf (k : Int) (s : ByteArray) (x : Int) (n : Int) (ps : List Pr) (s' : ByteArray) (x' : Int) (s1 : ByteArray) (x1 x2 : Int) : Prop where
  i : idT s x = (n, s1, x1)
  p : takeR (placeN k false) s1 x1 = (ps, s', x2)
  e : (if s'.size = 0 then failed x2 3 else x2) = x'
theorem head_of (k : Int) (s : ByteArray) (x : Int) : ∃ n ps s' x' s1 x1 x2, HeadOf k s x n ps s' x' s1 x1 x2 := by
  rcases h1 : idT s x with ⟨n, s1, x1⟩
  rcases h2 : takeR (placeN k false) s1 x1 with ⟨ps, s', x2⟩
  exact ⟨n, ps, s', _, s1, x1, x2, ⟨h1, h2, rfl⟩⟩
/-- What takeHead answers, and leaves. -/
def TookH (w : World) (p : Nat) (n : Int) (ps : List Pr) (s' : ByteArray) (x' : Int) (e : Ending) (w' : World) : Prop :=
  ∃ a c, e = .returned (.tuple #[.int .u32 n, .slice a ps.length c]) ∧ OwnP w.heap.size 85 w' (.slice a ps.length c) ps ∧ InAt w' p s' x' ∧ Chg p w w'

set_option maxRecDepth 100000 in
set_option maxHeartbeats 1000000 in
theorem takeHead_calls (w : World) (p : Nat) (s : ByteArray) (x k : Int) {n : Int} {ps : List Pr} {s' : ByteArray} {x' : Int} {s1 : ByteArray} {x1 x2 : Int} (hh : HeadOf k s x n ps s' x' s1 x1 x2) (h : InAt w p s x) (hT : Tabs w) :
    Calls Tryd.prog 104 #[.pointer (some ⟨p, 0, none⟩), .int .i64 k] w (TookH w p n ps s' x') := by
  obtain ⟨hi, hp, he⟩ := hh
  have hlt := h.lt
  unfold idT at hi
  rcases hr : rawT s x 2 with ⟨t, s0, x0⟩
  rw [hr] at hi
  dsimp only at hi
  injection hi with e1 hi
  injection hi with e2 e3
  subst e2
  have HR := Lib.hid hr
  have HP := Lib.hid hp
  have HT := Lib.hid (show ∀ V, Chg p w V → Tabs V from fun V hc => hT.chg h hc)
  generalize hm : numL t.data.toList = m at *
  have HM := Lib.hid hm
  clear hr hp hT hm
  subst e1
  have main : ∀ V, InAt V p s0 x1 → Chg p w V → Calls Tryd.prog 69 #[.pointer (some ⟨p, 0, none⟩), .int .i64 k, .bool false] V (TookL V p (ps, s', x2)) := fun V hV hc => by
    have := take3_calls V p s0 x1 k false hV (HT.out V hc); rw [HP.out] at this; exact this
  have HMN := Lib.hid main
  clear main
  by_cases hz : m = 0
  · subst hz
    rw [if_pos rfl] at e3
    by_cases hs : s'.size = 0
    · rw [if_pos hs] at he
      have g1 : (s'.size == 0) = true := by simpa using hs
      have g2 : ((s'.size : Int) == 0) = true := by rw [hs]; rfl
      go_enter Tryd.func104, Tryd.ntmps104
      go_wp2_with fail
      refine (twoIn_calls _ p s x t s0 x0 HR.out h).mono ?_
      rw [HM.out]
      rintro e V1 ⟨rfl, i1, o1⟩
      go_wp2_with fail
      refine (fail_calls _ p s0 x0 3 i1).mono ?_
      rw [e3]
      rintro e V2 ⟨rfl, i2, o2⟩
      have C2 := Lib.hid (Chg.of_only (o1.trans o2))
      clear i1 o1 o2
      go_wp2_with fail
      refine (HMN.out _ i2 C2.out).mono ?_
      rintro e V3 ⟨v, rfl, own, -, i3, c3⟩
      obtain ⟨a, c, rfl⟩ := own.form
      dsimp only at own i3
      have O3 := Lib.hid (own.mono C2.out.size)
      have C3 := Lib.hid (C2.out.trans c3)
      clear own c3 i2 C2
      go_wp2_with fail
      refine (left_calls _ p s' x2 i3).mono ?_
      rintro e V4 ⟨rfl, rfl⟩
      go_wp2_with fail
      refine (fail_calls _ p s' x2 3 i3).mono ?_
      rw [he]
      rintro e V5 ⟨rfl, i5, o5⟩
      have I5 := Lib.hid i5
      have O5 := Lib.hid (O3.out.only o5 hlt)
      have C5 := Lib.hid (C3.out.trans (Chg.of_only o5))
      clear i3 i5 o5 O3 C3
      go_wp2
      go_ret2
      exact ⟨a, c, rfl, O5.out, I5.out, C5.out⟩
    · rw [if_neg hs] at he
      subst he
      have g1 : (s'.size == 0) = false := by simpa using hs
      have g2 : ((s'.size : Int) == 0) = false := by rw [Bool.eq_false_iff]; intro h0; exact hs (by have := eq_of_beq h0; omega)
      go_enter Tryd.func104, Tryd.ntmps104
      go_wp2_with fail
      refine (twoIn_calls _ p s x t s0 x0 HR.out h).mono ?_
      rw [HM.out]
      rintro e V1 ⟨rfl, i1, o1⟩
      go_wp2_with fail
      refine (fail_calls _ p s0 x0 3 i1).mono ?_
      rw [e3]
      rintro e V2 ⟨rfl, i2, o2⟩
      have C2 := Lib.hid (Chg.of_only (o1.trans o2))
      clear i1 o1 o2
      go_wp2_with fail
      refine (HMN.out _ i2 C2.out).mono ?_
      rintro e V3 ⟨v, rfl, own, -, i3, c3⟩
      obtain ⟨a, c, rfl⟩ := own.form
      dsimp only at own i3
      have O3 := Lib.hid (own.mono C2.out.size)
      have C3 := Lib.hid (C2.out.trans c3)
      clear own c3 i2 C2
      go_wp2_with fail
      refine (left_calls _ p s' x2 i3).mono ?_
      rintro e V4 ⟨rfl, rfl⟩
      have I5 := Lib.hid i3
      have O5 := O3
      have C5 := C3
      clear i3 O3 C3
      go_wp2
      go_ret2
      exact ⟨a, c, rfl, O5.out, I5.out, C5.out⟩
  · rw [if_neg hz] at e3
    subst e3
    have hzb : ((m : Int) == 0) = false := by rw [Bool.eq_false_iff]; intro h0; exact hz (by have := eq_of_beq h0; omega)
    have hzn : (m == 0) = false := by simpa using hz
    by_cases hs : s'.size = 0
    · rw [if_pos hs] at he
      have g1 : (s'.size == 0) = true := by simpa using hs
      have g2 : ((s'.size : Int) == 0) = true := by rw [hs]; rfl
      go_enter Tryd.func104, Tryd.ntmps104
      go_wp2_with fail
      refine (twoIn_calls _ p s x t s0 x0 HR.out h).mono ?_
      rw [HM.out]
      rintro e V1 ⟨rfl, i1, o1⟩
      have i2 := i1
      have C2 := Lib.hid (Chg.of_only o1)
      clear i1 o1
      go_wp2_with fail
      refine (HMN.out _ i2 C2.out).mono ?_
      rintro e V3 ⟨v, rfl, own, -, i3, c3⟩
      obtain ⟨a, c, rfl⟩ := own.form
      dsimp only at own i3
      have O3 := Lib.hid (own.mono C2.out.size)
      have C3 := Lib.hid (C2.out.trans c3)
      clear own c3 i2 C2
      go_wp2_with fail
      refine (left_calls _ p s' x2 i3).mono ?_
      rintro e V4 ⟨rfl, rfl⟩
      go_wp2_with fail
      refine (fail_calls _ p s' x2 3 i3).mono ?_
      rw [he]
      rintro e V5 ⟨rfl, i5, o5⟩
      have I5 := Lib.hid i5
      have O5 := Lib.hid (O3.out.only o5 hlt)
      have C5 := Lib.hid (C3.out.trans (Chg.of_only o5))
      clear i3 i5 o5 O3 C3
      go_wp2
      go_ret2
      exact ⟨a, c, rfl, O5.out, I5.out, C5.out⟩
    · rw [if_neg hs] at he
      subst he
      have g1 : (s'.size == 0) = false := by simpa using hs
      have g2 : ((s'.size : Int) == 0) = false := by rw [Bool.eq_false_iff]; intro h0; exact hs (by have := eq_of_beq h0; omega)
      go_enter Tryd.func104, Tryd.ntmps104
      go_wp2_with fail
      refine (twoIn_calls _ p s x t s0 x0 HR.out h).mono ?_
      rw [HM.out]
      rintro e V1 ⟨rfl, i1, o1⟩
      have i2 := i1
      have C2 := Lib.hid (Chg.of_only o1)
      clear i1 o1
      go_wp2_with fail
      refine (HMN.out _ i2 C2.out).mono ?_
      rintro e V3 ⟨v, rfl, own, -, i3, c3⟩
      obtain ⟨a, c, rfl⟩ := own.form
      dsimp only at own i3
      have O3 := Lib.hid (own.mono C2.out.size)
      have C3 := Lib.hid (C2.out.trans c3)
      clear own c3 i2 C2
      go_wp2_with fail
      refine (left_calls _ p s' x2 i3).mono ?_
      rintro e V4 ⟨rfl, rfl⟩
      have I5 := Lib.hid i3
      have O5 := O3
      have C5 := C3
      clear i3 O3 C3
      go_wp2
      go_ret2
      exact ⟨a, c, rfl, O5.out, I5.out, C5.out⟩

#print axioms takeHead_calls
end Go.Proofs.YtacffjimkplieaaDoor
