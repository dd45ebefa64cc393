/-
  ParseAck of publish. (No statement: contracts that the proofs of the statements use.)
-/
import Derived.Test.YtacffjimkplieaaDoorJPub1
namespace Go.Proofs.YtacffjimkplieaaDoor
open Go.RowKit

/-- An answer. -/
structure Pk where
  k : Int
  id : Int
  code : Int
  ps : List Pr
def pkV (c : Pk) (v : Value) : Value := .agg #[.int .i64 c.k, .int .u32 c.id, .int .u8 c.code, v]
def pkZ : Pk := ⟨0, 0, 0, []⟩
abbrev pk0 : Array Value := #[.int .i64 0, .int .u32 0, .int .u8 0, .slice none 0 0]
/-- The error is told, or the answer. -/
def PackR (w : World) (c : Pk) (E : Int) (e : Ending) (w' : World) : Prop :=
  ∃ v, e = .returned (.tuple #[pkV c v, .int .i64 E]) ∧ OwnP w.heap.size 85 w' v c.ps ∧ Below w.heap.size w w'

set_option maxHeartbeats 1000000 in
theorem pack_arg (w : World) (k : Int) (body : ByteArray) (hk : ¬ (4 ≤ k ∧ k ≤ 7)) : Calls Tryd.prog 32 #[.int .i64 k, .string body] w (PackR w pkZ 5) := by
  have HR := heap_alloc_new w (.cells pk0 71)
  have B1 := Lib.hid (below_one w (.cells pk0 71))
  obtain ⟨r0, r1, r2, r3, rf⟩ := cells4 HR
  have rl := lt_of_block HR
  clear HR
  unfold pkZ
  by_cases h4 : k < 4
  · have hb : decide (k < 4) = true := by simpa using h4
    go_enter Tryd.func32, Tryd.ntmps32
    go_wp2
    refine bodyPost_ret (v := .tuple #[.agg #[.int .i64 0, .int .u32 0, .int .u8 0, .slice none 0 0], .int .i64 5]) ?_ rfl ⟨.slice none 0 0, rfl, World.ownsRow_nil _ _ _ _, ?_⟩
    · simp [results, Tryd.results32, go_sem]
    · exact B1.out
  · have hb : decide (k < 4) = false := by simpa using h4
    have hb2 : decide (7 < k) = true := by simp; omega
    have h7 : 7 < k := by omega
    go_enter Tryd.func32, Tryd.ntmps32
    go_wp2
    refine bodyPost_ret (v := .tuple #[.agg #[.int .i64 0, .int .u32 0, .int .u8 0, .slice none 0 0], .int .i64 5]) ?_ rfl ⟨.slice none 0 0, rfl, World.ownsRow_nil _ _ _ _, ?_⟩
    · simp [results, Tryd.results32, go_sem]
    · exact B1.out

set_option maxRecDepth 100000 in
set_option maxHeartbeats 4000000 in
theorem pack_0 (w : World) (k : Int) (body : ByteArray) (hT : Tabs w) (k4 : 4 ≤ k) (k7 : k ≤ 7) (n : Int) (s1 : ByteArray) (x1 : Int) (hi : idT body 0 = (n, s1, x1)) (z1 : s1.size = 0) (E : Int) (hE : endT s1 x1 = E) (C : Pk) (hC : (if E = 0 then ⟨k, n, 0, []⟩ else pkZ) = C) :
    Calls Tryd.prog 32 #[.int .i64 k, .string body] w (PackR w C E) := by
  have hb4 : decide (k < 4) = false := by simp; omega
  have hb7 : decide (7 < k) = false := by simp; omega
  have g1 : decide ((0 : Int) < (s1.size : Int)) = false := decide_eq_false (by omega)
  have g1' : decide (0 < s1.size) = false := decide_eq_false (by omega)
  have Hhi := Lib.hid hi
  have HhE := Lib.hid hE
  have HhC := Lib.hid hC
  have HhT := Lib.hid hT
  clear hi hE hC hT
  go_enter Tryd.func32, Tryd.ntmps32
  go_wp2_with fail
  refine (over_calls _ _).mono ?_
  rintro e W1 ⟨rfl, rfl⟩
  have i1 := InAt.new (w.alloc (.cells pk0 71)) body
  have R1 := Lib.hid ((Below.heap_alloc (w.alloc (.cells pk0 71)) (.cells #[.string body, .int .i64 0] 183) w.heap.size (by simp)).trans (heap_alloc_new w (.cells pk0 71)))
  have B1 := Lib.hid (below_two w (.cells pk0 71) (.cells #[.string body, .int .i64 0] 183))
  rw [World.size_alloc] at i1 ⊢
  generalize ((w.alloc (.cells pk0 71)).alloc (.cells #[.string body, .int .i64 0] 183)) = W1 at *
  generalize hp : w.heap.size + 1 = p at *
  have hpl : w.heap.size < p := by omega
  clear hp
  go_wp2_with fail
  refine (takeID_calls _ p body 0 n s1 x1 Hhi.out i1).mono ?_
  rintro e W2 ⟨rfl, i2, o2⟩
  have R2 := Lib.hid ((o2.block w.heap.size (by omega)).trans R1.out)
  have B2 := Lib.hid (B1.out.trans (o2.below (Nat.le_of_lt hpl)))
  have N1 := Lib.hid (Ps.start w 71 pk0 p #[.int .i64 k, .int .u32 n, .int .u8 0, .slice none 0 0] s1 x1 W2 i2 R2.out B2.out hpl)
  clear i1 i2 o2 R1 B1 R2 B2
  go_wp2_with fail
  generalize W2.alloc (.cells #[.int .i64 k, .int .u32 n, .int .u8 0, .slice none 0 0] 71) = U1 at *
  generalize W2.heap.size = cb at *
  refine (left_calls _ p s1 x1 N1.out.inn).mono ?_
  rintro e W3 ⟨rfl, rfl⟩
  go_wp2_with fail
  refine (left_calls _ p s1 x1 N1.out.inn).mono ?_
  rintro e W3 ⟨rfl, rfl⟩
  go_wp2_with fail
  refine (end_calls _ p s1 x1 N1.out.inn).mono ?_
  rw [HhE.out]
  rintro e w9 ⟨rfl, rfl⟩
  obtain ⟨r0, r1, r2, r3, rf⟩ := cells4 N1.out.res
  have rl := lt_of_block N1.out.res
  have hcb : w.heap.size < cb := Nat.lt_trans N1.out.hp N1.out.hc
  by_cases hE : E = 0
  · subst hE
    have hCC := HhC.out
    rw [if_pos rfl] at hCC
    subst hCC
    obtain ⟨d0, d1, d2, d3, df⟩ := cells4 N1.out.loc
    have dl := lt_of_block N1.out.loc
    go_wp2
    refine bodyPost_ret (v := .tuple #[.agg #[.int .i64 k, .int .u32 n, .int .u8 0, .slice none 0 0], .int .i64 0]) ?_ rfl ⟨.slice none 0 0, rfl, ?_, ?_⟩
    · simp [results, Tryd.results32, go_sem, r0, r1, r2, r3]
    · refine OwnP.mono ?_ (show w.heap.size ≤ cb + 1 by omega)
      iterate 4 (refine OwnP.set ?_ (Nat.lt_succ_of_lt hcb))
      exact N1.out.own
    · iterate 4 (refine below_set ?_ (Nat.le_refl _) _ _)
      exact N1.out.bel
  · have hEb : (E != 0) = true := by simpa using hE
    have hCC := HhC.out
    rw [if_neg hE] at hCC
    subst hCC
    go_wp2
    refine bodyPost_ret (v := .tuple #[.agg #[.int .i64 0, .int .u32 0, .int .u8 0, .slice none 0 0], .int .i64 E]) ?_ rfl ⟨.slice none 0 0, rfl, World.ownsRow_nil _ _ _ _, ?_⟩
    · simp [results, Tryd.results32, go_sem, r0, r1, r2, r3]
    · iterate 4 (refine below_set ?_ (Nat.le_refl _) _ _)
      exact N1.out.bel

set_option maxRecDepth 100000 in
set_option maxHeartbeats 4000000 in
theorem pack_c (w : World) (k : Int) (body : ByteArray) (hT : Tabs w) (k4 : 4 ≤ k) (k7 : k ≤ 7) (n : Int) (s1 : ByteArray) (x1 : Int) (hi : idT body 0 = (n, s1, x1)) (z1 : s1.size ≠ 0) (c : Int) (s2 : ByteArray) (x2 : Int) (hc : codeT k s1 x1 = (c, s2, x2)) (z2 : s2.size = 0) (E : Int) (hE : endT s2 x2 = E) (C : Pk) (hC : (if E = 0 then ⟨k, n, c, []⟩ else pkZ) = C) :
    Calls Tryd.prog 32 #[.int .i64 k, .string body] w (PackR w C E) := by
  have hb4 : decide (k < 4) = false := by simp; omega
  have hb7 : decide (7 < k) = false := by simp; omega
  have g1 : decide ((0 : Int) < (s1.size : Int)) = true := decide_eq_true (by omega)
  have g1' : decide (0 < s1.size) = true := decide_eq_true (by omega)
  have g2 : decide ((0 : Int) < (s2.size : Int)) = false := decide_eq_false (by omega)
  have g2' : decide (0 < s2.size) = false := decide_eq_false (by omega)
  have Hhi := Lib.hid hi
  have Hhc := Lib.hid hc
  have HhE := Lib.hid hE
  have HhC := Lib.hid hC
  have HhT := Lib.hid hT
  clear hi hc hE hC hT
  go_enter Tryd.func32, Tryd.ntmps32
  go_wp2_with fail
  refine (over_calls _ _).mono ?_
  rintro e W1 ⟨rfl, rfl⟩
  have i1 := InAt.new (w.alloc (.cells pk0 71)) body
  have R1 := Lib.hid ((Below.heap_alloc (w.alloc (.cells pk0 71)) (.cells #[.string body, .int .i64 0] 183) w.heap.size (by simp)).trans (heap_alloc_new w (.cells pk0 71)))
  have B1 := Lib.hid (below_two w (.cells pk0 71) (.cells #[.string body, .int .i64 0] 183))
  rw [World.size_alloc] at i1 ⊢
  generalize ((w.alloc (.cells pk0 71)).alloc (.cells #[.string body, .int .i64 0] 183)) = W1 at *
  generalize hp : w.heap.size + 1 = p at *
  have hpl : w.heap.size < p := by omega
  clear hp
  go_wp2_with fail
  refine (takeID_calls _ p body 0 n s1 x1 Hhi.out i1).mono ?_
  rintro e W2 ⟨rfl, i2, o2⟩
  have R2 := Lib.hid ((o2.block w.heap.size (by omega)).trans R1.out)
  have B2 := Lib.hid (B1.out.trans (o2.below (Nat.le_of_lt hpl)))
  have N1 := Lib.hid (Ps.start w 71 pk0 p #[.int .i64 k, .int .u32 n, .int .u8 0, .slice none 0 0] s1 x1 W2 i2 R2.out B2.out hpl)
  clear i1 i2 o2 R1 B1 R2 B2
  go_wp2_with fail
  generalize W2.alloc (.cells #[.int .i64 k, .int .u32 n, .int .u8 0, .slice none 0 0] 71) = U1 at *
  generalize W2.heap.size = cb at *
  refine (left_calls _ p s1 x1 N1.out.inn).mono ?_
  rintro e W3 ⟨rfl, rfl⟩
  go_wp2_with fail
  refine (takeCode_calls _ p s1 x1 k c s2 x2 Hhc.out N1.out.inn).mono ?_
  rintro e V2 ⟨rfl, i2, o2⟩
  have K2 := Lib.hid (N1.out.took i2 (Chg.of_only o2))
  obtain ⟨d0, d1, d2, d3, df⟩ := cells4 K2.out.loc
  clear i2 o2 N1
  have N2 := Lib.hid (K2.out.put (A' := #[.int .i64 k, .int .u32 n, .int .u8 c, .slice none 0 0]) 2 (.int .u8 c) rfl)
  go_wp2_with fail
  generalize V2.setCell ⟨cb, 2, none⟩ (.int .u8 c) = U2 at *
  clear d0 d1 d2 d3 df K2
  refine (left_calls _ p s2 x2 N2.out.inn).mono ?_
  rintro e W3 ⟨rfl, rfl⟩
  go_wp2_with fail
  refine (end_calls _ p s2 x2 N2.out.inn).mono ?_
  rw [HhE.out]
  rintro e w9 ⟨rfl, rfl⟩
  obtain ⟨r0, r1, r2, r3, rf⟩ := cells4 N2.out.res
  have rl := lt_of_block N2.out.res
  have hcb : w.heap.size < cb := Nat.lt_trans N2.out.hp N2.out.hc
  by_cases hE : E = 0
  · subst hE
    have hCC := HhC.out
    rw [if_pos rfl] at hCC
    subst hCC
    obtain ⟨d0, d1, d2, d3, df⟩ := cells4 N2.out.loc
    have dl := lt_of_block N2.out.loc
    go_wp2
    refine bodyPost_ret (v := .tuple #[.agg #[.int .i64 k, .int .u32 n, .int .u8 c, .slice none 0 0], .int .i64 0]) ?_ rfl ⟨.slice none 0 0, rfl, ?_, ?_⟩
    · simp [results, Tryd.results32, go_sem, r0, r1, r2, r3]
    · refine OwnP.mono ?_ (show w.heap.size ≤ cb + 1 by omega)
      iterate 4 (refine OwnP.set ?_ (Nat.lt_succ_of_lt hcb))
      exact N2.out.own
    · iterate 4 (refine below_set ?_ (Nat.le_refl _) _ _)
      exact N2.out.bel
  · have hEb : (E != 0) = true := by simpa using hE
    have hCC := HhC.out
    rw [if_neg hE] at hCC
    subst hCC
    go_wp2
    refine bodyPost_ret (v := .tuple #[.agg #[.int .i64 0, .int .u32 0, .int .u8 0, .slice none 0 0], .int .i64 E]) ?_ rfl ⟨.slice none 0 0, rfl, World.ownsRow_nil _ _ _ _, ?_⟩
    · simp [results, Tryd.results32, go_sem, r0, r1, r2, r3]
    · iterate 4 (refine below_set ?_ (Nat.le_refl _) _ _)
      exact N2.out.bel

set_option maxRecDepth 100000 in
set_option maxHeartbeats 4000000 in
theorem pack_p (w : World) (k : Int) (body : ByteArray) (hT : Tabs w) (k4 : 4 ≤ k) (k7 : k ≤ 7) (n : Int) (s1 : ByteArray) (x1 : Int) (hi : idT body 0 = (n, s1, x1)) (z1 : s1.size ≠ 0) (c : Int) (s2 : ByteArray) (x2 : Int) (hc : codeT k s1 x1 = (c, s2, x2)) (z2 : s2.size ≠ 0) (ps : List Pr) (s3 : ByteArray) (x3 : Int) (hP : takeR (placeN k false) s2 x2 = (ps, s3, x3)) (E : Int) (hE : endT s3 x3 = E) (C : Pk) (hC : (if E = 0 then ⟨k, n, c, ps⟩ else pkZ) = C) :
    Calls Tryd.prog 32 #[.int .i64 k, .string body] w (PackR w C E) := by
  have hb4 : decide (k < 4) = false := by simp; omega
  have hb7 : decide (7 < k) = false := by simp; omega
  have g1 : decide ((0 : Int) < (s1.size : Int)) = true := decide_eq_true (by omega)
  have g1' : decide (0 < s1.size) = true := decide_eq_true (by omega)
  have g2 : decide ((0 : Int) < (s2.size : Int)) = true := decide_eq_true (by omega)
  have g2' : decide (0 < s2.size) = true := decide_eq_true (by omega)
  have Hhi := Lib.hid hi
  have Hhc := Lib.hid hc
  have HhP := Lib.hid hP
  have HhE := Lib.hid hE
  have HhC := Lib.hid hC
  have HhT := Lib.hid hT
  clear hi hc hP hE hC hT
  go_enter Tryd.func32, Tryd.ntmps32
  go_wp2_with fail
  refine (over_calls _ _).mono ?_
  rintro e W1 ⟨rfl, rfl⟩
  have i1 := InAt.new (w.alloc (.cells pk0 71)) body
  have R1 := Lib.hid ((Below.heap_alloc (w.alloc (.cells pk0 71)) (.cells #[.string body, .int .i64 0] 183) w.heap.size (by simp)).trans (heap_alloc_new w (.cells pk0 71)))
  have B1 := Lib.hid (below_two w (.cells pk0 71) (.cells #[.string body, .int .i64 0] 183))
  rw [World.size_alloc] at i1 ⊢
  generalize ((w.alloc (.cells pk0 71)).alloc (.cells #[.string body, .int .i64 0] 183)) = W1 at *
  generalize hp : w.heap.size + 1 = p at *
  have hpl : w.heap.size < p := by omega
  clear hp
  go_wp2_with fail
  refine (takeID_calls _ p body 0 n s1 x1 Hhi.out i1).mono ?_
  rintro e W2 ⟨rfl, i2, o2⟩
  have R2 := Lib.hid ((o2.block w.heap.size (by omega)).trans R1.out)
  have B2 := Lib.hid (B1.out.trans (o2.below (Nat.le_of_lt hpl)))
  have N1 := Lib.hid (Ps.start w 71 pk0 p #[.int .i64 k, .int .u32 n, .int .u8 0, .slice none 0 0] s1 x1 W2 i2 R2.out B2.out hpl)
  clear i1 i2 o2 R1 B1 R2 B2
  go_wp2_with fail
  generalize W2.alloc (.cells #[.int .i64 k, .int .u32 n, .int .u8 0, .slice none 0 0] 71) = U1 at *
  generalize W2.heap.size = cb at *
  refine (left_calls _ p s1 x1 N1.out.inn).mono ?_
  rintro e W3 ⟨rfl, rfl⟩
  go_wp2_with fail
  refine (takeCode_calls _ p s1 x1 k c s2 x2 Hhc.out N1.out.inn).mono ?_
  rintro e V2 ⟨rfl, i2, o2⟩
  have K2 := Lib.hid (N1.out.took i2 (Chg.of_only o2))
  obtain ⟨d0, d1, d2, d3, df⟩ := cells4 K2.out.loc
  clear i2 o2 N1
  have N2 := Lib.hid (K2.out.put (A' := #[.int .i64 k, .int .u32 n, .int .u8 c, .slice none 0 0]) 2 (.int .u8 c) rfl)
  go_wp2_with fail
  generalize V2.setCell ⟨cb, 2, none⟩ (.int .u8 c) = U2 at *
  clear d0 d1 d2 d3 df K2
  refine (left_calls _ p s2 x2 N2.out.inn).mono ?_
  rintro e W3 ⟨rfl, rfl⟩
  go_wp2_with fail
  refine ((by have := take3_calls _ p s2 x2 k false N2.out.inn (HhT.out.below N2.out.bel); rw [HhP.out] at this; exact this : Calls _ _ _ _ (TookL _ p (ps, s3, x3)))).mono ?_
  rintro e V3 ⟨vv, rfl, oo, -, i3, o3⟩
  have K3 := Lib.hid (N2.out.took i3 o3)
  dsimp only at oo
  have OO := Lib.hid (oo.mono (show cb + 1 ≤ _ from lt_of_block N2.out.loc))
  obtain ⟨va, vc, rfl⟩ := oo.form
  clear oo i3 o3 N2
  obtain ⟨d0, d1, d2, d3, df⟩ := cells4 K3.out.loc
  have N3 := Lib.hid (K3.out.putv (A' := #[.int .i64 k, .int .u32 n, .int .u8 c, .slice va ps.length vc]) 3 (.slice va ps.length vc) OO.out rfl)
  go_wp2_with fail
  generalize V3.setCell ⟨cb, 3, none⟩ (.slice va ps.length vc) = U3 at *
  clear d0 d1 d2 d3 df K3 OO
  refine (end_calls _ p s3 x3 N3.out.inn).mono ?_
  rw [HhE.out]
  rintro e w9 ⟨rfl, rfl⟩
  obtain ⟨r0, r1, r2, r3, rf⟩ := cells4 N3.out.res
  have rl := lt_of_block N3.out.res
  have hcb : w.heap.size < cb := Nat.lt_trans N3.out.hp N3.out.hc
  by_cases hE : E = 0
  · subst hE
    have hCC := HhC.out
    rw [if_pos rfl] at hCC
    subst hCC
    obtain ⟨d0, d1, d2, d3, df⟩ := cells4 N3.out.loc
    have dl := lt_of_block N3.out.loc
    go_wp2
    refine bodyPost_ret (v := .tuple #[.agg #[.int .i64 k, .int .u32 n, .int .u8 c, .slice va ps.length vc], .int .i64 0]) ?_ rfl ⟨.slice va ps.length vc, rfl, ?_, ?_⟩
    · simp [results, Tryd.results32, go_sem, r0, r1, r2, r3]
    · refine OwnP.mono ?_ (show w.heap.size ≤ cb + 1 by omega)
      iterate 4 (refine OwnP.set ?_ (Nat.lt_succ_of_lt hcb))
      exact N3.out.own
    · iterate 4 (refine below_set ?_ (Nat.le_refl _) _ _)
      exact N3.out.bel
  · have hEb : (E != 0) = true := by simpa using hE
    have hCC := HhC.out
    rw [if_neg hE] at hCC
    subst hCC
    go_wp2
    refine bodyPost_ret (v := .tuple #[.agg #[.int .i64 0, .int .u32 0, .int .u8 0, .slice none 0 0], .int .i64 E]) ?_ rfl ⟨.slice none 0 0, rfl, World.ownsRow_nil _ _ _ _, ?_⟩
    · simp [results, Tryd.results32, go_sem, r0, r1, r2, r3]
    · iterate 4 (refine below_set ?_ (Nat.le_refl _) _ _)
      exact N3.out.bel

/-- The parts of an answer's body, as they are taken. -/
def codeP (k : Int) (s : ByteArray) (x : Int) : Int × ByteArray × Int := if s.size = 0 then (0, s, x) else codeT k s x
def propP (k : Int) (s : ByteArray) (x : Int) : List Pr × ByteArray × Int := if s.size = 0 then ([], s, x) else takeR (placeN k false) s x
structure PackOf (k : Int) (body : ByteArray) (n c : Int) (ps : List Pr) (E : Int) (s1 : ByteArray) (x1 : Int) (s2 : ByteArray) (x2 : Int) (s3 : ByteArray) (x3 : Int) : Prop where
  i : idT body 0 = (n, s1, x1)
  c : codeP k s1 x1 = (c, s2, x2)
  p : propP k s2 x2 = (ps, s3, x3)
  e : endT s3 x3 = E

theorem pack_calls (w : World) (k : Int) (body : ByteArray) (hT : Tabs w) (k4 : 4 ≤ k) (k7 : k ≤ 7) {n c : Int} {ps : List Pr} {E : Int} {s1 : ByteArray} {x1 : Int} {s2 : ByteArray} {x2 : Int} {s3 : ByteArray} {x3 : Int} (h : PackOf k body n c ps E s1 x1 s2 x2 s3 x3) (C : Pk) (hC : (if E = 0 then ⟨k, n, c, ps⟩ else pkZ) = C) :
    Calls Tryd.prog 32 #[.int .i64 k, .string body] w (PackR w C E) := by
  obtain ⟨hi, hc, hp, he⟩ := h
  unfold codeP at hc
  unfold propP at hp
  by_cases z1 : s1.size = 0
  · rw [if_pos z1] at hc
    injection hc with a1 hc
    injection hc with a2 a3
    subst a1 a2 a3
    rw [if_pos z1] at hp
    injection hp with a1 hp
    injection hp with a2 a3
    subst a1 a2 a3
    exact pack_0 w k body hT k4 k7 n s1 x1 hi z1 E he C hC
  · rw [if_neg z1] at hc
    by_cases z2 : s2.size = 0
    · rw [if_pos z2] at hp
      injection hp with a1 hp
      injection hp with a2 a3
      subst a1 a2 a3
      exact pack_c w k body hT k4 k7 n s1 x1 hi z1 c s2 x2 hc z2 E he C hC
    · rw [if_neg z2] at hp
      exact pack_p w k body hT k4 k7 n s1 x1 hi z1 c s2 x2 hc z2 ps s3 x3 hp E he C hC

theorem pack_of (k : Int) (body : ByteArray) : ∃ n c ps E s1 x1 s2 x2 s3 x3, PackOf k body n c ps E s1 x1 s2 x2 s3 x3 := by
  rcases h1 : idT body 0 with ⟨n, s1, x1⟩
  rcases h2 : codeP k s1 x1 with ⟨c, s2, x2⟩
  rcases h3 : propP k s2 x2 with ⟨ps, s3, x3⟩
  exact ⟨n, c, ps, _, s1, x1, s2, x2, s3, x3, ⟨h1, h2, h3, rfl⟩⟩

#print axioms pack_calls
end Go.Proofs.YtacffjimkplieaaDoor
