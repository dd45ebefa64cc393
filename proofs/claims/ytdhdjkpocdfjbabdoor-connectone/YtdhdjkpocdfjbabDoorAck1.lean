/-
  ParseAck. (No statement: contracts that the proofs of the statements use.)
-/
import Derived.Test.YtdhdjkpocdfjbabDoorCon8
import Derived.Test.YtdhdjkpocdfjbabDoorReason
import Derived.Test.YtdhdjkpocdfjbabDoorInv2
namespace Go.Proofs.YtdhdjkpocdfjbabDoor
open Go.RowKit

/-- A Connack. -/
structure Ak where
  pr : Bool
  code : Int
  ps : List Pr
def akZ : Ak := ⟨false, 0, []⟩
abbrev ak0 : Array Value := #[.bool false, .int .u8 0, .slice none 0 0]
/-- The error is told, or the Connack. -/
def AckR (w : World) (c : Ak) (E : Int) (e : Ending) (w' : World) : Prop :=
  ∃ v, e = .returned (.tuple #[.agg #[.bool c.pr, .int .u8 c.code, v], .int .i64 E]) ∧ OwnP w.heap.size 87 w' v c.ps ∧ Below w.heap.size w w'

theorem cells3 {w : World} {b : Nat} {t : TypeId} {u0 u1 u2 : Value} (h : w.heap[b]? = some (.cells #[u0, u1, u2] t (0, 0))) :
    w.cell? ⟨b, 0, none⟩ = some u0 ∧ w.cell? ⟨b, 1, none⟩ = some u1 ∧ w.cell? ⟨b, 2, none⟩ = some u2 ∧ ∀ j, w.frozen? ⟨b, j, none⟩ = false := by
  simp [World.cell?, World.frozen?, h]

/-- While a body is taken. -/
structure AkC (w : World) (p : Nat) (s : ByteArray) (x : Int) (W : World) : Prop where
  inn : InAt W p s x
  res : W.heap[w.heap.size]? = some (.cells ak0 41 (0, 0))
  bel : Below w.heap.size w W
  hp : w.heap.size < p
theorem AkC.took {w : World} {p : Nat} {s : ByteArray} {x : Int} {W : World} (h : AkC w p s x W) {W' : World} {s' : ByteArray} {x' : Int} (hi : InAt W' p s' x') (hc : Chg p W W') : AkC w p s' x' W' := by
  have h1 := h.hp
  exact ⟨hi, (hc.block _ (lt_of_block h.res) (fun e => by injection e; omega)).trans h.res, h.bel.trans (hc.below h.bel.size (Nat.le_of_lt h1)), h1⟩

set_option maxRecDepth 100000 in
set_option maxHeartbeats 4000000 in
theorem ack_bn1 (w : World) (body : ByteArray) (hT : Tabs w) (t1 s1 : ByteArray) (x1 : Int) (h1 : rawT body 0 1 = (t1, s1, x1)) (N1 : Int) (hn1 : (numL t1.data.toList : Int) = N1) (b1 : decide (1 < N1) = true) (b2 : (N1 == 1) = false) (t2 s2 : ByteArray) (x2 : Int) (h2 : rawT s1 (failed x1 2) 1 = (t2, s2, x2)) (N2 : Int) (hn2 : (numL t2.data.toList : Int) = N2) (hm : mayB 2 N2 = true) (ps : List Pr) (s3 : ByteArray) (x3 : Int) (h3 : takeR (placeN 2 false) s2 x2 = (ps, s3, x3)) (E : Int) (hE : endT s3 x3 = E) (C : Ak) (hC : (if E = 0 then ⟨false, N2, ps⟩ else akZ) = C) :
    Calls Tryd.prog 11 #[.string body] w (AckR w C E) := by
  have H1 := Lib.hid h1
  have HN1 := Lib.hid hn1
  have H2 := Lib.hid h2
  have HN2 := Lib.hid hn2
  have HM := Lib.hid hm
  have H3 := Lib.hid h3
  have HhE := Lib.hid hE
  have HhC := Lib.hid hC
  have HT := Lib.hid hT
  clear h1 hn1 h2 hn2 hm h3 hE hC hT
  go_enter Tryd.func11, Tryd.ntmps11
  go_wp2_with fail
  refine (over_calls _ _).mono ?_
  rintro e W1 ⟨rfl, rfl⟩
  have i1 := InAt.new (w.alloc (.cells ak0 41)) body
  have R1 := Lib.hid ((Below.heap_alloc (w.alloc (.cells ak0 41)) (.cells #[.string body, .int .i64 0] 103) w.heap.size (by simp)).trans (heap_alloc_new w (.cells ak0 41)))
  have B1 := Lib.hid (below_two w (.cells ak0 41) (.cells #[.string body, .int .i64 0] 103))
  rw [World.size_alloc] at i1 ⊢
  generalize ((w.alloc (.cells ak0 41)).alloc (.cells #[.string body, .int .i64 0] 103)) = W1 at *
  generalize hp : w.heap.size + 1 = p at *
  have hpl : w.heap.size < p := by omega
  clear hp
  have A0 := Lib.hid (show AkC w p body 0 W1 from ⟨i1, R1.out, B1.out, hpl⟩)
  clear i1 R1 B1
  go_wp2_with fail
  refine (byteIn_calls _ p body 0 t1 s1 x1 H1.out A0.out.inn).mono ?_
  rw [HN1.out]
  rintro e V1 ⟨rfl, i1, o1⟩
  have A1 := Lib.hid (A0.out.took i1 (Chg.of_only o1))
  clear i1 o1 A0
  go_wp2_with fail
  refine (fail_calls _ p s1 x1 2 A1.out.inn).mono ?_
  rintro e V1' ⟨rfl, i1, o1⟩
  have A1' := Lib.hid (A1.out.took i1 (Chg.of_only o1))
  clear i1 o1 A1
  have A1 := A1'
  clear A1'
  go_wp2_with fail
  refine (byteIn_calls _ p s1 (failed x1 2) t2 s2 x2 H2.out A1.out.inn).mono ?_
  rw [HN2.out]
  rintro e V2 ⟨rfl, i2, o2⟩
  have A2 := Lib.hid (A1.out.took i2 (Chg.of_only o2))
  clear i2 o2 A1
  go_wp2_with fail
  refine (may_calls _ 2 N2).mono ?_
  rw [HM.out]
  rintro e V2' ⟨rfl, rfl⟩
  go_wp2_with fail
  refine ((by have := take3_calls _ p s2 x2 2 false A2.out.inn (HT.out.below A2.out.bel); rw [H3.out] at this; exact this : Calls _ _ _ _ (TookL _ p (ps, s3, x3)))).mono ?_
  rintro e V4 ⟨vv, rfl, oo, -, i4, o4⟩
  have A3 := Lib.hid (A2.out.took i4 o4)
  dsimp only at oo
  have OO := Lib.hid (oo.mono (show p + 1 ≤ _ from A2.out.inn.lt))
  obtain ⟨va, vc, rfl⟩ := oo.form
  clear oo i4 o4 A2
  go_wp2_with fail
  refine (end_calls _ p s3 x3 A3.out.inn).mono ?_
  rw [HhE.out]
  rintro e w9 ⟨rfl, rfl⟩
  obtain ⟨r0, r1, r2, rf⟩ := cells3 A3.out.res
  have rl := lt_of_block A3.out.res
  by_cases hE : E = 0
  · subst hE
    have hCC := HhC.out
    rw [if_pos rfl] at hCC
    subst hCC
    go_wp2
    refine bodyPost_ret (v := .tuple #[.agg #[.bool false, .int .u8 N2, .slice va ps.length vc], .int .i64 0]) ?_ rfl ⟨.slice va ps.length vc, rfl, ?_, ?_⟩
    · simp [results, Tryd.results11, go_sem, r0, r1, r2]
    · refine OwnP.mono ?_ (show w.heap.size ≤ p + 1 by omega)
      iterate 3 (refine OwnP.set ?_ (Nat.lt_succ_of_lt hpl))
      exact OO.out
    · iterate 3 (refine below_set ?_ (Nat.le_refl _) _ _)
      exact A3.out.bel
  · have hEb : (E != 0) = true := by simpa using hE
    have hCC := HhC.out
    rw [if_neg hE] at hCC
    subst hCC
    go_wp2
    refine bodyPost_ret (v := .tuple #[.agg #[.bool false, .int .u8 0, .slice none 0 0], .int .i64 E]) ?_ rfl ⟨.slice none 0 0, rfl, World.ownsRow_nil _ _ _ _, ?_⟩
    · simp [results, Tryd.results11, go_sem, r0, r1, r2]
    · iterate 3 (refine below_set ?_ (Nat.le_refl _) _ _)
      exact A3.out.bel

set_option maxRecDepth 100000 in
set_option maxHeartbeats 4000000 in
theorem ack_bn0 (w : World) (body : ByteArray) (hT : Tabs w) (t1 s1 : ByteArray) (x1 : Int) (h1 : rawT body 0 1 = (t1, s1, x1)) (N1 : Int) (hn1 : (numL t1.data.toList : Int) = N1) (b1 : decide (1 < N1) = true) (b2 : (N1 == 1) = false) (t2 s2 : ByteArray) (x2 : Int) (h2 : rawT s1 (failed x1 2) 1 = (t2, s2, x2)) (N2 : Int) (hn2 : (numL t2.data.toList : Int) = N2) (hm : mayB 2 N2 = false) (ps : List Pr) (s3 : ByteArray) (x3 : Int) (h3 : takeR (placeN 2 false) s2 (failed x2 2) = (ps, s3, x3)) (E : Int) (hE : endT s3 x3 = E) (C : Ak) (hC : (if E = 0 then ⟨false, N2, ps⟩ else akZ) = C) :
    Calls Tryd.prog 11 #[.string body] w (AckR w C E) := by
  have H1 := Lib.hid h1
  have HN1 := Lib.hid hn1
  have H2 := Lib.hid h2
  have HN2 := Lib.hid hn2
  have HM := Lib.hid hm
  have H3 := Lib.hid h3
  have HhE := Lib.hid hE
  have HhC := Lib.hid hC
  have HT := Lib.hid hT
  clear h1 hn1 h2 hn2 hm h3 hE hC hT
  go_enter Tryd.func11, Tryd.ntmps11
  go_wp2_with fail
  refine (over_calls _ _).mono ?_
  rintro e W1 ⟨rfl, rfl⟩
  have i1 := InAt.new (w.alloc (.cells ak0 41)) body
  have R1 := Lib.hid ((Below.heap_alloc (w.alloc (.cells ak0 41)) (.cells #[.string body, .int .i64 0] 103) w.heap.size (by simp)).trans (heap_alloc_new w (.cells ak0 41)))
  have B1 := Lib.hid (below_two w (.cells ak0 41) (.cells #[.string body, .int .i64 0] 103))
  rw [World.size_alloc] at i1 ⊢
  generalize ((w.alloc (.cells ak0 41)).alloc (.cells #[.string body, .int .i64 0] 103)) = W1 at *
  generalize hp : w.heap.size + 1 = p at *
  have hpl : w.heap.size < p := by omega
  clear hp
  have A0 := Lib.hid (show AkC w p body 0 W1 from ⟨i1, R1.out, B1.out, hpl⟩)
  clear i1 R1 B1
  go_wp2_with fail
  refine (byteIn_calls _ p body 0 t1 s1 x1 H1.out A0.out.inn).mono ?_
  rw [HN1.out]
  rintro e V1 ⟨rfl, i1, o1⟩
  have A1 := Lib.hid (A0.out.took i1 (Chg.of_only o1))
  clear i1 o1 A0
  go_wp2_with fail
  refine (fail_calls _ p s1 x1 2 A1.out.inn).mono ?_
  rintro e V1' ⟨rfl, i1, o1⟩
  have A1' := Lib.hid (A1.out.took i1 (Chg.of_only o1))
  clear i1 o1 A1
  have A1 := A1'
  clear A1'
  go_wp2_with fail
  refine (byteIn_calls _ p s1 (failed x1 2) t2 s2 x2 H2.out A1.out.inn).mono ?_
  rw [HN2.out]
  rintro e V2 ⟨rfl, i2, o2⟩
  have A2 := Lib.hid (A1.out.took i2 (Chg.of_only o2))
  clear i2 o2 A1
  go_wp2_with fail
  refine (may_calls _ 2 N2).mono ?_
  rw [HM.out]
  rintro e V2' ⟨rfl, rfl⟩
  go_wp2_with fail
  refine (fail_calls _ p s2 x2 2 A2.out.inn).mono ?_
  rintro e V3' ⟨rfl, i1, o1⟩
  have A2' := Lib.hid (A2.out.took i1 (Chg.of_only o1))
  clear i1 o1 A2
  have A2 := A2'
  clear A2'
  go_wp2_with fail
  refine ((by have := take3_calls _ p s2 (failed x2 2) 2 false A2.out.inn (HT.out.below A2.out.bel); rw [H3.out] at this; exact this : Calls _ _ _ _ (TookL _ p (ps, s3, x3)))).mono ?_
  rintro e V4 ⟨vv, rfl, oo, -, i4, o4⟩
  have A3 := Lib.hid (A2.out.took i4 o4)
  dsimp only at oo
  have OO := Lib.hid (oo.mono (show p + 1 ≤ _ from A2.out.inn.lt))
  obtain ⟨va, vc, rfl⟩ := oo.form
  clear oo i4 o4 A2
  go_wp2_with fail
  refine (end_calls _ p s3 x3 A3.out.inn).mono ?_
  rw [HhE.out]
  rintro e w9 ⟨rfl, rfl⟩
  obtain ⟨r0, r1, r2, rf⟩ := cells3 A3.out.res
  have rl := lt_of_block A3.out.res
  by_cases hE : E = 0
  · subst hE
    have hCC := HhC.out
    rw [if_pos rfl] at hCC
    subst hCC
    go_wp2
    refine bodyPost_ret (v := .tuple #[.agg #[.bool false, .int .u8 N2, .slice va ps.length vc], .int .i64 0]) ?_ rfl ⟨.slice va ps.length vc, rfl, ?_, ?_⟩
    · simp [results, Tryd.results11, go_sem, r0, r1, r2]
    · refine OwnP.mono ?_ (show w.heap.size ≤ p + 1 by omega)
      iterate 3 (refine OwnP.set ?_ (Nat.lt_succ_of_lt hpl))
      exact OO.out
    · iterate 3 (refine below_set ?_ (Nat.le_refl _) _ _)
      exact A3.out.bel
  · have hEb : (E != 0) = true := by simpa using hE
    have hCC := HhC.out
    rw [if_neg hE] at hCC
    subst hCC
    go_wp2
    refine bodyPost_ret (v := .tuple #[.agg #[.bool false, .int .u8 0, .slice none 0 0], .int .i64 E]) ?_ rfl ⟨.slice none 0 0, rfl, World.ownsRow_nil _ _ _ _, ?_⟩
    · simp [results, Tryd.results11, go_sem, r0, r1, r2]
    · iterate 3 (refine below_set ?_ (Nat.le_refl _) _ _)
      exact A3.out.bel

set_option maxRecDepth 100000 in
set_option maxHeartbeats 4000000 in
theorem ack_sn1 (w : World) (body : ByteArray) (hT : Tabs w) (t1 s1 : ByteArray) (x1 : Int) (h1 : rawT body 0 1 = (t1, s1, x1)) (N1 : Int) (hn1 : (numL t1.data.toList : Int) = N1) (b1 : decide (1 < N1) = false) (b2 : (N1 == 1) = false) (t2 s2 : ByteArray) (x2 : Int) (h2 : rawT s1 x1 1 = (t2, s2, x2)) (N2 : Int) (hn2 : (numL t2.data.toList : Int) = N2) (hm : mayB 2 N2 = true) (ps : List Pr) (s3 : ByteArray) (x3 : Int) (h3 : takeR (placeN 2 false) s2 x2 = (ps, s3, x3)) (E : Int) (hE : endT s3 x3 = E) (C : Ak) (hC : (if E = 0 then ⟨false, N2, ps⟩ else akZ) = C) :
    Calls Tryd.prog 11 #[.string body] w (AckR w C E) := by
  have H1 := Lib.hid h1
  have HN1 := Lib.hid hn1
  have H2 := Lib.hid h2
  have HN2 := Lib.hid hn2
  have HM := Lib.hid hm
  have H3 := Lib.hid h3
  have HhE := Lib.hid hE
  have HhC := Lib.hid hC
  have HT := Lib.hid hT
  clear h1 hn1 h2 hn2 hm h3 hE hC hT
  go_enter Tryd.func11, Tryd.ntmps11
  go_wp2_with fail
  refine (over_calls _ _).mono ?_
  rintro e W1 ⟨rfl, rfl⟩
  have i1 := InAt.new (w.alloc (.cells ak0 41)) body
  have R1 := Lib.hid ((Below.heap_alloc (w.alloc (.cells ak0 41)) (.cells #[.string body, .int .i64 0] 103) w.heap.size (by simp)).trans (heap_alloc_new w (.cells ak0 41)))
  have B1 := Lib.hid (below_two w (.cells ak0 41) (.cells #[.string body, .int .i64 0] 103))
  rw [World.size_alloc] at i1 ⊢
  generalize ((w.alloc (.cells ak0 41)).alloc (.cells #[.string body, .int .i64 0] 103)) = W1 at *
  generalize hp : w.heap.size + 1 = p at *
  have hpl : w.heap.size < p := by omega
  clear hp
  have A0 := Lib.hid (show AkC w p body 0 W1 from ⟨i1, R1.out, B1.out, hpl⟩)
  clear i1 R1 B1
  go_wp2_with fail
  refine (byteIn_calls _ p body 0 t1 s1 x1 H1.out A0.out.inn).mono ?_
  rw [HN1.out]
  rintro e V1 ⟨rfl, i1, o1⟩
  have A1 := Lib.hid (A0.out.took i1 (Chg.of_only o1))
  clear i1 o1 A0
  go_wp2_with fail
  refine (byteIn_calls _ p s1 x1 t2 s2 x2 H2.out A1.out.inn).mono ?_
  rw [HN2.out]
  rintro e V2 ⟨rfl, i2, o2⟩
  have A2 := Lib.hid (A1.out.took i2 (Chg.of_only o2))
  clear i2 o2 A1
  go_wp2_with fail
  refine (may_calls _ 2 N2).mono ?_
  rw [HM.out]
  rintro e V2' ⟨rfl, rfl⟩
  go_wp2_with fail
  refine ((by have := take3_calls _ p s2 x2 2 false A2.out.inn (HT.out.below A2.out.bel); rw [H3.out] at this; exact this : Calls _ _ _ _ (TookL _ p (ps, s3, x3)))).mono ?_
  rintro e V4 ⟨vv, rfl, oo, -, i4, o4⟩
  have A3 := Lib.hid (A2.out.took i4 o4)
  dsimp only at oo
  have OO := Lib.hid (oo.mono (show p + 1 ≤ _ from A2.out.inn.lt))
  obtain ⟨va, vc, rfl⟩ := oo.form
  clear oo i4 o4 A2
  go_wp2_with fail
  refine (end_calls _ p s3 x3 A3.out.inn).mono ?_
  rw [HhE.out]
  rintro e w9 ⟨rfl, rfl⟩
  obtain ⟨r0, r1, r2, rf⟩ := cells3 A3.out.res
  have rl := lt_of_block A3.out.res
  by_cases hE : E = 0
  · subst hE
    have hCC := HhC.out
    rw [if_pos rfl] at hCC
    subst hCC
    go_wp2
    refine bodyPost_ret (v := .tuple #[.agg #[.bool false, .int .u8 N2, .slice va ps.length vc], .int .i64 0]) ?_ rfl ⟨.slice va ps.length vc, rfl, ?_, ?_⟩
    · simp [results, Tryd.results11, go_sem, r0, r1, r2]
    · refine OwnP.mono ?_ (show w.heap.size ≤ p + 1 by omega)
      iterate 3 (refine OwnP.set ?_ (Nat.lt_succ_of_lt hpl))
      exact OO.out
    · iterate 3 (refine below_set ?_ (Nat.le_refl _) _ _)
      exact A3.out.bel
  · have hEb : (E != 0) = true := by simpa using hE
    have hCC := HhC.out
    rw [if_neg hE] at hCC
    subst hCC
    go_wp2
    refine bodyPost_ret (v := .tuple #[.agg #[.bool false, .int .u8 0, .slice none 0 0], .int .i64 E]) ?_ rfl ⟨.slice none 0 0, rfl, World.ownsRow_nil _ _ _ _, ?_⟩
    · simp [results, Tryd.results11, go_sem, r0, r1, r2]
    · iterate 3 (refine below_set ?_ (Nat.le_refl _) _ _)
      exact A3.out.bel

set_option maxRecDepth 100000 in
set_option maxHeartbeats 4000000 in
theorem ack_sn0 (w : World) (body : ByteArray) (hT : Tabs w) (t1 s1 : ByteArray) (x1 : Int) (h1 : rawT body 0 1 = (t1, s1, x1)) (N1 : Int) (hn1 : (numL t1.data.toList : Int) = N1) (b1 : decide (1 < N1) = false) (b2 : (N1 == 1) = false) (t2 s2 : ByteArray) (x2 : Int) (h2 : rawT s1 x1 1 = (t2, s2, x2)) (N2 : Int) (hn2 : (numL t2.data.toList : Int) = N2) (hm : mayB 2 N2 = false) (ps : List Pr) (s3 : ByteArray) (x3 : Int) (h3 : takeR (placeN 2 false) s2 (failed x2 2) = (ps, s3, x3)) (E : Int) (hE : endT s3 x3 = E) (C : Ak) (hC : (if E = 0 then ⟨false, N2, ps⟩ else akZ) = C) :
    Calls Tryd.prog 11 #[.string body] w (AckR w C E) := by
  have H1 := Lib.hid h1
  have HN1 := Lib.hid hn1
  have H2 := Lib.hid h2
  have HN2 := Lib.hid hn2
  have HM := Lib.hid hm
  have H3 := Lib.hid h3
  have HhE := Lib.hid hE
  have HhC := Lib.hid hC
  have HT := Lib.hid hT
  clear h1 hn1 h2 hn2 hm h3 hE hC hT
  go_enter Tryd.func11, Tryd.ntmps11
  go_wp2_with fail
  refine (over_calls _ _).mono ?_
  rintro e W1 ⟨rfl, rfl⟩
  have i1 := InAt.new (w.alloc (.cells ak0 41)) body
  have R1 := Lib.hid ((Below.heap_alloc (w.alloc (.cells ak0 41)) (.cells #[.string body, .int .i64 0] 103) w.heap.size (by simp)).trans (heap_alloc_new w (.cells ak0 41)))
  have B1 := Lib.hid (below_two w (.cells ak0 41) (.cells #[.string body, .int .i64 0] 103))
  rw [World.size_alloc] at i1 ⊢
  generalize ((w.alloc (.cells ak0 41)).alloc (.cells #[.string body, .int .i64 0] 103)) = W1 at *
  generalize hp : w.heap.size + 1 = p at *
  have hpl : w.heap.size < p := by omega
  clear hp
  have A0 := Lib.hid (show AkC w p body 0 W1 from ⟨i1, R1.out, B1.out, hpl⟩)
  clear i1 R1 B1
  go_wp2_with fail
  refine (byteIn_calls _ p body 0 t1 s1 x1 H1.out A0.out.inn).mono ?_
  rw [HN1.out]
  rintro e V1 ⟨rfl, i1, o1⟩
  have A1 := Lib.hid (A0.out.took i1 (Chg.of_only o1))
  clear i1 o1 A0
  go_wp2_with fail
  refine (byteIn_calls _ p s1 x1 t2 s2 x2 H2.out A1.out.inn).mono ?_
  rw [HN2.out]
  rintro e V2 ⟨rfl, i2, o2⟩
  have A2 := Lib.hid (A1.out.took i2 (Chg.of_only o2))
  clear i2 o2 A1
  go_wp2_with fail
  refine (may_calls _ 2 N2).mono ?_
  rw [HM.out]
  rintro e V2' ⟨rfl, rfl⟩
  go_wp2_with fail
  refine (fail_calls _ p s2 x2 2 A2.out.inn).mono ?_
  rintro e V3' ⟨rfl, i1, o1⟩
  have A2' := Lib.hid (A2.out.took i1 (Chg.of_only o1))
  clear i1 o1 A2
  have A2 := A2'
  clear A2'
  go_wp2_with fail
  refine ((by have := take3_calls _ p s2 (failed x2 2) 2 false A2.out.inn (HT.out.below A2.out.bel); rw [H3.out] at this; exact this : Calls _ _ _ _ (TookL _ p (ps, s3, x3)))).mono ?_
  rintro e V4 ⟨vv, rfl, oo, -, i4, o4⟩
  have A3 := Lib.hid (A2.out.took i4 o4)
  dsimp only at oo
  have OO := Lib.hid (oo.mono (show p + 1 ≤ _ from A2.out.inn.lt))
  obtain ⟨va, vc, rfl⟩ := oo.form
  clear oo i4 o4 A2
  go_wp2_with fail
  refine (end_calls _ p s3 x3 A3.out.inn).mono ?_
  rw [HhE.out]
  rintro e w9 ⟨rfl, rfl⟩
  obtain ⟨r0, r1, r2, rf⟩ := cells3 A3.out.res
  have rl := lt_of_block A3.out.res
  by_cases hE : E = 0
  · subst hE
    have hCC := HhC.out
    rw [if_pos rfl] at hCC
    subst hCC
    go_wp2
    refine bodyPost_ret (v := .tuple #[.agg #[.bool false, .int .u8 N2, .slice va ps.length vc], .int .i64 0]) ?_ rfl ⟨.slice va ps.length vc, rfl, ?_, ?_⟩
    · simp [results, Tryd.results11, go_sem, r0, r1, r2]
    · refine OwnP.mono ?_ (show w.heap.size ≤ p + 1 by omega)
      iterate 3 (refine OwnP.set ?_ (Nat.lt_succ_of_lt hpl))
      exact OO.out
    · iterate 3 (refine below_set ?_ (Nat.le_refl _) _ _)
      exact A3.out.bel
  · have hEb : (E != 0) = true := by simpa using hE
    have hCC := HhC.out
    rw [if_neg hE] at hCC
    subst hCC
    go_wp2
    refine bodyPost_ret (v := .tuple #[.agg #[.bool false, .int .u8 0, .slice none 0 0], .int .i64 E]) ?_ rfl ⟨.slice none 0 0, rfl, World.ownsRow_nil _ _ _ _, ?_⟩
    · simp [results, Tryd.results11, go_sem, r0, r1, r2]
    · iterate 3 (refine below_set ?_ (Nat.le_refl _) _ _)
      exact A3.out.bel

set_option maxRecDepth 100000 in
set_option maxHeartbeats 4000000 in
theorem ack_sz1 (w : World) (body : ByteArray) (hT : Tabs w) (t1 s1 : ByteArray) (x1 : Int) (h1 : rawT body 0 1 = (t1, s1, x1)) (N1 : Int) (hn1 : (numL t1.data.toList : Int) = N1) (b1 : decide (1 < N1) = false) (b2 : (N1 == 1) = true) (t2 s2 : ByteArray) (x2 : Int) (h2 : rawT s1 x1 1 = (t2, s2, x2)) (N2 : Int) (hn2 : (numL t2.data.toList : Int) = N2) (hm : mayB 2 N2 = true) (b3 : (N2 != 0) = false) (ps : List Pr) (s3 : ByteArray) (x3 : Int) (h3 : takeR (placeN 2 false) s2 x2 = (ps, s3, x3)) (E : Int) (hE : endT s3 x3 = E) (C : Ak) (hC : (if E = 0 then ⟨true, N2, ps⟩ else akZ) = C) :
    Calls Tryd.prog 11 #[.string body] w (AckR w C E) := by
  have H1 := Lib.hid h1
  have HN1 := Lib.hid hn1
  have H2 := Lib.hid h2
  have HN2 := Lib.hid hn2
  have HM := Lib.hid hm
  have H3 := Lib.hid h3
  have HhE := Lib.hid hE
  have HhC := Lib.hid hC
  have HT := Lib.hid hT
  clear h1 hn1 h2 hn2 hm h3 hE hC hT
  go_enter Tryd.func11, Tryd.ntmps11
  go_wp2_with fail
  refine (over_calls _ _).mono ?_
  rintro e W1 ⟨rfl, rfl⟩
  have i1 := InAt.new (w.alloc (.cells ak0 41)) body
  have R1 := Lib.hid ((Below.heap_alloc (w.alloc (.cells ak0 41)) (.cells #[.string body, .int .i64 0] 103) w.heap.size (by simp)).trans (heap_alloc_new w (.cells ak0 41)))
  have B1 := Lib.hid (below_two w (.cells ak0 41) (.cells #[.string body, .int .i64 0] 103))
  rw [World.size_alloc] at i1 ⊢
  generalize ((w.alloc (.cells ak0 41)).alloc (.cells #[.string body, .int .i64 0] 103)) = W1 at *
  generalize hp : w.heap.size + 1 = p at *
  have hpl : w.heap.size < p := by omega
  clear hp
  have A0 := Lib.hid (show AkC w p body 0 W1 from ⟨i1, R1.out, B1.out, hpl⟩)
  clear i1 R1 B1
  go_wp2_with fail
  refine (byteIn_calls _ p body 0 t1 s1 x1 H1.out A0.out.inn).mono ?_
  rw [HN1.out]
  rintro e V1 ⟨rfl, i1, o1⟩
  have A1 := Lib.hid (A0.out.took i1 (Chg.of_only o1))
  clear i1 o1 A0
  go_wp2_with fail
  refine (byteIn_calls _ p s1 x1 t2 s2 x2 H2.out A1.out.inn).mono ?_
  rw [HN2.out]
  rintro e V2 ⟨rfl, i2, o2⟩
  have A2 := Lib.hid (A1.out.took i2 (Chg.of_only o2))
  clear i2 o2 A1
  go_wp2_with fail
  refine (may_calls _ 2 N2).mono ?_
  rw [HM.out]
  rintro e V2' ⟨rfl, rfl⟩
  go_wp2_with fail
  refine ((by have := take3_calls _ p s2 x2 2 false A2.out.inn (HT.out.below A2.out.bel); rw [H3.out] at this; exact this : Calls _ _ _ _ (TookL _ p (ps, s3, x3)))).mono ?_
  rintro e V4 ⟨vv, rfl, oo, -, i4, o4⟩
  have A3 := Lib.hid (A2.out.took i4 o4)
  dsimp only at oo
  have OO := Lib.hid (oo.mono (show p + 1 ≤ _ from A2.out.inn.lt))
  obtain ⟨va, vc, rfl⟩ := oo.form
  clear oo i4 o4 A2
  go_wp2_with fail
  refine (end_calls _ p s3 x3 A3.out.inn).mono ?_
  rw [HhE.out]
  rintro e w9 ⟨rfl, rfl⟩
  obtain ⟨r0, r1, r2, rf⟩ := cells3 A3.out.res
  have rl := lt_of_block A3.out.res
  by_cases hE : E = 0
  · subst hE
    have hCC := HhC.out
    rw [if_pos rfl] at hCC
    subst hCC
    go_wp2
    refine bodyPost_ret (v := .tuple #[.agg #[.bool true, .int .u8 N2, .slice va ps.length vc], .int .i64 0]) ?_ rfl ⟨.slice va ps.length vc, rfl, ?_, ?_⟩
    · simp [results, Tryd.results11, go_sem, r0, r1, r2]
    · refine OwnP.mono ?_ (show w.heap.size ≤ p + 1 by omega)
      iterate 3 (refine OwnP.set ?_ (Nat.lt_succ_of_lt hpl))
      exact OO.out
    · iterate 3 (refine below_set ?_ (Nat.le_refl _) _ _)
      exact A3.out.bel
  · have hEb : (E != 0) = true := by simpa using hE
    have hCC := HhC.out
    rw [if_neg hE] at hCC
    subst hCC
    go_wp2
    refine bodyPost_ret (v := .tuple #[.agg #[.bool false, .int .u8 0, .slice none 0 0], .int .i64 E]) ?_ rfl ⟨.slice none 0 0, rfl, World.ownsRow_nil _ _ _ _, ?_⟩
    · simp [results, Tryd.results11, go_sem, r0, r1, r2]
    · iterate 3 (refine below_set ?_ (Nat.le_refl _) _ _)
      exact A3.out.bel

set_option maxRecDepth 100000 in
set_option maxHeartbeats 4000000 in
theorem ack_sz0 (w : World) (body : ByteArray) (hT : Tabs w) (t1 s1 : ByteArray) (x1 : Int) (h1 : rawT body 0 1 = (t1, s1, x1)) (N1 : Int) (hn1 : (numL t1.data.toList : Int) = N1) (b1 : decide (1 < N1) = false) (b2 : (N1 == 1) = true) (t2 s2 : ByteArray) (x2 : Int) (h2 : rawT s1 x1 1 = (t2, s2, x2)) (N2 : Int) (hn2 : (numL t2.data.toList : Int) = N2) (hm : mayB 2 N2 = false) (b3 : (N2 != 0) = false) (ps : List Pr) (s3 : ByteArray) (x3 : Int) (h3 : takeR (placeN 2 false) s2 (failed x2 2) = (ps, s3, x3)) (E : Int) (hE : endT s3 x3 = E) (C : Ak) (hC : (if E = 0 then ⟨true, N2, ps⟩ else akZ) = C) :
    Calls Tryd.prog 11 #[.string body] w (AckR w C E) := by
  have H1 := Lib.hid h1
  have HN1 := Lib.hid hn1
  have H2 := Lib.hid h2
  have HN2 := Lib.hid hn2
  have HM := Lib.hid hm
  have H3 := Lib.hid h3
  have HhE := Lib.hid hE
  have HhC := Lib.hid hC
  have HT := Lib.hid hT
  clear h1 hn1 h2 hn2 hm h3 hE hC hT
  go_enter Tryd.func11, Tryd.ntmps11
  go_wp2_with fail
  refine (over_calls _ _).mono ?_
  rintro e W1 ⟨rfl, rfl⟩
  have i1 := InAt.new (w.alloc (.cells ak0 41)) body
  have R1 := Lib.hid ((Below.heap_alloc (w.alloc (.cells ak0 41)) (.cells #[.string body, .int .i64 0] 103) w.heap.size (by simp)).trans (heap_alloc_new w (.cells ak0 41)))
  have B1 := Lib.hid (below_two w (.cells ak0 41) (.cells #[.string body, .int .i64 0] 103))
  rw [World.size_alloc] at i1 ⊢
  generalize ((w.alloc (.cells ak0 41)).alloc (.cells #[.string body, .int .i64 0] 103)) = W1 at *
  generalize hp : w.heap.size + 1 = p at *
  have hpl : w.heap.size < p := by omega
  clear hp
  have A0 := Lib.hid (show AkC w p body 0 W1 from ⟨i1, R1.out, B1.out, hpl⟩)
  clear i1 R1 B1
  go_wp2_with fail
  refine (byteIn_calls _ p body 0 t1 s1 x1 H1.out A0.out.inn).mono ?_
  rw [HN1.out]
  rintro e V1 ⟨rfl, i1, o1⟩
  have A1 := Lib.hid (A0.out.took i1 (Chg.of_only o1))
  clear i1 o1 A0
  go_wp2_with fail
  refine (byteIn_calls _ p s1 x1 t2 s2 x2 H2.out A1.out.inn).mono ?_
  rw [HN2.out]
  rintro e V2 ⟨rfl, i2, o2⟩
  have A2 := Lib.hid (A1.out.took i2 (Chg.of_only o2))
  clear i2 o2 A1
  go_wp2_with fail
  refine (may_calls _ 2 N2).mono ?_
  rw [HM.out]
  rintro e V2' ⟨rfl, rfl⟩
  go_wp2_with fail
  refine (fail_calls _ p s2 x2 2 A2.out.inn).mono ?_
  rintro e V3' ⟨rfl, i1, o1⟩
  have A2' := Lib.hid (A2.out.took i1 (Chg.of_only o1))
  clear i1 o1 A2
  have A2 := A2'
  clear A2'
  go_wp2_with fail
  refine ((by have := take3_calls _ p s2 (failed x2 2) 2 false A2.out.inn (HT.out.below A2.out.bel); rw [H3.out] at this; exact this : Calls _ _ _ _ (TookL _ p (ps, s3, x3)))).mono ?_
  rintro e V4 ⟨vv, rfl, oo, -, i4, o4⟩
  have A3 := Lib.hid (A2.out.took i4 o4)
  dsimp only at oo
  have OO := Lib.hid (oo.mono (show p + 1 ≤ _ from A2.out.inn.lt))
  obtain ⟨va, vc, rfl⟩ := oo.form
  clear oo i4 o4 A2
  go_wp2_with fail
  refine (end_calls _ p s3 x3 A3.out.inn).mono ?_
  rw [HhE.out]
  rintro e w9 ⟨rfl, rfl⟩
  obtain ⟨r0, r1, r2, rf⟩ := cells3 A3.out.res
  have rl := lt_of_block A3.out.res
  by_cases hE : E = 0
  · subst hE
    have hCC := HhC.out
    rw [if_pos rfl] at hCC
    subst hCC
    go_wp2
    refine bodyPost_ret (v := .tuple #[.agg #[.bool true, .int .u8 N2, .slice va ps.length vc], .int .i64 0]) ?_ rfl ⟨.slice va ps.length vc, rfl, ?_, ?_⟩
    · simp [results, Tryd.results11, go_sem, r0, r1, r2]
    · refine OwnP.mono ?_ (show w.heap.size ≤ p + 1 by omega)
      iterate 3 (refine OwnP.set ?_ (Nat.lt_succ_of_lt hpl))
      exact OO.out
    · iterate 3 (refine below_set ?_ (Nat.le_refl _) _ _)
      exact A3.out.bel
  · have hEb : (E != 0) = true := by simpa using hE
    have hCC := HhC.out
    rw [if_neg hE] at hCC
    subst hCC
    go_wp2
    refine bodyPost_ret (v := .tuple #[.agg #[.bool false, .int .u8 0, .slice none 0 0], .int .i64 E]) ?_ rfl ⟨.slice none 0 0, rfl, World.ownsRow_nil _ _ _ _, ?_⟩
    · simp [results, Tryd.results11, go_sem, r0, r1, r2]
    · iterate 3 (refine below_set ?_ (Nat.le_refl _) _ _)
      exact A3.out.bel

set_option maxRecDepth 100000 in
set_option maxHeartbeats 4000000 in
theorem ack_se1 (w : World) (body : ByteArray) (hT : Tabs w) (t1 s1 : ByteArray) (x1 : Int) (h1 : rawT body 0 1 = (t1, s1, x1)) (N1 : Int) (hn1 : (numL t1.data.toList : Int) = N1) (b1 : decide (1 < N1) = false) (b2 : (N1 == 1) = true) (t2 s2 : ByteArray) (x2 : Int) (h2 : rawT s1 x1 1 = (t2, s2, x2)) (N2 : Int) (hn2 : (numL t2.data.toList : Int) = N2) (hm : mayB 2 N2 = true) (b3 : (N2 != 0) = true) (ps : List Pr) (s3 : ByteArray) (x3 : Int) (h3 : takeR (placeN 2 false) s2 x2 = (ps, s3, x3)) (E : Int) (hE : endT s3 (failed x3 3) = E) (C : Ak) (hC : (if E = 0 then ⟨true, N2, ps⟩ else akZ) = C) :
    Calls Tryd.prog 11 #[.string body] w (AckR w C E) := by
  have H1 := Lib.hid h1
  have HN1 := Lib.hid hn1
  have H2 := Lib.hid h2
  have HN2 := Lib.hid hn2
  have HM := Lib.hid hm
  have H3 := Lib.hid h3
  have HhE := Lib.hid hE
  have HhC := Lib.hid hC
  have HT := Lib.hid hT
  clear h1 hn1 h2 hn2 hm h3 hE hC hT
  go_enter Tryd.func11, Tryd.ntmps11
  go_wp2_with fail
  refine (over_calls _ _).mono ?_
  rintro e W1 ⟨rfl, rfl⟩
  have i1 := InAt.new (w.alloc (.cells ak0 41)) body
  have R1 := Lib.hid ((Below.heap_alloc (w.alloc (.cells ak0 41)) (.cells #[.string body, .int .i64 0] 103) w.heap.size (by simp)).trans (heap_alloc_new w (.cells ak0 41)))
  have B1 := Lib.hid (below_two w (.cells ak0 41) (.cells #[.string body, .int .i64 0] 103))
  rw [World.size_alloc] at i1 ⊢
  generalize ((w.alloc (.cells ak0 41)).alloc (.cells #[.string body, .int .i64 0] 103)) = W1 at *
  generalize hp : w.heap.size + 1 = p at *
  have hpl : w.heap.size < p := by omega
  clear hp
  have A0 := Lib.hid (show AkC w p body 0 W1 from ⟨i1, R1.out, B1.out, hpl⟩)
  clear i1 R1 B1
  go_wp2_with fail
  refine (byteIn_calls _ p body 0 t1 s1 x1 H1.out A0.out.inn).mono ?_
  rw [HN1.out]
  rintro e V1 ⟨rfl, i1, o1⟩
  have A1 := Lib.hid (A0.out.took i1 (Chg.of_only o1))
  clear i1 o1 A0
  go_wp2_with fail
  refine (byteIn_calls _ p s1 x1 t2 s2 x2 H2.out A1.out.inn).mono ?_
  rw [HN2.out]
  rintro e V2 ⟨rfl, i2, o2⟩
  have A2 := Lib.hid (A1.out.took i2 (Chg.of_only o2))
  clear i2 o2 A1
  go_wp2_with fail
  refine (may_calls _ 2 N2).mono ?_
  rw [HM.out]
  rintro e V2' ⟨rfl, rfl⟩
  go_wp2_with fail
  refine ((by have := take3_calls _ p s2 x2 2 false A2.out.inn (HT.out.below A2.out.bel); rw [H3.out] at this; exact this : Calls _ _ _ _ (TookL _ p (ps, s3, x3)))).mono ?_
  rintro e V4 ⟨vv, rfl, oo, -, i4, o4⟩
  have A3 := Lib.hid (A2.out.took i4 o4)
  dsimp only at oo
  have OO := Lib.hid (oo.mono (show p + 1 ≤ _ from A2.out.inn.lt))
  obtain ⟨va, vc, rfl⟩ := oo.form
  clear oo i4 o4 A2
  go_wp2_with fail
  refine (fail_calls _ p s3 x3 3 A3.out.inn).mono ?_
  rintro e V5 ⟨rfl, i1, o1⟩
  have A3' := Lib.hid (A3.out.took i1 (Chg.of_only o1))
  have OO' := Lib.hid (OO.out.chg (Chg.of_only o1) (Nat.lt_succ_self p))
  clear i1 o1 A3 OO
  have A3 := A3'
  have OO := OO'
  clear A3' OO'
  go_wp2_with fail
  refine (end_calls _ p s3 (failed x3 3) A3.out.inn).mono ?_
  rw [HhE.out]
  rintro e w9 ⟨rfl, rfl⟩
  obtain ⟨r0, r1, r2, rf⟩ := cells3 A3.out.res
  have rl := lt_of_block A3.out.res
  by_cases hE : E = 0
  · subst hE
    have hCC := HhC.out
    rw [if_pos rfl] at hCC
    subst hCC
    go_wp2
    refine bodyPost_ret (v := .tuple #[.agg #[.bool true, .int .u8 N2, .slice va ps.length vc], .int .i64 0]) ?_ rfl ⟨.slice va ps.length vc, rfl, ?_, ?_⟩
    · simp [results, Tryd.results11, go_sem, r0, r1, r2]
    · refine OwnP.mono ?_ (show w.heap.size ≤ p + 1 by omega)
      iterate 3 (refine OwnP.set ?_ (Nat.lt_succ_of_lt hpl))
      exact OO.out
    · iterate 3 (refine below_set ?_ (Nat.le_refl _) _ _)
      exact A3.out.bel
  · have hEb : (E != 0) = true := by simpa using hE
    have hCC := HhC.out
    rw [if_neg hE] at hCC
    subst hCC
    go_wp2
    refine bodyPost_ret (v := .tuple #[.agg #[.bool false, .int .u8 0, .slice none 0 0], .int .i64 E]) ?_ rfl ⟨.slice none 0 0, rfl, World.ownsRow_nil _ _ _ _, ?_⟩
    · simp [results, Tryd.results11, go_sem, r0, r1, r2]
    · iterate 3 (refine below_set ?_ (Nat.le_refl _) _ _)
      exact A3.out.bel

set_option maxRecDepth 100000 in
set_option maxHeartbeats 4000000 in
theorem ack_se0 (w : World) (body : ByteArray) (hT : Tabs w) (t1 s1 : ByteArray) (x1 : Int) (h1 : rawT body 0 1 = (t1, s1, x1)) (N1 : Int) (hn1 : (numL t1.data.toList : Int) = N1) (b1 : decide (1 < N1) = false) (b2 : (N1 == 1) = true) (t2 s2 : ByteArray) (x2 : Int) (h2 : rawT s1 x1 1 = (t2, s2, x2)) (N2 : Int) (hn2 : (numL t2.data.toList : Int) = N2) (hm : mayB 2 N2 = false) (b3 : (N2 != 0) = true) (ps : List Pr) (s3 : ByteArray) (x3 : Int) (h3 : takeR (placeN 2 false) s2 (failed x2 2) = (ps, s3, x3)) (E : Int) (hE : endT s3 (failed x3 3) = E) (C : Ak) (hC : (if E = 0 then ⟨true, N2, ps⟩ else akZ) = C) :
    Calls Tryd.prog 11 #[.string body] w (AckR w C E) := by
  have H1 := Lib.hid h1
  have HN1 := Lib.hid hn1
  have H2 := Lib.hid h2
  have HN2 := Lib.hid hn2
  have HM := Lib.hid hm
  have H3 := Lib.hid h3
  have HhE := Lib.hid hE
  have HhC := Lib.hid hC
  have HT := Lib.hid hT
  clear h1 hn1 h2 hn2 hm h3 hE hC hT
  go_enter Tryd.func11, Tryd.ntmps11
  go_wp2_with fail
  refine (over_calls _ _).mono ?_
  rintro e W1 ⟨rfl, rfl⟩
  have i1 := InAt.new (w.alloc (.cells ak0 41)) body
  have R1 := Lib.hid ((Below.heap_alloc (w.alloc (.cells ak0 41)) (.cells #[.string body, .int .i64 0] 103) w.heap.size (by simp)).trans (heap_alloc_new w (.cells ak0 41)))
  have B1 := Lib.hid (below_two w (.cells ak0 41) (.cells #[.string body, .int .i64 0] 103))
  rw [World.size_alloc] at i1 ⊢
  generalize ((w.alloc (.cells ak0 41)).alloc (.cells #[.string body, .int .i64 0] 103)) = W1 at *
  generalize hp : w.heap.size + 1 = p at *
  have hpl : w.heap.size < p := by omega
  clear hp
  have A0 := Lib.hid (show AkC w p body 0 W1 from ⟨i1, R1.out, B1.out, hpl⟩)
  clear i1 R1 B1
  go_wp2_with fail
  refine (byteIn_calls _ p body 0 t1 s1 x1 H1.out A0.out.inn).mono ?_
  rw [HN1.out]
  rintro e V1 ⟨rfl, i1, o1⟩
  have A1 := Lib.hid (A0.out.took i1 (Chg.of_only o1))
  clear i1 o1 A0
  go_wp2_with fail
  refine (byteIn_calls _ p s1 x1 t2 s2 x2 H2.out A1.out.inn).mono ?_
  rw [HN2.out]
  rintro e V2 ⟨rfl, i2, o2⟩
  have A2 := Lib.hid (A1.out.took i2 (Chg.of_only o2))
  clear i2 o2 A1
  go_wp2_with fail
  refine (may_calls _ 2 N2).mono ?_
  rw [HM.out]
  rintro e V2' ⟨rfl, rfl⟩
  go_wp2_with fail
  refine (fail_calls _ p s2 x2 2 A2.out.inn).mono ?_
  rintro e V3' ⟨rfl, i1, o1⟩
  have A2' := Lib.hid (A2.out.took i1 (Chg.of_only o1))
  clear i1 o1 A2
  have A2 := A2'
  clear A2'
  go_wp2_with fail
  refine ((by have := take3_calls _ p s2 (failed x2 2) 2 false A2.out.inn (HT.out.below A2.out.bel); rw [H3.out] at this; exact this : Calls _ _ _ _ (TookL _ p (ps, s3, x3)))).mono ?_
  rintro e V4 ⟨vv, rfl, oo, -, i4, o4⟩
  have A3 := Lib.hid (A2.out.took i4 o4)
  dsimp only at oo
  have OO := Lib.hid (oo.mono (show p + 1 ≤ _ from A2.out.inn.lt))
  obtain ⟨va, vc, rfl⟩ := oo.form
  clear oo i4 o4 A2
  go_wp2_with fail
  refine (fail_calls _ p s3 x3 3 A3.out.inn).mono ?_
  rintro e V5 ⟨rfl, i1, o1⟩
  have A3' := Lib.hid (A3.out.took i1 (Chg.of_only o1))
  have OO' := Lib.hid (OO.out.chg (Chg.of_only o1) (Nat.lt_succ_self p))
  clear i1 o1 A3 OO
  have A3 := A3'
  have OO := OO'
  clear A3' OO'
  go_wp2_with fail
  refine (end_calls _ p s3 (failed x3 3) A3.out.inn).mono ?_
  rw [HhE.out]
  rintro e w9 ⟨rfl, rfl⟩
  obtain ⟨r0, r1, r2, rf⟩ := cells3 A3.out.res
  have rl := lt_of_block A3.out.res
  by_cases hE : E = 0
  · subst hE
    have hCC := HhC.out
    rw [if_pos rfl] at hCC
    subst hCC
    go_wp2
    refine bodyPost_ret (v := .tuple #[.agg #[.bool true, .int .u8 N2, .slice va ps.length vc], .int .i64 0]) ?_ rfl ⟨.slice va ps.length vc, rfl, ?_, ?_⟩
    · simp [results, Tryd.results11, go_sem, r0, r1, r2]
    · refine OwnP.mono ?_ (show w.heap.size ≤ p + 1 by omega)
      iterate 3 (refine OwnP.set ?_ (Nat.lt_succ_of_lt hpl))
      exact OO.out
    · iterate 3 (refine below_set ?_ (Nat.le_refl _) _ _)
      exact A3.out.bel
  · have hEb : (E != 0) = true := by simpa using hE
    have hCC := HhC.out
    rw [if_neg hE] at hCC
    subst hCC
    go_wp2
    refine bodyPost_ret (v := .tuple #[.agg #[.bool false, .int .u8 0, .slice none 0 0], .int .i64 E]) ?_ rfl ⟨.slice none 0 0, rfl, World.ownsRow_nil _ _ _ _, ?_⟩
    · simp [results, Tryd.results11, go_sem, r0, r1, r2]
    · iterate 3 (refine below_set ?_ (Nat.le_refl _) _ _)
      exact A3.out.bel

/-- The errors between the parts. -/
def akX1 (n x : Int) : Int := if decide (1 < n) = true then failed x 2 else x
def akX2 (n x : Int) : Int := if mayB 2 n = true then x else failed x 2
def akX3 (n1 n2 x : Int) : Int := if (n1 == 1) = true then (if (n2 != 0) = true then failed x 3 else x) else x
/-- What a body says. -/
def AckOf (body : ByteArray) (N1 N2 : Int) (ps : List Pr) (E : Int) : Prop :=
  ∃ t1 s1 x1 t2 s2 x2 s3 x3, rawT body 0 1 = (t1, s1, x1) ∧ (numL t1.data.toList : Int) = N1 ∧ rawT s1 (akX1 N1 x1) 1 = (t2, s2, x2) ∧ (numL t2.data.toList : Int) = N2 ∧ takeR (placeN 2 false) s2 (akX2 N2 x2) = (ps, s3, x3) ∧ endT s3 (akX3 N1 N2 x3) = E

theorem ack_calls (body : ByteArray) : ∃ (N1 N2 : Int) (ps : List Pr) (E : Int), AckOf body N1 N2 ps E ∧ ∀ (w : World), Tabs w → ∀ C : Ak, (if E = 0 then ⟨N1 == 1, N2, ps⟩ else akZ) = C → Calls Tryd.prog 11 #[.string body] w (AckR w C E) := by
  rcases h1 : rawT body 0 1 with ⟨t1, s1, x1⟩
  generalize hn1 : (numL t1.data.toList : Int) = N1
  rcases h2 : rawT s1 (akX1 N1 x1) 1 with ⟨t2, s2, x2⟩
  generalize hn2 : (numL t2.data.toList : Int) = N2
  rcases h3 : takeR (placeN 2 false) s2 (akX2 N2 x2) with ⟨ps, s3, x3⟩
  generalize hE : endT s3 (akX3 N1 N2 x3) = E
  refine ⟨N1, N2, ps, E, ⟨t1, s1, x1, t2, s2, x2, s3, x3, h1, hn1, h2, hn2, h3, hE⟩, ?_⟩
  intro w hT C hC
  unfold akX1 at h2
  unfold akX2 at h3
  unfold akX3 at hE
  cases b1 : decide (1 < N1) <;> rw [b1] at h2 <;> cases hm : mayB 2 N2 <;> rw [hm] at h3 <;> cases b2 : (N1 == 1) <;> rw [b2] at hE hC <;> simp only [if_true, if_false, Bool.false_eq_true] at h2 h3 hE
  · exact ack_sn0 w body hT t1 s1 x1 h1 N1 hn1 b1 b2 t2 s2 x2 h2 N2 hn2 hm ps s3 x3 h3 E hE C hC
  · cases b3 : (N2 != 0) <;> rw [b3] at hE <;> simp only [if_true, if_false, Bool.false_eq_true] at hE
    · exact ack_sz0 w body hT t1 s1 x1 h1 N1 hn1 b1 b2 t2 s2 x2 h2 N2 hn2 hm b3 ps s3 x3 h3 E hE C hC
    · exact ack_se0 w body hT t1 s1 x1 h1 N1 hn1 b1 b2 t2 s2 x2 h2 N2 hn2 hm b3 ps s3 x3 h3 E hE C hC
  · exact ack_sn1 w body hT t1 s1 x1 h1 N1 hn1 b1 b2 t2 s2 x2 h2 N2 hn2 hm ps s3 x3 h3 E hE C hC
  · cases b3 : (N2 != 0) <;> rw [b3] at hE <;> simp only [if_true, if_false, Bool.false_eq_true] at hE
    · exact ack_sz1 w body hT t1 s1 x1 h1 N1 hn1 b1 b2 t2 s2 x2 h2 N2 hn2 hm b3 ps s3 x3 h3 E hE C hC
    · exact ack_se1 w body hT t1 s1 x1 h1 N1 hn1 b1 b2 t2 s2 x2 h2 N2 hn2 hm b3 ps s3 x3 h3 E hE C hC
  · exact ack_bn0 w body hT t1 s1 x1 h1 N1 hn1 b1 b2 t2 s2 x2 h2 N2 hn2 hm ps s3 x3 h3 E hE C hC
  · exfalso; simp at b1 b2; omega
  · exact ack_bn1 w body hT t1 s1 x1 h1 N1 hn1 b1 b2 t2 s2 x2 h2 N2 hn2 hm ps s3 x3 h3 E hE C hC
  · exfalso; simp at b1 b2; omega

/-- A connack's bytes. -/
def ackL (a : Ak) : List UInt8 := [] ++ [UInt8.ofNat (btN a.pr 1).toNat] ++ [UInt8.ofNat a.code.toNat] ++ propsL a.ps

theorem ack_inv {body : ByteArray} {N1 N2 : Int} {ps : List Pr} (h : AckOf body N1 N2 ps 0) (hl : body.size ≤ 1000) : body = str (ackL ⟨N1 == 1, N2, ps⟩) ∧ 0 ≤ N2 ∧ N2 < 256 ∧ (∀ p ∈ ps, p.ok) ∧ ps.length ≤ 1000 := by
  obtain ⟨t1, s1, x1, t2, s2, x2, s3, x3, h1, hn1, h2, hn2, h3, hE⟩ := h
  have hx : akX3 N1 N2 x3 = 0 ∧ s3.size = 0 := by
    unfold endT at hE
    split at hE
    · omega
    · omega
  have hx3 : x3 = 0 := by
    have := hx.1
    unfold akX3 failed at this
    split at this
    · split at this
      · split at this <;> omega
      · exact this
    · exact this
  subst hx3
  obtain ⟨e3, d3, ok3, n3⟩ := take_invX h3
  have hx2 : x2 = 0 := by
    unfold akX2 at e3
    split at e3
    · exact e3
    · exact absurd e3 (failed_ne x2)
  subst hx2
  obtain ⟨e2, d2, z2⟩ := raw_invX (n := 1) h2
  have hx1 : x1 = 0 ∧ N1 ≤ 1 := by
    unfold akX1 at e2
    split at e2
    · exact absurd e2 (failed_ne x1)
    · rename_i hd
      simp at hd
      exact ⟨e2, hd⟩
  obtain ⟨rfl, hN⟩ := hx1
  obtain ⟨-, d1, z1⟩ := raw_invX (n := 1) h1
  obtain ⟨f1, f2⟩ := num1_inv _ z1
  obtain ⟨g1, g2⟩ := num1_inv _ z2
  have hten : s3.data.toList = [] := List.eq_nil_of_length_eq_zero (by rw [ba_size]; exact hx.2)
  have hb : body.data.toList.length ≤ 1000 := by rw [ba_size]; exact hl
  have l1 := congrArg List.length d1
  have l2 := congrArg List.length d2
  rw [List.length_append] at l1 l2
  refine ⟨?_, by omega, by omega, ok3, by omega⟩
  rw [ba_str body]
  congr 1
  unfold ackL
  dsimp only
  have hbt : btN (N1 == 1) 1 = N1 := by
    unfold btN
    split
    · rename_i he; simp at he; omega
    · rename_i he; simp at he; omega
  rw [hn1] at f1
  rw [hn2] at g1
  have m1 : (N1 % 256).toNat = N1.toNat := by omega
  have m2 : (N2 % 256).toNat = N2.toNat := by omega
  rw [m1] at f1
  rw [m2] at g1
  rw [hbt, f1, g1, d1, d2, d3, hten, List.append_nil]
  simp

#print axioms ack_calls
#print axioms ack_inv

end Go.Proofs.YtdhdjkpocdfjbabDoor
