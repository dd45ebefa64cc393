/-
  Several texts, one behind the other. (No statement: contracts that the proofs of the statements use.)
-/
import Derived.Test.YtacffjimkplieaaDoorJPropsB
import Derived.Outline
import Derived.BigRegion
import Derived.Deep.RegionHeld3
namespace Go.Proofs.YtacffjimkplieaaDoor
open Go.RowKit

/-- The blocks of take: the cursor, both results, the property. -/
structure TkC (w : World) (s : ByteArray) (e : Int) (i n : Int) (a b : ByteArray) (x : World) : Prop where
  c2 : x.heap[w.heap.size]? = some (.cells #[.string s, .int .i64 e] 140 (0, 0))
  c4 : x.heap[w.heap.size + 1]? = some (.cells #[.string ⟨#[]⟩, .int .i64 0] 140 (0, 0))
  c5 : x.heap[w.heap.size + 1 + 1]? = some (.cells #[.int .i64 0, .int .u32 0, .string ⟨#[]⟩, .string ⟨#[]⟩] 153 (0, 0))
  c6 : x.heap[w.heap.size + 1 + 1 + 1]? = some (.cells #[.int .i64 i, .int .u32 n, .string a, .string b] 153 (0, 0))
  bel : Below w.heap.size w x

theorem TkC.next {w : World} {s : ByteArray} {e i n : Int} {a b : ByteArray} {x y : World} (h : TkC w s e i n a b x) (hb : Below x.heap.size x y) : TkC w s e i n a b y :=
  ⟨(hb.block _ (lt_of_block h.c2)).trans h.c2, (hb.block _ (lt_of_block h.c4)).trans h.c4, (hb.block _ (lt_of_block h.c5)).trans h.c5, (hb.block _ (lt_of_block h.c6)).trans h.c6, Below.next h.bel hb⟩
theorem new_at {w : World} {o : Obj} {b : Nat} (h : b = w.heap.size) : (w.alloc o).heap[b]? = some o := h ▸ heap_alloc_new w o
theorem TkC.start (w : World) (s : ByteArray) (i : Int) : TkC w s 0 i 0 ⟨#[]⟩ ⟨#[]⟩ ((((w.alloc (.cells #[.string s, .int .i64 0] 140)).alloc (.cells #[.string ⟨#[]⟩, .int .i64 0] 140)).alloc (.cells #[.int .i64 0, .int .u32 0, .string ⟨#[]⟩, .string ⟨#[]⟩] 153)).alloc (.cells #[.int .i64 i, .int .u32 0, .string ⟨#[]⟩, .string ⟨#[]⟩] 153)) := by
  refine ⟨?_, ?_, ?_, ?_, ?_⟩
  · rw [Below.heap_alloc _ _ _ (by simp; omega), Below.heap_alloc _ _ _ (by simp; omega), Below.heap_alloc _ _ _ (by simp)]
    exact heap_alloc_new w _
  · rw [Below.heap_alloc _ _ _ (by simp), Below.heap_alloc _ _ _ (by simp)]
    exact new_at (by simp)
  · rw [Below.heap_alloc _ _ _ (by simp)]
    exact new_at (by simp)
  · exact new_at (by simp)
  · exact (((below_two w _ _).alloc (by simp; omega) _).alloc (by simp; omega) _)

/-- The cursor, and one cell of the property, stored. -/
theorem TkC.setc {w : World} {s : ByteArray} {e i n : Int} {a b : ByteArray} {x : World} (h : TkC w s e i n a b x) (s' : ByteArray) (e' : Int) : TkC w s' e' i n a b ((x.setCell ⟨w.heap.size, 0, none⟩ (.string s')).setCell ⟨w.heap.size, 1, none⟩ (.int .i64 e')) :=
  ⟨pair_set h.c2, (far_set (by omega)).trans h.c4, (far_set (by omega)).trans h.c5, (far_set (by omega)).trans h.c6, (h.bel.setCell (Nat.le_refl _) _).setCell (Nat.le_refl _) _⟩
theorem four_set {w : World} {b j : Nat} {u0 u1 u2 u3 v : Value} {t : TypeId} (h : w.heap[b]? = some (.cells #[u0, u1, u2, u3] t (0, 0))) : (w.setCell ⟨b, j, none⟩ v).heap[b]? = some (.cells (#[u0, u1, u2, u3].setIfInBounds j v) t (0, 0)) := by
  have hb := lt_of_block h
  simp [World.setCell, Array.getElem?_modify, h]
theorem TkC.setn {w : World} {s : ByteArray} {e i n : Int} {a b : ByteArray} {x : World} (h : TkC w s e i n a b x) (n' : Int) : TkC w s e i n' a b (x.setCell ⟨w.heap.size + 1 + 1 + 1, 1, none⟩ (.int .u32 n')) :=
  ⟨(Below.heap_setCell _ _ _ _ (by show w.heap.size ≠ w.heap.size + 1 + 1 + 1; omega)).trans h.c2, (Below.heap_setCell _ _ _ _ (by show w.heap.size + 1 ≠ w.heap.size + 1 + 1 + 1; omega)).trans h.c4, (Below.heap_setCell _ _ _ _ (by show w.heap.size + 1 + 1 ≠ w.heap.size + 1 + 1 + 1; omega)).trans h.c5, four_set h.c6, h.bel.setCell (by show w.heap.size ≤ w.heap.size + 1 + 1 + 1; omega) _⟩
theorem TkC.seta {w : World} {s : ByteArray} {e i n : Int} {a b : ByteArray} {x : World} (h : TkC w s e i n a b x) (a' : ByteArray) : TkC w s e i n a' b (x.setCell ⟨w.heap.size + 1 + 1 + 1, 2, none⟩ (.string a')) :=
  ⟨(Below.heap_setCell _ _ _ _ (by show w.heap.size ≠ w.heap.size + 1 + 1 + 1; omega)).trans h.c2, (Below.heap_setCell _ _ _ _ (by show w.heap.size + 1 ≠ w.heap.size + 1 + 1 + 1; omega)).trans h.c4, (Below.heap_setCell _ _ _ _ (by show w.heap.size + 1 + 1 ≠ w.heap.size + 1 + 1 + 1; omega)).trans h.c5, four_set h.c6, h.bel.setCell (by show w.heap.size ≤ w.heap.size + 1 + 1 + 1; omega) _⟩
theorem TkC.setb {w : World} {s : ByteArray} {e i n : Int} {a b : ByteArray} {x : World} (h : TkC w s e i n a b x) (b' : ByteArray) : TkC w s e i n a b' (x.setCell ⟨w.heap.size + 1 + 1 + 1, 3, none⟩ (.string b')) :=
  ⟨(Below.heap_setCell _ _ _ _ (by show w.heap.size ≠ w.heap.size + 1 + 1 + 1; omega)).trans h.c2, (Below.heap_setCell _ _ _ _ (by show w.heap.size + 1 ≠ w.heap.size + 1 + 1 + 1; omega)).trans h.c4, (Below.heap_setCell _ _ _ _ (by show w.heap.size + 1 + 1 ≠ w.heap.size + 1 + 1 + 1; omega)).trans h.c5, four_set h.c6, h.bel.setCell (by show w.heap.size ≤ w.heap.size + 1 + 1 + 1; omega) _⟩

/-- What take answers, and leaves. -/
def TookR (w : World) (s2 : ByteArray) (x : Int) (y : Pr) (e : Ending) (w' : World) : Prop := ∃ p, e = .returned (.tuple #[cur s2 x, prV p]) ∧ (x = 0 → p = y) ∧ Below w.heap.size w w'

/-- All cells of the blocks. -/
theorem TkC.cells {w : World} {s : ByteArray} {e i n : Int} {a b : ByteArray} {x : World} (h : TkC w s e i n a b x) :
    ((x.cell? ⟨w.heap.size, 0, none⟩ = some (.string s) ∧ x.cell? ⟨w.heap.size, 1, none⟩ = some (.int .i64 e) ∧ x.frozen? ⟨w.heap.size, 0, none⟩ = false ∧ x.frozen? ⟨w.heap.size, 1, none⟩ = false) ∧
    (x.cell? ⟨w.heap.size + 1, 0, none⟩ = some (.string ⟨#[]⟩) ∧ x.cell? ⟨w.heap.size + 1, 1, none⟩ = some (.int .i64 0) ∧ x.frozen? ⟨w.heap.size + 1, 0, none⟩ = false ∧ x.frozen? ⟨w.heap.size + 1, 1, none⟩ = false)) ∧
    ((x.cell? ⟨w.heap.size + 1 + 1, 0, none⟩ = some (.int .i64 0) ∧ x.cell? ⟨w.heap.size + 1 + 1, 1, none⟩ = some (.int .u32 0) ∧ x.cell? ⟨w.heap.size + 1 + 1, 2, none⟩ = some (.string ⟨#[]⟩) ∧ x.cell? ⟨w.heap.size + 1 + 1, 3, none⟩ = some (.string ⟨#[]⟩)) ∧
    (x.frozen? ⟨w.heap.size + 1 + 1, 0, none⟩ = false ∧ x.frozen? ⟨w.heap.size + 1 + 1, 1, none⟩ = false ∧ x.frozen? ⟨w.heap.size + 1 + 1, 2, none⟩ = false ∧ x.frozen? ⟨w.heap.size + 1 + 1, 3, none⟩ = false)) ∧
    ((x.cell? ⟨w.heap.size + 1 + 1 + 1, 0, none⟩ = some (.int .i64 i) ∧ x.cell? ⟨w.heap.size + 1 + 1 + 1, 1, none⟩ = some (.int .u32 n) ∧ x.cell? ⟨w.heap.size + 1 + 1 + 1, 2, none⟩ = some (.string a) ∧ x.cell? ⟨w.heap.size + 1 + 1 + 1, 3, none⟩ = some (.string b)) ∧
    (x.frozen? ⟨w.heap.size + 1 + 1 + 1, 0, none⟩ = false ∧ x.frozen? ⟨w.heap.size + 1 + 1 + 1, 1, none⟩ = false ∧ x.frozen? ⟨w.heap.size + 1 + 1 + 1, 2, none⟩ = false ∧ x.frozen? ⟨w.heap.size + 1 + 1 + 1, 3, none⟩ = false)) ∧
    w.heap.size < x.heap.size ∧ w.heap.size + 1 < x.heap.size ∧ w.heap.size + 1 + 1 < x.heap.size ∧ w.heap.size + 1 + 1 + 1 < x.heap.size :=
  ⟨⟨pair_cells h.c2, pair_cells h.c4⟩, four_cells h.c5, four_cells h.c6, lt_of_block h.c2, lt_of_block h.c4, lt_of_block h.c5, lt_of_block h.c6⟩

theorem six_below {w W : World} (h : Below w.heap.size w W) (a b c d e f : Value) : Below w.heap.size w ((((((W.setCell ⟨w.heap.size + 1, 0, none⟩ a).setCell ⟨w.heap.size + 1, 1, none⟩ b).setCell ⟨w.heap.size + 1 + 1, 0, none⟩ c).setCell ⟨w.heap.size + 1 + 1, 1, none⟩ d).setCell ⟨w.heap.size + 1 + 1, 2, none⟩ e).setCell ⟨w.heap.size + 1 + 1, 3, none⟩ f).drew :=
  ((((((h.setCell (Nat.le_succ _) _).setCell (Nat.le_succ _) _).setCell (by show w.heap.size ≤ w.heap.size + 1 + 1; omega) _).setCell (by show w.heap.size ≤ w.heap.size + 1 + 1; omega) _).setCell (by show w.heap.size ≤ w.heap.size + 1 + 1; omega) _).setCell (by show w.heap.size ≤ w.heap.size + 1 + 1; omega) _).drew
theorem TkC.sete {w : World} {s : ByteArray} {e i n : Int} {a b : ByteArray} {x : World} (h : TkC w s e i n a b x) (e' : Int) : TkC w s e' i n a b (x.setCell ⟨w.heap.size, 1, none⟩ (.int .i64 e')) := by
  have hb := lt_of_block h.c2
  refine ⟨?_, (Below.heap_setCell _ _ _ _ (by show w.heap.size + 1 ≠ w.heap.size; omega)).trans h.c4, (Below.heap_setCell _ _ _ _ (by show w.heap.size + 1 + 1 ≠ w.heap.size; omega)).trans h.c5, (Below.heap_setCell _ _ _ _ (by show w.heap.size + 1 + 1 + 1 ≠ w.heap.size; omega)).trans h.c6, h.bel.setCell (Nat.le_refl _) _⟩
  have := h.c2
  simp [World.setCell, Array.getElem?_modify, this]

set_option maxRecDepth 100000 in
set_option maxHeartbeats 1000000 in
theorem r3take_4e (w : World) (s : ByteArray) (i : Int) (N : Nat) (s2 : ByteArray) (x2 : Int) (hr : varT 3 0 0 s 0 = (N, s2, x2)) (hk : (ruleL i).kind = 4) (hx : x2 ≠ 0) :
    Calls Tryd.prog 126 #[cur s 0, .int .i64 i] w (TookR w s2 x2 ⟨i, N, ⟨#[]⟩, ⟨#[]⟩⟩) := by
  have hT0 := TkC.start w s i
  have HR := Lib.hid hr
  have HK := Lib.hid hk
  clear hr hk
  have hxb : (x2 == 0) = false := by simpa using hx
  have HX := Lib.hid hx
  clear hx
  go_enter Tryd.func126, Tryd.ntmps126
  go_wp2_with fail
  refine (r3kind_calls _ i).mono ?_
  rw [HK.out]
  rintro e y1 ⟨rfl, hy1⟩
  rw [hy1] at hT0
  clear hy1
  obtain ⟨c0, c1, cf0, cf1⟩ := pair_cells hT0.c2
  have HT0 := Lib.hid hT0
  clear hT0
  go_wp2_with fail
  refine (r1takevar_calls _ s 0 N s2 x2 HR.out).mono ?_
  rintro e y2 ⟨rfl, b2⟩
  have hT2 := HT0.out.next b2
  clear c0 c1 cf0 cf1 b2
  obtain ⟨⟨⟨c0, c1, cf0, cf1⟩, q0, q1, qf0, qf1⟩, ⟨⟨r0, r1, r2, r3⟩, rf0, rf1, rf2, rf3⟩, ⟨⟨p0, p1, p2, p3⟩, pf0, pf1, pf2, pf3⟩, z2, z4, z5, z6⟩ := hT2.cells
  have HT2 := Lib.hid hT2
  clear hT2 HT0
  go_wp2_with fail
  have hT3 := ((HT2.out.setc s2 x2).setn N).next (below_one _ (.cells #[.string s2, .int .i64 x2] 140))
  clear c0 c1 cf0 cf1 q0 q1 qf0 qf1 r0 r1 r2 r3 rf0 rf1 rf2 rf3 p0 p1 p2 p3 pf0 pf1 pf2 pf3 z2 z4 z5 z6 HT2
  generalize (((y2.setCell ⟨w.heap.size, 0, none⟩ (.string s2)).setCell ⟨w.heap.size, 1, none⟩ (.int .i64 x2)).setCell ⟨w.heap.size + 1 + 1 + 1, 1, none⟩ (.int .u32 N)).alloc (.cells #[.string s2, .int .i64 x2] 140) = W at *
  obtain ⟨⟨⟨c0, c1, cf0, cf1⟩, q0, q1, qf0, qf1⟩, ⟨⟨r0, r1, r2, r3⟩, rf0, rf1, rf2, rf3⟩, ⟨⟨p0, p1, p2, p3⟩, pf0, pf1, pf2, pf3⟩, z2, z4, z5, z6⟩ := hT3.cells
  have HT3 := Lib.hid hT3
  clear hT3
  go_region
  go_wp2
  refine bodyPost_ret (v := .tuple #[cur s2 x2, prV ⟨i, N, ⟨#[]⟩, ⟨#[]⟩⟩]) ?_ rfl ⟨_, rfl, (fun h => absurd h HX.out), ?_⟩
  · simp [results, Tryd.results126, go_sem, q0, q1, r0, r1, r2, r3]
  · exact six_below HT3.out.bel _ _ _ _ _ _

set_option maxRecDepth 100000 in
set_option maxHeartbeats 1000000 in
theorem r3take_4g (w : World) (s : ByteArray) (i : Int) (N : Nat) (s2 : ByteArray) (hr : varT 3 0 0 s 0 = (N, s2, 0)) (hk : (ruleL i).kind = 4) (hs : saysB i N = true) :
    Calls Tryd.prog 126 #[cur s 0, .int .i64 i] w (TookR w s2 0 ⟨i, N, ⟨#[]⟩, ⟨#[]⟩⟩) := by
  have hT0 := TkC.start w s i
  have HR := Lib.hid hr
  have HK := Lib.hid hk
  clear hr hk
  have HS := Lib.hid hs
  clear hs
  go_enter Tryd.func126, Tryd.ntmps126
  go_wp2_with fail
  refine (r3kind_calls _ i).mono ?_
  rw [HK.out]
  rintro e y1 ⟨rfl, hy1⟩
  rw [hy1] at hT0
  clear hy1
  obtain ⟨c0, c1, cf0, cf1⟩ := pair_cells hT0.c2
  have HT0 := Lib.hid hT0
  clear hT0
  go_wp2_with fail
  refine (r1takevar_calls _ s 0 N s2 0 HR.out).mono ?_
  rintro e y2 ⟨rfl, b2⟩
  have hT2 := HT0.out.next b2
  clear c0 c1 cf0 cf1 b2
  obtain ⟨⟨⟨c0, c1, cf0, cf1⟩, q0, q1, qf0, qf1⟩, ⟨⟨r0, r1, r2, r3⟩, rf0, rf1, rf2, rf3⟩, ⟨⟨p0, p1, p2, p3⟩, pf0, pf1, pf2, pf3⟩, z2, z4, z5, z6⟩ := hT2.cells
  have HT2 := Lib.hid hT2
  clear hT2 HT0
  go_wp2_with fail
  refine (r3kind_calls _ i).mono ?_
  rw [HK.out]
  rintro e y3 ⟨rfl, rfl⟩
  clear HK
  go_wp2_with fail
  refine (says_calls _ i N).mono ?_
  rw [HS.out]
  rintro e y3 ⟨rfl, rfl⟩
  clear HS
  go_wp2_with fail
  have hT3 := ((HT2.out.setc s2 0).setn N).next (below_one _ (.cells #[.string s2, .int .i64 0] 140))
  clear c0 c1 cf0 cf1 q0 q1 qf0 qf1 r0 r1 r2 r3 rf0 rf1 rf2 rf3 p0 p1 p2 p3 pf0 pf1 pf2 pf3 z2 z4 z5 z6 HT2
  generalize (((y2.setCell ⟨w.heap.size, 0, none⟩ (.string s2)).setCell ⟨w.heap.size, 1, none⟩ (.int .i64 0)).setCell ⟨w.heap.size + 1 + 1 + 1, 1, none⟩ (.int .u32 N)).alloc (.cells #[.string s2, .int .i64 0] 140) = W at *
  obtain ⟨⟨⟨c0, c1, cf0, cf1⟩, q0, q1, qf0, qf1⟩, ⟨⟨r0, r1, r2, r3⟩, rf0, rf1, rf2, rf3⟩, ⟨⟨p0, p1, p2, p3⟩, pf0, pf1, pf2, pf3⟩, z2, z4, z5, z6⟩ := hT3.cells
  have HT3 := Lib.hid hT3
  clear hT3
  go_region
  go_wp2
  refine bodyPost_ret (v := .tuple #[cur s2 0, prV ⟨i, N, ⟨#[]⟩, ⟨#[]⟩⟩]) ?_ rfl ⟨_, rfl, (fun _ => rfl), ?_⟩
  · simp [results, Tryd.results126, go_sem, q0, q1, r0, r1, r2, r3]
  · exact six_below HT3.out.bel _ _ _ _ _ _

set_option maxRecDepth 100000 in
set_option maxHeartbeats 1000000 in
theorem r3take_4b (w : World) (s : ByteArray) (i : Int) (N : Nat) (s2 : ByteArray) (hr : varT 3 0 0 s 0 = (N, s2, 0)) (hk : (ruleL i).kind = 4) (hs : saysB i N = false) :
    Calls Tryd.prog 126 #[cur s 0, .int .i64 i] w (TookR w s2 3 ⟨i, N, ⟨#[]⟩, ⟨#[]⟩⟩) := by
  have hT0 := TkC.start w s i
  have HR := Lib.hid hr
  have HK := Lib.hid hk
  clear hr hk
  have HS := Lib.hid hs
  clear hs
  go_enter Tryd.func126, Tryd.ntmps126
  go_wp2_with fail
  refine (r3kind_calls _ i).mono ?_
  rw [HK.out]
  rintro e y1 ⟨rfl, hy1⟩
  rw [hy1] at hT0
  clear hy1
  obtain ⟨c0, c1, cf0, cf1⟩ := pair_cells hT0.c2
  have HT0 := Lib.hid hT0
  clear hT0
  go_wp2_with fail
  refine (r1takevar_calls _ s 0 N s2 0 HR.out).mono ?_
  rintro e y2 ⟨rfl, b2⟩
  have hT2 := HT0.out.next b2
  clear c0 c1 cf0 cf1 b2
  obtain ⟨⟨⟨c0, c1, cf0, cf1⟩, q0, q1, qf0, qf1⟩, ⟨⟨r0, r1, r2, r3⟩, rf0, rf1, rf2, rf3⟩, ⟨⟨p0, p1, p2, p3⟩, pf0, pf1, pf2, pf3⟩, z2, z4, z5, z6⟩ := hT2.cells
  have HT2 := Lib.hid hT2
  clear hT2 HT0
  go_wp2_with fail
  refine (r3kind_calls _ i).mono ?_
  rw [HK.out]
  rintro e y3 ⟨rfl, rfl⟩
  clear HK
  go_wp2_with fail
  refine (says_calls _ i N).mono ?_
  rw [HS.out]
  rintro e y3 ⟨rfl, rfl⟩
  clear HS
  have hT3 := ((HT2.out.setc s2 0).setn N).next (below_one _ (.cells #[.string s2, .int .i64 0] 140))
  clear c0 c1 cf0 cf1 q0 q1 qf0 qf1 r0 r1 r2 r3 rf0 rf1 rf2 rf3 p0 p1 p2 p3 pf0 pf1 pf2 pf3 z2 z4 z5 z6 HT2
  generalize (((y2.setCell ⟨w.heap.size, 0, none⟩ (.string s2)).setCell ⟨w.heap.size, 1, none⟩ (.int .i64 0)).setCell ⟨w.heap.size + 1 + 1 + 1, 1, none⟩ (.int .u32 N)).alloc (.cells #[.string s2, .int .i64 0] 140) = W3 at *
  obtain ⟨⟨⟨c0, c1, cf0, cf1⟩, q0, q1, qf0, qf1⟩, ⟨⟨r0, r1, r2, r3⟩, rf0, rf1, rf2, rf3⟩, ⟨⟨p0, p1, p2, p3⟩, pf0, pf1, pf2, pf3⟩, z2, z4, z5, z6⟩ := hT3.cells
  have HT2 := Lib.hid hT3
  clear hT3
  go_wp2_with fail
  have hT3 := HT2.out.sete 3
  clear c0 c1 cf0 cf1 q0 q1 qf0 qf1 r0 r1 r2 r3 rf0 rf1 rf2 rf3 p0 p1 p2 p3 pf0 pf1 pf2 pf3 z2 z4 z5 z6 HT2
  generalize W3.setCell ⟨w.heap.size, 1, none⟩ (.int .i64 3) = W at *
  obtain ⟨⟨⟨c0, c1, cf0, cf1⟩, q0, q1, qf0, qf1⟩, ⟨⟨r0, r1, r2, r3⟩, rf0, rf1, rf2, rf3⟩, ⟨⟨p0, p1, p2, p3⟩, pf0, pf1, pf2, pf3⟩, z2, z4, z5, z6⟩ := hT3.cells
  have HT3 := Lib.hid hT3
  clear hT3
  go_region
  go_wp2
  refine bodyPost_ret (v := .tuple #[cur s2 3, prV ⟨i, N, ⟨#[]⟩, ⟨#[]⟩⟩]) ?_ rfl ⟨_, rfl, (fun h => absurd h (by decide)), ?_⟩
  · simp [results, Tryd.results126, go_sem, q0, q1, r0, r1, r2, r3]
  · exact six_below HT3.out.bel _ _ _ _ _ _

set_option maxRecDepth 100000 in
set_option maxHeartbeats 1000000 in
theorem r3take_5e (w : World) (s : ByteArray) (i : Int) (a s2 : ByteArray) (x2 : Int) (hr : TakS s 0 a s2 x2) (hk : (ruleL i).kind = 5) (hx : x2 ≠ 0) :
    Calls Tryd.prog 126 #[cur s 0, .int .i64 i] w (TookR w s2 x2 ⟨i, 0, a, ⟨#[]⟩⟩) := by
  have hT0 := TkC.start w s i
  have HR := Lib.hid hr
  have HK := Lib.hid hk
  clear hr hk
  have hxb : (x2 == 0) = false := by simpa using hx
  have HX := Lib.hid hx
  clear hx
  go_enter Tryd.func126, Tryd.ntmps126
  go_wp2_with fail
  refine (r3kind_calls _ i).mono ?_
  rw [HK.out]
  rintro e y1 ⟨rfl, hy1⟩
  rw [hy1] at hT0
  clear hy1
  obtain ⟨c0, c1, cf0, cf1⟩ := pair_cells hT0.c2
  have HT0 := Lib.hid hT0
  clear hT0
  go_wp2_with fail
  refine (r2take_calls _ s 0 a s2 x2 HR.out).mono ?_
  rintro e y2 ⟨rfl, b2⟩
  have hT2 := HT0.out.next b2
  clear c0 c1 cf0 cf1 b2
  obtain ⟨⟨⟨c0, c1, cf0, cf1⟩, q0, q1, qf0, qf1⟩, ⟨⟨r0, r1, r2, r3⟩, rf0, rf1, rf2, rf3⟩, ⟨⟨p0, p1, p2, p3⟩, pf0, pf1, pf2, pf3⟩, z2, z4, z5, z6⟩ := hT2.cells
  have HT2 := Lib.hid hT2
  clear hT2 HT0
  go_wp2_with fail
  have hT3 := ((HT2.out.setc s2 x2).seta a).next (below_one _ (.cells #[.string s2, .int .i64 x2] 140))
  clear c0 c1 cf0 cf1 q0 q1 qf0 qf1 r0 r1 r2 r3 rf0 rf1 rf2 rf3 p0 p1 p2 p3 pf0 pf1 pf2 pf3 z2 z4 z5 z6 HT2
  generalize (((y2.setCell ⟨w.heap.size, 0, none⟩ (.string s2)).setCell ⟨w.heap.size, 1, none⟩ (.int .i64 x2)).setCell ⟨w.heap.size + 1 + 1 + 1, 2, none⟩ (.string a)).alloc (.cells #[.string s2, .int .i64 x2] 140) = W at *
  obtain ⟨⟨⟨c0, c1, cf0, cf1⟩, q0, q1, qf0, qf1⟩, ⟨⟨r0, r1, r2, r3⟩, rf0, rf1, rf2, rf3⟩, ⟨⟨p0, p1, p2, p3⟩, pf0, pf1, pf2, pf3⟩, z2, z4, z5, z6⟩ := hT3.cells
  have HT3 := Lib.hid hT3
  clear hT3
  go_region
  go_wp2
  refine bodyPost_ret (v := .tuple #[cur s2 x2, prV ⟨i, 0, a, ⟨#[]⟩⟩]) ?_ rfl ⟨_, rfl, (fun h => absurd h HX.out), ?_⟩
  · simp [results, Tryd.results126, go_sem, q0, q1, r0, r1, r2, r3]
  · exact six_below HT3.out.bel _ _ _ _ _ _

set_option maxRecDepth 100000 in
set_option maxHeartbeats 1000000 in
theorem r3take_5g (w : World) (s : ByteArray) (i : Int) (a s2 : ByteArray) (hr : TakS s 0 a s2 0) (hk : (ruleL i).kind = 5) :
    Calls Tryd.prog 126 #[cur s 0, .int .i64 i] w (TookR w s2 0 ⟨i, 0, a, ⟨#[]⟩⟩) := by
  have hT0 := TkC.start w s i
  have HR := Lib.hid hr
  have HK := Lib.hid hk
  clear hr hk
  go_enter Tryd.func126, Tryd.ntmps126
  go_wp2_with fail
  refine (r3kind_calls _ i).mono ?_
  rw [HK.out]
  rintro e y1 ⟨rfl, hy1⟩
  rw [hy1] at hT0
  clear hy1
  obtain ⟨c0, c1, cf0, cf1⟩ := pair_cells hT0.c2
  have HT0 := Lib.hid hT0
  clear hT0
  go_wp2_with fail
  refine (r2take_calls _ s 0 a s2 0 HR.out).mono ?_
  rintro e y2 ⟨rfl, b2⟩
  have hT2 := HT0.out.next b2
  clear c0 c1 cf0 cf1 b2
  obtain ⟨⟨⟨c0, c1, cf0, cf1⟩, q0, q1, qf0, qf1⟩, ⟨⟨r0, r1, r2, r3⟩, rf0, rf1, rf2, rf3⟩, ⟨⟨p0, p1, p2, p3⟩, pf0, pf1, pf2, pf3⟩, z2, z4, z5, z6⟩ := hT2.cells
  have HT2 := Lib.hid hT2
  clear hT2 HT0
  go_wp2_with fail
  refine (r3kind_calls _ i).mono ?_
  rw [HK.out]
  rintro e y3 ⟨rfl, rfl⟩
  clear HK
  go_wp2_with fail
  have hT3 := ((HT2.out.setc s2 0).seta a).next (below_one _ (.cells #[.string s2, .int .i64 0] 140))
  clear c0 c1 cf0 cf1 q0 q1 qf0 qf1 r0 r1 r2 r3 rf0 rf1 rf2 rf3 p0 p1 p2 p3 pf0 pf1 pf2 pf3 z2 z4 z5 z6 HT2
  generalize (((y2.setCell ⟨w.heap.size, 0, none⟩ (.string s2)).setCell ⟨w.heap.size, 1, none⟩ (.int .i64 0)).setCell ⟨w.heap.size + 1 + 1 + 1, 2, none⟩ (.string a)).alloc (.cells #[.string s2, .int .i64 0] 140) = W at *
  obtain ⟨⟨⟨c0, c1, cf0, cf1⟩, q0, q1, qf0, qf1⟩, ⟨⟨r0, r1, r2, r3⟩, rf0, rf1, rf2, rf3⟩, ⟨⟨p0, p1, p2, p3⟩, pf0, pf1, pf2, pf3⟩, z2, z4, z5, z6⟩ := hT3.cells
  have HT3 := Lib.hid hT3
  clear hT3
  go_region
  go_wp2
  refine bodyPost_ret (v := .tuple #[cur s2 0, prV ⟨i, 0, a, ⟨#[]⟩⟩]) ?_ rfl ⟨_, rfl, (fun _ => rfl), ?_⟩
  · simp [results, Tryd.results126, go_sem, q0, q1, r0, r1, r2, r3]
  · exact six_below HT3.out.bel _ _ _ _ _ _

set_option maxRecDepth 100000 in
set_option maxHeartbeats 1000000 in
theorem r3take_6e (w : World) (s : ByteArray) (i : Int) (t s1 : ByteArray) (x1 : Int) (a s2 : ByteArray) (x2 : Int) (hr : rawT s 0 2 = (t, s1, x1)) (hr2 : rawT s1 x1 (numL t.data.toList) = (a, s2, x2)) (hk : (ruleL i).kind = 6) (hx : x2 ≠ 0) :
    Calls Tryd.prog 126 #[cur s 0, .int .i64 i] w (TookR w s2 x2 ⟨i, 0, a, ⟨#[]⟩⟩) := by
  have hT0 := TkC.start w s i
  have HR := Lib.hid hr
  have HR2 := Lib.hid hr2
  have HK := Lib.hid hk
  clear hr hr2 hk
  have hxb : (x2 == 0) = false := by simpa using hx
  have HX := Lib.hid hx
  clear hx
  go_enter Tryd.func126, Tryd.ntmps126
  go_wp2_with fail
  refine (r3kind_calls _ i).mono ?_
  rw [HK.out]
  rintro e y1 ⟨rfl, hy1⟩
  rw [hy1] at hT0
  clear hy1
  obtain ⟨c0, c1, cf0, cf1⟩ := pair_cells hT0.c2
  have HT0 := Lib.hid hT0
  clear hT0
  go_wp2_with fail
  refine (r1data2_calls _ s 0 t s1 x1 HR.out a s2 x2 HR2.out).mono ?_
  rintro e y2 ⟨rfl, b2⟩
  have hT2 := HT0.out.next b2
  clear c0 c1 cf0 cf1 b2
  obtain ⟨⟨⟨c0, c1, cf0, cf1⟩, q0, q1, qf0, qf1⟩, ⟨⟨r0, r1, r2, r3⟩, rf0, rf1, rf2, rf3⟩, ⟨⟨p0, p1, p2, p3⟩, pf0, pf1, pf2, pf3⟩, z2, z4, z5, z6⟩ := hT2.cells
  have HT2 := Lib.hid hT2
  clear hT2 HT0
  go_wp2_with fail
  have hT3 := ((HT2.out.setc s2 x2).seta a).next (below_one _ (.cells #[.string s2, .int .i64 x2] 140))
  clear c0 c1 cf0 cf1 q0 q1 qf0 qf1 r0 r1 r2 r3 rf0 rf1 rf2 rf3 p0 p1 p2 p3 pf0 pf1 pf2 pf3 z2 z4 z5 z6 HT2
  generalize (((y2.setCell ⟨w.heap.size, 0, none⟩ (.string s2)).setCell ⟨w.heap.size, 1, none⟩ (.int .i64 x2)).setCell ⟨w.heap.size + 1 + 1 + 1, 2, none⟩ (.string a)).alloc (.cells #[.string s2, .int .i64 x2] 140) = W at *
  obtain ⟨⟨⟨c0, c1, cf0, cf1⟩, q0, q1, qf0, qf1⟩, ⟨⟨r0, r1, r2, r3⟩, rf0, rf1, rf2, rf3⟩, ⟨⟨p0, p1, p2, p3⟩, pf0, pf1, pf2, pf3⟩, z2, z4, z5, z6⟩ := hT3.cells
  have HT3 := Lib.hid hT3
  clear hT3
  go_region
  go_wp2
  refine bodyPost_ret (v := .tuple #[cur s2 x2, prV ⟨i, 0, a, ⟨#[]⟩⟩]) ?_ rfl ⟨_, rfl, (fun h => absurd h HX.out), ?_⟩
  · simp [results, Tryd.results126, go_sem, q0, q1, r0, r1, r2, r3]
  · exact six_below HT3.out.bel _ _ _ _ _ _

set_option maxRecDepth 100000 in
set_option maxHeartbeats 1000000 in
theorem r3take_6g (w : World) (s : ByteArray) (i : Int) (t s1 : ByteArray) (x1 : Int) (a s2 : ByteArray) (hr : rawT s 0 2 = (t, s1, x1)) (hr2 : rawT s1 x1 (numL t.data.toList) = (a, s2, 0)) (hk : (ruleL i).kind = 6) :
    Calls Tryd.prog 126 #[cur s 0, .int .i64 i] w (TookR w s2 0 ⟨i, 0, a, ⟨#[]⟩⟩) := by
  have hT0 := TkC.start w s i
  have HR := Lib.hid hr
  have HR2 := Lib.hid hr2
  have HK := Lib.hid hk
  clear hr hr2 hk
  go_enter Tryd.func126, Tryd.ntmps126
  go_wp2_with fail
  refine (r3kind_calls _ i).mono ?_
  rw [HK.out]
  rintro e y1 ⟨rfl, hy1⟩
  rw [hy1] at hT0
  clear hy1
  obtain ⟨c0, c1, cf0, cf1⟩ := pair_cells hT0.c2
  have HT0 := Lib.hid hT0
  clear hT0
  go_wp2_with fail
  refine (r1data2_calls _ s 0 t s1 x1 HR.out a s2 0 HR2.out).mono ?_
  rintro e y2 ⟨rfl, b2⟩
  have hT2 := HT0.out.next b2
  clear c0 c1 cf0 cf1 b2
  obtain ⟨⟨⟨c0, c1, cf0, cf1⟩, q0, q1, qf0, qf1⟩, ⟨⟨r0, r1, r2, r3⟩, rf0, rf1, rf2, rf3⟩, ⟨⟨p0, p1, p2, p3⟩, pf0, pf1, pf2, pf3⟩, z2, z4, z5, z6⟩ := hT2.cells
  have HT2 := Lib.hid hT2
  clear hT2 HT0
  go_wp2_with fail
  refine (r3kind_calls _ i).mono ?_
  rw [HK.out]
  rintro e y3 ⟨rfl, rfl⟩
  clear HK
  go_wp2_with fail
  have hT3 := ((HT2.out.setc s2 0).seta a).next (below_one _ (.cells #[.string s2, .int .i64 0] 140))
  clear c0 c1 cf0 cf1 q0 q1 qf0 qf1 r0 r1 r2 r3 rf0 rf1 rf2 rf3 p0 p1 p2 p3 pf0 pf1 pf2 pf3 z2 z4 z5 z6 HT2
  generalize (((y2.setCell ⟨w.heap.size, 0, none⟩ (.string s2)).setCell ⟨w.heap.size, 1, none⟩ (.int .i64 0)).setCell ⟨w.heap.size + 1 + 1 + 1, 2, none⟩ (.string a)).alloc (.cells #[.string s2, .int .i64 0] 140) = W at *
  obtain ⟨⟨⟨c0, c1, cf0, cf1⟩, q0, q1, qf0, qf1⟩, ⟨⟨r0, r1, r2, r3⟩, rf0, rf1, rf2, rf3⟩, ⟨⟨p0, p1, p2, p3⟩, pf0, pf1, pf2, pf3⟩, z2, z4, z5, z6⟩ := hT3.cells
  have HT3 := Lib.hid hT3
  clear hT3
  go_region
  go_wp2
  refine bodyPost_ret (v := .tuple #[cur s2 0, prV ⟨i, 0, a, ⟨#[]⟩⟩]) ?_ rfl ⟨_, rfl, (fun _ => rfl), ?_⟩
  · simp [results, Tryd.results126, go_sem, q0, q1, r0, r1, r2, r3]
  · exact six_below HT3.out.bel _ _ _ _ _ _

end Go.Proofs.YtacffjimkplieaaDoor

namespace Go.Proofs.YtacffjimkplieaaDoor
open Go.RowKit

set_option maxRecDepth 100000 in
set_option maxHeartbeats 1000000 in
theorem r3take_7e (w : World) (s : ByteArray) (i : Int) (a s1 : ByteArray) (x1 : Int) (b s2 : ByteArray) (x2 : Int) (hr : TakS s 0 a s1 x1) (hr2 : TakS s1 x1 b s2 x2) (hk : (ruleL i).kind = 7) (hx : x2 ≠ 0) (y : Pr) :
    Calls Tryd.prog 126 #[cur s 0, .int .i64 i] w (TookR w s2 x2 y) := by
  have hT0 := TkC.start w s i
  have HR := Lib.hid hr
  have HR2 := Lib.hid hr2
  have HK := Lib.hid hk
  have hxb : (x2 == 0) = false := by simpa using hx
  have HX := Lib.hid hx
  clear hr hr2 hk hx
  go_enter Tryd.func126, Tryd.ntmps126
  go_wp2_with fail
  refine (r3kind_calls _ i).mono ?_
  rw [HK.out]
  rintro e y1 ⟨rfl, hy1⟩
  rw [hy1] at hT0
  clear hy1
  obtain ⟨c0, c1, cf0, cf1⟩ := pair_cells hT0.c2
  have HT0 := Lib.hid hT0
  clear hT0
  go_wp2_with fail
  refine (r2take_calls _ s 0 a s1 x1 HR.out).mono ?_
  rintro e y2 ⟨rfl, b2⟩
  have hT2 := (HT0.out.next b2).next (below_one y2 (.cells #[.string s1, .int .i64 x1] 140))
  clear c0 c1 cf0 cf1 b2
  have HT2 := Lib.hid hT2
  clear hT2 HT0
  go_wp2_with fail
  refine (r2take_calls _ s1 x1 b s2 x2 HR2.out).mono ?_
  rintro e y3 ⟨rfl, b3⟩
  have hT3 := HT2.out.next b3
  clear b3 HT2
  obtain ⟨⟨⟨c0, c1, cf0, cf1⟩, q0, q1, qf0, qf1⟩, ⟨⟨r0, r1, r2, r3⟩, rf0, rf1, rf2, rf3⟩, ⟨⟨p0, p1, p2, p3⟩, pf0, pf1, pf2, pf3⟩, z2, z4, z5, z6⟩ := hT3.cells
  have HT3 := Lib.hid hT3
  clear hT3
  go_wp2_with fail
  have hT4 := (((HT3.out.setc s2 x2).seta a).setb b).next (below_one _ (.cells #[.string s2, .int .i64 x2] 140))
  clear c0 c1 cf0 cf1 q0 q1 qf0 qf1 r0 r1 r2 r3 rf0 rf1 rf2 rf3 p0 p1 p2 p3 pf0 pf1 pf2 pf3 z2 z4 z5 z6 HT3
  generalize ((((y3.setCell ⟨w.heap.size, 0, none⟩ (.string s2)).setCell ⟨w.heap.size, 1, none⟩ (.int .i64 x2)).setCell ⟨w.heap.size + 1 + 1 + 1, 2, none⟩ (.string a)).setCell ⟨w.heap.size + 1 + 1 + 1, 3, none⟩ (.string b)).alloc (.cells #[.string s2, .int .i64 x2] 140) = W at *
  obtain ⟨⟨⟨c0, c1, cf0, cf1⟩, q0, q1, qf0, qf1⟩, ⟨⟨r0, r1, r2, r3⟩, rf0, rf1, rf2, rf3⟩, ⟨⟨p0, p1, p2, p3⟩, pf0, pf1, pf2, pf3⟩, z2, z4, z5, z6⟩ := hT4.cells
  have HT4 := Lib.hid hT4
  clear hT4
  go_region
  go_wp2
  refine bodyPost_ret (v := .tuple #[cur s2 x2, prV ⟨i, 0, a, b⟩]) ?_ rfl ⟨_, rfl, (fun h => absurd h HX.out), ?_⟩
  · simp [results, Tryd.results126, go_sem, q0, q1, r0, r1, r2, r3]
  · exact six_below HT4.out.bel _ _ _ _ _ _

set_option maxRecDepth 100000 in
set_option maxHeartbeats 1000000 in
theorem r3take_7g (w : World) (s : ByteArray) (i : Int) (a s1 : ByteArray) (x1 : Int) (b s2 : ByteArray) (hr : TakS s 0 a s1 x1) (hr2 : TakS s1 x1 b s2 0) (hk : (ruleL i).kind = 7) :
    Calls Tryd.prog 126 #[cur s 0, .int .i64 i] w (TookR w s2 0 ⟨i, 0, a, b⟩) := by
  have hT0 := TkC.start w s i
  have HR := Lib.hid hr
  have HR2 := Lib.hid hr2
  have HK := Lib.hid hk
  clear hr hr2 hk
  go_enter Tryd.func126, Tryd.ntmps126
  go_wp2_with fail
  refine (r3kind_calls _ i).mono ?_
  rw [HK.out]
  rintro e y1 ⟨rfl, hy1⟩
  rw [hy1] at hT0
  clear hy1
  obtain ⟨c0, c1, cf0, cf1⟩ := pair_cells hT0.c2
  have HT0 := Lib.hid hT0
  clear hT0
  go_wp2_with fail
  refine (r2take_calls _ s 0 a s1 x1 HR.out).mono ?_
  rintro e y2 ⟨rfl, b2⟩
  have hT2 := (HT0.out.next b2).next (below_one y2 (.cells #[.string s1, .int .i64 x1] 140))
  clear c0 c1 cf0 cf1 b2
  have HT2 := Lib.hid hT2
  clear hT2 HT0
  go_wp2_with fail
  refine (r2take_calls _ s1 x1 b s2 0 HR2.out).mono ?_
  rintro e y3 ⟨rfl, b3⟩
  have hT3 := HT2.out.next b3
  clear b3 HT2
  obtain ⟨⟨⟨c0, c1, cf0, cf1⟩, q0, q1, qf0, qf1⟩, ⟨⟨r0, r1, r2, r3⟩, rf0, rf1, rf2, rf3⟩, ⟨⟨p0, p1, p2, p3⟩, pf0, pf1, pf2, pf3⟩, z2, z4, z5, z6⟩ := hT3.cells
  have HT3 := Lib.hid hT3
  clear hT3
  go_wp2_with fail
  refine (r3kind_calls _ i).mono ?_
  rw [HK.out]
  rintro e y4 ⟨rfl, rfl⟩
  clear HK
  go_wp2_with fail
  have hT4 := (((HT3.out.setc s2 0).seta a).setb b).next (below_one _ (.cells #[.string s2, .int .i64 0] 140))
  clear c0 c1 cf0 cf1 q0 q1 qf0 qf1 r0 r1 r2 r3 rf0 rf1 rf2 rf3 p0 p1 p2 p3 pf0 pf1 pf2 pf3 z2 z4 z5 z6 HT3
  generalize ((((y3.setCell ⟨w.heap.size, 0, none⟩ (.string s2)).setCell ⟨w.heap.size, 1, none⟩ (.int .i64 0)).setCell ⟨w.heap.size + 1 + 1 + 1, 2, none⟩ (.string a)).setCell ⟨w.heap.size + 1 + 1 + 1, 3, none⟩ (.string b)).alloc (.cells #[.string s2, .int .i64 0] 140) = W at *
  obtain ⟨⟨⟨c0, c1, cf0, cf1⟩, q0, q1, qf0, qf1⟩, ⟨⟨r0, r1, r2, r3⟩, rf0, rf1, rf2, rf3⟩, ⟨⟨p0, p1, p2, p3⟩, pf0, pf1, pf2, pf3⟩, z2, z4, z5, z6⟩ := hT4.cells
  have HT4 := Lib.hid hT4
  clear hT4
  go_region
  go_wp2
  refine bodyPost_ret (v := .tuple #[cur s2 0, prV ⟨i, 0, a, b⟩]) ?_ rfl ⟨_, rfl, (fun _ => rfl), ?_⟩
  · simp [results, Tryd.results126, go_sem, q0, q1, r0, r1, r2, r3]
  · exact six_below HT4.out.bel _ _ _ _ _ _

end Go.Proofs.YtacffjimkplieaaDoor

namespace Go.Proofs.YtacffjimkplieaaDoor
open Go.RowKit

/-- What the document's take does, of whatever kind. -/
def TakeOk : Prop := ∀ (w : World) (s : ByteArray) (i q : Int) (_ : ¬ bits .and .i64 (ruleL i).inn q = 0) (y : Pr) (s2 : ByteArray) (x2 : Int) (_ : oneT (ruleL i).kind i s = (y, s2, x2)),
  Calls Tryd.prog 126 #[cur s 0, .int .i64 i] w (TookR w s2 (if x2 ≠ 0 then x2 else if y.n < (ruleL i).least ∨ (ruleL i).most < y.n then 3 else 0) y)

/-- What holds in Take's loop. -/
structure TakJ (w : World) (d0 : Nat) (cs ds : ByteArray) (de : Int) (v : Value) (acc : List Pr) (wr : World) : Prop where
  c3 : wr.heap[w.heap.size]? = some (.cells #[.string cs, .int .i64 0] 140 (0, 0))
  c6 : wr.heap[w.heap.size + 1]? = some (.cells #[.string ⟨#[]⟩, .int .i64 0] 140 (0, 0))
  cd : wr.heap[d0]? = some (.cells #[.string ds, .int .i64 de] 140 (0, 0))
  own : OwnP (d0 + 1) 153 wr v acc
  bel : Below w.heap.size w wr
  hd : w.heap.size + 1 < d0

theorem TakJ.next {w : World} {d0 : Nat} {cs ds : ByteArray} {de : Int} {v : Value} {acc : List Pr} {x y : World} (h : TakJ w d0 cs ds de v acc x) (hb : Below x.heap.size x y) : TakJ w d0 cs ds de v acc y :=
  ⟨(hb.block _ (lt_of_block h.c3)).trans h.c3, (hb.block _ (lt_of_block h.c6)).trans h.c6, (hb.block _ (lt_of_block h.cd)).trans h.cd, h.own.below hb, Below.next h.bel hb, h.hd⟩
theorem TakJ.own_ne {w : World} {d0 : Nat} {cs ds : ByteArray} {de : Int} {v : Value} {acc : List Pr} {x : World} (h : TakJ w d0 cs ds de v acc x) (b : Nat) (hb : b ≤ d0) : v.ownBlock ≠ some b := by
  intro e
  have := (World.ownsRow.lt h.own _ e).1
  omega
theorem TakJ.setd {w : World} {d0 : Nat} {cs ds : ByteArray} {de : Int} {v : Value} {acc : List Pr} {x : World} (h : TakJ w d0 cs ds de v acc x) (s' : ByteArray) (e' : Int) : TakJ w d0 cs s' e' v acc ((x.setCell ⟨d0, 0, none⟩ (.string s')).setCell ⟨d0, 1, none⟩ (.int .i64 e')) := by
  have hd := h.hd
  exact ⟨(far_set (by omega)).trans h.c3, (far_set (by omega)).trans h.c6, pair_set h.cd, ownsRow_setCell_other (a := ⟨d0, 1, none⟩) (ownsRow_setCell_other (a := ⟨d0, 0, none⟩) h.own (h.own_ne d0 (Nat.le_refl _)) _) (h.own_ne d0 (Nat.le_refl _)) _, (h.bel.setCell (by show w.heap.size ≤ d0; omega) _).setCell (by show w.heap.size ≤ d0; omega) _, hd⟩
theorem TakJ.sete {w : World} {d0 : Nat} {cs ds : ByteArray} {de : Int} {v : Value} {acc : List Pr} {x : World} (h : TakJ w d0 cs ds de v acc x) (e' : Int) : TakJ w d0 cs ds e' v acc (x.setCell ⟨d0, 1, none⟩ (.int .i64 e')) := by
  have hd := h.hd
  have hb := lt_of_block h.cd
  refine ⟨(Below.heap_setCell _ _ _ _ (by show w.heap.size ≠ d0; omega)).trans h.c3, (Below.heap_setCell _ _ _ _ (by show w.heap.size + 1 ≠ d0; omega)).trans h.c6, ?_, ownsRow_setCell_other (a := ⟨d0, 1, none⟩) h.own (h.own_ne d0 (Nat.le_refl _)) _, h.bel.setCell (by show w.heap.size ≤ d0; omega) _, hd⟩
  have := h.cd
  simp [World.setCell, Array.getElem?_modify, this]
theorem TakJ.cells {w : World} {d0 : Nat} {cs ds : ByteArray} {de : Int} {v : Value} {acc : List Pr} {x : World} (h : TakJ w d0 cs ds de v acc x) :
    (x.cell? ⟨w.heap.size, 0, none⟩ = some (.string cs) ∧ x.cell? ⟨w.heap.size, 1, none⟩ = some (.int .i64 0) ∧ x.frozen? ⟨w.heap.size, 0, none⟩ = false ∧ x.frozen? ⟨w.heap.size, 1, none⟩ = false) ∧
    (x.cell? ⟨w.heap.size + 1, 0, none⟩ = some (.string ⟨#[]⟩) ∧ x.cell? ⟨w.heap.size + 1, 1, none⟩ = some (.int .i64 0) ∧ x.frozen? ⟨w.heap.size + 1, 0, none⟩ = false ∧ x.frozen? ⟨w.heap.size + 1, 1, none⟩ = false) ∧
    (x.cell? ⟨d0, 0, none⟩ = some (.string ds) ∧ x.cell? ⟨d0, 1, none⟩ = some (.int .i64 de) ∧ x.frozen? ⟨d0, 0, none⟩ = false ∧ x.frozen? ⟨d0, 1, none⟩ = false) ∧
    w.heap.size < x.heap.size ∧ w.heap.size + 1 < x.heap.size ∧ d0 < x.heap.size :=
  ⟨pair_cells h.c3, pair_cells h.c6, pair_cells h.cd, lt_of_block h.c3, lt_of_block h.c6, lt_of_block h.cd⟩

/-- What Take answers, and leaves. -/
def TookT (w : World) (R : List Pr × ByteArray × Int) (e : Ending) (w' : World) : Prop :=
  ∃ v, e = .returned (.tuple #[cur R.2.1 R.2.2, v]) ∧ OwnP w.heap.size 153 w' v R.1 ∧ Below w.heap.size w w'

/-- The document's rule of several is the table's. -/
theorem sev_all : ∀ i ∈ idsL, ∀ q ∈ placesL, mayP i q.1 q.2 = true → (bits .and .i64 (ruleL i).sev (placeN q.1 q.2) == 0) = (decide (i ≠ 38) && (decide (i ≠ 11) || decide (q.1 ≠ 3) || q.2)) := by decide +kernel

theorem tail_ret {w W : World} (h : Below w.heap.size w W) (a b : Value) : Below w.heap.size w ((W.setCell ⟨w.heap.size + 1, 0, none⟩ a).setCell ⟨w.heap.size + 1, 1, none⟩ b) := (h.setCell (Nat.le_succ _) _).setCell (Nat.le_succ _) _
theorem var_errs (s : ByteArray) (x : Int) (hx : x = 0 ∨ x = 1 ∨ x = 2) : ∀ (k i n : Nat), (varT k i n s x).2.2 = 0 ∨ (varT k i n s x).2.2 = 1 ∨ (varT k i n s x).2.2 = 2 := by
  intro k
  have hraw : ∀ (s : ByteArray) (x m : Int), (x = 0 ∨ x = 1 ∨ x = 2) → ((rawT s x m).2.2 = 0 ∨ (rawT s x m).2.2 = 1 ∨ (rawT s x m).2.2 = 2) := by
    intro s x m h
    unfold rawT
    repeat' split
    all_goals (dsimp only; omega)
  induction k generalizing s x with
  | zero =>
    intro i n
    rw [varT, varEnd]
    dsimp only
    have := hraw s x 1 hx
    split
    · unfold failed; split <;> omega
    · exact this
  | succ k ih =>
    intro i n
    rw [varT]
    split
    · exact ih _ _ (hraw s x 1 hx) _ _
    · rw [varEnd]
      dsimp only
      have := hraw s x 1 hx
      split
      · unfold failed; split <;> omega
      · exact this
theorem raw_errs (s : ByteArray) (x m : Int) (h : x = 0 ∨ x = 1 ∨ x = 2) : (rawT s x m).2.2 = 0 ∨ (rawT s x m).2.2 = 1 ∨ (rawT s x m).2.2 = 2 := by
  unfold rawT
  repeat' split
  all_goals (dsimp only; omega)
theorem str_errs (s : ByteArray) (x : Int) (h : x = 0 ∨ x = 1 ∨ x = 2) : (strT s x).2.2 = 0 ∨ (strT s x).2.2 = 1 ∨ (strT s x).2.2 = 2 := by
  unfold strT
  split
  · exact raw_errs _ _ _ (raw_errs _ _ _ h)
  · exact .inr (.inr rfl)
theorem one_errs (k i : Int) (s : ByteArray) : (oneT k i s).2.2 = 0 ∨ (oneT k i s).2.2 = 1 ∨ (oneT k i s).2.2 = 2 := by
  have h1 := raw_errs s 0 1 (.inl rfl)
  have h2 := raw_errs s 0 2 (.inl rfl)
  have h4 := raw_errs s 0 4 (.inl rfl)
  have hv := var_errs s 0 (.inl rfl) 3 0 0
  have hs := str_errs s 0 (.inl rfl)
  have hd := raw_errs (rawT s 0 2).2.1 (rawT s 0 2).2.2 (numL (rawT s 0 2).1.data.toList) h2
  have hp := str_errs (strT s 0).2.1 (strT s 0).2.2 hs
  unfold oneT
  by_cases c1 : k = 1
  · rw [if_pos c1]; exact h1
  rw [if_neg c1]
  by_cases c2 : k = 2
  · rw [if_pos c2]; exact h2
  rw [if_neg c2]
  by_cases c3 : k = 3
  · rw [if_pos c3]; exact h4
  rw [if_neg c3]
  by_cases c4 : k = 4
  · rw [if_pos c4]; exact hv
  rw [if_neg c4]
  by_cases c5 : k = 5
  · rw [if_pos c5]; exact hs
  rw [if_neg c5]
  by_cases c6 : k = 6
  · rw [if_pos c6]; exact hd
  rw [if_neg c6]
  exact hp

/-- What the loop has still to do. -/
def TakQ (q : Int) (R : List Pr × Int) (N : Nat) (acc : List Pr) (ds : ByteArray) (de : Int) : Prop :=
  acc.length + ds.size ≤ N ∧ ((de = 0 ∧ ∃ f, ds.size ≤ f ∧ runP q f acc ds = R) ∨ ((de = 1 ∨ de = 2 ∨ de = 3) ∧ R = ([], if de = 1 then 2 else de)))

end Go.Proofs.YtacffjimkplieaaDoor

namespace Go.Proofs.YtacffjimkplieaaDoor
open Go.RowKit

theorem tak_start {w y : World} {s2 t : ByteArray} (hz : w.heap.size + 2 ≤ y.heap.size) (h3 : y.heap[w.heap.size]? = some (.cells #[.string s2, .int .i64 0] 140 (0, 0))) (h6 : y.heap[w.heap.size + 1]? = some (.cells #[.string ⟨#[]⟩, .int .i64 0] 140 (0, 0))) (hb : Below w.heap.size w y) :
    TakJ w y.heap.size s2 t 0 (.slice (some ⟨y.heap.size + 1, 0, none⟩) 0 0) [] ((y.alloc (.cells #[.string t, .int .i64 0] 140)).alloc (.cells #[] 153)) := by
  have b2 := below_two y (.cells #[.string t, .int .i64 0] 140) (.cells #[] 153)
  refine ⟨(b2.block _ (by omega)).trans h3, (b2.block _ (by omega)).trans h6, ?_, ?_, Below.next hb b2, by omega⟩
  · rw [Below.heap_alloc _ _ _ (by simp)]
    exact heap_alloc_new y _
  · refine ⟨rfl, .inr ⟨y.heap.size + 1, 0, #[], rfl, Nat.le_refl _, ?_, Nat.le_refl _, Nat.zero_le _, rfl, rfl⟩⟩
    have := heap_alloc_new (y.alloc (.cells #[.string t, .int .i64 0] 140)) (.cells #[] 153)
    simpa using this
theorem four_new_at (w : World) (a b c d : Value) (t : TypeId) (n : Nat) (hn : n = w.heap.size) : ∀ j u, [a, b, c, d][j]? = some u → (w.alloc (.cells #[a, b, c, d] t)).cell? ((⟨n, 0, none⟩ : Addr).add j) = some u := by
  subst hn
  exact four_new w a b c d t
theorem TakJ.grown {w : World} {d0 : Nat} {cs ds : ByteArray} {de : Int} {v v' : Value} {acc acc' : List Pr} {x y : World} (h : TakJ w d0 cs ds de v acc x) (hg : x.grownBy y v.ownBlock) (ho : OwnP (d0 + 1) 153 y v' acc') : TakJ w d0 cs ds de v' acc' y := by
  have hd := h.hd
  have hz := lt_of_block h.cd
  exact ⟨(hg.block _ (lt_of_block h.c3) (fun e => h.own_ne _ (by omega) e.symm)).trans h.c3, (hg.block _ (lt_of_block h.c6) (fun e => h.own_ne _ (by omega) e.symm)).trans h.c6, (hg.block _ (lt_of_block h.cd) (fun e => h.own_ne _ (by omega) e.symm)).trans h.cd, ho, h.bel.grown hg (by omega) (fun k hk => by have := (World.ownsRow.lt h.own k hk).1; omega), hd⟩
theorem tak_q {q : Int} {P : List Pr × Int} {N f' : Nat} {acc : List Pr} {ds t2 : ByteArray} {y p : Pr} {z2 ee : Int} {r : Ru} (h1 : acc.length + ds.size ≤ N) (hs : t2.size < ds.size) (hf : ds.size ≤ f' + 1) (hoe : z2 = 0 ∨ z2 = 1 ∨ z2 = 2)
    (hee : (if z2 ≠ 0 then z2 else if y.n < r.least ∨ r.most < y.n then (3 : Int) else 0) = ee) (hp : ee = 0 → p = y)
    (hst : (match (if z2 ≠ 0 then .inl 2 else if y.n < r.least ∨ r.most < y.n then .inl 3 else .inr (y, t2) : Int ⊕ (Pr × ByteArray)) with | .inl e => (([] : List Pr), e) | .inr y => runP q f' (acc ++ [y.1]) y.2) = P) : TakQ q P N (acc ++ [p]) t2 ee := by
  refine ⟨by simp; omega, ?_⟩
  by_cases hz : z2 = 0
  · rw [if_neg (by simpa using hz)] at hee hst
    by_cases hr : y.n < r.least ∨ r.most < y.n
    · rw [if_pos hr] at hee hst
      subst hee
      exact .inr ⟨by simp, by rw [← hst]; rfl⟩
    · rw [if_neg hr] at hee hst
      subst hee
      rw [hp rfl]
      exact .inl ⟨rfl, f', by omega, hst⟩
  · rw [if_pos hz] at hee hst
    subst hee
    refine .inr ⟨by omega, ?_⟩
    rw [← hst]
    rcases hoe with h | h | h
    · exact absurd h hz
    · rw [if_pos h]
    · rw [if_neg (by omega), h]
theorem ownP_le {B B' : Nat} {e : TypeId} {w : World} {v : Value} {P : List Pr} (h : OwnP B e w v P) (hb : B' ≤ B) : OwnP B' e w v P := by
  refine ⟨h.1, ?_⟩
  rcases h.2 with h | ⟨g, cap, cur, hv, hB, rest⟩
  · exact .inl h
  · exact .inr ⟨g, cap, cur, hv, Nat.le_trans hb hB, rest⟩
theorem full_not {s : ByteArray} (h : ¬ s.size = 0) : s.toList.isEmpty = false := by
  rw [ByteArray.toList_eq]
  cases hh : s.data.toList with
  | nil => exact absurd (congrArg List.length hh) h
  | cons a l => rfl
theorem sev_of (i k : Int) (isW : Bool) (h : mayP i k isW = true) : (bits .and .i64 (ruleL i).sev (placeN k isW) == 0) = (decide (i ≠ 38) && (decide (i ≠ 11) || decide (k ≠ 3) || isW)) := by
  have hi : i ∈ idsL := by
    rcases ids_mem i with h1 | ⟨_, h1⟩
    · exact h1
    · unfold mayP at h
      rw [h1] at h
      simp [and_zero] at h
  cases isW with
  | true =>
    have := sev_all i hi (0, true) (by decide) (by simpa [mayP, placeN] using h)
    simpa [placeN] using this
  | false =>
    by_cases hk : 1 ≤ k ∧ k ≤ 15
    · have hm : (k, false) ∈ placesL := by
        have hj : ∃ j : Nat, k = j ∧ 1 ≤ j ∧ j ≤ 15 := ⟨k.toNat, by omega, by omega, by omega⟩
        obtain ⟨j, rfl, h1, h2⟩ := hj
        have : ∀ j : Nat, j ≤ 15 → 1 ≤ j → ((j : Int), false) ∈ placesL := by decide
        exact this j h2 h1
      exact sev_all i hi (k, false) hm h
    · have h0 : placeN k false = 0 := by
        unfold placeN
        rw [if_neg (by simp), if_pos (by omega)]
      unfold mayP at h
      rw [h0] at h
      have : ∀ i ∈ idsL, bits .and .i64 (ruleL i).inn 0 = 0 := by decide
      rw [this i hi] at h
      simp at h
theorem TakJ.fin {w : World} {d0 : Nat} {cs ds : ByteArray} {de : Int} {v : Value} {acc : List Pr} {x : World} (h : TakJ w d0 cs ds de v acc x) (a b : Value) : OwnP w.heap.size 153 ((x.setCell ⟨w.heap.size + 1, 0, none⟩ a).setCell ⟨w.heap.size + 1, 1, none⟩ b) v acc := by
  have hd := h.hd
  refine ownP_le (B := d0 + 1) (ownsRow_setCell_other (a := ⟨w.heap.size + 1, 1, none⟩) (ownsRow_setCell_other (a := ⟨w.heap.size + 1, 0, none⟩) h.own (h.own_ne _ (by show w.heap.size + 1 ≤ d0; omega)) _) (h.own_ne _ (by show w.heap.size + 1 ≤ d0; omega)) _) (by omega)
theorem leftOf_tak {w : World} {d0 : Nat} {cs ds : ByteArray} {de : Int} {v : Value} {acc : List Pr} {x : World} (h : TakJ w d0 cs ds de v acc x) : leftOf d0 x = ds.size := by unfold leftOf; rw [(pair_cells h.cd).1]
theorem TakQ.done {q : Int} {R : List Pr × Int} {N : Nat} {acc : List Pr} {ds : ByteArray} {de : Int} (h : TakQ q R N acc ds de) (hs : ds.size = 0 ∨ de ≠ 0) : (de = 0 ∧ R = (acc, 0)) ∨ (de = 1 ∧ R = ([], 2)) ∨ ((de = 2 ∨ de = 3) ∧ R = ([], de)) := by
  rcases h.2 with ⟨h0, f, hf, hr⟩ | ⟨h1, hr⟩
  · refine .inl ⟨h0, ?_⟩
    rcases hs with hs | hs
    · rw [← hr]
      cases f with
      | zero => rfl
      | succ f => rw [runP, if_pos hs]
    · exact absurd h0 hs
  · rcases h1 with h1 | h1 | h1
    · exact .inr (.inl ⟨h1, by rw [hr, if_pos h1]⟩)
    · exact .inr (.inr ⟨.inl h1, by rw [hr, if_neg (by omega)]⟩)
    · exact .inr (.inr ⟨.inr h1, by rw [hr, if_neg (by omega)]⟩)

set_option maxRecDepth 100000 in
set_option maxHeartbeats 8000000 in
theorem r3Take_calls (hok : TakeOk) (w : World) (s : ByteArray) (x k : Int) (isW : Bool) :
    Calls Tryd.prog 76 #[cur s x, .int .i64 k, .bool isW] w (TookT w (takeR (placeN k isW) s x)) := by
  have hnb := var_lt s x
  generalize hv : varT 3 0 0 s x = V at hnb
  obtain ⟨n, s1, x1⟩ := V
  dsimp only at hnb
  have hsz := rawT_size s1 x1 n
  generalize hr : rawT s1 x1 n = R at hsz
  obtain ⟨t, s2, x2⟩ := R
  dsimp only at hsz
  rw [takeR_parts _ s x n s1 x1 t s2 x2 hv hr]
  have hts : t.size ≤ 268435456 := by omega
  have HV := Lib.hid hv
  have HR := Lib.hid hr
  have HOK := Lib.hid hok
  clear hv hr hok hsz
  by_cases hx : x2 = 0
  · subst hx
    rw [if_neg (by simp)]
    generalize hq : placeN k isW = q
    have HQ := Lib.hid hq
    generalize hP : runP q t.size [] t = P
    have HP := Lib.hid hP
    clear hq hP
    go_enter Tryd.func76, Tryd.ntmps76
    go_wp2_with fail
    refine (r1takevar_calls _ s x n s1 x1 HV.out).mono ?_
    rintro e y1 ⟨rfl, b1⟩
    obtain ⟨k1, k2, hz, hbl⟩ := two_kept b1
    obtain ⟨c0, c1, f0, f1⟩ := pair_cells k1
    have HB1 := Lib.hid hbl
    have K1 := Lib.hid k1
    have K2 := Lib.hid k2
    clear b1 k1 k2 hbl
    go_wp2_with fail
    refine (r1raw_calls _ s1 x1 n t s2 0 HR.out).mono ?_
    rintro e y2 ⟨rfl, b2⟩
    obtain ⟨e0, e1, g0, g1, hz2, hk⟩ := stored2 c0 c1 b2
    rw [f0] at g0
    rw [f1] at g1
    have k6 := (hk (w.heap.size + 1) (by omega) (by omega)).trans K2.out
    have k3 := (b2.block w.heap.size (by simp [World.setCell]; omega)).trans (pair_set K1.out)
    obtain ⟨d0, d1, j0, j1⟩ := pair_cells k6
    have HB2 : Hid (Below w.heap.size w y2) := ((HB1.out.setCell (Nat.le_refl _) _).setCell (Nat.le_refl _) _).trans (b2.mono (by simp [World.setCell]; omega))
    have HS : Hid (TakJ w y2.heap.size s2 t 0 (.slice (some ⟨y2.heap.size + 1, 0, none⟩) 0 0) [] ((((y2.setCell ⟨w.heap.size, 0, none⟩ (.string s2)).setCell ⟨w.heap.size, 1, none⟩ (.int .i64 0)).alloc (.cells #[.string t, .int .i64 0] 140)).alloc (.cells #[] 153))) := by
      have := tak_start (w := w) (y := (y2.setCell ⟨w.heap.size, 0, none⟩ (.string s2)).setCell ⟨w.heap.size, 1, none⟩ (.int .i64 0)) (s2 := s2) (t := t) (by simp [World.setCell]; omega) (pair_set k3) ((far_set (by omega)).trans k6) ((HB2.out.setCell (Nat.le_refl _) _).setCell (Nat.le_refl _) _)
      exact Lib.hid (by simpa [World.setCell] using this)
    have HSQ : Hid (TakQ q P t.size [] t 0) := ⟨by simp, .inl ⟨rfl, t.size, Nat.le_refl _, HP.out⟩⟩
    clear b2 hk k6 k3 c0 c1 f0 f1 HB1 K1 K2 HP
    go_wp2
    clear e0 e1 g0 g1 d0 d1 j0 j1 HB2
    generalize hd0 : y2.heap.size = d0 at *
    clear hd0
    go_loopw [11] (fun v wr => ∃ (acc : List Pr) (ds : ByteArray) (de : Int) (a : Option Addr) (c : Nat), v = .slice a acc.length c ∧ TakJ w d0 s2 ds de (.slice a acc.length c) acc wr ∧ TakQ q P t.size acc ds de) (fun _ wr => leftOf d0 wr)
    case atStart => exact ⟨[], t, 0, _, 0, rfl, HS.out, HSQ.out⟩
    case round =>
      clear HS HSQ
      obtain ⟨acc, ds, de, a, c, rfl, hJ, hQ⟩ := hrel
      have hlf := leftOf_tak hJ
      obtain ⟨⟨c0, c1, f0, f1⟩, ⟨d00, d1, j0, j1⟩, ⟨g0, g1, i0, i1⟩, hz3, hz6, hzd⟩ := hJ.cells
      have hlt3 := hJ.hd
      have HJ := Lib.hid hJ
      have HQQ := Lib.hid hQ
      clear hJ hQ
      by_cases h0 : ds.size = 0
      · have hds : ds = ⟨#[]⟩ := by
          cases ds; simp [ByteArray.size] at h0; subst h0; rfl
        have hdone := HQQ.out.done (.inl h0)
        subst hds
        clear HQQ hlf h0
        rcases hdone with ⟨rfl, rfl⟩ | ⟨rfl, rfl⟩ | ⟨hd23, rfl⟩
        · go_wp2
          exact bodyPost_ret (v := .tuple #[cur s2 0, .slice a acc.length c]) (by simp [results, Tryd.results76, go_sem, d00, d1]) rfl ⟨_, rfl, HJ.out.fin _ _, tail_ret HJ.out.bel _ _⟩
        · go_wp2
          exact bodyPost_ret (v := .tuple #[cur s2 2, .slice none 0 0]) (by simp [results, Tryd.results76, go_sem, d00, d1]) rfl ⟨_, rfl, World.ownsRow_nil _ _ _ _, tail_ret (HJ.out.sete 2).bel _ _⟩
        · have hdn : (de == 0) = false := by simp; omega
          have hdn1 : (de == 1) = false := by simp; omega
          go_wp2
          exact bodyPost_ret (v := .tuple #[cur s2 de, .slice none 0 0]) (by simp [results, Tryd.results76, go_sem, d00, d1]) rfl ⟨_, rfl, World.ownsRow_nil _ _ _ _, tail_ret HJ.out.bel _ _⟩
      · have hpos : (0 : Int) < ds.size := by omega
        have hne := full_not h0
        by_cases hde : de = 0
        · subst hde
          have hst : ∃ f', ds.size ≤ f' + 1 ∧ (match stepP q acc ds with | .inl e => (([] : List Pr), e) | .inr y => runP q f' (acc ++ [y.1]) y.2) = P := by
            rcases HQQ.out.2 with ⟨_, f, hf, hr⟩ | ⟨h1, _⟩
            · obtain ⟨f', rfl⟩ : ∃ f', f = f' + 1 := ⟨f - 1, by omega⟩
              rw [runP, if_neg h0] at hr
              exact ⟨f', hf, hr⟩
            · omega
          obtain ⟨f', hf', hst⟩ := hst
          have hlen := HQQ.out.1
          have hvl := var_left 3 0 0 ds 0
          have hve := varT_err 3 0 0 ds 0
          have hxe := var_errs ds 0 (.inl rfl) 3 0 0
          have hnb2 := var_lt ds 0
          generalize hv : varT 3 0 0 ds 0 = V at hvl hnb2 hxe
          obtain ⟨m, t1, z1⟩ := V
          have hve' := hve m t1 z1 hv
          clear hve
          dsimp only at hvl hnb2 hxe
          generalize hr : ruleL m = r
          generalize ho : oneT r.kind m t1 = O
          obtain ⟨y, t2, z2⟩ := O
          have hol : t2.size ≤ t1.size := by have := one_left r.kind m t1; rw [ho] at this; exact this
          have hoe : z2 = 0 ∨ z2 = 1 ∨ z2 = 2 := by have := one_errs r.kind m t1; rw [ho] at this; exact this
          have hsp := step_parts q acc ds m t1 z1 r y t2 z2 hv hr ho
          rw [hsp] at hst
          have HVL := Lib.hid hvl
          have HVE := Lib.hid hve'
          have HST := Lib.hid hst
          have HV2 := Lib.hid hv
          have HRU := Lib.hid hr
          have HONE := Lib.hid ho
          clear hvl hve' hst hsp hv hr ho HQQ
          go_wp2_with fail
          refine (r1takevar_calls _ ds 0 m t1 z1 HV2.out).mono ?_
          rintro e w1 ⟨rfl, b1⟩
          have hJ1 := HJ.out.next b1
          clear b1 HJ HV2 c0 c1 f0 f1 d00 d1 j0 j1 g0 g1 i0 i1 hz3 hz6 hzd
          obtain ⟨⟨c0, c1, f0, f1⟩, ⟨d00, d1, j0, j1⟩, ⟨g0, g1, i0, i1⟩, hz3, hz6, hzd⟩ := hJ1.cells
          have HJA := Lib.hid (hJ1.setd t1 z1)
          have HJ1 := Lib.hid ((hJ1.setd t1 z1).next (below_one _ (.cells #[.string t1, .int .i64 z1] 140)))
          clear hJ1
          by_cases hz1 : z1 = 0
          · subst hz1
            have hv2 : t1.size < ds.size := (HVL.out.2 rfl).2
            clear HVL HVE
            generalize hM : (m : Int) = M at *
            have hM0 : 0 ≤ M := by omega
            have hM1 : M < 268435456 := by omega
            have hwM : wrap64 M = M := by unfold wrap64; omega
            clear hM hnb2
            go_wp2_with fail
            refine (r3may_calls _ M k isW).mono ?_
            rintro e w2 ⟨rfl, rfl⟩
            clear c0 c1 f0 f1 d00 d1 j0 j1 g0 g1 i0 i1 hz3 hz6 hzd
            generalize (((w1.setCell ⟨d0, 0, none⟩ (.string t1)).setCell ⟨d0, 1, none⟩ (.int .i64 0)).alloc (.cells #[.string t1, .int .i64 0] 140)) = W at *
            obtain ⟨⟨c0, c1, f0, f1⟩, ⟨d00, d1, j0, j1⟩, ⟨g0, g1, i0, i1⟩, hz3, hz6, hzd⟩ := HJ1.out.cells
            cases hmay : mayP M k isW with
            | false =>
              have hP : P = ([], 2) := by
                have := HST.out
                rw [if_pos (by unfold mayP at hmay; rw [HRU.out, HQ.out] at hmay; simpa using hmay)] at this
                exact this.symm
              subst hP
              clear HST
              go_wp2
              exact bodyPost_ret (v := .tuple #[cur s2 2, .slice none 0 0]) (by simp [results, Tryd.results76, go_sem, d00, d1]) rfl ⟨_, rfl, World.ownsRow_nil _ _ _ _, tail_ret (HJ1.out.sete 2).bel _ _⟩
            | true =>
              have hin : ¬ bits .and .i64 (ruleL M).inn q = 0 := by unfold mayP at hmay; rw [HQ.out] at hmay; simpa using hmay
              have hsev := sev_of M k isW hmay
              rw [HRU.out, HQ.out] at hsev
              have HIN := Lib.hid hin
              have HSEV := Lib.hid hsev
              have HPR := Lib.hid HJ1.out.own.props
              have hst2 := HST.out
              rw [if_neg (by rw [← HRU.out]; exact hin)] at hst2
              have HST2 := Lib.hid hst2
              clear hst2 HST hin hsev
              go_wp2_with fail
              refine (has_calls _ (.slice a acc.length c) acc M HPR.out (by omega)).mono ?_
              rintro e w3 ⟨rfl, b3⟩
              have HJ3 := Lib.hid (HJ1.out.next b3)
              clear c0 c1 f0 f1 d00 d1 j0 j1 g0 g1 i0 i1 hz3 hz6 hzd b3 HPR
              obtain ⟨⟨c0, c1, f0, f1⟩, ⟨d00, d1, j0, j1⟩, ⟨g0, g1, i0, i1⟩, hz3, hz6, hzd⟩ := HJ3.out.cells
              cases hh : hasP acc M with
              | false =>
                have hst3 := HST2.out
                rw [if_neg (by rw [hh]; simp)] at hst3
                have HST3 := Lib.hid hst3
                clear hst3 HST2 HSEV
                go_wp2_with fail
                refine (HOK.out _ t1 _ q HIN.out y t2 z2 (by rw [HRU.out]; exact HONE.out)).mono ?_
                rw [HRU.out]
                generalize hee : (if z2 ≠ 0 then z2 else if y.n < r.least ∨ r.most < y.n then (3 : Int) else 0) = ee
                have HEE := Lib.hid hee
                rintro e w4 ⟨⟨pi, pn, ps, pt⟩, rfl, hp, b4⟩
                have HJ4 := Lib.hid (HJ3.out.next b4)
                have HPE := Lib.hid hp
                clear c0 c1 f0 f1 d00 d1 j0 j1 g0 g1 i0 i1 hz3 hz6 hzd b4 hp hee
                obtain ⟨⟨c0, c1, f0, f1⟩, ⟨d00, d1, j0, j1⟩, ⟨g0, g1, i0, i1⟩, hz3, hz6, hzd⟩ := HJ4.out.cells
                obtain ⟨ii0, hi, hz0, hzz1, hz2⟩ := info_parts Tryd.infoRProp
                unfold prV
                have hJ6 := ((HJ4.out.setd t2 ee).next (below_two _ (.cells #[.string t2, .int .i64 ee] 140) (.cells #[.int .i64 pi, .int .u32 pn, .string ps, .string pt] 153))).next (below_one _ (.cells #[.int .i64 pi, .int .u32 pn, .string ps, .string pt] 153))
                go_wp2_with ((at_builtin; refine wpList_append_own_at _ rfl _ _ 33 rfl (d0 + 1) 153 ii0 (.agg #[.int .i64 0, .int .u32 0, .string ⟨#[]⟩, .string ⟨#[]⟩]) 4 48 Tryd.underlying33 hi hz0 hzz1 hz2 rfl (by decide) _ _ _ rfl hJ6.own _ 1 1 [.int .i64 pi, .int .u32 pn, .string ps, .string pt] rfl rfl (four_new_at _ _ _ _ _ _ _ (by simp [World.setCell])) (by simp [Value.oneCell']) (by unfold maxLen; omega) (by omega) (by simp [World.setCell]; omega) ?_))
                intro v' w7 hown8 hgrow _ _
                have hown9 : OwnP (d0 + 1) 153 w7 v' (acc ++ [⟨pi, pn, ps, pt⟩]) := by
                  unfold OwnP
                  rw [show (acc ++ [(⟨pi, pn, ps, pt⟩ : Pr)]).length = acc.length + 1 by simp, List.flatMap_append]
                  exact hown8
                obtain ⟨a', c', hv'⟩ := hown9.form
                have hJ7 := hJ6.grown hgrow hown9
                rw [hv'] at hJ7
                have hlt : leftOf d0 w7 < leftOf d0 wr := by rw [leftOf_tak hJ7, hlf]; omega
                have HJ7 := Lib.hid hJ7
                have HLT := Lib.hid hlt
                have HQ7 := Lib.hid (tak_q (p := ⟨pi, pn, ps, pt⟩) hlen (by omega) hf' hoe HEE.out HPE.out HST3.out)
                rw [hv']
                clear hJ7 hlt hJ6 hown8 hown9 hgrow hv' HST3 HEE HPE HJ4 HJ3 HJ1 c0 c1 f0 f1 d00 d1 j0 j1 g0 g1 i0 i1
                go_wp2
                go_roundw
                case rel => exact ⟨_, t2, ee, a', c', rfl, HJ7.out, HQ7.out⟩
                case measure => exact HLT.out
              | true =>
                have hsev := HSEV.out
                by_cases hsv : bits .and .i64 r.sev q = 0
                · have hP : P = ([], 3) := by
                    have := HST2.out
                    rw [if_pos ⟨hh, hsv⟩] at this
                    exact this.symm
                  subst hP
                  rw [hsv] at hsev
                  clear HST2 HSEV hsv
                  have h38 : ¬ M = 38 := by
                    intro h; rw [h] at hsev; simp at hsev
                  have h38b : (M == 38) = false := by simpa using h38
                  by_cases h11 : M = 11
                  · by_cases hk3 : k = 3
                    · have hW : isW = true := by
                        rw [h11, hk3] at hsev; simpa using hsev
                      clear hsev
                      subst h11 hk3 hW
                      go_wp2
                      exact bodyPost_ret (v := .tuple #[cur s2 3, .slice none 0 0]) (by simp [results, Tryd.results76, go_sem, d00, d1]) rfl ⟨_, rfl, World.ownsRow_nil _ _ _ _, tail_ret (HJ3.out.sete 3).bel _ _⟩
                    · have hk3b : (k == 3) = false := by simpa using hk3
                      clear hsev
                      subst h11
                      go_wp2
                      exact bodyPost_ret (v := .tuple #[cur s2 3, .slice none 0 0]) (by simp [results, Tryd.results76, go_sem, d00, d1]) rfl ⟨_, rfl, World.ownsRow_nil _ _ _ _, tail_ret (HJ3.out.sete 3).bel _ _⟩
                  · clear hsev h38b
                    rcases ids_cases M with hid | ⟨_, hid⟩
                    · clear hM0 hM1 hwM
                      rcases hid with rfl | rfl | rfl | rfl | rfl | rfl | rfl | rfl | rfl | rfl | rfl | rfl | rfl | rfl | rfl | rfl | rfl | rfl | rfl | rfl | rfl | rfl | rfl | rfl | rfl | rfl | rfl
                      all_goals first
                        | exact absurd rfl h38
                        | exact absurd rfl h11
                        | (clear h38 h11
                           go_wp2
                           exact bodyPost_ret (v := .tuple #[cur s2 3, .slice none 0 0]) (by simp [results, Tryd.results76, go_sem, d00, d1]) rfl ⟨_, rfl, World.ownsRow_nil _ _ _ _, tail_ret (HJ3.out.sete 3).bel _ _⟩)
                    · exact absurd (by rw [hid]; exact and_zero _) HIN.out
                · have hst3 := HST2.out
                  rw [if_neg (by rintro ⟨_, h⟩; exact hsv h)] at hst3
                  have HST3 := Lib.hid hst3
                  have hsvb : (bits .and .i64 r.sev q == 0) = false := by simpa using hsv
                  rw [hsvb] at hsev
                  clear hst3 HST2 HSEV hsv hsvb
                  by_cases h38 : M = 38
                  · clear hsev
                    subst h38
                    go_wp2_with fail
                    refine (HOK.out _ t1 _ q HIN.out y t2 z2 (by rw [HRU.out]; exact HONE.out)).mono ?_
                    rw [HRU.out]
                    generalize hee : (if z2 ≠ 0 then z2 else if y.n < r.least ∨ r.most < y.n then (3 : Int) else 0) = ee
                    have HEE := Lib.hid hee
                    rintro e w4 ⟨⟨pi, pn, ps, pt⟩, rfl, hp, b4⟩
                    have HJ4 := Lib.hid (HJ3.out.next b4)
                    have HPE := Lib.hid hp
                    clear c0 c1 f0 f1 d00 d1 j0 j1 g0 g1 i0 i1 hz3 hz6 hzd b4 hp hee
                    obtain ⟨⟨c0, c1, f0, f1⟩, ⟨d00, d1, j0, j1⟩, ⟨g0, g1, i0, i1⟩, hz3, hz6, hzd⟩ := HJ4.out.cells
                    obtain ⟨ii0, hi, hz0, hzz1, hz2⟩ := info_parts Tryd.infoRProp
                    unfold prV
                    have hJ6 := ((HJ4.out.setd t2 ee).next (below_two _ (.cells #[.string t2, .int .i64 ee] 140) (.cells #[.int .i64 pi, .int .u32 pn, .string ps, .string pt] 153))).next (below_one _ (.cells #[.int .i64 pi, .int .u32 pn, .string ps, .string pt] 153))
                    go_wp2_with ((at_builtin; refine wpList_append_own_at _ rfl _ _ 33 rfl (d0 + 1) 153 ii0 (.agg #[.int .i64 0, .int .u32 0, .string ⟨#[]⟩, .string ⟨#[]⟩]) 4 48 Tryd.underlying33 hi hz0 hzz1 hz2 rfl (by decide) _ _ _ rfl hJ6.own _ 1 1 [.int .i64 pi, .int .u32 pn, .string ps, .string pt] rfl rfl (four_new_at _ _ _ _ _ _ _ (by simp [World.setCell])) (by simp [Value.oneCell']) (by unfold maxLen; omega) (by omega) (by simp [World.setCell]; omega) ?_))
                    intro v' w7 hown8 hgrow _ _
                    have hown9 : OwnP (d0 + 1) 153 w7 v' (acc ++ [⟨pi, pn, ps, pt⟩]) := by
                      unfold OwnP
                      rw [show (acc ++ [(⟨pi, pn, ps, pt⟩ : Pr)]).length = acc.length + 1 by simp, List.flatMap_append]
                      exact hown8
                    obtain ⟨a', c', hv'⟩ := hown9.form
                    have hJ7 := hJ6.grown hgrow hown9
                    rw [hv'] at hJ7
                    have hlt : leftOf d0 w7 < leftOf d0 wr := by rw [leftOf_tak hJ7, hlf]; omega
                    have HJ7 := Lib.hid hJ7
                    have HLT := Lib.hid hlt
                    have HQ7 := Lib.hid (tak_q (p := ⟨pi, pn, ps, pt⟩) hlen (by omega) hf' hoe HEE.out HPE.out HST3.out)
                    rw [hv']
                    clear hJ7 hlt hJ6 hown8 hown9 hgrow hv' HST3 HEE HPE HJ4 HJ3 HJ1 c0 c1 f0 f1 d00 d1 j0 j1 g0 g1 i0 i1
                    go_wp2
                    go_roundw
                    case rel => exact ⟨_, t2, ee, a', c', rfl, HJ7.out, HQ7.out⟩
                    case measure => exact HLT.out
                  · have h3 : M = 11 ∧ k = 3 ∧ isW = false := by
                      simpa [h38, and_assoc] using hsev.symm
                    obtain ⟨h11, hk3, rfl⟩ := h3
                    clear hsev h38
                    subst h11 hk3
                    go_wp2_with fail
                    refine (HOK.out _ t1 _ q HIN.out y t2 z2 (by rw [HRU.out]; exact HONE.out)).mono ?_
                    rw [HRU.out]
                    generalize hee : (if z2 ≠ 0 then z2 else if y.n < r.least ∨ r.most < y.n then (3 : Int) else 0) = ee
                    have HEE := Lib.hid hee
                    rintro e w4 ⟨⟨pi, pn, ps, pt⟩, rfl, hp, b4⟩
                    have HJ4 := Lib.hid (HJ3.out.next b4)
                    have HPE := Lib.hid hp
                    clear c0 c1 f0 f1 d00 d1 j0 j1 g0 g1 i0 i1 hz3 hz6 hzd b4 hp hee
                    obtain ⟨⟨c0, c1, f0, f1⟩, ⟨d00, d1, j0, j1⟩, ⟨g0, g1, i0, i1⟩, hz3, hz6, hzd⟩ := HJ4.out.cells
                    obtain ⟨ii0, hi, hz0, hzz1, hz2⟩ := info_parts Tryd.infoRProp
                    unfold prV
                    have hJ6 := ((HJ4.out.setd t2 ee).next (below_two _ (.cells #[.string t2, .int .i64 ee] 140) (.cells #[.int .i64 pi, .int .u32 pn, .string ps, .string pt] 153))).next (below_one _ (.cells #[.int .i64 pi, .int .u32 pn, .string ps, .string pt] 153))
                    go_wp2_with ((at_builtin; refine wpList_append_own_at _ rfl _ _ 33 rfl (d0 + 1) 153 ii0 (.agg #[.int .i64 0, .int .u32 0, .string ⟨#[]⟩, .string ⟨#[]⟩]) 4 48 Tryd.underlying33 hi hz0 hzz1 hz2 rfl (by decide) _ _ _ rfl hJ6.own _ 1 1 [.int .i64 pi, .int .u32 pn, .string ps, .string pt] rfl rfl (four_new_at _ _ _ _ _ _ _ (by simp [World.setCell])) (by simp [Value.oneCell']) (by unfold maxLen; omega) (by omega) (by simp [World.setCell]; omega) ?_))
                    intro v' w7 hown8 hgrow _ _
                    have hown9 : OwnP (d0 + 1) 153 w7 v' (acc ++ [⟨pi, pn, ps, pt⟩]) := by
                      unfold OwnP
                      rw [show (acc ++ [(⟨pi, pn, ps, pt⟩ : Pr)]).length = acc.length + 1 by simp, List.flatMap_append]
                      exact hown8
                    obtain ⟨a', c', hv'⟩ := hown9.form
                    have hJ7 := hJ6.grown hgrow hown9
                    rw [hv'] at hJ7
                    have hlt : leftOf d0 w7 < leftOf d0 wr := by rw [leftOf_tak hJ7, hlf]; omega
                    have HJ7 := Lib.hid hJ7
                    have HLT := Lib.hid hlt
                    have HQ7 := Lib.hid (tak_q (p := ⟨pi, pn, ps, pt⟩) hlen (by omega) hf' hoe HEE.out HPE.out HST3.out)
                    rw [hv']
                    clear hJ7 hlt hJ6 hown8 hown9 hgrow hv' HST3 HEE HPE HJ4 HJ3 HJ1 c0 c1 f0 f1 d00 d1 j0 j1 g0 g1 i0 i1
                    go_wp2
                    go_roundw
                    case rel => exact ⟨_, t2, ee, a', c', rfl, HJ7.out, HQ7.out⟩
                    case measure => exact HLT.out
          · have hm0 : m = 0 := HVE.out hz1
            have hP : P = ([], 2) := by
              have := HST.out
              rw [if_pos (by rw [← HRU.out, hm0]; exact and_zero _)] at this
              exact this.symm
            subst hP
            clear HST HVE HVL
            rcases hxe with hxe | rfl | rfl
            · exact absurd hxe hz1
            · obtain ⟨⟨cc0, cc1, ff0, ff1⟩, ⟨dd00, dd1, jj0, jj1⟩, ⟨gg0, gg1, ii0, ii1⟩, hhz3, hhz6, hhzd⟩ := ((HJA.out.sete 2).next (below_one _ (.cells #[.string t1, .int .i64 1] 140))).cells
              go_wp2
              exact bodyPost_ret (v := .tuple #[cur s2 2, .slice none 0 0]) (by simp [results, Tryd.results76, go_sem, d00, d1, hz6]) rfl ⟨_, rfl, World.ownsRow_nil _ _ _ _, (tail_ret (HJA.out.sete 2).bel _ _).alloc (tail_ret (HJA.out.sete 2).bel _ _).size _⟩
            · go_wp2
              exact bodyPost_ret (v := .tuple #[cur s2 2, .slice none 0 0]) (by simp [results, Tryd.results76, go_sem, d00, d1, hz6]) rfl ⟨_, rfl, World.ownsRow_nil _ _ _ _, (tail_ret HJA.out.bel _ _).alloc (tail_ret HJA.out.bel _ _).size _⟩
        · have hdone := HQQ.out.done (.inr hde)
          clear HQQ hlf
          rcases hdone with ⟨hdn, _⟩ | ⟨rfl, rfl⟩ | ⟨hd23, rfl⟩
          · exact absurd hdn hde
          · go_wp2
            exact bodyPost_ret (v := .tuple #[cur s2 2, .slice none 0 0]) (by simp [results, Tryd.results76, go_sem, d00, d1]) rfl ⟨_, rfl, World.ownsRow_nil _ _ _ _, tail_ret (HJ.out.sete 2).bel _ _⟩
          · have hdn : (de == 0) = false := by simp; omega
            have hdn1 : (de == 1) = false := by simp; omega
            go_wp2
            exact bodyPost_ret (v := .tuple #[cur s2 de, .slice none 0 0]) (by simp [results, Tryd.results76, go_sem, d00, d1]) rfl ⟨_, rfl, World.ownsRow_nil _ _ _ _, tail_ret HJ.out.bel _ _⟩
  · rw [if_pos hx]
    have hxb : (x2 == 0) = false := by simpa using hx
    clear HOK
    go_enter Tryd.func76, Tryd.ntmps76
    go_wp2_with fail
    refine (r1takevar_calls _ s x n s1 x1 HV.out).mono ?_
    rintro e y1 ⟨rfl, b1⟩
    obtain ⟨k1, k2, hz, hbl⟩ := two_kept b1
    obtain ⟨c0, c1, f0, f1⟩ := pair_cells k1
    have HB1 := Lib.hid hbl
    have K1 := Lib.hid k1
    have K2 := Lib.hid k2
    clear b1 k1 k2 hbl
    go_wp2_with fail
    refine (r1raw_calls _ s1 x1 n t s2 x2 HR.out).mono ?_
    rintro e y2 ⟨rfl, b2⟩
    obtain ⟨e0, e1, g0, g1, hz2, hk⟩ := stored2 c0 c1 b2
    rw [f0] at g0
    rw [f1] at g1
    have k6 := (hk (w.heap.size + 1) (by omega) (by omega)).trans K2.out
    obtain ⟨d00, d1, j0, j1⟩ := pair_cells k6
    have HB2 : Hid (Below w.heap.size w y2) := ((HB1.out.setCell (Nat.le_refl _) _).setCell (Nat.le_refl _) _).trans (b2.mono (by simp [World.setCell]; omega))
    clear b2 hk k6 c0 c1 f0 f1 HB1 K1 K2
    go_wp2
    exact bodyPost_ret (v := .tuple #[cur s2 x2, .slice none 0 0]) (by simp [results, Tryd.results76, go_sem, d00, d1]) rfl ⟨_, rfl, World.ownsRow_nil _ _ _ _, tail_ret ((HB2.out.setCell (Nat.le_refl _) _).setCell (Nat.le_refl _) _) _ _⟩

end Go.Proofs.YtacffjimkplieaaDoor
