/-
  Several texts, one behind the other. (No statement: contracts that the proofs of the statements use.)
-/
import Derived.Test.YtephoadjnmmbnaaDoorJPropsB
import Derived.Outline
import Derived.BigRegion
import Derived.Deep.RegionHeld3
namespace Go.Proofs.YtephoadjnmmbnaaDoor
open Go.RowKit

/-- The blocks of take: the cursor, both results, the property. -/
structure TkC (w : World) (s : ByteArray) (e : Int) (i n : Int) (a b : ByteArray) (x : World) : Prop where
  c2 : x.heap[w.heap.size]? = some (.cells #[.string s, .int .i64 e] 39 (0, 0))
  c4 : x.heap[w.heap.size + 1]? = some (.cells #[.string ⟨#[]⟩, .int .i64 0] 39 (0, 0))
  c5 : x.heap[w.heap.size + 1 + 1]? = some (.cells #[.int .i64 0, .int .u32 0, .string ⟨#[]⟩, .string ⟨#[]⟩] 168 (0, 0))
  c6 : x.heap[w.heap.size + 1 + 1 + 1]? = some (.cells #[.int .i64 i, .int .u32 n, .string a, .string b] 168 (0, 0))
  bel : Below w.heap.size w x

theorem TkC.next {w : World} {s : ByteArray} {e i n : Int} {a b : ByteArray} {x y : World} (h : TkC w s e i n a b x) (hb : Below x.heap.size x y) : TkC w s e i n a b y :=
  ⟨(hb.block _ (lt_of_block h.c2)).trans h.c2, (hb.block _ (lt_of_block h.c4)).trans h.c4, (hb.block _ (lt_of_block h.c5)).trans h.c5, (hb.block _ (lt_of_block h.c6)).trans h.c6, Below.next h.bel hb⟩
theorem new_at {w : World} {o : Obj} {b : Nat} (h : b = w.heap.size) : (w.alloc o).heap[b]? = some o := h ▸ heap_alloc_new w o
theorem TkC.start (w : World) (s : ByteArray) (i : Int) : TkC w s 0 i 0 ⟨#[]⟩ ⟨#[]⟩ ((((w.alloc (.cells #[.string s, .int .i64 0] 39)).alloc (.cells #[.string ⟨#[]⟩, .int .i64 0] 39)).alloc (.cells #[.int .i64 0, .int .u32 0, .string ⟨#[]⟩, .string ⟨#[]⟩] 168)).alloc (.cells #[.int .i64 i, .int .u32 0, .string ⟨#[]⟩, .string ⟨#[]⟩] 168)) := by
  refine ⟨?_, ?_, ?_, ?_, ?_⟩
  · rw [Below.heap_alloc _ _ _ (by simp; omega), Below.heap_alloc _ _ _ (by simp; omega), Below.heap_alloc _ _ _ (by simp)]
    exact heap_alloc_new w _
  · rw [Below.heap_alloc _ _ _ (by simp), Below.heap_alloc _ _ _ (by simp)]
    exact new_at (by simp)
  · rw [Below.heap_alloc _ _ _ (by simp)]
    exact new_at (by simp)
  · exact new_at (by simp)
  · exact (((below_two w _ _).alloc (by simp; omega) _).alloc (by simp; omega) _)

/-- The cursor, and one cell of the property, stored. -/
theorem TkC.setc {w : World} {s : ByteArray} {e i n : Int} {a b : ByteArray} {x : World} (h : TkC w s e i n a b x) (s' : ByteArray) (e' : Int) : TkC w s' e' i n a b ((x.setCell ⟨w.heap.size, 0, none⟩ (.string s')).setCell ⟨w.heap.size, 1, none⟩ (.int .i64 e')) :=
  ⟨pair_set h.c2, (far_set (by omega)).trans h.c4, (far_set (by omega)).trans h.c5, (far_set (by omega)).trans h.c6, (h.bel.setCell (Nat.le_refl _) _).setCell (Nat.le_refl _) _⟩
theorem four_set {w : World} {b j : Nat} {u0 u1 u2 u3 v : Value} {t : TypeId} (h : w.heap[b]? = some (.cells #[u0, u1, u2, u3] t (0, 0))) : (w.setCell ⟨b, j, none⟩ v).heap[b]? = some (.cells (#[u0, u1, u2, u3].setIfInBounds j v) t (0, 0)) := by
  have hb := lt_of_block h
  simp [World.setCell, Array.getElem?_modify, h]
theorem TkC.setn {w : World} {s : ByteArray} {e i n : Int} {a b : ByteArray} {x : World} (h : TkC w s e i n a b x) (n' : Int) : TkC w s e i n' a b (x.setCell ⟨w.heap.size + 1 + 1 + 1, 1, none⟩ (.int .u32 n')) :=
  ⟨(Below.heap_setCell _ _ _ _ (by show w.heap.size ≠ w.heap.size + 1 + 1 + 1; omega)).trans h.c2, (Below.heap_setCell _ _ _ _ (by show w.heap.size + 1 ≠ w.heap.size + 1 + 1 + 1; omega)).trans h.c4, (Below.heap_setCell _ _ _ _ (by show w.heap.size + 1 + 1 ≠ w.heap.size + 1 + 1 + 1; omega)).trans h.c5, four_set h.c6, h.bel.setCell (by show w.heap.size ≤ w.heap.size + 1 + 1 + 1; omega) _⟩
theorem TkC.seta {w : World} {s : ByteArray} {e i n : Int} {a b : ByteArray} {x : World} (h : TkC w s e i n a b x) (a' : ByteArray) : TkC w s e i n a' b (x.setCell ⟨w.heap.size + 1 + 1 + 1, 2, none⟩ (.string a')) :=
  ⟨(Below.heap_setCell _ _ _ _ (by show w.heap.size ≠ w.heap.size + 1 + 1 + 1; omega)).trans h.c2, (Below.heap_setCell _ _ _ _ (by show w.heap.size + 1 ≠ w.heap.size + 1 + 1 + 1; omega)).trans h.c4, (Below.heap_setCell _ _ _ _ (by show w.heap.size + 1 + 1 ≠ w.heap.size + 1 + 1 + 1; omega)).trans h.c5, four_set h.c6, h.bel.setCell (by show w.heap.size ≤ w.heap.size + 1 + 1 + 1; omega) _⟩
theorem TkC.setb {w : World} {s : ByteArray} {e i n : Int} {a b : ByteArray} {x : World} (h : TkC w s e i n a b x) (b' : ByteArray) : TkC w s e i n a b' (x.setCell ⟨w.heap.size + 1 + 1 + 1, 3, none⟩ (.string b')) :=
  ⟨(Below.heap_setCell _ _ _ _ (by show w.heap.size ≠ w.heap.size + 1 + 1 + 1; omega)).trans h.c2, (Below.heap_setCell _ _ _ _ (by show w.heap.size + 1 ≠ w.heap.size + 1 + 1 + 1; omega)).trans h.c4, (Below.heap_setCell _ _ _ _ (by show w.heap.size + 1 + 1 ≠ w.heap.size + 1 + 1 + 1; omega)).trans h.c5, four_set h.c6, h.bel.setCell (by show w.heap.size ≤ w.heap.size + 1 + 1 + 1; omega) _⟩

/-- What take answers, and leaves. -/
def TookR (w : World) (s2 : ByteArray) (x : Int) (y : Pr) (e : Ending) (w' : World) : Prop := ∃ p, e = .returned (.tuple #[cur s2 x, prV p]) ∧ (x = 0 → p = y) ∧ Below w.heap.size w w'

/-- All cells of the blocks. -/
theorem TkC.cells {w : World} {s : ByteArray} {e i n : Int} {a b : ByteArray} {x : World} (h : TkC w s e i n a b x) :
    ((x.cell? ⟨w.heap.size, 0, none⟩ = some (.string s) ∧ x.cell? ⟨w.heap.size, 1, none⟩ = some (.int .i64 e) ∧ x.frozen? ⟨w.heap.size, 0, none⟩ = false ∧ x.frozen? ⟨w.heap.size, 1, none⟩ = false) ∧
    (x.cell? ⟨w.heap.size + 1, 0, none⟩ = some (.string ⟨#[]⟩) ∧ x.cell? ⟨w.heap.size + 1, 1, none⟩ = some (.int .i64 0) ∧ x.frozen? ⟨w.heap.size + 1, 0, none⟩ = false ∧ x.frozen? ⟨w.heap.size + 1, 1, none⟩ = false)) ∧
    ((x.cell? ⟨w.heap.size + 1 + 1, 0, none⟩ = some (.int .i64 0) ∧ x.cell? ⟨w.heap.size + 1 + 1, 1, none⟩ = some (.int .u32 0) ∧ x.cell? ⟨w.heap.size + 1 + 1, 2, none⟩ = some (.string ⟨#[]⟩) ∧ x.cell? ⟨w.heap.size + 1 + 1, 3, none⟩ = some (.string ⟨#[]⟩)) ∧
    (x.frozen? ⟨w.heap.size + 1 + 1, 0, none⟩ = false ∧ x.frozen? ⟨w.heap.size + 1 + 1, 1, none⟩ = false ∧ x.frozen? ⟨w.heap.size + 1 + 1, 2, none⟩ = false ∧ x.frozen? ⟨w.heap.size + 1 + 1, 3, none⟩ = false)) ∧
    ((x.cell? ⟨w.heap.size + 1 + 1 + 1, 0, none⟩ = some (.int .i64 i) ∧ x.cell? ⟨w.heap.size + 1 + 1 + 1, 1, none⟩ = some (.int .u32 n) ∧ x.cell? ⟨w.heap.size + 1 + 1 + 1, 2, none⟩ = some (.string a) ∧ x.cell? ⟨w.heap.size + 1 + 1 + 1, 3, none⟩ = some (.string b)) ∧
    (x.frozen? ⟨w.heap.size + 1 + 1 + 1, 0, none⟩ = false ∧ x.frozen? ⟨w.heap.size + 1 + 1 + 1, 1, none⟩ = false ∧ x.frozen? ⟨w.heap.size + 1 + 1 + 1, 2, none⟩ = false ∧ x.frozen? ⟨w.heap.size + 1 + 1 + 1, 3, none⟩ = false)) ∧
    w.heap.size < x.heap.size ∧ w.heap.size + 1 < x.heap.size ∧ w.heap.size + 1 + 1 < x.heap.size ∧ w.heap.size + 1 + 1 + 1 < x.heap.size :=
  ⟨⟨pair_cells h.c2, pair_cells h.c4⟩, four_cells h.c5, four_cells h.c6, lt_of_block h.c2, lt_of_block h.c4, lt_of_block h.c5, lt_of_block h.c6⟩

theorem six_below {w W : World} (h : Below w.heap.size w W) (a b c d e f : Value) : Below w.heap.size w ((((((W.setCell ⟨w.heap.size + 1, 0, none⟩ a).setCell ⟨w.heap.size + 1, 1, none⟩ b).setCell ⟨w.heap.size + 1 + 1, 0, none⟩ c).setCell ⟨w.heap.size + 1 + 1, 1, none⟩ d).setCell ⟨w.heap.size + 1 + 1, 2, none⟩ e).setCell ⟨w.heap.size + 1 + 1, 3, none⟩ f).drew :=
  ((((((h.setCell (Nat.le_succ _) _).setCell (Nat.le_succ _) _).setCell (by show w.heap.size ≤ w.heap.size + 1 + 1; omega) _).setCell (by show w.heap.size ≤ w.heap.size + 1 + 1; omega) _).setCell (by show w.heap.size ≤ w.heap.size + 1 + 1; omega) _).setCell (by show w.heap.size ≤ w.heap.size + 1 + 1; omega) _).drew
theorem TkC.sete {w : World} {s : ByteArray} {e i n : Int} {a b : ByteArray} {x : World} (h : TkC w s e i n a b x) (e' : Int) : TkC w s e' i n a b (x.setCell ⟨w.heap.size, 1, none⟩ (.int .i64 e')) := by
  have hb := lt_of_block h.c2
  refine ⟨?_, (Below.heap_setCell _ _ _ _ (by show w.heap.size + 1 ≠ w.heap.size; omega)).trans h.c4, (Below.heap_setCell _ _ _ _ (by show w.heap.size + 1 + 1 ≠ w.heap.size; omega)).trans h.c5, (Below.heap_setCell _ _ _ _ (by show w.heap.size + 1 + 1 + 1 ≠ w.heap.size; omega)).trans h.c6, h.bel.setCell (Nat.le_refl _) _⟩
  have := h.c2
  simp [World.setCell, Array.getElem?_modify, this]

set_option maxRecDepth 100000 in
set_option maxHeartbeats 1000000 in
theorem r3take_4e (w : World) (s : ByteArray) (i : Int) (N : Nat) (s2 : ByteArray) (x2 : Int) (hr : varT 3 0 0 s 0 = (N, s2, x2)) (hk : (ruleL i).kind = 4) (hx : x2 ≠ 0) :
    Calls Tryd.prog 109 #[cur s 0, .int .i64 i] w (TookR w s2 x2 ⟨i, N, ⟨#[]⟩, ⟨#[]⟩⟩) := by
  have hT0 := TkC.start w s i
  have HR := Lib.hid hr
  have HK := Lib.hid hk
  clear hr hk
  have hxb : (x2 == 0) = false := by simpa using hx
  have HX := Lib.hid hx
  clear hx
  go_enter Tryd.func109, Tryd.ntmps109
  go_wp2_with fail
  refine (r3kind_calls _ i).mono ?_
  rw [HK.out]
  rintro e y1 ⟨rfl, hy1⟩
  rw [hy1] at hT0
  clear hy1
  obtain ⟨c0, c1, cf0, cf1⟩ := pair_cells hT0.c2
  have HT0 := Lib.hid hT0
  clear hT0
  go_wp2_with fail
  refine (r1takevar_calls _ s 0 N s2 x2 HR.out).mono ?_
  rintro e y2 ⟨rfl, b2⟩
  have hT2 := HT0.out.next b2
  clear c0 c1 cf0 cf1 b2
  obtain ⟨⟨⟨c0, c1, cf0, cf1⟩, q0, q1, qf0, qf1⟩, ⟨⟨r0, r1, r2, r3⟩, rf0, rf1, rf2, rf3⟩, ⟨⟨p0, p1, p2, p3⟩, pf0, pf1, pf2, pf3⟩, z2, z4, z5, z6⟩ := hT2.cells
  have HT2 := Lib.hid hT2
  clear hT2 HT0
  go_wp2_with fail
  have hT3 := ((HT2.out.setc s2 x2).setn N).next (below_one _ (.cells #[.string s2, .int .i64 x2] 39))
  clear c0 c1 cf0 cf1 q0 q1 qf0 qf1 r0 r1 r2 r3 rf0 rf1 rf2 rf3 p0 p1 p2 p3 pf0 pf1 pf2 pf3 z2 z4 z5 z6 HT2
  generalize (((y2.setCell ⟨w.heap.size, 0, none⟩ (.string s2)).setCell ⟨w.heap.size, 1, none⟩ (.int .i64 x2)).setCell ⟨w.heap.size + 1 + 1 + 1, 1, none⟩ (.int .u32 N)).alloc (.cells #[.string s2, .int .i64 x2] 39) = W at *
  obtain ⟨⟨⟨c0, c1, cf0, cf1⟩, q0, q1, qf0, qf1⟩, ⟨⟨r0, r1, r2, r3⟩, rf0, rf1, rf2, rf3⟩, ⟨⟨p0, p1, p2, p3⟩, pf0, pf1, pf2, pf3⟩, z2, z4, z5, z6⟩ := hT3.cells
  have HT3 := Lib.hid hT3
  clear hT3
  go_region
  go_wp2
  refine bodyPost_ret (v := .tuple #[cur s2 x2, prV ⟨i, N, ⟨#[]⟩, ⟨#[]⟩⟩]) ?_ rfl ⟨_, rfl, (fun h => absurd h HX.out), ?_⟩
  · simp [results, Tryd.results109, go_sem, q0, q1, r0, r1, r2, r3]
  · exact six_below HT3.out.bel _ _ _ _ _ _

set_option maxRecDepth 100000 in
set_option maxHeartbeats 1000000 in
theorem r3take_4g (w : World) (s : ByteArray) (i : Int) (N : Nat) (s2 : ByteArray) (hr : varT 3 0 0 s 0 = (N, s2, 0)) (hk : (ruleL i).kind = 4) (hs : saysB i N = true) :
    Calls Tryd.prog 109 #[cur s 0, .int .i64 i] w (TookR w s2 0 ⟨i, N, ⟨#[]⟩, ⟨#[]⟩⟩) := by
  have hT0 := TkC.start w s i
  have HR := Lib.hid hr
  have HK := Lib.hid hk
  clear hr hk
  have HS := Lib.hid hs
  clear hs
  go_enter Tryd.func109, Tryd.ntmps109
  go_wp2_with fail
  refine (r3kind_calls _ i).mono ?_
  rw [HK.out]
  rintro e y1 ⟨rfl, hy1⟩
  rw [hy1] at hT0
  clear hy1
  obtain ⟨c0, c1, cf0, cf1⟩ := pair_cells hT0.c2
  have HT0 := Lib.hid hT0
  clear hT0
  go_wp2_with fail
  refine (r1takevar_calls _ s 0 N s2 0 HR.out).mono ?_
  rintro e y2 ⟨rfl, b2⟩
  have hT2 := HT0.out.next b2
  clear c0 c1 cf0 cf1 b2
  obtain ⟨⟨⟨c0, c1, cf0, cf1⟩, q0, q1, qf0, qf1⟩, ⟨⟨r0, r1, r2, r3⟩, rf0, rf1, rf2, rf3⟩, ⟨⟨p0, p1, p2, p3⟩, pf0, pf1, pf2, pf3⟩, z2, z4, z5, z6⟩ := hT2.cells
  have HT2 := Lib.hid hT2
  clear hT2 HT0
  go_wp2_with fail
  refine (r3kind_calls _ i).mono ?_
  rw [HK.out]
  rintro e y3 ⟨rfl, rfl⟩
  clear HK
  go_wp2_with fail
  refine (says_calls _ i N).mono ?_
  rw [HS.out]
  rintro e y3 ⟨rfl, rfl⟩
  clear HS
  go_wp2_with fail
  have hT3 := ((HT2.out.setc s2 0).setn N).next (below_one _ (.cells #[.string s2, .int .i64 0] 39))
  clear c0 c1 cf0 cf1 q0 q1 qf0 qf1 r0 r1 r2 r3 rf0 rf1 rf2 rf3 p0 p1 p2 p3 pf0 pf1 pf2 pf3 z2 z4 z5 z6 HT2
  generalize (((y2.setCell ⟨w.heap.size, 0, none⟩ (.string s2)).setCell ⟨w.heap.size, 1, none⟩ (.int .i64 0)).setCell ⟨w.heap.size + 1 + 1 + 1, 1, none⟩ (.int .u32 N)).alloc (.cells #[.string s2, .int .i64 0] 39) = W at *
  obtain ⟨⟨⟨c0, c1, cf0, cf1⟩, q0, q1, qf0, qf1⟩, ⟨⟨r0, r1, r2, r3⟩, rf0, rf1, rf2, rf3⟩, ⟨⟨p0, p1, p2, p3⟩, pf0, pf1, pf2, pf3⟩, z2, z4, z5, z6⟩ := hT3.cells
  have HT3 := Lib.hid hT3
  clear hT3
  go_region
  go_wp2
  refine bodyPost_ret (v := .tuple #[cur s2 0, prV ⟨i, N, ⟨#[]⟩, ⟨#[]⟩⟩]) ?_ rfl ⟨_, rfl, (fun _ => rfl), ?_⟩
  · simp [results, Tryd.results109, go_sem, q0, q1, r0, r1, r2, r3]
  · exact six_below HT3.out.bel _ _ _ _ _ _

set_option maxRecDepth 100000 in
set_option maxHeartbeats 1000000 in
theorem r3take_4b (w : World) (s : ByteArray) (i : Int) (N : Nat) (s2 : ByteArray) (hr : varT 3 0 0 s 0 = (N, s2, 0)) (hk : (ruleL i).kind = 4) (hs : saysB i N = false) :
    Calls Tryd.prog 109 #[cur s 0, .int .i64 i] w (TookR w s2 3 ⟨i, N, ⟨#[]⟩, ⟨#[]⟩⟩) := by
  have hT0 := TkC.start w s i
  have HR := Lib.hid hr
  have HK := Lib.hid hk
  clear hr hk
  have HS := Lib.hid hs
  clear hs
  go_enter Tryd.func109, Tryd.ntmps109
  go_wp2_with fail
  refine (r3kind_calls _ i).mono ?_
  rw [HK.out]
  rintro e y1 ⟨rfl, hy1⟩
  rw [hy1] at hT0
  clear hy1
  obtain ⟨c0, c1, cf0, cf1⟩ := pair_cells hT0.c2
  have HT0 := Lib.hid hT0
  clear hT0
  go_wp2_with fail
  refine (r1takevar_calls _ s 0 N s2 0 HR.out).mono ?_
  rintro e y2 ⟨rfl, b2⟩
  have hT2 := HT0.out.next b2
  clear c0 c1 cf0 cf1 b2
  obtain ⟨⟨⟨c0, c1, cf0, cf1⟩, q0, q1, qf0, qf1⟩, ⟨⟨r0, r1, r2, r3⟩, rf0, rf1, rf2, rf3⟩, ⟨⟨p0, p1, p2, p3⟩, pf0, pf1, pf2, pf3⟩, z2, z4, z5, z6⟩ := hT2.cells
  have HT2 := Lib.hid hT2
  clear hT2 HT0
  go_wp2_with fail
  refine (r3kind_calls _ i).mono ?_
  rw [HK.out]
  rintro e y3 ⟨rfl, rfl⟩
  clear HK
  go_wp2_with fail
  refine (says_calls _ i N).mono ?_
  rw [HS.out]
  rintro e y3 ⟨rfl, rfl⟩
  clear HS
  have hT3 := ((HT2.out.setc s2 0).setn N).next (below_one _ (.cells #[.string s2, .int .i64 0] 39))
  clear c0 c1 cf0 cf1 q0 q1 qf0 qf1 r0 r1 r2 r3 rf0 rf1 rf2 rf3 p0 p1 p2 p3 pf0 pf1 pf2 pf3 z2 z4 z5 z6 HT2
  generalize (((y2.setCell ⟨w.heap.size, 0, none⟩ (.string s2)).setCell ⟨w.heap.size, 1, none⟩ (.int .i64 0)).setCell ⟨w.heap.size + 1 + 1 + 1, 1, none⟩ (.int .u32 N)).alloc (.cells #[.string s2, .int .i64 0] 39) = W3 at *
  obtain ⟨⟨⟨c0, c1, cf0, cf1⟩, q0, q1, qf0, qf1⟩, ⟨⟨r0, r1, r2, r3⟩, rf0, rf1, rf2, rf3⟩, ⟨⟨p0, p1, p2, p3⟩, pf0, pf1, pf2, pf3⟩, z2, z4, z5, z6⟩ := hT3.cells
  have HT2 := Lib.hid hT3
  clear hT3
  go_wp2_with fail
  have hT3 := HT2.out.sete 3
  clear c0 c1 cf0 cf1 q0 q1 qf0 qf1 r0 r1 r2 r3 rf0 rf1 rf2 rf3 p0 p1 p2 p3 pf0 pf1 pf2 pf3 z2 z4 z5 z6 HT2
  generalize W3.setCell ⟨w.heap.size, 1, none⟩ (.int .i64 3) = W at *
  obtain ⟨⟨⟨c0, c1, cf0, cf1⟩, q0, q1, qf0, qf1⟩, ⟨⟨r0, r1, r2, r3⟩, rf0, rf1, rf2, rf3⟩, ⟨⟨p0, p1, p2, p3⟩, pf0, pf1, pf2, pf3⟩, z2, z4, z5, z6⟩ := hT3.cells
  have HT3 := Lib.hid hT3
  clear hT3
  go_region
  go_wp2
  refine bodyPost_ret (v := .tuple #[cur s2 3, prV ⟨i, N, ⟨#[]⟩, ⟨#[]⟩⟩]) ?_ rfl ⟨_, rfl, (fun h => absurd h (by decide)), ?_⟩
  · simp [results, Tryd.results109, go_sem, q0, q1, r0, r1, r2, r3]
  · exact six_below HT3.out.bel _ _ _ _ _ _

set_option maxRecDepth 100000 in
set_option maxHeartbeats 1000000 in
theorem r3take_5e (w : World) (s : ByteArray) (i : Int) (a s2 : ByteArray) (x2 : Int) (hr : TakS s 0 a s2 x2) (hk : (ruleL i).kind = 5) (hx : x2 ≠ 0) :
    Calls Tryd.prog 109 #[cur s 0, .int .i64 i] w (TookR w s2 x2 ⟨i, 0, a, ⟨#[]⟩⟩) := by
  have hT0 := TkC.start w s i
  have HR := Lib.hid hr
  have HK := Lib.hid hk
  clear hr hk
  have hxb : (x2 == 0) = false := by simpa using hx
  have HX := Lib.hid hx
  clear hx
  go_enter Tryd.func109, Tryd.ntmps109
  go_wp2_with fail
  refine (r3kind_calls _ i).mono ?_
  rw [HK.out]
  rintro e y1 ⟨rfl, hy1⟩
  rw [hy1] at hT0
  clear hy1
  obtain ⟨c0, c1, cf0, cf1⟩ := pair_cells hT0.c2
  have HT0 := Lib.hid hT0
  clear hT0
  go_wp2_with fail
  refine (r2take_calls _ s 0 a s2 x2 HR.out).mono ?_
  rintro e y2 ⟨rfl, b2⟩
  have hT2 := HT0.out.next b2
  clear c0 c1 cf0 cf1 b2
  obtain ⟨⟨⟨c0, c1, cf0, cf1⟩, q0, q1, qf0, qf1⟩, ⟨⟨r0, r1, r2, r3⟩, rf0, rf1, rf2, rf3⟩, ⟨⟨p0, p1, p2, p3⟩, pf0, pf1, pf2, pf3⟩, z2, z4, z5, z6⟩ := hT2.cells
  have HT2 := Lib.hid hT2
  clear hT2 HT0
  go_wp2_with fail
  have hT3 := ((HT2.out.setc s2 x2).seta a).next (below_one _ (.cells #[.string s2, .int .i64 x2] 39))
  clear c0 c1 cf0 cf1 q0 q1 qf0 qf1 r0 r1 r2 r3 rf0 rf1 rf2 rf3 p0 p1 p2 p3 pf0 pf1 pf2 pf3 z2 z4 z5 z6 HT2
  generalize (((y2.setCell ⟨w.heap.size, 0, none⟩ (.string s2)).setCell ⟨w.heap.size, 1, none⟩ (.int .i64 x2)).setCell ⟨w.heap.size + 1 + 1 + 1, 2, none⟩ (.string a)).alloc (.cells #[.string s2, .int .i64 x2] 39) = W at *
  obtain ⟨⟨⟨c0, c1, cf0, cf1⟩, q0, q1, qf0, qf1⟩, ⟨⟨r0, r1, r2, r3⟩, rf0, rf1, rf2, rf3⟩, ⟨⟨p0, p1, p2, p3⟩, pf0, pf1, pf2, pf3⟩, z2, z4, z5, z6⟩ := hT3.cells
  have HT3 := Lib.hid hT3
  clear hT3
  go_region
  go_wp2
  refine bodyPost_ret (v := .tuple #[cur s2 x2, prV ⟨i, 0, a, ⟨#[]⟩⟩]) ?_ rfl ⟨_, rfl, (fun h => absurd h HX.out), ?_⟩
  · simp [results, Tryd.results109, go_sem, q0, q1, r0, r1, r2, r3]
  · exact six_below HT3.out.bel _ _ _ _ _ _

set_option maxRecDepth 100000 in
set_option maxHeartbeats 1000000 in
theorem r3take_5g (w : World) (s : ByteArray) (i : Int) (a s2 : ByteArray) (hr : TakS s 0 a s2 0) (hk : (ruleL i).kind = 5) :
    Calls Tryd.prog 109 #[cur s 0, .int .i64 i] w (TookR w s2 0 ⟨i, 0, a, ⟨#[]⟩⟩) := by
  have hT0 := TkC.start w s i
  have HR := Lib.hid hr
  have HK := Lib.hid hk
  clear hr hk
  go_enter Tryd.func109, Tryd.ntmps109
  go_wp2_with fail
  refine (r3kind_calls _ i).mono ?_
  rw [HK.out]
  rintro e y1 ⟨rfl, hy1⟩
  rw [hy1] at hT0
  clear hy1
  obtain ⟨c0, c1, cf0, cf1⟩ := pair_cells hT0.c2
  have HT0 := Lib.hid hT0
  clear hT0
  go_wp2_with fail
  refine (r2take_calls _ s 0 a s2 0 HR.out).mono ?_
  rintro e y2 ⟨rfl, b2⟩
  have hT2 := HT0.out.next b2
  clear c0 c1 cf0 cf1 b2
  obtain ⟨⟨⟨c0, c1, cf0, cf1⟩, q0, q1, qf0, qf1⟩, ⟨⟨r0, r1, r2, r3⟩, rf0, rf1, rf2, rf3⟩, ⟨⟨p0, p1, p2, p3⟩, pf0, pf1, pf2, pf3⟩, z2, z4, z5, z6⟩ := hT2.cells
  have HT2 := Lib.hid hT2
  clear hT2 HT0
  go_wp2_with fail
  refine (r3kind_calls _ i).mono ?_
  rw [HK.out]
  rintro e y3 ⟨rfl, rfl⟩
  clear HK
  go_wp2_with fail
  have hT3 := ((HT2.out.setc s2 0).seta a).next (below_one _ (.cells #[.string s2, .int .i64 0] 39))
  clear c0 c1 cf0 cf1 q0 q1 qf0 qf1 r0 r1 r2 r3 rf0 rf1 rf2 rf3 p0 p1 p2 p3 pf0 pf1 pf2 pf3 z2 z4 z5 z6 HT2
  generalize (((y2.setCell ⟨w.heap.size, 0, none⟩ (.string s2)).setCell ⟨w.heap.size, 1, none⟩ (.int .i64 0)).setCell ⟨w.heap.size + 1 + 1 + 1, 2, none⟩ (.string a)).alloc (.cells #[.string s2, .int .i64 0] 39) = W at *
  obtain ⟨⟨⟨c0, c1, cf0, cf1⟩, q0, q1, qf0, qf1⟩, ⟨⟨r0, r1, r2, r3⟩, rf0, rf1, rf2, rf3⟩, ⟨⟨p0, p1, p2, p3⟩, pf0, pf1, pf2, pf3⟩, z2, z4, z5, z6⟩ := hT3.cells
  have HT3 := Lib.hid hT3
  clear hT3
  go_region
  go_wp2
  refine bodyPost_ret (v := .tuple #[cur s2 0, prV ⟨i, 0, a, ⟨#[]⟩⟩]) ?_ rfl ⟨_, rfl, (fun _ => rfl), ?_⟩
  · simp [results, Tryd.results109, go_sem, q0, q1, r0, r1, r2, r3]
  · exact six_below HT3.out.bel _ _ _ _ _ _

set_option maxRecDepth 100000 in
set_option maxHeartbeats 1000000 in
theorem r3take_6e (w : World) (s : ByteArray) (i : Int) (t s1 : ByteArray) (x1 : Int) (a s2 : ByteArray) (x2 : Int) (hr : rawT s 0 2 = (t, s1, x1)) (hr2 : rawT s1 x1 (numL t.data.toList) = (a, s2, x2)) (hk : (ruleL i).kind = 6) (hx : x2 ≠ 0) :
    Calls Tryd.prog 109 #[cur s 0, .int .i64 i] w (TookR w s2 x2 ⟨i, 0, a, ⟨#[]⟩⟩) := by
  have hT0 := TkC.start w s i
  have HR := Lib.hid hr
  have HR2 := Lib.hid hr2
  have HK := Lib.hid hk
  clear hr hr2 hk
  have hxb : (x2 == 0) = false := by simpa using hx
  have HX := Lib.hid hx
  clear hx
  go_enter Tryd.func109, Tryd.ntmps109
  go_wp2_with fail
  refine (r3kind_calls _ i).mono ?_
  rw [HK.out]
  rintro e y1 ⟨rfl, hy1⟩
  rw [hy1] at hT0
  clear hy1
  obtain ⟨c0, c1, cf0, cf1⟩ := pair_cells hT0.c2
  have HT0 := Lib.hid hT0
  clear hT0
  go_wp2_with fail
  refine (r1data2_calls _ s 0 t s1 x1 HR.out a s2 x2 HR2.out).mono ?_
  rintro e y2 ⟨rfl, b2⟩
  have hT2 := HT0.out.next b2
  clear c0 c1 cf0 cf1 b2
  obtain ⟨⟨⟨c0, c1, cf0, cf1⟩, q0, q1, qf0, qf1⟩, ⟨⟨r0, r1, r2, r3⟩, rf0, rf1, rf2, rf3⟩, ⟨⟨p0, p1, p2, p3⟩, pf0, pf1, pf2, pf3⟩, z2, z4, z5, z6⟩ := hT2.cells
  have HT2 := Lib.hid hT2
  clear hT2 HT0
  go_wp2_with fail
  have hT3 := ((HT2.out.setc s2 x2).seta a).next (below_one _ (.cells #[.string s2, .int .i64 x2] 39))
  clear c0 c1 cf0 cf1 q0 q1 qf0 qf1 r0 r1 r2 r3 rf0 rf1 rf2 rf3 p0 p1 p2 p3 pf0 pf1 pf2 pf3 z2 z4 z5 z6 HT2
  generalize (((y2.setCell ⟨w.heap.size, 0, none⟩ (.string s2)).setCell ⟨w.heap.size, 1, none⟩ (.int .i64 x2)).setCell ⟨w.heap.size + 1 + 1 + 1, 2, none⟩ (.string a)).alloc (.cells #[.string s2, .int .i64 x2] 39) = W at *
  obtain ⟨⟨⟨c0, c1, cf0, cf1⟩, q0, q1, qf0, qf1⟩, ⟨⟨r0, r1, r2, r3⟩, rf0, rf1, rf2, rf3⟩, ⟨⟨p0, p1, p2, p3⟩, pf0, pf1, pf2, pf3⟩, z2, z4, z5, z6⟩ := hT3.cells
  have HT3 := Lib.hid hT3
  clear hT3
  go_region
  go_wp2
  refine bodyPost_ret (v := .tuple #[cur s2 x2, prV ⟨i, 0, a, ⟨#[]⟩⟩]) ?_ rfl ⟨_, rfl, (fun h => absurd h HX.out), ?_⟩
  · simp [results, Tryd.results109, go_sem, q0, q1, r0, r1, r2, r3]
  · exact six_below HT3.out.bel _ _ _ _ _ _

set_option maxRecDepth 100000 in
set_option maxHeartbeats 1000000 in
theorem r3take_6g (w : World) (s : ByteArray) (i : Int) (t s1 : ByteArray) (x1 : Int) (a s2 : ByteArray) (hr : rawT s 0 2 = (t, s1, x1)) (hr2 : rawT s1 x1 (numL t.data.toList) = (a, s2, 0)) (hk : (ruleL i).kind = 6) :
    Calls Tryd.prog 109 #[cur s 0, .int .i64 i] w (TookR w s2 0 ⟨i, 0, a, ⟨#[]⟩⟩) := by
  have hT0 := TkC.start w s i
  have HR := Lib.hid hr
  have HR2 := Lib.hid hr2
  have HK := Lib.hid hk
  clear hr hr2 hk
  go_enter Tryd.func109, Tryd.ntmps109
  go_wp2_with fail
  refine (r3kind_calls _ i).mono ?_
  rw [HK.out]
  rintro e y1 ⟨rfl, hy1⟩
  rw [hy1] at hT0
  clear hy1
  obtain ⟨c0, c1, cf0, cf1⟩ := pair_cells hT0.c2
  have HT0 := Lib.hid hT0
  clear hT0
  go_wp2_with fail
  refine (r1data2_calls _ s 0 t s1 x1 HR.out a s2 0 HR2.out).mono ?_
  rintro e y2 ⟨rfl, b2⟩
  have hT2 := HT0.out.next b2
  clear c0 c1 cf0 cf1 b2
  obtain ⟨⟨⟨c0, c1, cf0, cf1⟩, q0, q1, qf0, qf1⟩, ⟨⟨r0, r1, r2, r3⟩, rf0, rf1, rf2, rf3⟩, ⟨⟨p0, p1, p2, p3⟩, pf0, pf1, pf2, pf3⟩, z2, z4, z5, z6⟩ := hT2.cells
  have HT2 := Lib.hid hT2
  clear hT2 HT0
  go_wp2_with fail
  refine (r3kind_calls _ i).mono ?_
  rw [HK.out]
  rintro e y3 ⟨rfl, rfl⟩
  clear HK
  go_wp2_with fail
  have hT3 := ((HT2.out.setc s2 0).seta a).next (below_one _ (.cells #[.string s2, .int .i64 0] 39))
  clear c0 c1 cf0 cf1 q0 q1 qf0 qf1 r0 r1 r2 r3 rf0 rf1 rf2 rf3 p0 p1 p2 p3 pf0 pf1 pf2 pf3 z2 z4 z5 z6 HT2
  generalize (((y2.setCell ⟨w.heap.size, 0, none⟩ (.string s2)).setCell ⟨w.heap.size, 1, none⟩ (.int .i64 0)).setCell ⟨w.heap.size + 1 + 1 + 1, 2, none⟩ (.string a)).alloc (.cells #[.string s2, .int .i64 0] 39) = W at *
  obtain ⟨⟨⟨c0, c1, cf0, cf1⟩, q0, q1, qf0, qf1⟩, ⟨⟨r0, r1, r2, r3⟩, rf0, rf1, rf2, rf3⟩, ⟨⟨p0, p1, p2, p3⟩, pf0, pf1, pf2, pf3⟩, z2, z4, z5, z6⟩ := hT3.cells
  have HT3 := Lib.hid hT3
  clear hT3
  go_region
  go_wp2
  refine bodyPost_ret (v := .tuple #[cur s2 0, prV ⟨i, 0, a, ⟨#[]⟩⟩]) ?_ rfl ⟨_, rfl, (fun _ => rfl), ?_⟩
  · simp [results, Tryd.results109, go_sem, q0, q1, r0, r1, r2, r3]
  · exact six_below HT3.out.bel _ _ _ _ _ _

end Go.Proofs.YtephoadjnmmbnaaDoor

namespace Go.Proofs.YtephoadjnmmbnaaDoor
open Go.RowKit

set_option maxRecDepth 100000 in
set_option maxHeartbeats 1000000 in
theorem r3take_7e (w : World) (s : ByteArray) (i : Int) (a s1 : ByteArray) (x1 : Int) (b s2 : ByteArray) (x2 : Int) (hr : TakS s 0 a s1 x1) (hr2 : TakS s1 x1 b s2 x2) (hk : (ruleL i).kind = 7) (hx : x2 ≠ 0) (y : Pr) :
    Calls Tryd.prog 109 #[cur s 0, .int .i64 i] w (TookR w s2 x2 y) := by
  have hT0 := TkC.start w s i
  have HR := Lib.hid hr
  have HR2 := Lib.hid hr2
  have HK := Lib.hid hk
  have hxb : (x2 == 0) = false := by simpa using hx
  have HX := Lib.hid hx
  clear hr hr2 hk hx
  go_enter Tryd.func109, Tryd.ntmps109
  go_wp2_with fail
  refine (r3kind_calls _ i).mono ?_
  rw [HK.out]
  rintro e y1 ⟨rfl, hy1⟩
  rw [hy1] at hT0
  clear hy1
  obtain ⟨c0, c1, cf0, cf1⟩ := pair_cells hT0.c2
  have HT0 := Lib.hid hT0
  clear hT0
  go_wp2_with fail
  refine (r2take_calls _ s 0 a s1 x1 HR.out).mono ?_
  rintro e y2 ⟨rfl, b2⟩
  have hT2 := (HT0.out.next b2).next (below_one y2 (.cells #[.string s1, .int .i64 x1] 39))
  clear c0 c1 cf0 cf1 b2
  have HT2 := Lib.hid hT2
  clear hT2 HT0
  go_wp2_with fail
  refine (r2take_calls _ s1 x1 b s2 x2 HR2.out).mono ?_
  rintro e y3 ⟨rfl, b3⟩
  have hT3 := HT2.out.next b3
  clear b3 HT2
  obtain ⟨⟨⟨c0, c1, cf0, cf1⟩, q0, q1, qf0, qf1⟩, ⟨⟨r0, r1, r2, r3⟩, rf0, rf1, rf2, rf3⟩, ⟨⟨p0, p1, p2, p3⟩, pf0, pf1, pf2, pf3⟩, z2, z4, z5, z6⟩ := hT3.cells
  have HT3 := Lib.hid hT3
  clear hT3
  go_wp2_with fail
  have hT4 := (((HT3.out.setc s2 x2).seta a).setb b).next (below_one _ (.cells #[.string s2, .int .i64 x2] 39))
  clear c0 c1 cf0 cf1 q0 q1 qf0 qf1 r0 r1 r2 r3 rf0 rf1 rf2 rf3 p0 p1 p2 p3 pf0 pf1 pf2 pf3 z2 z4 z5 z6 HT3
  generalize ((((y3.setCell ⟨w.heap.size, 0, none⟩ (.string s2)).setCell ⟨w.heap.size, 1, none⟩ (.int .i64 x2)).setCell ⟨w.heap.size + 1 + 1 + 1, 2, none⟩ (.string a)).setCell ⟨w.heap.size + 1 + 1 + 1, 3, none⟩ (.string b)).alloc (.cells #[.string s2, .int .i64 x2] 39) = W at *
  obtain ⟨⟨⟨c0, c1, cf0, cf1⟩, q0, q1, qf0, qf1⟩, ⟨⟨r0, r1, r2, r3⟩, rf0, rf1, rf2, rf3⟩, ⟨⟨p0, p1, p2, p3⟩, pf0, pf1, pf2, pf3⟩, z2, z4, z5, z6⟩ := hT4.cells
  have HT4 := Lib.hid hT4
  clear hT4
  go_region
  go_wp2
  refine bodyPost_ret (v := .tuple #[cur s2 x2, prV ⟨i, 0, a, b⟩]) ?_ rfl ⟨_, rfl, (fun h => absurd h HX.out), ?_⟩
  · simp [results, Tryd.results109, go_sem, q0, q1, r0, r1, r2, r3]
  · exact six_below HT4.out.bel _ _ _ _ _ _

set_option maxRecDepth 100000 in
set_option maxHeartbeats 1000000 in
theorem r3take_7g (w : World) (s : ByteArray) (i : Int) (a s1 : ByteArray) (x1 : Int) (b s2 : ByteArray) (hr : TakS s 0 a s1 x1) (hr2 : TakS s1 x1 b s2 0) (hk : (ruleL i).kind = 7) :
    Calls Tryd.prog 109 #[cur s 0, .int .i64 i] w (TookR w s2 0 ⟨i, 0, a, b⟩) := by
  have hT0 := TkC.start w s i
  have HR := Lib.hid hr
  have HR2 := Lib.hid hr2
  have HK := Lib.hid hk
  clear hr hr2 hk
  go_enter Tryd.func109, Tryd.ntmps109
  go_wp2_with fail
  refine (r3kind_calls _ i).mono ?_
  rw [HK.out]
  rintro e y1 ⟨rfl, hy1⟩
  rw [hy1] at hT0
  clear hy1
  obtain ⟨c0, c1, cf0, cf1⟩ := pair_cells hT0.c2
  have HT0 := Lib.hid hT0
  clear hT0
  go_wp2_with fail
  refine (r2take_calls _ s 0 a s1 x1 HR.out).mono ?_
  rintro e y2 ⟨rfl, b2⟩
  have hT2 := (HT0.out.next b2).next (below_one y2 (.cells #[.string s1, .int .i64 x1] 39))
  clear c0 c1 cf0 cf1 b2
  have HT2 := Lib.hid hT2
  clear hT2 HT0
  go_wp2_with fail
  refine (r2take_calls _ s1 x1 b s2 0 HR2.out).mono ?_
  rintro e y3 ⟨rfl, b3⟩
  have hT3 := HT2.out.next b3
  clear b3 HT2
  obtain ⟨⟨⟨c0, c1, cf0, cf1⟩, q0, q1, qf0, qf1⟩, ⟨⟨r0, r1, r2, r3⟩, rf0, rf1, rf2, rf3⟩, ⟨⟨p0, p1, p2, p3⟩, pf0, pf1, pf2, pf3⟩, z2, z4, z5, z6⟩ := hT3.cells
  have HT3 := Lib.hid hT3
  clear hT3
  go_wp2_with fail
  refine (r3kind_calls _ i).mono ?_
  rw [HK.out]
  rintro e y4 ⟨rfl, rfl⟩
  clear HK
  go_wp2_with fail
  have hT4 := (((HT3.out.setc s2 0).seta a).setb b).next (below_one _ (.cells #[.string s2, .int .i64 0] 39))
  clear c0 c1 cf0 cf1 q0 q1 qf0 qf1 r0 r1 r2 r3 rf0 rf1 rf2 rf3 p0 p1 p2 p3 pf0 pf1 pf2 pf3 z2 z4 z5 z6 HT3
  generalize ((((y3.setCell ⟨w.heap.size, 0, none⟩ (.string s2)).setCell ⟨w.heap.size, 1, none⟩ (.int .i64 0)).setCell ⟨w.heap.size + 1 + 1 + 1, 2, none⟩ (.string a)).setCell ⟨w.heap.size + 1 + 1 + 1, 3, none⟩ (.string b)).alloc (.cells #[.string s2, .int .i64 0] 39) = W at *
  obtain ⟨⟨⟨c0, c1, cf0, cf1⟩, q0, q1, qf0, qf1⟩, ⟨⟨r0, r1, r2, r3⟩, rf0, rf1, rf2, rf3⟩, ⟨⟨p0, p1, p2, p3⟩, pf0, pf1, pf2, pf3⟩, z2, z4, z5, z6⟩ := hT4.cells
  have HT4 := Lib.hid hT4
  clear hT4
  go_region
  go_wp2
  refine bodyPost_ret (v := .tuple #[cur s2 0, prV ⟨i, 0, a, b⟩]) ?_ rfl ⟨_, rfl, (fun _ => rfl), ?_⟩
  · simp [results, Tryd.results109, go_sem, q0, q1, r0, r1, r2, r3]
  · exact six_below HT4.out.bel _ _ _ _ _ _

end Go.Proofs.YtephoadjnmmbnaaDoor

namespace Go.Proofs.YtephoadjnmmbnaaDoor
open Go.RowKit

/-- What the document's take does, of whatever kind. -/
def TakeOk : Prop := ∀ (w : World) (s : ByteArray) (i q : Int) (_ : ¬ bits .and .i64 (ruleL i).inn q = 0) (y : Pr) (s2 : ByteArray) (x2 : Int) (_ : oneT (ruleL i).kind i s = (y, s2, x2)),
  Calls Tryd.prog 109 #[cur s 0, .int .i64 i] w (TookR w s2 (if x2 ≠ 0 then x2 else if y.n < (ruleL i).least ∨ (ruleL i).most < y.n then 3 else 0) y)

/-- What holds in Take's loop. -/
structure TakJ (w : World) (d0 : Nat) (cs ds : ByteArray) (de : Int) (v : Value) (acc : List Pr) (wr : World) : Prop where
  c3 : wr.heap[w.heap.size]? = some (.cells #[.string cs, .int .i64 0] 39 (0, 0))
  c6 : wr.heap[w.heap.size + 1]? = some (.cells #[.string ⟨#[]⟩, .int .i64 0] 39 (0, 0))
  cd : wr.heap[d0]? = some (.cells #[.string ds, .int .i64 de] 39 (0, 0))
  own : OwnP (d0 + 1) 168 wr v acc
  bel : Below w.heap.size w wr
  hd : w.heap.size + 1 < d0

theorem TakJ.next {w : World} {d0 : Nat} {cs ds : ByteArray} {de : Int} {v : Value} {acc : List Pr} {x y : World} (h : TakJ w d0 cs ds de v acc x) (hb : Below x.heap.size x y) : TakJ w d0 cs ds de v acc y :=
  ⟨(hb.block _ (lt_of_block h.c3)).trans h.c3, (hb.block _ (lt_of_block h.c6)).trans h.c6, (hb.block _ (lt_of_block h.cd)).trans h.cd, h.own.below hb, Below.next h.bel hb, h.hd⟩
theorem TakJ.own_ne {w : World} {d0 : Nat} {cs ds : ByteArray} {de : Int} {v : Value} {acc : List Pr} {x : World} (h : TakJ w d0 cs ds de v acc x) (b : Nat) (hb : b ≤ d0) : v.ownBlock ≠ some b := by
  intro e
  have := (World.ownsRow.lt h.own _ e).1
  omega
theorem TakJ.setd {w : World} {d0 : Nat} {cs ds : ByteArray} {de : Int} {v : Value} {acc : List Pr} {x : World} (h : TakJ w d0 cs ds de v acc x) (s' : ByteArray) (e' : Int) : TakJ w d0 cs s' e' v acc ((x.setCell ⟨d0, 0, none⟩ (.string s')).setCell ⟨d0, 1, none⟩ (.int .i64 e')) := by
  have hd := h.hd
  exact ⟨(far_set (by omega)).trans h.c3, (far_set (by omega)).trans h.c6, pair_set h.cd, ownsRow_setCell_other (a := ⟨d0, 1, none⟩) (ownsRow_setCell_other (a := ⟨d0, 0, none⟩) h.own (h.own_ne d0 (Nat.le_refl _)) _) (h.own_ne d0 (Nat.le_refl _)) _, (h.bel.setCell (by show w.heap.size ≤ d0; omega) _).setCell (by show w.heap.size ≤ d0; omega) _, hd⟩
theorem TakJ.sete {w : World} {d0 : Nat} {cs ds : ByteArray} {de : Int} {v : Value} {acc : List Pr} {x : World} (h : TakJ w d0 cs ds de v acc x) (e' : Int) : TakJ w d0 cs ds e' v acc (x.setCell ⟨d0, 1, none⟩ (.int .i64 e')) := by
  have hd := h.hd
  have hb := lt_of_block h.cd
  refine ⟨(Below.heap_setCell _ _ _ _ (by show w.heap.size ≠ d0; omega)).trans h.c3, (Below.heap_setCell _ _ _ _ (by show w.heap.size + 1 ≠ d0; omega)).trans h.c6, ?_, ownsRow_setCell_other (a := ⟨d0, 1, none⟩) h.own (h.own_ne d0 (Nat.le_refl _)) _, h.bel.setCell (by show w.heap.size ≤ d0; omega) _, hd⟩
  have := h.cd
  simp [World.setCell, Array.getElem?_modify, this]
theorem TakJ.cells {w : World} {d0 : Nat} {cs ds : ByteArray} {de : Int} {v : Value} {acc : List Pr} {x : World} (h : TakJ w d0 cs ds de v acc x) :
    (x.cell? ⟨w.heap.size, 0, none⟩ = some (.string cs) ∧ x.cell? ⟨w.heap.size, 1, none⟩ = some (.int .i64 0) ∧ x.frozen? ⟨w.heap.size, 0, none⟩ = false ∧ x.frozen? ⟨w.heap.size, 1, none⟩ = false) ∧
    (x.cell? ⟨w.heap.size + 1, 0, none⟩ = some (.string ⟨#[]⟩) ∧ x.cell? ⟨w.heap.size + 1, 1, none⟩ = some (.int .i64 0) ∧ x.frozen? ⟨w.heap.size + 1, 0, none⟩ = false ∧ x.frozen? ⟨w.heap.size + 1, 1, none⟩ = false) ∧
    (x.cell? ⟨d0, 0, none⟩ = some (.string ds) ∧ x.cell? ⟨d0, 1, none⟩ = some (.int .i64 de) ∧ x.frozen? ⟨d0, 0, none⟩ = false ∧ x.frozen? ⟨d0, 1, none⟩ = false) ∧
    w.heap.size < x.heap.size ∧ w.heap.size + 1 < x.heap.size ∧ d0 < x.heap.size :=
  ⟨pair_cells h.c3, pair_cells h.c6, pair_cells h.cd, lt_of_block h.c3, lt_of_block h.c6, lt_of_block h.cd⟩

/-- What Take answers, and leaves. -/
def TookT (w : World) (R : List Pr × ByteArray × Int) (e : Ending) (w' : World) : Prop :=
  ∃ v, e = .returned (.tuple #[cur R.2.1 R.2.2, v]) ∧ OwnP w.heap.size 168 w' v R.1 ∧ Below w.heap.size w w'

/-- The document's rule of several is the table's. -/
theorem sev_all : ∀ i ∈ idsL, ∀ q ∈ placesL, mayP i q.1 q.2 = true → (bits .and .i64 (ruleL i).sev (placeN q.1 q.2) == 0) = (decide (i ≠ 38) && (decide (i ≠ 11) || decide (q.1 ≠ 3) || q.2)) := by decide +kernel

theorem tail_ret {w W : World} (h : Below w.heap.size w W) (a b : Value) : Below w.heap.size w ((W.setCell ⟨w.heap.size + 1, 0, none⟩ a).setCell ⟨w.heap.size + 1, 1, none⟩ b) := (h.setCell (Nat.le_succ _) _).setCell (Nat.le_succ _) _
theorem var_errs (s : ByteArray) (x : Int) (hx : x = 0 ∨ x = 1 ∨ x = 2) : ∀ (k i n : Nat), (varT k i n s x).2.2 = 0 ∨ (varT k i n s x).2.2 = 1 ∨ (varT k i n s x).2.2 = 2 := by
  intro k
  have hraw : ∀ (s : ByteArray) (x m : Int), (x = 0 ∨ x = 1 ∨ x = 2) → ((rawT s x m).2.2 = 0 ∨ (rawT s x m).2.2 = 1 ∨ (rawT s x m).2.2 = 2) := by
    intro s x m h
    unfold rawT
    repeat' split
    all_goals (dsimp only; omega)
  induction k generalizing s x with
  | zero =>
    intro i n
    rw [varT, varEnd]
    dsimp only
    have := hraw s x 1 hx
    split
    · unfold failed; split <;> omega
    · exact this
  | succ k ih =>
    intro i n
    rw [varT]
    split
    · exact ih _ _ (hraw s x 1 hx) _ _
    · rw [varEnd]
      dsimp only
      have := hraw s x 1 hx
      split
      · unfold failed; split <;> omega
      · exact this
theorem raw_errs (s : ByteArray) (x m : Int) (h : x = 0 ∨ x = 1 ∨ x = 2) : (rawT s x m).2.2 = 0 ∨ (rawT s x m).2.2 = 1 ∨ (rawT s x m).2.2 = 2 := by
  unfold rawT
  repeat' split
  all_goals (dsimp only; omega)
theorem str_errs (s : ByteArray) (x : Int) (h : x = 0 ∨ x = 1 ∨ x = 2) : (strT s x).2.2 = 0 ∨ (strT s x).2.2 = 1 ∨ (strT s x).2.2 = 2 := by
  unfold strT
  split
  · exact raw_errs _ _ _ (raw_errs _ _ _ h)
  · exact .inr (.inr rfl)
theorem one_errs (k i : Int) (s : ByteArray) : (oneT k i s).2.2 = 0 ∨ (oneT k i s).2.2 = 1 ∨ (oneT k i s).2.2 = 2 := by
  have h1 := raw_errs s 0 1 (.inl rfl)
  have h2 := raw_errs s 0 2 (.inl rfl)
  have h4 := raw_errs s 0 4 (.inl rfl)
  have hv := var_errs s 0 (.inl rfl) 3 0 0
  have hs := str_errs s 0 (.inl rfl)
  have hd := raw_errs (rawT s 0 2).2.1 (rawT s 0 2).2.2 (numL (rawT s 0 2).1.data.toList) h2
  have hp := str_errs (strT s 0).2.1 (strT s 0).2.2 hs
  unfold oneT
  by_cases c1 : k = 1
  · rw [if_pos c1]; exact h1
  rw [if_neg c1]
  by_cases c2 : k = 2
  · rw [if_pos c2]; exact h2
  rw [if_neg c2]
  by_cases c3 : k = 3
  · rw [if_pos c3]; exact h4
  rw [if_neg c3]
  by_cases c4 : k = 4
  · rw [if_pos c4]; exact hv
  rw [if_neg c4]
  by_cases c5 : k = 5
  · rw [if_pos c5]; exact hs
  rw [if_neg c5]
  by_cases c6 : k = 6
  · rw [if_pos c6]; exact hd
  rw [if_neg c6]
  exact hp

/-- What the loop has still to do. -/
def TakQ (q : Int) (R : List Pr × Int) (N : Nat) (acc : List Pr) (ds : ByteArray) (de : Int) : Prop :=
  acc.length + ds.size ≤ N ∧ ((de = 0 ∧ ∃ f, ds.size ≤ f ∧ runP q f acc ds = R) ∨ ((de = 1 ∨ de = 2 ∨ de = 3) ∧ R = ([], if de = 1 then 2 else de)))

end Go.Proofs.YtephoadjnmmbnaaDoor
