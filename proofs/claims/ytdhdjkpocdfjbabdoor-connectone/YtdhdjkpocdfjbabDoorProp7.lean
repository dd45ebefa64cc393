/-
  A property taken. (No statement: contracts that the proofs of the statements use.)
-/
import Derived.Test.YtdhdjkpocdfjbabDoorProp6
namespace Go.Proofs.YtdhdjkpocdfjbabDoor
open Go.RowKit

/-- A string taken. -/
def strT (s : ByteArray) (x : Int) : ByteArray × ByteArray × Int :=
  if goodB (rawT (rawT s x 2).2.1 (rawT s x 2).2.2 (numL (rawT s x 2).1.data.toList)).1 = true then rawT (rawT s x 2).2.1 (rawT s x 2).2.2 (numL (rawT s x 2).1.data.toList)
  else (⟨#[]⟩, (rawT (rawT s x 2).2.1 (rawT s x 2).2.2 (numL (rawT s x 2).1.data.toList)).2.1, 2)

theorem TakS.eq {s a s2 : ByteArray} {x x2 : Int} (h : TakS s x a s2 x2) : strT s x = (a, s2, x2) := by
  obtain ⟨t, s1, x1, t2, y, hr, hr2, rfl, rfl, _, _⟩ := h.out
  unfold strT
  rw [hr]
  dsimp only
  rw [hr2]
  dsimp only
  cases goodB t2 <;> rfl
theorem strT_tak (s : ByteArray) (x : Int) : TakS s x (strT s x).1 (strT s x).2.1 (strT s x).2.2 := by
  obtain ⟨a, s2, x2, h⟩ := takS s x
  rw [h.eq]
  exact h

/-- Binary data taken. -/
def datT (s : ByteArray) (x : Int) : ByteArray × ByteArray × Int := rawT (rawT s x 2).2.1 (rawT s x 2).2.2 (numL (rawT s x 2).1.data.toList)

/-- What a property says, taken: the property, what is left, the error. -/
def oneT (kd i : Int) (s : ByteArray) : Pr × ByteArray × Int :=
  if kd = 1 then (⟨i, numL (rawT s 0 1).1.data.toList, ⟨#[]⟩, ⟨#[]⟩⟩, (rawT s 0 1).2)
  else if kd = 2 then (⟨i, numL (rawT s 0 2).1.data.toList, ⟨#[]⟩, ⟨#[]⟩⟩, (rawT s 0 2).2)
  else if kd = 3 then (⟨i, numL (rawT s 0 4).1.data.toList, ⟨#[]⟩, ⟨#[]⟩⟩, (rawT s 0 4).2)
  else if kd = 4 then (⟨i, (varT 3 0 0 s 0).1, ⟨#[]⟩, ⟨#[]⟩⟩, (varT 3 0 0 s 0).2)
  else if kd = 5 then (⟨i, 0, (strT s 0).1, ⟨#[]⟩⟩, (strT s 0).2)
  else if kd = 6 then (⟨i, 0, (datT s 0).1, ⟨#[]⟩⟩, (datT s 0).2)
  else (⟨i, 0, if (strT (strT s 0).2.1 (strT s 0).2.2).2.2 = 0 then (strT s 0).1 else ⟨#[]⟩, if (strT (strT s 0).2.1 (strT s 0).2.2).2.2 = 0 then (strT (strT s 0).2.1 (strT s 0).2.2).1 else ⟨#[]⟩⟩, (strT (strT s 0).2.1 (strT s 0).2.2).2)

theorem Chg.setNew {p b j : Nat} {w w1 : World} {u : Value} (h : Chg p w w1) (hb : w.heap.size ≤ b) : Chg p w (w1.setCell ⟨b, j, none⟩ u) :=
  ⟨h.os, h.tape, h.output, by simpa [World.setCell] using h.size, fun k hk hne => (Below.heap_setCell w1 ⟨b, j, none⟩ u k (by show k ≠ b; omega)).trans (h.block k hk hne)⟩

theorem InAt.setOther {w : World} {p b j : Nat} {s : ByteArray} {x : Int} {u : Value} (h : InAt w p s x) (hne : p ≠ b) : InAt (w.setCell ⟨b, j, none⟩ u) p s x := h.keep (Below.heap_setCell w ⟨b, j, none⟩ u p hne)

/-- Four cells of a block. -/
theorem four_cells {w : World} {b : Nat} {a c d e : Value} {t : TypeId} (h : w.heap[b]? = some (.cells #[a, c, d, e] t (0, 0))) :
    (w.cell? ⟨b, 0, none⟩ = some a ∧ w.cell? ⟨b, 1, none⟩ = some c ∧ w.cell? ⟨b, 2, none⟩ = some d ∧ w.cell? ⟨b, 3, none⟩ = some e) ∧
    (w.frozen? ⟨b, 0, none⟩ = false ∧ w.frozen? ⟨b, 1, none⟩ = false ∧ w.frozen? ⟨b, 2, none⟩ = false ∧ w.frozen? ⟨b, 3, none⟩ = false) := by
  simp [World.cell?, World.frozen?, h]

/-- What takeOne answers, and leaves. -/
def TookP (w : World) (p : Nat) (r : Pr × ByteArray × Int) (e : Ending) (w' : World) : Prop := e = .returned (prV r.1) ∧ TookS w p r.2.1 r.2.2 w'

/-- Behind a call, ahead of the stores: both blocks are there. -/
theorem boxes_kept {w w1 : World} {p : Nat} {o1 o2 : Obj} (hp : p < w.heap.size) (h : Chg p ((w.alloc o1).alloc o2) w1) : w1.heap[w.heap.size]? = some o1 ∧ w1.heap[w.heap.size + 1]? = some o2 ∧ w.heap.size + 2 ≤ w1.heap.size ∧ Chg p w w1 := by
  have h1 : ((w.alloc o1).alloc o2).heap[w.heap.size]? = some o1 := (Below.heap_alloc _ o2 _ (by simp)).trans (heap_alloc_new w o1)
  have h2 : ((w.alloc o1).alloc o2).heap[w.heap.size + 1]? = some o2 := by have := heap_alloc_new (w.alloc o1) o2; simpa using this
  refine ⟨(h.block _ (by simp; omega) (fun e => by injection e; omega)).trans h1, (h.block _ (by simp) (fun e => by injection e; omega)).trans h2, by simpa using h.size, ?_⟩
  exact (Chg.of_below (below_two w o1 o2)).trans h

set_option maxRecDepth 100000 in
set_option maxHeartbeats 1000000 in
theorem takeOne_1 (w : World) (p : Nat) (s : ByteArray) (i : Int) (h : InAt w p s 0) (hT : Tabs w) :
    Calls Tryd.prog 83 #[.pointer (some ⟨p, 0, none⟩), .int .i64 i, .int .i64 1] w (TookP w p (oneT 1 i s)) := by
  generalize hr : rawT s 0 1 = R
  obtain ⟨t, s', x'⟩ := R
  have he : oneT 1 i s = (⟨i, numL t.data.toList, ⟨#[]⟩, ⟨#[]⟩⟩, s', x') := by show (_, _) = _; rw [hr]
  have hlt := num_lt1 s 0 t s' x' hr
  rw [he]
  have HR := Lib.hid hr
  clear hr he
  generalize hN : numL t.data.toList = N at *
  have HN := Lib.hid hN
  clear hN
  have hp := h.lt
  have hI := InAt.below h (below_two w (.cells #[.int .i64 0, .int .u32 0, .string ⟨#[]⟩, .string ⟨#[]⟩] 87) (.cells #[.int .i64 i, .int .u32 0, .string ⟨#[]⟩, .string ⟨#[]⟩] 87))
  have HTT := Lib.hid (hT.below (below_two w (.cells #[.int .i64 0, .int .u32 0, .string ⟨#[]⟩, .string ⟨#[]⟩] 87) (.cells #[.int .i64 i, .int .u32 0, .string ⟨#[]⟩, .string ⟨#[]⟩] 87)))
  clear h hT
  go_enter Tryd.func83, Tryd.ntmps83
  go_wp2_with fail
  refine (byteIn_calls _ p s 0 t s' x' HR.out hI).mono ?_
  rw [HN.out]
  rintro e w1 ⟨rfl, hi, hc⟩
  obtain ⟨k6, k7, hz, hchg⟩ := boxes_kept hp (Chg.of_only hc)
  obtain ⟨⟨c0, c1, c2, c3⟩, f0, f1, f2, f3⟩ := four_cells k6
  obtain ⟨⟨d0, d1, d2, d3⟩, g0, g1, g2, g3⟩ := four_cells k7
  have HI := Lib.hid hi
  have HC := Lib.hid hchg
  clear hi hc hchg k6 k7 hI HTT
  go_wp2
  refine bodyPost_ret (v := prV ⟨i, N, ⟨#[]⟩, ⟨#[]⟩⟩) ?_ rfl ⟨rfl, ?_, ?_⟩
  · simp [results, Tryd.results83, go_sem, c0, c1, c2, c3]
  · repeat (refine InAt.setOther ?_ (by omega))
    exact HI.out
  · repeat (refine Chg.setNew ?_ (by omega))
    exact HC.out

set_option maxRecDepth 100000 in
set_option maxHeartbeats 1000000 in
theorem takeOne_2 (w : World) (p : Nat) (s : ByteArray) (i : Int) (h : InAt w p s 0) (hT : Tabs w) :
    Calls Tryd.prog 83 #[.pointer (some ⟨p, 0, none⟩), .int .i64 i, .int .i64 2] w (TookP w p (oneT 2 i s)) := by
  generalize hr : rawT s 0 2 = R
  obtain ⟨t, s', x'⟩ := R
  have he : oneT 2 i s = (⟨i, numL t.data.toList, ⟨#[]⟩, ⟨#[]⟩⟩, s', x') := by show (_, _) = _; rw [hr]
  rw [he]
  have HR := Lib.hid hr
  clear hr he
  generalize hN : numL t.data.toList = N at *
  have HN := Lib.hid hN
  clear hN
  have hp := h.lt
  have hI := InAt.below h (below_two w (.cells #[.int .i64 0, .int .u32 0, .string ⟨#[]⟩, .string ⟨#[]⟩] 87) (.cells #[.int .i64 i, .int .u32 0, .string ⟨#[]⟩, .string ⟨#[]⟩] 87))
  have HTT := Lib.hid (hT.below (below_two w (.cells #[.int .i64 0, .int .u32 0, .string ⟨#[]⟩, .string ⟨#[]⟩] 87) (.cells #[.int .i64 i, .int .u32 0, .string ⟨#[]⟩, .string ⟨#[]⟩] 87)))
  clear h hT
  go_enter Tryd.func83, Tryd.ntmps83
  go_wp2_with fail
  refine (twoIn_calls _ p s 0 t s' x' HR.out hI).mono ?_
  rw [HN.out]
  rintro e w1 ⟨rfl, hi, hc⟩
  obtain ⟨k6, k7, hz, hchg⟩ := boxes_kept hp (Chg.of_only hc)
  obtain ⟨⟨c0, c1, c2, c3⟩, f0, f1, f2, f3⟩ := four_cells k6
  obtain ⟨⟨d0, d1, d2, d3⟩, g0, g1, g2, g3⟩ := four_cells k7
  have HI := Lib.hid hi
  have HC := Lib.hid hchg
  clear hi hc hchg k6 k7 hI HTT
  go_wp2
  refine bodyPost_ret (v := prV ⟨i, N, ⟨#[]⟩, ⟨#[]⟩⟩) ?_ rfl ⟨rfl, ?_, ?_⟩
  · simp [results, Tryd.results83, go_sem, c0, c1, c2, c3]
  · repeat (refine InAt.setOther ?_ (by omega))
    exact HI.out
  · repeat (refine Chg.setNew ?_ (by omega))
    exact HC.out

set_option maxRecDepth 100000 in
set_option maxHeartbeats 1000000 in
theorem takeOne_3 (w : World) (p : Nat) (s : ByteArray) (i : Int) (h : InAt w p s 0) (hT : Tabs w) :
    Calls Tryd.prog 83 #[.pointer (some ⟨p, 0, none⟩), .int .i64 i, .int .i64 3] w (TookP w p (oneT 3 i s)) := by
  generalize hr : rawT s 0 4 = R
  obtain ⟨t, s', x'⟩ := R
  have he : oneT 3 i s = (⟨i, numL t.data.toList, ⟨#[]⟩, ⟨#[]⟩⟩, s', x') := by show (_, _) = _; rw [hr]
  rw [he]
  have HR := Lib.hid hr
  clear hr he
  generalize hN : numL t.data.toList = N at *
  have HN := Lib.hid hN
  clear hN
  have hp := h.lt
  have hI := InAt.below h (below_two w (.cells #[.int .i64 0, .int .u32 0, .string ⟨#[]⟩, .string ⟨#[]⟩] 87) (.cells #[.int .i64 i, .int .u32 0, .string ⟨#[]⟩, .string ⟨#[]⟩] 87))
  have HTT := Lib.hid (hT.below (below_two w (.cells #[.int .i64 0, .int .u32 0, .string ⟨#[]⟩, .string ⟨#[]⟩] 87) (.cells #[.int .i64 i, .int .u32 0, .string ⟨#[]⟩, .string ⟨#[]⟩] 87)))
  clear h hT
  go_enter Tryd.func83, Tryd.ntmps83
  go_wp2_with fail
  refine (fourIn_calls _ p s 0 t s' x' HR.out hI).mono ?_
  rw [HN.out]
  rintro e w1 ⟨rfl, hi, hc⟩
  obtain ⟨k6, k7, hz, hchg⟩ := boxes_kept hp (Chg.of_only hc)
  obtain ⟨⟨c0, c1, c2, c3⟩, f0, f1, f2, f3⟩ := four_cells k6
  obtain ⟨⟨d0, d1, d2, d3⟩, g0, g1, g2, g3⟩ := four_cells k7
  have HI := Lib.hid hi
  have HC := Lib.hid hchg
  clear hi hc hchg k6 k7 hI HTT
  go_wp2
  refine bodyPost_ret (v := prV ⟨i, N, ⟨#[]⟩, ⟨#[]⟩⟩) ?_ rfl ⟨rfl, ?_, ?_⟩
  · simp [results, Tryd.results83, go_sem, c0, c1, c2, c3]
  · repeat (refine InAt.setOther ?_ (by omega))
    exact HI.out
  · repeat (refine Chg.setNew ?_ (by omega))
    exact HC.out

set_option maxRecDepth 100000 in
set_option maxHeartbeats 1000000 in
theorem takeOne_4 (w : World) (p : Nat) (s : ByteArray) (i : Int) (h : InAt w p s 0) (hT : Tabs w) :
    Calls Tryd.prog 83 #[.pointer (some ⟨p, 0, none⟩), .int .i64 i, .int .i64 4] w (TookP w p (oneT 4 i s)) := by
  generalize hr : varT 3 0 0 s 0 = R
  obtain ⟨N, s', x'⟩ := R
  have he : oneT 4 i s = (⟨i, N, ⟨#[]⟩, ⟨#[]⟩⟩, s', x') := by show (_, _) = _; rw [hr]
  rw [he]
  have HR := Lib.hid hr
  clear hr he
  have hp := h.lt
  have hI := InAt.below h (below_two w (.cells #[.int .i64 0, .int .u32 0, .string ⟨#[]⟩, .string ⟨#[]⟩] 87) (.cells #[.int .i64 i, .int .u32 0, .string ⟨#[]⟩, .string ⟨#[]⟩] 87))
  have HTT := Lib.hid (hT.below (below_two w (.cells #[.int .i64 0, .int .u32 0, .string ⟨#[]⟩, .string ⟨#[]⟩] 87) (.cells #[.int .i64 i, .int .u32 0, .string ⟨#[]⟩, .string ⟨#[]⟩] 87)))
  clear h hT
  go_enter Tryd.func83, Tryd.ntmps83
  go_wp2_with fail
  refine (varIn_calls _ p s 0 N s' x' HR.out hI).mono ?_
  rintro e w1 ⟨rfl, hi, hc⟩
  obtain ⟨k6, k7, hz, hchg⟩ := boxes_kept hp (Chg.of_only hc)
  obtain ⟨⟨c0, c1, c2, c3⟩, f0, f1, f2, f3⟩ := four_cells k6
  obtain ⟨⟨d0, d1, d2, d3⟩, g0, g1, g2, g3⟩ := four_cells k7
  have HI := Lib.hid hi
  have HC := Lib.hid hchg
  clear hi hc hchg k6 k7 hI HTT
  go_wp2
  refine bodyPost_ret (v := prV ⟨i, N, ⟨#[]⟩, ⟨#[]⟩⟩) ?_ rfl ⟨rfl, ?_, ?_⟩
  · simp [results, Tryd.results83, go_sem, c0, c1, c2, c3]
  · repeat (refine InAt.setOther ?_ (by omega))
    exact HI.out
  · repeat (refine Chg.setNew ?_ (by omega))
    exact HC.out

set_option maxRecDepth 100000 in
set_option maxHeartbeats 1000000 in
theorem takeOne_5 (w : World) (p : Nat) (s : ByteArray) (i : Int) (h : InAt w p s 0) (hT : Tabs w) :
    Calls Tryd.prog 83 #[.pointer (some ⟨p, 0, none⟩), .int .i64 i, .int .i64 5] w (TookP w p (oneT 5 i s)) := by
  have hk := strT_tak s 0
  generalize hr : strT s 0 = R at hk
  obtain ⟨a, s', x'⟩ := R
  have he : oneT 5 i s = (⟨i, 0, a, ⟨#[]⟩⟩, s', x') := by show (_, _) = _; rw [hr]
  rw [he]
  have HK := Lib.hid hk
  clear hr he hk
  have hp := h.lt
  have hI := InAt.below h (below_two w (.cells #[.int .i64 0, .int .u32 0, .string ⟨#[]⟩, .string ⟨#[]⟩] 87) (.cells #[.int .i64 i, .int .u32 0, .string ⟨#[]⟩, .string ⟨#[]⟩] 87))
  have HTT := Lib.hid (hT.below (below_two w (.cells #[.int .i64 0, .int .u32 0, .string ⟨#[]⟩, .string ⟨#[]⟩] 87) (.cells #[.int .i64 i, .int .u32 0, .string ⟨#[]⟩, .string ⟨#[]⟩] 87)))
  clear h hT
  go_enter Tryd.func83, Tryd.ntmps83
  go_wp2_with fail
  refine (takeS_calls _ p s 0 a s' x' HK.out hI HTT.out).mono ?_
  rintro e w1 ⟨rfl, hi, hc⟩
  obtain ⟨k6, k7, hz, hchg⟩ := boxes_kept hp hc
  obtain ⟨⟨c0, c1, c2, c3⟩, f0, f1, f2, f3⟩ := four_cells k6
  obtain ⟨⟨d0, d1, d2, d3⟩, g0, g1, g2, g3⟩ := four_cells k7
  have HI := Lib.hid hi
  have HC := Lib.hid hchg
  clear hi hc hchg k6 k7 hI HTT
  go_wp2
  refine bodyPost_ret (v := prV ⟨i, 0, a, ⟨#[]⟩⟩) ?_ rfl ⟨rfl, ?_, ?_⟩
  · simp [results, Tryd.results83, go_sem, c0, c1, c2, c3]
  · repeat (refine InAt.setOther ?_ (by omega))
    exact HI.out
  · repeat (refine Chg.setNew ?_ (by omega))
    exact HC.out

set_option maxRecDepth 100000 in
set_option maxHeartbeats 1000000 in
theorem takeOne_6 (w : World) (p : Nat) (s : ByteArray) (i : Int) (h : InAt w p s 0) (hT : Tabs w) :
    Calls Tryd.prog 83 #[.pointer (some ⟨p, 0, none⟩), .int .i64 i, .int .i64 6] w (TookP w p (oneT 6 i s)) := by
  have hd : datT s 0 = rawT (rawT s 0 2).2.1 (rawT s 0 2).2.2 (numL (rawT s 0 2).1.data.toList) := rfl
  generalize hr : rawT s 0 2 = R at hd
  obtain ⟨t, s1, x1⟩ := R
  dsimp only at hd
  generalize hr2 : rawT s1 x1 (numL t.data.toList) = R2 at hd
  obtain ⟨a, s', x'⟩ := R2
  have he : oneT 6 i s = (⟨i, 0, a, ⟨#[]⟩⟩, s', x') := by show (_, _) = _; rw [hd]
  rw [he]
  have HR := Lib.hid hr
  have HR2 := Lib.hid hr2
  clear hr hr2 he hd
  have hp := h.lt
  have hI := InAt.below h (below_two w (.cells #[.int .i64 0, .int .u32 0, .string ⟨#[]⟩, .string ⟨#[]⟩] 87) (.cells #[.int .i64 i, .int .u32 0, .string ⟨#[]⟩, .string ⟨#[]⟩] 87))
  have HTT := Lib.hid (hT.below (below_two w (.cells #[.int .i64 0, .int .u32 0, .string ⟨#[]⟩, .string ⟨#[]⟩] 87) (.cells #[.int .i64 i, .int .u32 0, .string ⟨#[]⟩, .string ⟨#[]⟩] 87)))
  clear h hT
  go_enter Tryd.func83, Tryd.ntmps83
  go_wp2_with fail
  refine (dataIn_calls _ p s 0 t s1 x1 HR.out a s' x' HR2.out hI).mono ?_
  rintro e w1 ⟨rfl, hi, hc⟩
  obtain ⟨k6, k7, hz, hchg⟩ := boxes_kept hp (Chg.of_only hc)
  obtain ⟨⟨c0, c1, c2, c3⟩, f0, f1, f2, f3⟩ := four_cells k6
  obtain ⟨⟨d0, d1, d2, d3⟩, g0, g1, g2, g3⟩ := four_cells k7
  have HI := Lib.hid hi
  have HC := Lib.hid hchg
  clear hi hc hchg k6 k7 hI HTT
  go_wp2
  refine bodyPost_ret (v := prV ⟨i, 0, a, ⟨#[]⟩⟩) ?_ rfl ⟨rfl, ?_, ?_⟩
  · simp [results, Tryd.results83, go_sem, c0, c1, c2, c3]
  · repeat (refine InAt.setOther ?_ (by omega))
    exact HI.out
  · repeat (refine Chg.setNew ?_ (by omega))
    exact HC.out

set_option maxRecDepth 100000 in
set_option maxHeartbeats 1000000 in
theorem takeOne_7 (w : World) (p : Nat) (s : ByteArray) (i : Int) (h : InAt w p s 0) (hT : Tabs w) :
    Calls Tryd.prog 83 #[.pointer (some ⟨p, 0, none⟩), .int .i64 i, .int .i64 7] w (TookP w p (oneT 7 i s)) := by
  have hk := strT_tak s 0
  generalize hr : strT s 0 = R at hk
  obtain ⟨a, s1, x1⟩ := R
  dsimp only at hk
  have hk2 := strT_tak s1 x1
  generalize hr2 : strT s1 x1 = R2 at hk2
  obtain ⟨b, s', x'⟩ := R2
  dsimp only at hk2
  have he : oneT 7 i s = (⟨i, 0, if x' = 0 then a else ⟨#[]⟩, if x' = 0 then b else ⟨#[]⟩⟩, s', x') := by show (_, _) = _; rw [hr]; dsimp only; rw [hr2]
  rw [he]
  have HK := Lib.hid hk
  have HK2 := Lib.hid hk2
  clear hr hr2 he hk hk2
  generalize hA : (if x' = 0 then a else ⟨#[]⟩) = A
  generalize hB : (if x' = 0 then b else ⟨#[]⟩) = B
  have HA := Lib.hid hA
  have HB := Lib.hid hB
  clear hA hB
  have hp := h.lt
  have hI := InAt.below h (below_two w (.cells #[.int .i64 0, .int .u32 0, .string ⟨#[]⟩, .string ⟨#[]⟩] 87) (.cells #[.int .i64 i, .int .u32 0, .string ⟨#[]⟩, .string ⟨#[]⟩] 87))
  have HTT := Lib.hid (hT.below (below_two w (.cells #[.int .i64 0, .int .u32 0, .string ⟨#[]⟩, .string ⟨#[]⟩] 87) (.cells #[.int .i64 i, .int .u32 0, .string ⟨#[]⟩, .string ⟨#[]⟩] 87)))
  clear h hT
  go_enter Tryd.func83, Tryd.ntmps83
  go_wp2_with fail
  refine (takePair_calls _ p s 0 a s1 x1 HK.out b s' x' HK2.out hI HTT.out).mono ?_
  rw [HA.out, HB.out]
  rintro e w1 ⟨rfl, hi, hc⟩
  obtain ⟨k6, k7, hz, hchg⟩ := boxes_kept hp hc
  obtain ⟨⟨c0, c1, c2, c3⟩, f0, f1, f2, f3⟩ := four_cells k6
  obtain ⟨⟨d0, d1, d2, d3⟩, g0, g1, g2, g3⟩ := four_cells k7
  have HI := Lib.hid hi
  have HC := Lib.hid hchg
  clear hi hc hchg k6 k7 hI HTT
  go_wp2
  refine bodyPost_ret (v := prV ⟨i, 0, A, B⟩) ?_ rfl ⟨rfl, ?_, ?_⟩
  · simp [results, Tryd.results83, go_sem, c0, c1, c2, c3]
  · repeat (refine InAt.setOther ?_ (by omega))
    exact HI.out
  · repeat (refine Chg.setNew ?_ (by omega))
    exact HC.out

theorem takeOne_calls (w : World) (p : Nat) (s : ByteArray) (i k : Int) (hk : k = 1 ∨ k = 2 ∨ k = 3 ∨ k = 4 ∨ k = 5 ∨ k = 6 ∨ k = 7) (h : InAt w p s 0) (hT : Tabs w) :
    Calls Tryd.prog 83 #[.pointer (some ⟨p, 0, none⟩), .int .i64 i, .int .i64 k] w (TookP w p (oneT k i s)) := by
  rcases hk with rfl | rfl | rfl | rfl | rfl | rfl | rfl
  · exact takeOne_1 w p s i h hT
  · exact takeOne_2 w p s i h hT
  · exact takeOne_3 w p s i h hT
  · exact takeOne_4 w p s i h hT
  · exact takeOne_5 w p s i h hT
  · exact takeOne_6 w p s i h hT
  · exact takeOne_7 w p s i h hT

#print axioms takeOne_calls
end Go.Proofs.YtdhdjkpocdfjbabDoor
