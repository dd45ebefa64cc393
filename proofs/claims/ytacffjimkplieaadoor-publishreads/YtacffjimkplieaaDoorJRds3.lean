/-
  The document's answer of layer 7: an answer of a kind and a body. (No statement: contracts that the proofs of the statements use.)
-/
import Derived.Test.YtacffjimkplieaaDoorJRds2
namespace Go.Proofs.YtacffjimkplieaaDoor
open Go.RowKit
set_option linter.unusedVariables false

/-- The document's answer, or its error. -/
def RAckR (w : World) (c : Pk) (E : Int) (e : Ending) (w' : World) : Prop :=
  ∃ v, e = .returned (.tuple #[pkV c v, .int .i64 E]) ∧ OwnP w.heap.size 153 w' v c.ps ∧ Below w.heap.size w w'

/-- What lies where: the result, the cursor, the answer. -/
structure AkJ (w : World) (cb ab : Nat) (A : Array Value) (s : ByteArray) (x : Int) (V : World) : Prop where
  bel : Below w.heap.size w V
  z : V.heap[w.heap.size]? = some (.cells #[.int .i64 0, .int .u32 0, .int .u8 0, .slice none 0 0] 75 (0, 0))
  c : V.heap[cb]? = some (.cells #[.string s, .int .i64 x] 140 (0, 0))
  a : V.heap[ab]? = some (.cells A 75 (0, 0))
  o1 : w.heap.size < cb
  o2 : cb < ab
section
variable {w V V' : World} {cb ab : Nat} {A : Array Value} {s : ByteArray} {x : Int}
theorem AkJ.below (h : AkJ w cb ab A s x V) (hb : Below V.heap.size V V') : AkJ w cb ab A s x V' :=
  ⟨Below.next h.bel hb, (hb.block _ (lt_of_block h.z)).trans h.z, (hb.block _ (lt_of_block h.c)).trans h.c, (hb.block _ (lt_of_block h.a)).trans h.a, h.o1, h.o2⟩
theorem AkJ.ack (h : AkJ w cb ab A s x V) (j : Nat) (u : Value) : AkJ w cb ab (A.setIfInBounds j u) s x (V.setCell ⟨ab, j, none⟩ u) := by
  have h1 := h.o1
  have h2 := h.o2
  exact ⟨below_set h.bel (by omega) _ _, (Below.heap_setCell _ _ _ _ (by show w.heap.size ≠ ab; omega)).trans h.z, (Below.heap_setCell _ _ _ _ (by show cb ≠ ab; omega)).trans h.c, set_at h.a j u, h1, h2⟩
theorem AkJ.cur (h : AkJ w cb ab A s x V) (s' : ByteArray) (x' : Int) : AkJ w cb ab A s' x' ((V.setCell ⟨cb, 0, none⟩ (.string s')).setCell ⟨cb, 1, none⟩ (.int .i64 x')) := by
  have h1 := h.o1
  have h2 := h.o2
  exact ⟨below2 h.bel (by omega), (far_set (by omega)).trans h.z, pair_set h.c, (far_set (by omega)).trans h.a, h1, h2⟩
theorem AkJ.err (h : AkJ w cb ab A s x V) (x' : Int) : AkJ w cb ab A s x' (V.setCell ⟨cb, 1, none⟩ (.int .i64 x')) := by
  have h1 := h.o1
  have h2 := h.o2
  exact ⟨below_set h.bel (by omega) _ _, (Below.heap_setCell _ _ _ _ (by show w.heap.size ≠ cb; omega)).trans h.z, set_at h.c 1 _, (Below.heap_setCell _ _ _ _ (by show ab ≠ cb; omega)).trans h.a, h1, h2⟩
end
theorem set4 {W : World} {b : Nat} {t : TypeId} {z0 z1 z2 z3 : Value} (u0 u1 u2 u3 : Value) (h : W.heap[b]? = some (.cells #[z0, z1, z2, z3] t (0, 0))) :
    ((((W.setCell ⟨b, 0, none⟩ u0).setCell ⟨b, 1, none⟩ u1).setCell ⟨b, 2, none⟩ u2).setCell ⟨b, 3, none⟩ u3).heap[b]? = some (.cells #[u0, u1, u2, u3] t (0, 0)) := by
  simp [World.setCell, Array.getElem?_modify, h]
theorem below_set4 {w V : World} {b : Nat} {u0 u1 u2 u3 : Value} (h : Below w.heap.size w V) (hge : w.heap.size ≤ b) :
    Below w.heap.size w ((((V.setCell ⟨b, 0, none⟩ u0).setCell ⟨b, 1, none⟩ u1).setCell ⟨b, 2, none⟩ u2).setCell ⟨b, 3, none⟩ u3) := by
  iterate 4 (refine below_set ?_ hge _ _)
  exact h
theorem own_set4 {B b : Nat} {e : TypeId} {V : World} {v : Value} {P : List Pr} {u0 u1 u2 u3 : Value} (h : OwnP B e V v P) (hb : b < B) :
    OwnP B e ((((V.setCell ⟨b, 0, none⟩ u0).setCell ⟨b, 1, none⟩ u1).setCell ⟨b, 2, none⟩ u2).setCell ⟨b, 3, none⟩ u3) v P := by
  iterate 4 (refine OwnP.set ?_ hb)
  exact h

theorem r7ack_arg (w : World) (k : Int) (body : ByteArray) (hk : ¬ (4 ≤ k ∧ k ≤ 7)) : Calls Tryd.prog 33 #[.int .i64 k, .string body] w (RAckR w pkZ 5) := by
  have z0 := heap_alloc_new w (.cells #[.int .i64 0, .int .u32 0, .int .u8 0, .slice none 0 0] 75)
  have b0 := below_one w (.cells #[.int .i64 0, .int .u32 0, .int .u8 0, .slice none 0 0] 75)
  have hz := set4 (.int .i64 0) (.int .u32 0) (.int .u8 0) (.slice none 0 0) z0
  obtain ⟨y0, y1, y2, y3, _⟩ := cells4 hz
  obtain ⟨x0, x1, x2, x3, xf⟩ := cells4 z0
  have hlz := lt_of_block z0
  have HB := Lib.hid (below_set4 (u0 := .int .i64 0) (u1 := .int .u32 0) (u2 := .int .u8 0) (u3 := .slice none 0 0) b0 (Nat.le_refl _))
  clear hz z0 b0
  rcases (show k < 4 ∨ (4 ≤ k ∧ 7 < k) by omega) with h | ⟨h0, h⟩
  all_goals
    clear hk
    go_enter Tryd.func33, Tryd.ntmps33
    go_upto_region 2 with fail
    generalize w.alloc (.cells #[.int .i64 0, .int .u32 0, .int .u8 0, .slice none 0 0] 75) = W0 at *
    go_wp2
    refine bodyPost_ret (v := .tuple #[pkV pkZ (.slice none 0 0), .int .i64 5]) ?_ rfl ⟨_, rfl, World.ownsRow_nil _ _ _ _, HB.out⟩
    simp [results, Tryd.results33, go_sem, y0, y1, y2, y3, pkV, pkZ]

set_option maxRecDepth 100000 in
set_option maxHeartbeats 2000000 in
theorem r7ack_a (w : World) (k : Int) (body : ByteArray) (k4 : 4 ≤ k) (k7 : k ≤ 7) (n : Int) (s1 : ByteArray) (x1 : Int) (HID : Hid (∀ W, Calls Tryd.prog 99 #[cur body 0] W fun e w' => e = .returned (.tuple #[cur s1 x1, .int .u32 n]) ∧ Below W.heap.size W w')) (hx : (x1 == 0) = false) (E : Int) (hE : (E != 0) = true)
    (HEND : Hid (∀ W, Calls Tryd.prog 78 #[cur s1 x1] W fun e w' => e = .returned (.int .i64 E) ∧ Below W.heap.size W w')) :
    Calls Tryd.prog 33 #[.int .i64 k, .string body] w (RAckR w pkZ E) := by
  have z0 := heap_alloc_new w (.cells #[.int .i64 0, .int .u32 0, .int .u8 0, .slice none 0 0] 75)
  have b0 := below_one w (.cells #[.int .i64 0, .int .u32 0, .int .u8 0, .slice none 0 0] 75)
  go_enter Tryd.func33, Tryd.ntmps33
  go_wp2_with fail
  generalize w.alloc (.cells #[.int .i64 0, .int .u32 0, .int .u8 0, .slice none 0 0] 75) = W0 at *
  with_reducible refine (HID.out _).mono ?_
  rintro e W1 ⟨rfl, b⟩
  have b1 := below_one W1 (.cells #[.string s1, .int .i64 x1] 140)
  have c0 := heap_alloc_new W1 (.cells #[.string s1, .int .i64 x1] 140)
  have b2 := below_one (W1.alloc (.cells #[.string s1, .int .i64 x1] 140)) (.cells #[.int .i64 k, .int .u32 n, .int .u8 0, .slice none 0 0] 75)
  have a0 := heap_alloc_new (W1.alloc (.cells #[.string s1, .int .i64 x1] 140)) (.cells #[.int .i64 k, .int .u32 n, .int .u8 0, .slice none 0 0] 75)
  rw [World.size_alloc] at a0
  have b3 := Below.next (Below.next b b1 |> fun h => h) (b2)
  have J1 := Lib.hid (show AkJ w W1.heap.size (W1.heap.size + 1) #[.int .i64 k, .int .u32 n, .int .u8 0, .slice none 0 0] s1 x1 _ from ⟨Below.next b0 b3, (b3.block _ (lt_of_block z0)).trans z0, (b2.block _ (lt_of_block c0)).trans c0, a0, Nat.lt_of_lt_of_le (lt_of_block z0) b.size, Nat.lt_succ_self _⟩)
  clear b b1 c0 b2 a0 b3 z0 b0 HID
  go_upto_region 5 with fail
  generalize (W1.alloc (.cells #[.string s1, .int .i64 x1] 140)).alloc (.cells #[.int .i64 k, .int .u32 n, .int .u8 0, .slice none 0 0] 75) = W2 at *
  generalize hab : W1.heap.size + 1 = ab at *
  generalize W1.heap.size = cb at *
  clear hab
  have hn1 : w.heap.size ≠ cb := Nat.ne_of_lt J1.out.o1
  have hn2 : cb ≠ ab := Nat.ne_of_lt J1.out.o2
  have hn3 : w.heap.size ≠ ab := Nat.ne_of_lt (Nat.lt_trans J1.out.o1 J1.out.o2)
  obtain ⟨c0, c1, f0, f1⟩ := pair_cells J1.out.c
  obtain ⟨a0, a1, a2, a3, af⟩ := cells4 J1.out.a
  obtain ⟨z0, z1, z2, z3, zf⟩ := cells4 J1.out.z
  have hlc := lt_of_block J1.out.c
  have hla := lt_of_block J1.out.a
  have hlz := lt_of_block J1.out.z
  go_wp2_with fail
  refine (HEND.out _).mono ?_
  rintro e W8 ⟨rfl, b⟩
  have J8 := Lib.hid (J1.out.below b)
  clear b J1 c0 c1 f0 f1 a0 a1 a2 a3 af z0 z1 z2 z3 zf hlc hla hlz
  obtain ⟨c0, c1, f0, f1⟩ := pair_cells J8.out.c
  obtain ⟨a0, a1, a2, a3, af⟩ := cells4 J8.out.a
  obtain ⟨z0, z1, z2, z3, zf⟩ := cells4 J8.out.z
  have hlc := lt_of_block J8.out.c
  have hla := lt_of_block J8.out.a
  have hlz := lt_of_block J8.out.z
  go_wp2_with fail
  refine (HEND.out _).mono ?_
  rintro e W9 ⟨rfl, b⟩
  have J9 := Lib.hid (J8.out.below b)
  clear b J8 c0 c1 f0 f1 a0 a1 a2 a3 af z0 z1 z2 z3 zf hlc hla hlz
  obtain ⟨c0, c1, f0, f1⟩ := pair_cells J9.out.c
  obtain ⟨a0, a1, a2, a3, af⟩ := cells4 J9.out.a
  obtain ⟨z0, z1, z2, z3, zf⟩ := cells4 J9.out.z
  have hlc := lt_of_block J9.out.c
  have hla := lt_of_block J9.out.a
  have hlz := lt_of_block J9.out.z
  have hz := set4 (.int .i64 0) (.int .u32 0) (.int .u8 0) (.slice none 0 0) J9.out.z
  obtain ⟨y0, y1, y2, y3, _⟩ := cells4 hz
  have HB := Lib.hid (below_set4 (u0 := .int .i64 0) (u1 := .int .u32 0) (u2 := .int .u8 0) (u3 := .slice none 0 0) J9.out.bel (Nat.le_refl _))
  clear hz
  go_wp2
  refine bodyPost_ret (v := .tuple #[pkV pkZ (.slice none 0 0), .int .i64 E]) ?_ rfl ⟨_, rfl, World.ownsRow_nil _ _ _ _, HB.out⟩
  simp [results, Tryd.results33, go_sem, y0, y1, y2, y3, pkV, pkZ]

set_option maxRecDepth 100000 in
set_option maxHeartbeats 2000000 in
theorem r7ack_b (w : World) (k : Int) (body : ByteArray) (k4 : 4 ≤ k) (k7 : k ≤ 7) (n : Int) (s1 : ByteArray) (HID : Hid (∀ W, Calls Tryd.prog 99 #[cur body 0] W fun e w' => e = .returned (.tuple #[cur s1 0, .int .u32 n]) ∧ Below W.heap.size W w')) (he : s1.toList.isEmpty = true) (he2 : s1.toList = [])
    (HMAY : Hid (∀ W, Calls Tryd.prog 82 #[.int .i64 k, .int .i64 0] W (Ans W true)))
    (HEND : Hid (∀ W, Calls Tryd.prog 78 #[cur s1 0] W fun e w' => e = .returned (.int .i64 0) ∧ Below W.heap.size W w')) :
    Calls Tryd.prog 33 #[.int .i64 k, .string body] w (RAckR w ⟨k, n, 0, []⟩ 0) := by
  have z0 := heap_alloc_new w (.cells #[.int .i64 0, .int .u32 0, .int .u8 0, .slice none 0 0] 75)
  have b0 := below_one w (.cells #[.int .i64 0, .int .u32 0, .int .u8 0, .slice none 0 0] 75)
  go_enter Tryd.func33, Tryd.ntmps33
  go_wp2_with fail
  generalize w.alloc (.cells #[.int .i64 0, .int .u32 0, .int .u8 0, .slice none 0 0] 75) = W0 at *
  with_reducible refine (HID.out _).mono ?_
  rintro e W1 ⟨rfl, b⟩
  have b1 := below_one W1 (.cells #[.string s1, .int .i64 0] 140)
  have c0 := heap_alloc_new W1 (.cells #[.string s1, .int .i64 0] 140)
  have b2 := below_one (W1.alloc (.cells #[.string s1, .int .i64 0] 140)) (.cells #[.int .i64 k, .int .u32 n, .int .u8 0, .slice none 0 0] 75)
  have a0 := heap_alloc_new (W1.alloc (.cells #[.string s1, .int .i64 0] 140)) (.cells #[.int .i64 k, .int .u32 n, .int .u8 0, .slice none 0 0] 75)
  rw [World.size_alloc] at a0
  have b3 := Below.next (Below.next b b1 |> fun h => h) (b2)
  have J1 := Lib.hid (show AkJ w W1.heap.size (W1.heap.size + 1) #[.int .i64 k, .int .u32 n, .int .u8 0, .slice none 0 0] s1 0 _ from ⟨Below.next b0 b3, (b3.block _ (lt_of_block z0)).trans z0, (b2.block _ (lt_of_block c0)).trans c0, a0, Nat.lt_of_lt_of_le (lt_of_block z0) b.size, Nat.lt_succ_self _⟩)
  clear b b1 c0 b2 a0 b3 z0 b0 HID
  go_upto_region 5 with fail
  generalize (W1.alloc (.cells #[.string s1, .int .i64 0] 140)).alloc (.cells #[.int .i64 k, .int .u32 n, .int .u8 0, .slice none 0 0] 75) = W2 at *
  generalize hab : W1.heap.size + 1 = ab at *
  generalize W1.heap.size = cb at *
  clear hab
  have hn1 : w.heap.size ≠ cb := Nat.ne_of_lt J1.out.o1
  have hn2 : cb ≠ ab := Nat.ne_of_lt J1.out.o2
  have hn3 : w.heap.size ≠ ab := Nat.ne_of_lt (Nat.lt_trans J1.out.o1 J1.out.o2)
  obtain ⟨c0, c1, f0, f1⟩ := pair_cells J1.out.c
  obtain ⟨a0, a1, a2, a3, af⟩ := cells4 J1.out.a
  obtain ⟨z0, z1, z2, z3, zf⟩ := cells4 J1.out.z
  have hlc := lt_of_block J1.out.c
  have hla := lt_of_block J1.out.a
  have hlz := lt_of_block J1.out.z
  go_wp2_with fail
  refine (HMAY.out _).mono ?_
  rintro e W3 ⟨rfl, b⟩
  have J3 := Lib.hid (J1.out.below b)
  clear b J1 c0 c1 f0 f1 a0 a1 a2 a3 af z0 z1 z2 z3 zf hlc hla hlz
  obtain ⟨c0, c1, f0, f1⟩ := pair_cells J3.out.c
  obtain ⟨a0, a1, a2, a3, af⟩ := cells4 J3.out.a
  obtain ⟨z0, z1, z2, z3, zf⟩ := cells4 J3.out.z
  have hlc := lt_of_block J3.out.c
  have hla := lt_of_block J3.out.a
  have hlz := lt_of_block J3.out.z
  go_wp2_with fail
  refine (HEND.out _).mono ?_
  rintro e W8 ⟨rfl, b⟩
  have J8 := Lib.hid (J3.out.below b)
  clear b J3 c0 c1 f0 f1 a0 a1 a2 a3 af z0 z1 z2 z3 zf hlc hla hlz
  obtain ⟨c0, c1, f0, f1⟩ := pair_cells J8.out.c
  obtain ⟨a0, a1, a2, a3, af⟩ := cells4 J8.out.a
  obtain ⟨z0, z1, z2, z3, zf⟩ := cells4 J8.out.z
  have hlc := lt_of_block J8.out.c
  have hla := lt_of_block J8.out.a
  have hlz := lt_of_block J8.out.z
  have hz := set4 (.int .i64 k) (.int .u32 n) (.int .u8 0) (.slice none 0 0) J8.out.z
  obtain ⟨y0, y1, y2, y3, _⟩ := cells4 hz
  have HB := Lib.hid (below_set4 (u0 := .int .i64 k) (u1 := .int .u32 n) (u2 := .int .u8 0) (u3 := .slice none 0 0) J8.out.bel (Nat.le_refl _))
  clear hz
  go_wp2
  refine bodyPost_ret (v := .tuple #[pkV ⟨k, n, 0, []⟩ (.slice none 0 0), .int .i64 0]) ?_ rfl ⟨_, rfl, World.ownsRow_nil _ _ _ _, HB.out⟩
  simp [results, Tryd.results33, go_sem, y0, y1, y2, y3, pkV]

set_option maxRecDepth 100000 in
set_option maxHeartbeats 2000000 in
theorem r7ack_c (w : World) (k : Int) (body : ByteArray) (k4 : 4 ≤ k) (k7 : k ≤ 7) (n : Int) (s1 s2 : ByteArray) (c : Int) (hc0 : 0 ≤ c) (hc1 : c < 256) (HID : Hid (∀ W, Calls Tryd.prog 99 #[cur body 0] W fun e w' => e = .returned (.tuple #[cur s1 0, .int .u32 n]) ∧ Below W.heap.size W w')) (he : s1.toList.isEmpty = false) (he2 : ¬ s1.toList = []) (HNUM : Hid (∀ W, Calls Tryd.prog 75 #[cur s1 0, .int .i64 1] W fun e w' => e = .returned (.tuple #[cur s2 0, .int .u32 c]) ∧ Below W.heap.size W w'))
    (HMAY : Hid (∀ W, Calls Tryd.prog 82 #[.int .i64 k, .int .i64 c] W (Ans W false))) (E : Int) (hE : (E != 0) = true) (HEND : Hid (∀ W, Calls Tryd.prog 78 #[cur s2 2] W fun e w' => e = .returned (.int .i64 E) ∧ Below W.heap.size W w')) :
    Calls Tryd.prog 33 #[.int .i64 k, .string body] w (RAckR w pkZ E) := by
  have z0 := heap_alloc_new w (.cells #[.int .i64 0, .int .u32 0, .int .u8 0, .slice none 0 0] 75)
  have b0 := below_one w (.cells #[.int .i64 0, .int .u32 0, .int .u8 0, .slice none 0 0] 75)
  go_enter Tryd.func33, Tryd.ntmps33
  go_wp2_with fail
  generalize w.alloc (.cells #[.int .i64 0, .int .u32 0, .int .u8 0, .slice none 0 0] 75) = W0 at *
  with_reducible refine (HID.out _).mono ?_
  rintro e W1 ⟨rfl, b⟩
  have b1 := below_one W1 (.cells #[.string s1, .int .i64 0] 140)
  have c0 := heap_alloc_new W1 (.cells #[.string s1, .int .i64 0] 140)
  have b2 := below_one (W1.alloc (.cells #[.string s1, .int .i64 0] 140)) (.cells #[.int .i64 k, .int .u32 n, .int .u8 0, .slice none 0 0] 75)
  have a0 := heap_alloc_new (W1.alloc (.cells #[.string s1, .int .i64 0] 140)) (.cells #[.int .i64 k, .int .u32 n, .int .u8 0, .slice none 0 0] 75)
  rw [World.size_alloc] at a0
  have b3 := Below.next (Below.next b b1 |> fun h => h) (b2)
  have J1 := Lib.hid (show AkJ w W1.heap.size (W1.heap.size + 1) #[.int .i64 k, .int .u32 n, .int .u8 0, .slice none 0 0] s1 0 _ from ⟨Below.next b0 b3, (b3.block _ (lt_of_block z0)).trans z0, (b2.block _ (lt_of_block c0)).trans c0, a0, Nat.lt_of_lt_of_le (lt_of_block z0) b.size, Nat.lt_succ_self _⟩)
  clear b b1 c0 b2 a0 b3 z0 b0 HID
  go_upto_region 5 with fail
  generalize (W1.alloc (.cells #[.string s1, .int .i64 0] 140)).alloc (.cells #[.int .i64 k, .int .u32 n, .int .u8 0, .slice none 0 0] 75) = W2 at *
  generalize hab : W1.heap.size + 1 = ab at *
  generalize W1.heap.size = cb at *
  clear hab
  have hn1 : w.heap.size ≠ cb := Nat.ne_of_lt J1.out.o1
  have hn2 : cb ≠ ab := Nat.ne_of_lt J1.out.o2
  have hn3 : w.heap.size ≠ ab := Nat.ne_of_lt (Nat.lt_trans J1.out.o1 J1.out.o2)
  obtain ⟨c0, c1, f0, f1⟩ := pair_cells J1.out.c
  obtain ⟨a0, a1, a2, a3, af⟩ := cells4 J1.out.a
  obtain ⟨z0, z1, z2, z3, zf⟩ := cells4 J1.out.z
  have hlc := lt_of_block J1.out.c
  have hla := lt_of_block J1.out.a
  have hlz := lt_of_block J1.out.z
  go_wp2_with fail
  refine (HNUM.out _).mono ?_
  rintro e W3 ⟨rfl, b⟩
  have bl := below_one W3 (.cells #[.string s2, .int .i64 0] 140)
  have hd := heap_alloc_new W3 (.cells #[.string s2, .int .i64 0] 140)
  have hdc : ab < W3.heap.size := lt_of_block (J1.out.below b).a
  have J3 := Lib.hid ((J1.out.below b).below bl)
  clear b bl J1 c0 c1 f0 f1 a0 a1 a2 a3 af z0 z1 z2 z3 zf hlc hla hlz
  go_upto_region 7 with fail
  generalize W3.alloc (.cells #[.string s2, .int .i64 0] 140) = W4 at *
  generalize W3.heap.size = db at *
  obtain ⟨g0, g1, gf0, gf1⟩ := pair_cells hd
  have hn4 : cb ≠ db := Nat.ne_of_lt (Nat.lt_trans J3.out.o2 hdc)
  have hn5 : ab ≠ db := Nat.ne_of_lt hdc
  have J4 := Lib.hid ((J3.out.cur s2 0).ack 2 (.int .u8 c))
  obtain ⟨c0, c1, f0, f1⟩ := pair_cells J3.out.c
  obtain ⟨a0, a1, a2, a3, af⟩ := cells4 J3.out.a
  obtain ⟨z0, z1, z2, z3, zf⟩ := cells4 J3.out.z
  have hlc := lt_of_block J3.out.c
  have hla := lt_of_block J3.out.a
  have hlz := lt_of_block J3.out.z
  obtain ⟨k0, k1, kf0, kf1⟩ := pair_cells J4.out.c
  obtain ⟨q0, q1, q2, q3, qf⟩ := cells4 J4.out.a
  go_wp2_with fail
  refine (HMAY.out _).mono ?_
  rintro e W5 ⟨rfl, b⟩
  have J5 := Lib.hid (J4.out.below b)
  clear b J3 J4 g0 g1 gf0 gf1 hd k0 k1 kf0 kf1 q0 q1 q2 q3 qf c0 c1 f0 f1 a0 a1 a2 a3 af z0 z1 z2 z3 zf hlc hla hlz
  obtain ⟨c0, c1, f0, f1⟩ := pair_cells J5.out.c
  obtain ⟨a0, a1, a2, a3, af⟩ := cells4 J5.out.a
  obtain ⟨z0, z1, z2, z3, zf⟩ := cells4 J5.out.z
  have hlc := lt_of_block J5.out.c
  have hla := lt_of_block J5.out.a
  have hlz := lt_of_block J5.out.z
  have J6 := Lib.hid (J5.out.err 2)
  obtain ⟨k0, k1, kf0, kf1⟩ := pair_cells J6.out.c
  clear J5
  go_wp2_with fail
  clear k0 k1 kf0 kf1
  refine (HEND.out _).mono ?_
  rintro e W8 ⟨rfl, b⟩
  have J8 := Lib.hid (J6.out.below b)
  clear b J6 c0 c1 f0 f1 a0 a1 a2 a3 af z0 z1 z2 z3 zf hlc hla hlz
  obtain ⟨c0, c1, f0, f1⟩ := pair_cells J8.out.c
  obtain ⟨a0, a1, a2, a3, af⟩ := cells4 J8.out.a
  obtain ⟨z0, z1, z2, z3, zf⟩ := cells4 J8.out.z
  have hlc := lt_of_block J8.out.c
  have hla := lt_of_block J8.out.a
  have hlz := lt_of_block J8.out.z
  go_wp2_with fail
  refine (HEND.out _).mono ?_
  rintro e W9 ⟨rfl, b⟩
  have J9 := Lib.hid (J8.out.below b)
  clear b J8 c0 c1 f0 f1 a0 a1 a2 a3 af z0 z1 z2 z3 zf hlc hla hlz
  obtain ⟨c0, c1, f0, f1⟩ := pair_cells J9.out.c
  obtain ⟨a0, a1, a2, a3, af⟩ := cells4 J9.out.a
  obtain ⟨z0, z1, z2, z3, zf⟩ := cells4 J9.out.z
  have hlc := lt_of_block J9.out.c
  have hla := lt_of_block J9.out.a
  have hlz := lt_of_block J9.out.z
  have hz := set4 (.int .i64 0) (.int .u32 0) (.int .u8 0) (.slice none 0 0) J9.out.z
  obtain ⟨y0, y1, y2, y3, _⟩ := cells4 hz
  have HB := Lib.hid (below_set4 (u0 := .int .i64 0) (u1 := .int .u32 0) (u2 := .int .u8 0) (u3 := .slice none 0 0) J9.out.bel (Nat.le_refl _))
  clear hz
  go_wp2
  refine bodyPost_ret (v := .tuple #[pkV pkZ (.slice none 0 0), .int .i64 E]) ?_ rfl ⟨_, rfl, World.ownsRow_nil _ _ _ _, HB.out⟩
  simp [results, Tryd.results33, go_sem, y0, y1, y2, y3, pkV, pkZ]

set_option maxRecDepth 100000 in
set_option maxHeartbeats 2000000 in
theorem r7ack_d (w : World) (k : Int) (body : ByteArray) (k4 : 4 ≤ k) (k7 : k ≤ 7) (n : Int) (s1 s2 : ByteArray) (c : Int) (hc0 : 0 ≤ c) (hc1 : c < 256) (HID : Hid (∀ W, Calls Tryd.prog 99 #[cur body 0] W fun e w' => e = .returned (.tuple #[cur s1 0, .int .u32 n]) ∧ Below W.heap.size W w')) (he : s1.toList.isEmpty = false) (he2 : ¬ s1.toList = []) (HNUM : Hid (∀ W, Calls Tryd.prog 75 #[cur s1 0, .int .i64 1] W fun e w' => e = .returned (.tuple #[cur s2 0, .int .u32 c]) ∧ Below W.heap.size W w'))
    (HMAY : Hid (∀ W, Calls Tryd.prog 82 #[.int .i64 k, .int .i64 c] W (Ans W true))) (hs : s2.toList.isEmpty = true) (hs2 : s2.toList = []) (HEND : Hid (∀ W, Calls Tryd.prog 78 #[cur s2 0] W fun e w' => e = .returned (.int .i64 0) ∧ Below W.heap.size W w')) :
    Calls Tryd.prog 33 #[.int .i64 k, .string body] w (RAckR w ⟨k, n, c, []⟩ 0) := by
  have z0 := heap_alloc_new w (.cells #[.int .i64 0, .int .u32 0, .int .u8 0, .slice none 0 0] 75)
  have b0 := below_one w (.cells #[.int .i64 0, .int .u32 0, .int .u8 0, .slice none 0 0] 75)
  go_enter Tryd.func33, Tryd.ntmps33
  go_wp2_with fail
  generalize w.alloc (.cells #[.int .i64 0, .int .u32 0, .int .u8 0, .slice none 0 0] 75) = W0 at *
  with_reducible refine (HID.out _).mono ?_
  rintro e W1 ⟨rfl, b⟩
  have b1 := below_one W1 (.cells #[.string s1, .int .i64 0] 140)
  have c0 := heap_alloc_new W1 (.cells #[.string s1, .int .i64 0] 140)
  have b2 := below_one (W1.alloc (.cells #[.string s1, .int .i64 0] 140)) (.cells #[.int .i64 k, .int .u32 n, .int .u8 0, .slice none 0 0] 75)
  have a0 := heap_alloc_new (W1.alloc (.cells #[.string s1, .int .i64 0] 140)) (.cells #[.int .i64 k, .int .u32 n, .int .u8 0, .slice none 0 0] 75)
  rw [World.size_alloc] at a0
  have b3 := Below.next (Below.next b b1 |> fun h => h) (b2)
  have J1 := Lib.hid (show AkJ w W1.heap.size (W1.heap.size + 1) #[.int .i64 k, .int .u32 n, .int .u8 0, .slice none 0 0] s1 0 _ from ⟨Below.next b0 b3, (b3.block _ (lt_of_block z0)).trans z0, (b2.block _ (lt_of_block c0)).trans c0, a0, Nat.lt_of_lt_of_le (lt_of_block z0) b.size, Nat.lt_succ_self _⟩)
  clear b b1 c0 b2 a0 b3 z0 b0 HID
  go_upto_region 5 with fail
  generalize (W1.alloc (.cells #[.string s1, .int .i64 0] 140)).alloc (.cells #[.int .i64 k, .int .u32 n, .int .u8 0, .slice none 0 0] 75) = W2 at *
  generalize hab : W1.heap.size + 1 = ab at *
  generalize W1.heap.size = cb at *
  clear hab
  have hn1 : w.heap.size ≠ cb := Nat.ne_of_lt J1.out.o1
  have hn2 : cb ≠ ab := Nat.ne_of_lt J1.out.o2
  have hn3 : w.heap.size ≠ ab := Nat.ne_of_lt (Nat.lt_trans J1.out.o1 J1.out.o2)
  obtain ⟨c0, c1, f0, f1⟩ := pair_cells J1.out.c
  obtain ⟨a0, a1, a2, a3, af⟩ := cells4 J1.out.a
  obtain ⟨z0, z1, z2, z3, zf⟩ := cells4 J1.out.z
  have hlc := lt_of_block J1.out.c
  have hla := lt_of_block J1.out.a
  have hlz := lt_of_block J1.out.z
  go_wp2_with fail
  refine (HNUM.out _).mono ?_
  rintro e W3 ⟨rfl, b⟩
  have bl := below_one W3 (.cells #[.string s2, .int .i64 0] 140)
  have hd := heap_alloc_new W3 (.cells #[.string s2, .int .i64 0] 140)
  have hdc : ab < W3.heap.size := lt_of_block (J1.out.below b).a
  have J3 := Lib.hid ((J1.out.below b).below bl)
  clear b bl J1 c0 c1 f0 f1 a0 a1 a2 a3 af z0 z1 z2 z3 zf hlc hla hlz
  go_upto_region 7 with fail
  generalize W3.alloc (.cells #[.string s2, .int .i64 0] 140) = W4 at *
  generalize W3.heap.size = db at *
  obtain ⟨g0, g1, gf0, gf1⟩ := pair_cells hd
  have hn4 : cb ≠ db := Nat.ne_of_lt (Nat.lt_trans J3.out.o2 hdc)
  have hn5 : ab ≠ db := Nat.ne_of_lt hdc
  have J4 := Lib.hid ((J3.out.cur s2 0).ack 2 (.int .u8 c))
  obtain ⟨c0, c1, f0, f1⟩ := pair_cells J3.out.c
  obtain ⟨a0, a1, a2, a3, af⟩ := cells4 J3.out.a
  obtain ⟨z0, z1, z2, z3, zf⟩ := cells4 J3.out.z
  have hlc := lt_of_block J3.out.c
  have hla := lt_of_block J3.out.a
  have hlz := lt_of_block J3.out.z
  obtain ⟨k0, k1, kf0, kf1⟩ := pair_cells J4.out.c
  obtain ⟨q0, q1, q2, q3, qf⟩ := cells4 J4.out.a
  go_wp2_with fail
  refine (HMAY.out _).mono ?_
  rintro e W5 ⟨rfl, b⟩
  have J5 := Lib.hid (J4.out.below b)
  clear b J3 J4 g0 g1 gf0 gf1 hd k0 k1 kf0 kf1 q0 q1 q2 q3 qf c0 c1 f0 f1 a0 a1 a2 a3 af z0 z1 z2 z3 zf hlc hla hlz
  obtain ⟨c0, c1, f0, f1⟩ := pair_cells J5.out.c
  obtain ⟨a0, a1, a2, a3, af⟩ := cells4 J5.out.a
  obtain ⟨z0, z1, z2, z3, zf⟩ := cells4 J5.out.z
  have hlc := lt_of_block J5.out.c
  have hla := lt_of_block J5.out.a
  have hlz := lt_of_block J5.out.z
  go_wp2_with fail
  refine (HEND.out _).mono ?_
  rintro e W8 ⟨rfl, b⟩
  have J8 := Lib.hid (J5.out.below b)
  clear b J5 c0 c1 f0 f1 a0 a1 a2 a3 af z0 z1 z2 z3 zf hlc hla hlz
  obtain ⟨c0, c1, f0, f1⟩ := pair_cells J8.out.c
  obtain ⟨a0, a1, a2, a3, af⟩ := cells4 J8.out.a
  obtain ⟨z0, z1, z2, z3, zf⟩ := cells4 J8.out.z
  have hlc := lt_of_block J8.out.c
  have hla := lt_of_block J8.out.a
  have hlz := lt_of_block J8.out.z
  have hz := set4 (.int .i64 k) (.int .u32 n) (.int .u8 c) (.slice none 0 0) J8.out.z
  obtain ⟨y0, y1, y2, y3, _⟩ := cells4 hz
  have HB := Lib.hid (below_set4 (u0 := .int .i64 k) (u1 := .int .u32 n) (u2 := .int .u8 c) (u3 := .slice none 0 0) J8.out.bel (Nat.le_refl _))
  clear hz
  go_wp2
  refine bodyPost_ret (v := .tuple #[pkV ⟨k, n, c, []⟩ (.slice none 0 0), .int .i64 0]) ?_ rfl ⟨_, rfl, World.ownsRow_nil _ _ _ _, HB.out⟩
  simp [results, Tryd.results33, go_sem, y0, y1, y2, y3, pkV]

set_option maxRecDepth 100000 in
set_option maxHeartbeats 2000000 in
theorem r7ack_e (w : World) (k : Int) (body : ByteArray) (k4 : 4 ≤ k) (k7 : k ≤ 7) (n : Int) (s1 s2 : ByteArray) (c : Int) (hc0 : 0 ≤ c) (hc1 : c < 256) (HID : Hid (∀ W, Calls Tryd.prog 99 #[cur body 0] W fun e w' => e = .returned (.tuple #[cur s1 0, .int .u32 n]) ∧ Below W.heap.size W w')) (he : s1.toList.isEmpty = false) (he2 : ¬ s1.toList = []) (HNUM : Hid (∀ W, Calls Tryd.prog 75 #[cur s1 0, .int .i64 1] W fun e w' => e = .returned (.tuple #[cur s2 0, .int .u32 c]) ∧ Below W.heap.size W w'))
    (HMAY : Hid (∀ W, Calls Tryd.prog 82 #[.int .i64 k, .int .i64 c] W (Ans W true))) (hs : s2.toList.isEmpty = false) (hs2 : ¬ s2.toList = []) (ps : List Pr) (s3 : ByteArray) (x3 : Int) (HT : Hid (∀ W, Calls Tryd.prog 76 #[cur s2 0, .int .i64 k, .bool false] W (TookT W (ps, s3, x3)))) (HEND : Hid (∀ W, Calls Tryd.prog 78 #[cur s3 x3] W fun e w' => e = .returned (.int .i64 0) ∧ Below W.heap.size W w')) :
    Calls Tryd.prog 33 #[.int .i64 k, .string body] w (RAckR w ⟨k, n, c, ps⟩ 0) := by
  have z0 := heap_alloc_new w (.cells #[.int .i64 0, .int .u32 0, .int .u8 0, .slice none 0 0] 75)
  have b0 := below_one w (.cells #[.int .i64 0, .int .u32 0, .int .u8 0, .slice none 0 0] 75)
  go_enter Tryd.func33, Tryd.ntmps33
  go_wp2_with fail
  generalize w.alloc (.cells #[.int .i64 0, .int .u32 0, .int .u8 0, .slice none 0 0] 75) = W0 at *
  with_reducible refine (HID.out _).mono ?_
  rintro e W1 ⟨rfl, b⟩
  have b1 := below_one W1 (.cells #[.string s1, .int .i64 0] 140)
  have c0 := heap_alloc_new W1 (.cells #[.string s1, .int .i64 0] 140)
  have b2 := below_one (W1.alloc (.cells #[.string s1, .int .i64 0] 140)) (.cells #[.int .i64 k, .int .u32 n, .int .u8 0, .slice none 0 0] 75)
  have a0 := heap_alloc_new (W1.alloc (.cells #[.string s1, .int .i64 0] 140)) (.cells #[.int .i64 k, .int .u32 n, .int .u8 0, .slice none 0 0] 75)
  rw [World.size_alloc] at a0
  have b3 := Below.next (Below.next b b1 |> fun h => h) (b2)
  have J1 := Lib.hid (show AkJ w W1.heap.size (W1.heap.size + 1) #[.int .i64 k, .int .u32 n, .int .u8 0, .slice none 0 0] s1 0 _ from ⟨Below.next b0 b3, (b3.block _ (lt_of_block z0)).trans z0, (b2.block _ (lt_of_block c0)).trans c0, a0, Nat.lt_of_lt_of_le (lt_of_block z0) b.size, Nat.lt_succ_self _⟩)
  clear b b1 c0 b2 a0 b3 z0 b0 HID
  go_upto_region 5 with fail
  generalize (W1.alloc (.cells #[.string s1, .int .i64 0] 140)).alloc (.cells #[.int .i64 k, .int .u32 n, .int .u8 0, .slice none 0 0] 75) = W2 at *
  generalize hab : W1.heap.size + 1 = ab at *
  generalize W1.heap.size = cb at *
  clear hab
  have hn1 : w.heap.size ≠ cb := Nat.ne_of_lt J1.out.o1
  have hn2 : cb ≠ ab := Nat.ne_of_lt J1.out.o2
  have hn3 : w.heap.size ≠ ab := Nat.ne_of_lt (Nat.lt_trans J1.out.o1 J1.out.o2)
  obtain ⟨c0, c1, f0, f1⟩ := pair_cells J1.out.c
  obtain ⟨a0, a1, a2, a3, af⟩ := cells4 J1.out.a
  obtain ⟨z0, z1, z2, z3, zf⟩ := cells4 J1.out.z
  have hlc := lt_of_block J1.out.c
  have hla := lt_of_block J1.out.a
  have hlz := lt_of_block J1.out.z
  go_wp2_with fail
  refine (HNUM.out _).mono ?_
  rintro e W3 ⟨rfl, b⟩
  have bl := below_one W3 (.cells #[.string s2, .int .i64 0] 140)
  have hd := heap_alloc_new W3 (.cells #[.string s2, .int .i64 0] 140)
  have hdc : ab < W3.heap.size := lt_of_block (J1.out.below b).a
  have J3 := Lib.hid ((J1.out.below b).below bl)
  clear b bl J1 c0 c1 f0 f1 a0 a1 a2 a3 af z0 z1 z2 z3 zf hlc hla hlz
  go_upto_region 7 with fail
  generalize W3.alloc (.cells #[.string s2, .int .i64 0] 140) = W4 at *
  generalize W3.heap.size = db at *
  obtain ⟨g0, g1, gf0, gf1⟩ := pair_cells hd
  have hn4 : cb ≠ db := Nat.ne_of_lt (Nat.lt_trans J3.out.o2 hdc)
  have hn5 : ab ≠ db := Nat.ne_of_lt hdc
  have J4 := Lib.hid ((J3.out.cur s2 0).ack 2 (.int .u8 c))
  obtain ⟨c0, c1, f0, f1⟩ := pair_cells J3.out.c
  obtain ⟨a0, a1, a2, a3, af⟩ := cells4 J3.out.a
  obtain ⟨z0, z1, z2, z3, zf⟩ := cells4 J3.out.z
  have hlc := lt_of_block J3.out.c
  have hla := lt_of_block J3.out.a
  have hlz := lt_of_block J3.out.z
  obtain ⟨k0, k1, kf0, kf1⟩ := pair_cells J4.out.c
  obtain ⟨q0, q1, q2, q3, qf⟩ := cells4 J4.out.a
  go_wp2_with fail
  refine (HMAY.out _).mono ?_
  rintro e W5 ⟨rfl, b⟩
  have J5 := Lib.hid (J4.out.below b)
  clear b J3 J4 g0 g1 gf0 gf1 hd k0 k1 kf0 kf1 q0 q1 q2 q3 qf c0 c1 f0 f1 a0 a1 a2 a3 af z0 z1 z2 z3 zf hlc hla hlz
  obtain ⟨c0, c1, f0, f1⟩ := pair_cells J5.out.c
  obtain ⟨a0, a1, a2, a3, af⟩ := cells4 J5.out.a
  obtain ⟨z0, z1, z2, z3, zf⟩ := cells4 J5.out.z
  have hlc := lt_of_block J5.out.c
  have hla := lt_of_block J5.out.a
  have hlz := lt_of_block J5.out.z
  go_wp2_with fail
  with_reducible refine (HT.out _).mono ?_
  rintro e W6 ⟨v, rfl, hown, b⟩
  have HO := Lib.hid hown
  have hB1 := lt_of_block J5.out.a
  have hB2 := lt_of_block J5.out.c
  have hB3 := lt_of_block J5.out.z
  obtain ⟨va, vc, rfl⟩ := hown.form
  have bl := below_one W6 (.cells #[.string s3, .int .i64 x3] 140)
  have hd := heap_alloc_new W6 (.cells #[.string s3, .int .i64 x3] 140)
  have hdc : ab < W6.heap.size := lt_of_block (J5.out.below b).a
  have J6 := Lib.hid ((J5.out.below b).below bl)
  have HO := Lib.hid (HO.out.below bl)
  clear b bl J5 hown c0 c1 f0 f1 a0 a1 a2 a3 af z0 z1 z2 z3 zf hlc hla hlz
  dsimp only
  go_upto_region 13 with fail
  generalize W6.alloc (.cells #[.string s3, .int .i64 x3] 140) = W7 at *
  generalize W6.heap.size = db2 at *
  obtain ⟨g0, g1, gf0, gf1⟩ := pair_cells hd
  have hn6 : cb ≠ db2 := Nat.ne_of_lt (Nat.lt_trans J6.out.o2 hdc)
  have hn7 : ab ≠ db2 := Nat.ne_of_lt hdc
  have J7 := Lib.hid ((J6.out.cur s3 x3).ack 3 (.slice va ps.length vc))
  have HO := Lib.hid (OwnP.set (j := 3) (y := .slice va ps.length vc) (OwnP.set (j := 1) (y := .int .i64 x3) (OwnP.set (j := 0) (y := .string s3) HO.out hB2) hB2) hB1)
  obtain ⟨c0, c1, f0, f1⟩ := pair_cells J6.out.c
  obtain ⟨a0, a1, a2, a3, af⟩ := cells4 J6.out.a
  obtain ⟨z0, z1, z2, z3, zf⟩ := cells4 J6.out.z
  have hlc := lt_of_block J6.out.c
  have hla := lt_of_block J6.out.a
  have hlz := lt_of_block J6.out.z
  obtain ⟨k0, k1, kf0, kf1⟩ := pair_cells J7.out.c
  go_wp2_with fail
  clear g0 g1 gf0 gf1 hd k0 k1 kf0 kf1 J6
  refine (HEND.out _).mono ?_
  rintro e W8 ⟨rfl, b⟩
  have J8 := Lib.hid (J7.out.below b)
  have HO8 := Lib.hid (HO.out.below b)
  clear b J7 c0 c1 f0 f1 a0 a1 a2 a3 af z0 z1 z2 z3 zf hlc hla hlz
  obtain ⟨c0, c1, f0, f1⟩ := pair_cells J8.out.c
  obtain ⟨a0, a1, a2, a3, af⟩ := cells4 J8.out.a
  obtain ⟨z0, z1, z2, z3, zf⟩ := cells4 J8.out.z
  have hlc := lt_of_block J8.out.c
  have hla := lt_of_block J8.out.a
  have hlz := lt_of_block J8.out.z
  have hz := set4 (.int .i64 k) (.int .u32 n) (.int .u8 c) (.slice va ps.length vc) J8.out.z
  obtain ⟨y0, y1, y2, y3, _⟩ := cells4 hz
  have HB := Lib.hid (below_set4 (u0 := .int .i64 k) (u1 := .int .u32 n) (u2 := .int .u8 c) (u3 := .slice va ps.length vc) J8.out.bel (Nat.le_refl _))
  have HO9 := Lib.hid (own_set4 (u0 := .int .i64 k) (u1 := .int .u32 n) (u2 := .int .u8 c) (u3 := .slice va ps.length vc) HO8.out hB3)
  clear hz
  go_wp2
  refine bodyPost_ret (v := .tuple #[pkV ⟨k, n, c, ps⟩ (.slice va ps.length vc), .int .i64 0]) ?_ rfl ⟨_, rfl, HO9.out.mono (Nat.le_of_lt hB3), HB.out⟩
  simp [results, Tryd.results33, go_sem, y0, y1, y2, y3, pkV]

set_option maxRecDepth 100000 in
set_option maxHeartbeats 2000000 in
theorem r7ack_f (w : World) (k : Int) (body : ByteArray) (k4 : 4 ≤ k) (k7 : k ≤ 7) (n : Int) (s1 s2 : ByteArray) (c : Int) (hc0 : 0 ≤ c) (hc1 : c < 256) (HID : Hid (∀ W, Calls Tryd.prog 99 #[cur body 0] W fun e w' => e = .returned (.tuple #[cur s1 0, .int .u32 n]) ∧ Below W.heap.size W w')) (he : s1.toList.isEmpty = false) (he2 : ¬ s1.toList = []) (HNUM : Hid (∀ W, Calls Tryd.prog 75 #[cur s1 0, .int .i64 1] W fun e w' => e = .returned (.tuple #[cur s2 0, .int .u32 c]) ∧ Below W.heap.size W w'))
    (HMAY : Hid (∀ W, Calls Tryd.prog 82 #[.int .i64 k, .int .i64 c] W (Ans W true))) (hs : s2.toList.isEmpty = false) (hs2 : ¬ s2.toList = []) (ps : List Pr) (s3 : ByteArray) (x3 : Int) (HT : Hid (∀ W, Calls Tryd.prog 76 #[cur s2 0, .int .i64 k, .bool false] W (TookT W (ps, s3, x3)))) (E : Int) (hE : (E != 0) = true) (HEND : Hid (∀ W, Calls Tryd.prog 78 #[cur s3 x3] W fun e w' => e = .returned (.int .i64 E) ∧ Below W.heap.size W w')) :
    Calls Tryd.prog 33 #[.int .i64 k, .string body] w (RAckR w pkZ E) := by
  have z0 := heap_alloc_new w (.cells #[.int .i64 0, .int .u32 0, .int .u8 0, .slice none 0 0] 75)
  have b0 := below_one w (.cells #[.int .i64 0, .int .u32 0, .int .u8 0, .slice none 0 0] 75)
  go_enter Tryd.func33, Tryd.ntmps33
  go_wp2_with fail
  generalize w.alloc (.cells #[.int .i64 0, .int .u32 0, .int .u8 0, .slice none 0 0] 75) = W0 at *
  with_reducible refine (HID.out _).mono ?_
  rintro e W1 ⟨rfl, b⟩
  have b1 := below_one W1 (.cells #[.string s1, .int .i64 0] 140)
  have c0 := heap_alloc_new W1 (.cells #[.string s1, .int .i64 0] 140)
  have b2 := below_one (W1.alloc (.cells #[.string s1, .int .i64 0] 140)) (.cells #[.int .i64 k, .int .u32 n, .int .u8 0, .slice none 0 0] 75)
  have a0 := heap_alloc_new (W1.alloc (.cells #[.string s1, .int .i64 0] 140)) (.cells #[.int .i64 k, .int .u32 n, .int .u8 0, .slice none 0 0] 75)
  rw [World.size_alloc] at a0
  have b3 := Below.next (Below.next b b1 |> fun h => h) (b2)
  have J1 := Lib.hid (show AkJ w W1.heap.size (W1.heap.size + 1) #[.int .i64 k, .int .u32 n, .int .u8 0, .slice none 0 0] s1 0 _ from ⟨Below.next b0 b3, (b3.block _ (lt_of_block z0)).trans z0, (b2.block _ (lt_of_block c0)).trans c0, a0, Nat.lt_of_lt_of_le (lt_of_block z0) b.size, Nat.lt_succ_self _⟩)
  clear b b1 c0 b2 a0 b3 z0 b0 HID
  go_upto_region 5 with fail
  generalize (W1.alloc (.cells #[.string s1, .int .i64 0] 140)).alloc (.cells #[.int .i64 k, .int .u32 n, .int .u8 0, .slice none 0 0] 75) = W2 at *
  generalize hab : W1.heap.size + 1 = ab at *
  generalize W1.heap.size = cb at *
  clear hab
  have hn1 : w.heap.size ≠ cb := Nat.ne_of_lt J1.out.o1
  have hn2 : cb ≠ ab := Nat.ne_of_lt J1.out.o2
  have hn3 : w.heap.size ≠ ab := Nat.ne_of_lt (Nat.lt_trans J1.out.o1 J1.out.o2)
  obtain ⟨c0, c1, f0, f1⟩ := pair_cells J1.out.c
  obtain ⟨a0, a1, a2, a3, af⟩ := cells4 J1.out.a
  obtain ⟨z0, z1, z2, z3, zf⟩ := cells4 J1.out.z
  have hlc := lt_of_block J1.out.c
  have hla := lt_of_block J1.out.a
  have hlz := lt_of_block J1.out.z
  go_wp2_with fail
  refine (HNUM.out _).mono ?_
  rintro e W3 ⟨rfl, b⟩
  have bl := below_one W3 (.cells #[.string s2, .int .i64 0] 140)
  have hd := heap_alloc_new W3 (.cells #[.string s2, .int .i64 0] 140)
  have hdc : ab < W3.heap.size := lt_of_block (J1.out.below b).a
  have J3 := Lib.hid ((J1.out.below b).below bl)
  clear b bl J1 c0 c1 f0 f1 a0 a1 a2 a3 af z0 z1 z2 z3 zf hlc hla hlz
  go_upto_region 7 with fail
  generalize W3.alloc (.cells #[.string s2, .int .i64 0] 140) = W4 at *
  generalize W3.heap.size = db at *
  obtain ⟨g0, g1, gf0, gf1⟩ := pair_cells hd
  have hn4 : cb ≠ db := Nat.ne_of_lt (Nat.lt_trans J3.out.o2 hdc)
  have hn5 : ab ≠ db := Nat.ne_of_lt hdc
  have J4 := Lib.hid ((J3.out.cur s2 0).ack 2 (.int .u8 c))
  obtain ⟨c0, c1, f0, f1⟩ := pair_cells J3.out.c
  obtain ⟨a0, a1, a2, a3, af⟩ := cells4 J3.out.a
  obtain ⟨z0, z1, z2, z3, zf⟩ := cells4 J3.out.z
  have hlc := lt_of_block J3.out.c
  have hla := lt_of_block J3.out.a
  have hlz := lt_of_block J3.out.z
  obtain ⟨k0, k1, kf0, kf1⟩ := pair_cells J4.out.c
  obtain ⟨q0, q1, q2, q3, qf⟩ := cells4 J4.out.a
  go_wp2_with fail
  refine (HMAY.out _).mono ?_
  rintro e W5 ⟨rfl, b⟩
  have J5 := Lib.hid (J4.out.below b)
  clear b J3 J4 g0 g1 gf0 gf1 hd k0 k1 kf0 kf1 q0 q1 q2 q3 qf c0 c1 f0 f1 a0 a1 a2 a3 af z0 z1 z2 z3 zf hlc hla hlz
  obtain ⟨c0, c1, f0, f1⟩ := pair_cells J5.out.c
  obtain ⟨a0, a1, a2, a3, af⟩ := cells4 J5.out.a
  obtain ⟨z0, z1, z2, z3, zf⟩ := cells4 J5.out.z
  have hlc := lt_of_block J5.out.c
  have hla := lt_of_block J5.out.a
  have hlz := lt_of_block J5.out.z
  go_wp2_with fail
  with_reducible refine (HT.out _).mono ?_
  rintro e W6 ⟨v, rfl, hown, b⟩
  have HO := Lib.hid hown
  have hB1 := lt_of_block J5.out.a
  have hB2 := lt_of_block J5.out.c
  have hB3 := lt_of_block J5.out.z
  obtain ⟨va, vc, rfl⟩ := hown.form
  have bl := below_one W6 (.cells #[.string s3, .int .i64 x3] 140)
  have hd := heap_alloc_new W6 (.cells #[.string s3, .int .i64 x3] 140)
  have hdc : ab < W6.heap.size := lt_of_block (J5.out.below b).a
  have J6 := Lib.hid ((J5.out.below b).below bl)
  have HO := Lib.hid (HO.out.below bl)
  clear b bl J5 hown c0 c1 f0 f1 a0 a1 a2 a3 af z0 z1 z2 z3 zf hlc hla hlz
  dsimp only
  go_upto_region 13 with fail
  generalize W6.alloc (.cells #[.string s3, .int .i64 x3] 140) = W7 at *
  generalize W6.heap.size = db2 at *
  obtain ⟨g0, g1, gf0, gf1⟩ := pair_cells hd
  have hn6 : cb ≠ db2 := Nat.ne_of_lt (Nat.lt_trans J6.out.o2 hdc)
  have hn7 : ab ≠ db2 := Nat.ne_of_lt hdc
  have J7 := Lib.hid ((J6.out.cur s3 x3).ack 3 (.slice va ps.length vc))
  have HO := Lib.hid (OwnP.set (j := 3) (y := .slice va ps.length vc) (OwnP.set (j := 1) (y := .int .i64 x3) (OwnP.set (j := 0) (y := .string s3) HO.out hB2) hB2) hB1)
  obtain ⟨c0, c1, f0, f1⟩ := pair_cells J6.out.c
  obtain ⟨a0, a1, a2, a3, af⟩ := cells4 J6.out.a
  obtain ⟨z0, z1, z2, z3, zf⟩ := cells4 J6.out.z
  have hlc := lt_of_block J6.out.c
  have hla := lt_of_block J6.out.a
  have hlz := lt_of_block J6.out.z
  obtain ⟨k0, k1, kf0, kf1⟩ := pair_cells J7.out.c
  go_wp2_with fail
  clear g0 g1 gf0 gf1 hd k0 k1 kf0 kf1 J6
  refine (HEND.out _).mono ?_
  rintro e W8 ⟨rfl, b⟩
  have J8 := Lib.hid (J7.out.below b)
  clear b J7 c0 c1 f0 f1 a0 a1 a2 a3 af z0 z1 z2 z3 zf hlc hla hlz
  obtain ⟨c0, c1, f0, f1⟩ := pair_cells J8.out.c
  obtain ⟨a0, a1, a2, a3, af⟩ := cells4 J8.out.a
  obtain ⟨z0, z1, z2, z3, zf⟩ := cells4 J8.out.z
  have hlc := lt_of_block J8.out.c
  have hla := lt_of_block J8.out.a
  have hlz := lt_of_block J8.out.z
  go_wp2_with fail
  refine (HEND.out _).mono ?_
  rintro e W9 ⟨rfl, b⟩
  have J9 := Lib.hid (J8.out.below b)
  clear b J8 c0 c1 f0 f1 a0 a1 a2 a3 af z0 z1 z2 z3 zf hlc hla hlz
  obtain ⟨c0, c1, f0, f1⟩ := pair_cells J9.out.c
  obtain ⟨a0, a1, a2, a3, af⟩ := cells4 J9.out.a
  obtain ⟨z0, z1, z2, z3, zf⟩ := cells4 J9.out.z
  have hlc := lt_of_block J9.out.c
  have hla := lt_of_block J9.out.a
  have hlz := lt_of_block J9.out.z
  have hz := set4 (.int .i64 0) (.int .u32 0) (.int .u8 0) (.slice none 0 0) J9.out.z
  obtain ⟨y0, y1, y2, y3, _⟩ := cells4 hz
  have HB := Lib.hid (below_set4 (u0 := .int .i64 0) (u1 := .int .u32 0) (u2 := .int .u8 0) (u3 := .slice none 0 0) J9.out.bel (Nat.le_refl _))
  clear hz
  go_wp2
  refine bodyPost_ret (v := .tuple #[pkV pkZ (.slice none 0 0), .int .i64 E]) ?_ rfl ⟨_, rfl, World.ownsRow_nil _ _ _ _, HB.out⟩
  simp [results, Tryd.results33, go_sem, y0, y1, y2, y3, pkV, pkZ]

#print axioms r7ack_f
end Go.Proofs.YtacffjimkplieaaDoor
