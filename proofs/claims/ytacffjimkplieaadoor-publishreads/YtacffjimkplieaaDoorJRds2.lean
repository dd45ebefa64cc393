/-
  The document's answer of layer 7: a publish of a body. (No statement: contracts that the proofs of the statements use.)
-/
import Derived.Test.YtacffjimkplieaaDoorJRds1
import Derived.Test.YtacffjimkplieaaDoorJPub7
import Derived.Deep.CutRange
namespace Go.Proofs.YtacffjimkplieaaDoor
open Go.RowKit

/-- The document's publish, or its error. -/
def RPubR (w : World) (c : Pb) (E : Int) (e : Ending) (w' : World) : Prop :=
  ∃ v, e = .returned (.tuple #[pbV c v, .int .i64 E]) ∧ OwnP w.heap.size 153 w' v c.ps ∧ Below w.heap.size w w'

theorem set_at {V : World} {b : Nat} {A : Array Value} {T : TypeId} (h : V.heap[b]? = some (.cells A T (0, 0))) (j : Nat) (u : Value) : (V.setCell ⟨b, j, none⟩ u).heap[b]? = some (.cells (A.setIfInBounds j u) T (0, 0)) := by
  simp [World.setCell, Array.getElem?_modify, h]

/-- What lies where: the result, the publish, the cursor. -/
structure PrJ (w : World) (pb cb : Nat) (A : Array Value) (s : ByteArray) (x : Int) (V : World) : Prop where
  bel : Below w.heap.size w V
  z : V.heap[w.heap.size]? = some (.cells #[.bool false, .bool false, .int .u8 0, .int .u32 0, .slice none 0 0, .string ⟨#[]⟩, .string ⟨#[]⟩] 67 (0, 0))
  p : V.heap[pb]? = some (.cells A 67 (0, 0))
  c : V.heap[cb]? = some (.cells #[.string s, .int .i64 x] 140 (0, 0))
  o1 : w.heap.size < pb
  o2 : pb < cb
section
variable {w V V' : World} {pb cb : Nat} {A : Array Value} {s : ByteArray} {x : Int}
theorem PrJ.below (h : PrJ w pb cb A s x V) (hb : Below V.heap.size V V') : PrJ w pb cb A s x V' :=
  ⟨Below.next h.bel hb, (hb.block _ (lt_of_block h.z)).trans h.z, (hb.block _ (lt_of_block h.p)).trans h.p, (hb.block _ (lt_of_block h.c)).trans h.c, h.o1, h.o2⟩
theorem PrJ.pub (h : PrJ w pb cb A s x V) (j : Nat) (u : Value) : PrJ w pb cb (A.setIfInBounds j u) s x (V.setCell ⟨pb, j, none⟩ u) := by
  have h1 := h.o1
  have h2 := h.o2
  exact ⟨below_set h.bel (by omega) _ _, (Below.heap_setCell _ _ _ _ (by show w.heap.size ≠ pb; omega)).trans h.z, set_at h.p j u, (Below.heap_setCell _ _ _ _ (by show cb ≠ pb; omega)).trans h.c, h1, h2⟩
theorem PrJ.cur (h : PrJ w pb cb A s x V) (s' : ByteArray) (x' : Int) : PrJ w pb cb A s' x' ((V.setCell ⟨cb, 0, none⟩ (.string s')).setCell ⟨cb, 1, none⟩ (.int .i64 x')) := by
  have h1 := h.o1
  have h2 := h.o2
  exact ⟨below2 h.bel (by omega), (far_set (by omega)).trans h.z, (far_set (by omega)).trans h.p, pair_set h.c, h1, h2⟩
theorem PrJ.txt (h : PrJ w pb cb A s x V) (s' : ByteArray) : PrJ w pb cb A s' x (V.setCell ⟨cb, 0, none⟩ (.string s')) := by
  have h1 := h.o1
  have h2 := h.o2
  exact ⟨below_set h.bel (by omega) _ _, (Below.heap_setCell _ _ _ _ (by show w.heap.size ≠ cb; omega)).trans h.z, (Below.heap_setCell _ _ _ _ (by show pb ≠ cb; omega)).trans h.p, set_at h.c 0 _, h1, h2⟩
end

theorem own_set7 {B b : Nat} {e : TypeId} {V : World} {v : Value} {P : List Pr} {u0 u1 u2 u3 u4 u5 u6 : Value} (h : OwnP B e V v P) (hb : b < B) :
    OwnP B e (((((((V.setCell ⟨b, 0, none⟩ u0).setCell ⟨b, 1, none⟩ u1).setCell ⟨b, 2, none⟩ u2).setCell ⟨b, 3, none⟩ u3).setCell ⟨b, 4, none⟩ u4).setCell ⟨b, 5, none⟩ u5).setCell ⟨b, 6, none⟩ u6) v P := by
  iterate 7 (refine OwnP.set ?_ hb)
  exact h

set_option maxRecDepth 100000 in
set_option maxHeartbeats 2000000 in
theorem r7parse_core (w : World) (f : Int) (body : ByteArray) (hf0 : 0 ≤ f) (hf1 : f ≤ 15) (D R : Bool) (Q : Int) (hD : (f / 8 % 2 == 1) = D) (hR : (f % 2 == 1) = R) (hQ : f / 2 % 4 = Q) (tp s1 : ByteArray) (x1 : Int) (ht : strT body 0 = (tp, s1, x1)) (n : Int) (s2 : ByteArray) (x2 : Int) (hi : idP Q s1 x1 = (n, s2, x2))
    (ps : List Pr) (s3 : ByteArray) (x3 : Int) (hP : takeR (placeN 3 false) s2 x2 = (ps, s3, x3)) (E : Int) (hE : endT ⟨#[]⟩ x3 = E) (C : Pb) (hC : (if E = 0 then ⟨D, R, Q, n, ps, tp, s3⟩ else pbZ) = C) :
    Calls Tryd.prog 31 #[.int .i64 f, .string body] w (RPubR w C E) := by
  have hQ0 : 0 ≤ Q := by omega
  have hQ3 : Q ≤ 3 := by omega
  have htk := strT_tak body 0
  rw [ht] at htk
  have HTAKE := Lib.hid (show ∀ W, Calls Tryd.prog 73 #[cur body 0] W fun e w' => e = .returned (.tuple #[cur s1 x1, .string tp]) ∧ Below W.heap.size W w' from fun W => r2take_calls W body 0 tp s1 x1 htk)
  have HID := Lib.hid (show ∀ W, Q ≠ 0 → Calls Tryd.prog 99 #[cur s1 x1] W fun e w' => e = .returned (.tuple #[cur s2 x2, .int .u32 n]) ∧ Below W.heap.size W w' from fun W hq => r7id_calls W s1 x1 n s2 x2 (by rw [← hi]; unfold idP; rw [if_neg hq]))
  have HT := Lib.hid (show ∀ W, Calls Tryd.prog 76 #[cur s2 x2, .int .i64 3, .bool false] W (TookT W (ps, s3, x3)) from fun W => by have := r3TakeAll_calls W s2 x2 3 false; rwa [hP] at this)
  have HEND := Lib.hid (show ∀ W, Calls Tryd.prog 78 #[cur ⟨#[]⟩ x3] W fun e w' => e = .returned (.int .i64 E) ∧ Below W.heap.size W w' from fun W => r6End_calls W _ x3 E hE)
  have HI := Lib.hid hi
  have HC := Lib.hid hC
  have b0 := below_one w (.cells #[.bool false, .bool false, .int .u8 0, .int .u32 0, .slice none 0 0, .string ⟨#[]⟩, .string ⟨#[]⟩] 67)
  have z0 := heap_alloc_new w (.cells #[.bool false, .bool false, .int .u8 0, .int .u32 0, .slice none 0 0, .string ⟨#[]⟩, .string ⟨#[]⟩] 67)
  clear ht hi hP hE hC htk
  go_enter Tryd.func31, Tryd.ntmps31
  go_wp2_with fail
  have b1 := below_one (w.alloc (.cells #[.bool false, .bool false, .int .u8 0, .int .u32 0, .slice none 0 0, .string ⟨#[]⟩, .string ⟨#[]⟩] 67)) (.cells #[.bool D, .bool R, .int .u8 Q, .int .u32 0, .slice none 0 0, .string ⟨#[]⟩, .string ⟨#[]⟩] 67)
  have p0 := heap_alloc_new (w.alloc (.cells #[.bool false, .bool false, .int .u8 0, .int .u32 0, .slice none 0 0, .string ⟨#[]⟩, .string ⟨#[]⟩] 67)) (.cells #[.bool D, .bool R, .int .u8 Q, .int .u32 0, .slice none 0 0, .string ⟨#[]⟩, .string ⟨#[]⟩] 67)
  rw [World.size_alloc] at p0
  have z1 := (b1.block _ (lt_of_block z0)).trans z0
  have bb := Below.next b0 b1
  have ho1 : w.heap.size < w.heap.size + 1 := Nat.lt_succ_self _
  generalize (w.alloc (.cells #[.bool false, .bool false, .int .u8 0, .int .u32 0, .slice none 0 0, .string ⟨#[]⟩, .string ⟨#[]⟩] 67)).alloc (.cells #[.bool D, .bool R, .int .u8 Q, .int .u32 0, .slice none 0 0, .string ⟨#[]⟩, .string ⟨#[]⟩] 67) = W0 at *
  generalize hpb : w.heap.size + 1 = pb at *
  clear hpb b0 b1 z0 hD hR hQ hf0 hf1
  refine (HTAKE.out _).mono ?_
  rintro e W1 ⟨rfl, b⟩
  have bl := below_one W1 (.cells #[.string s1, .int .i64 x1] 140)
  have b2 := b.trans (bl.mono b.size)
  have J1 := Lib.hid (show PrJ w pb W1.heap.size #[.bool D, .bool R, .int .u8 Q, .int .u32 0, .slice none 0 0, .string ⟨#[]⟩, .string ⟨#[]⟩] s1 x1 (W1.alloc (.cells #[.string s1, .int .i64 x1] 140)) from ⟨Below.next bb b2, (b2.block _ (lt_of_block z1)).trans z1, (b2.block _ (lt_of_block p0)).trans p0, heap_alloc_new W1 _, ho1, Nat.lt_of_lt_of_le (lt_of_block p0) b.size⟩)
  clear bl b2 b bb p0 z1
  go_upto_region 3 with fail
  generalize W1.alloc (.cells #[.string s1, .int .i64 x1] 140) = V1 at *
  generalize W1.heap.size = cb at *
  have hn1 : w.heap.size ≠ pb := Nat.ne_of_lt ho1
  have hn2 : pb ≠ cb := Nat.ne_of_lt J1.out.o2
  have hn3 : w.heap.size ≠ cb := Nat.ne_of_lt (Nat.lt_trans ho1 J1.out.o2)
  obtain ⟨c0, c1, f0, f1⟩ := pair_cells J1.out.c
  obtain ⟨p0, p1, p2, p3, p4, p5, p6, pf⟩ := cells7 J1.out.p
  obtain ⟨z0, z1, z2, z3, z4, z5, z6, zf⟩ := cells7 J1.out.z
  have hlc := lt_of_block J1.out.c
  have hlp := lt_of_block J1.out.p
  by_cases hq : Q = 0
  · have hidp := HI.out
    unfold idP at hidp
    rw [if_pos hq] at hidp
    injection hidp with e1 e2
    injection e2 with e2 e3
    subst hq
    subst e1 e2 e3
    have J4 := Lib.hid (J1.out.pub 5 (.string tp))
    clear HI HID J1
    go_wp2_with fail
    with_reducible refine (HT.out _).mono ?_
    rintro e W3 ⟨v, rfl, hown, b⟩
    have HO := Lib.hid hown
    have hB1 := lt_of_block J4.out.p
    have hB2 := lt_of_block J4.out.c
    have hB3 := lt_of_block J4.out.z
    obtain ⟨va, vc, rfl⟩ := hown.form
    have J5 := Lib.hid (J4.out.below b)
    have J9 := Lib.hid ((((J5.out.cur s3 x3).pub 4 (.slice va ps.length vc)).pub 6 (.string s3)).txt ⟨#[]⟩)
    have J6 := Lib.hid (J5.out.cur s3 x3)
    have J7 := Lib.hid ((J5.out.cur s3 x3).pub 4 (.slice va ps.length vc))
    have J8 := Lib.hid (((J5.out.cur s3 x3).pub 4 (.slice va ps.length vc)).pub 6 (.string s3))
    clear b J4 hown
    try clear k0 k1 kf0 kf1
    clear c0 c1 f0 f1 p0 p1 p2 p3 p4 p5 p6 pf z0 z1 z2 z3 z4 z5 z6 zf
    dsimp only
    obtain ⟨c0, c1, f0, f1⟩ := pair_cells J5.out.c
    obtain ⟨p0, p1, p2, p3, p4, p5, p6, pf⟩ := cells7 J5.out.p
    obtain ⟨k0, k1, kf0, kf1⟩ := pair_cells J6.out.c
    obtain ⟨m0, m1, mf0, mf1⟩ := pair_cells J9.out.c
    have hlc := lt_of_block J5.out.c
    have hlp := lt_of_block J5.out.p
    have hlz := lt_of_block J5.out.z
    go_wp2_with fail
    have HO5 := Lib.hid (OwnP.set (j := 0) (y := .string ⟨#[]⟩) (OwnP.set (j := 6) (y := .string s3) (OwnP.set (j := 4) (y := .slice va ps.length vc) (OwnP.set (j := 1) (y := .int .i64 x3) (OwnP.set (j := 0) (y := .string s3) HO.out hB2) hB2) hB1) hB1) hB2)
    clear HO k0 k1 kf0 kf1 c0 c1 f0 f1 p0 p1 p2 p3 p4 p5 p6 pf m0 m1 mf0 mf1 hlc hlp hlz J5 J6 J7 J8
    refine (HEND.out _).mono ?_
    rintro e W4 ⟨rfl, b⟩
    have J10 := Lib.hid (J9.out.below b)
    have HO6 := Lib.hid (HO5.out.below b)
    clear b J9 HO5
    obtain ⟨c0, c1, f0, f1⟩ := pair_cells J10.out.c
    obtain ⟨p0, p1, p2, p3, p4, p5, p6, pf⟩ := cells7 J10.out.p
    obtain ⟨z0, z1, z2, z3, z4, z5, z6, zf⟩ := cells7 J10.out.z
    have hlz := lt_of_block J10.out.z
    by_cases hE : E = 0
    · have hC := HC.out
      rw [if_pos hE] at hC
      subst hE
      subst hC
      clear HC
      have hz := Go.Proofs.YtacffjimkplieaaDoor.set7 (.bool D) (.bool R) (.int .u8 0) (.int .u32 0) (.slice va ps.length vc) (.string tp) (.string s3) J10.out.z
      obtain ⟨y0, y1, y2, y3, y4, y5, y6, _⟩ := cells7 hz
      have HB := Lib.hid (below_set7 (u0 := .bool D) (u1 := .bool R) (u2 := .int .u8 0) (u3 := .int .u32 0) (u4 := .slice va ps.length vc) (u5 := .string tp) (u6 := .string s3) J10.out.bel (Nat.le_refl _))
      have HO7x := Lib.hid (own_set7 (u0 := .bool D) (u1 := .bool R) (u2 := .int .u8 0) (u3 := .int .u32 0) (u4 := .slice va ps.length vc) (u5 := .string tp) (u6 := .string s3) HO6.out hB3)
      clear hz
      go_wp2
      refine bodyPost_ret (v := .tuple #[pbV ⟨D, R, 0, 0, ps, tp, s3⟩ (.slice va ps.length vc), .int .i64 0]) ?_ rfl ⟨_, rfl, HO7x.out.mono (Nat.le_of_lt hB3), HB.out⟩
      simp [results, Tryd.results31, go_sem, y0, y1, y2, y3, y4, y5, y6, pbV, pbC]
    · have hC := HC.out
      rw [if_neg hE] at hC
      subst hC
      have hEb : (E != 0) = true := by simpa using hE
      clear HC hE
      go_wp2_with fail
      refine (HEND.out _).mono ?_
      rintro e W5 ⟨rfl, b⟩
      have J11 := Lib.hid (J10.out.below b)
      clear b J10 HO6 c0 c1 f0 f1 p0 p1 p2 p3 p4 p5 p6 pf z0 z1 z2 z3 z4 z5 z6 zf hlz
      obtain ⟨z0, z1, z2, z3, z4, z5, z6, zf⟩ := cells7 J11.out.z
      have hlz := lt_of_block J11.out.z
      have hz := Go.Proofs.YtacffjimkplieaaDoor.set7 (.bool false) (.bool false) (.int .u8 0) (.int .u32 0) (.slice none 0 0) (.string ⟨#[]⟩) (.string ⟨#[]⟩) J11.out.z
      obtain ⟨y0, y1, y2, y3, y4, y5, y6, _⟩ := cells7 hz
      have HB := Lib.hid (below_set7 (u0 := .bool false) (u1 := .bool false) (u2 := .int .u8 0) (u3 := .int .u32 0) (u4 := .slice none 0 0) (u5 := .string ⟨#[]⟩) (u6 := .string ⟨#[]⟩) J11.out.bel (Nat.le_refl _))
      clear hz
      go_wp2
      refine bodyPost_ret (v := .tuple #[pbV pbZ (.slice none 0 0), .int .i64 E]) ?_ rfl ⟨_, rfl, World.ownsRow_nil _ _ _ _, HB.out⟩
      simp [results, Tryd.results31, go_sem, y0, y1, y2, y3, y4, y5, y6, pbV, pbC, pbZ]
  · have hq1 : 0 < Q := by omega
    have J2 := Lib.hid (J1.out.pub 5 (.string tp))
    have HID1 := Lib.hid (fun W => HID.out W hq)
    clear HI HID J1 hq
    go_wp2_with fail
    with_reducible refine (HID1.out _).mono ?_
    rintro e W2 ⟨rfl, b⟩
    have bl := below_one W2 (.cells #[.string s2, .int .i64 x2] 140)
    have J3 := Lib.hid ((J2.out.below b).below bl)
    have hd := heap_alloc_new W2 (.cells #[.string s2, .int .i64 x2] 140)
    have hdc : cb < W2.heap.size := Nat.lt_of_lt_of_le (lt_of_block (J2.out.below b).c) (Nat.le_refl _)
    clear b bl J2 HID1 c0 c1 f0 f1 p0 p1 p2 p3 p4 p5 p6 pf z0 z1 z2 z3 z4 z5 z6 zf hlc hlp
    go_upto_region 6 with fail
    generalize W2.alloc (.cells #[.string s2, .int .i64 x2] 140) = V2 at *
    generalize W2.heap.size = db at *
    have J4 := Lib.hid ((J3.out.cur s2 x2).pub 3 (.int .u32 n))
    obtain ⟨g0, g1, gf0, gf1⟩ := pair_cells hd
    obtain ⟨c0, c1, f0, f1⟩ := pair_cells J3.out.c
    obtain ⟨p0, p1, p2, p3, p4, p5, p6, pf⟩ := cells7 J3.out.p
    obtain ⟨z0, z1, z2, z3, z4, z5, z6, zf⟩ := cells7 J3.out.z
    have hlc := lt_of_block J3.out.c
    have hlp := lt_of_block J3.out.p
    have hn4 : cb ≠ db := Nat.ne_of_lt hdc
    obtain ⟨k0, k1, kf0, kf1⟩ := pair_cells J4.out.c
    go_wp2_with fail
    with_reducible refine (HT.out _).mono ?_
    rintro e W3 ⟨v, rfl, hown, b⟩
    have HO := Lib.hid hown
    have hB1 := lt_of_block J4.out.p
    have hB2 := lt_of_block J4.out.c
    have hB3 := lt_of_block J4.out.z
    obtain ⟨va, vc, rfl⟩ := hown.form
    have J5 := Lib.hid (J4.out.below b)
    have J9 := Lib.hid ((((J5.out.cur s3 x3).pub 4 (.slice va ps.length vc)).pub 6 (.string s3)).txt ⟨#[]⟩)
    have J6 := Lib.hid (J5.out.cur s3 x3)
    have J7 := Lib.hid ((J5.out.cur s3 x3).pub 4 (.slice va ps.length vc))
    have J8 := Lib.hid (((J5.out.cur s3 x3).pub 4 (.slice va ps.length vc)).pub 6 (.string s3))
    clear b J4 hown
    try clear k0 k1 kf0 kf1
    clear c0 c1 f0 f1 p0 p1 p2 p3 p4 p5 p6 pf z0 z1 z2 z3 z4 z5 z6 zf
    dsimp only
    obtain ⟨c0, c1, f0, f1⟩ := pair_cells J5.out.c
    obtain ⟨p0, p1, p2, p3, p4, p5, p6, pf⟩ := cells7 J5.out.p
    obtain ⟨k0, k1, kf0, kf1⟩ := pair_cells J6.out.c
    obtain ⟨m0, m1, mf0, mf1⟩ := pair_cells J9.out.c
    have hlc := lt_of_block J5.out.c
    have hlp := lt_of_block J5.out.p
    have hlz := lt_of_block J5.out.z
    go_wp2_with fail
    have HO5 := Lib.hid (OwnP.set (j := 0) (y := .string ⟨#[]⟩) (OwnP.set (j := 6) (y := .string s3) (OwnP.set (j := 4) (y := .slice va ps.length vc) (OwnP.set (j := 1) (y := .int .i64 x3) (OwnP.set (j := 0) (y := .string s3) HO.out hB2) hB2) hB1) hB1) hB2)
    clear HO k0 k1 kf0 kf1 c0 c1 f0 f1 p0 p1 p2 p3 p4 p5 p6 pf m0 m1 mf0 mf1 hlc hlp hlz J5 J6 J7 J8
    refine (HEND.out _).mono ?_
    rintro e W4 ⟨rfl, b⟩
    have J10 := Lib.hid (J9.out.below b)
    have HO6 := Lib.hid (HO5.out.below b)
    clear b J9 HO5
    obtain ⟨c0, c1, f0, f1⟩ := pair_cells J10.out.c
    obtain ⟨p0, p1, p2, p3, p4, p5, p6, pf⟩ := cells7 J10.out.p
    obtain ⟨z0, z1, z2, z3, z4, z5, z6, zf⟩ := cells7 J10.out.z
    have hlz := lt_of_block J10.out.z
    by_cases hE : E = 0
    · have hC := HC.out
      rw [if_pos hE] at hC
      subst hE
      subst hC
      clear HC
      have hz := Go.Proofs.YtacffjimkplieaaDoor.set7 (.bool D) (.bool R) (.int .u8 Q) (.int .u32 n) (.slice va ps.length vc) (.string tp) (.string s3) J10.out.z
      obtain ⟨y0, y1, y2, y3, y4, y5, y6, _⟩ := cells7 hz
      have HB := Lib.hid (below_set7 (u0 := .bool D) (u1 := .bool R) (u2 := .int .u8 Q) (u3 := .int .u32 n) (u4 := .slice va ps.length vc) (u5 := .string tp) (u6 := .string s3) J10.out.bel (Nat.le_refl _))
      have HO7x := Lib.hid (own_set7 (u0 := .bool D) (u1 := .bool R) (u2 := .int .u8 Q) (u3 := .int .u32 n) (u4 := .slice va ps.length vc) (u5 := .string tp) (u6 := .string s3) HO6.out hB3)
      clear hz
      go_wp2
      refine bodyPost_ret (v := .tuple #[pbV ⟨D, R, Q, n, ps, tp, s3⟩ (.slice va ps.length vc), .int .i64 0]) ?_ rfl ⟨_, rfl, HO7x.out.mono (Nat.le_of_lt hB3), HB.out⟩
      simp [results, Tryd.results31, go_sem, y0, y1, y2, y3, y4, y5, y6, pbV, pbC]
    · have hC := HC.out
      rw [if_neg hE] at hC
      subst hC
      have hEb : (E != 0) = true := by simpa using hE
      clear HC hE
      go_wp2_with fail
      refine (HEND.out _).mono ?_
      rintro e W5 ⟨rfl, b⟩
      have J11 := Lib.hid (J10.out.below b)
      clear b J10 HO6 c0 c1 f0 f1 p0 p1 p2 p3 p4 p5 p6 pf z0 z1 z2 z3 z4 z5 z6 zf hlz
      obtain ⟨z0, z1, z2, z3, z4, z5, z6, zf⟩ := cells7 J11.out.z
      have hlz := lt_of_block J11.out.z
      have hz := Go.Proofs.YtacffjimkplieaaDoor.set7 (.bool false) (.bool false) (.int .u8 0) (.int .u32 0) (.slice none 0 0) (.string ⟨#[]⟩) (.string ⟨#[]⟩) J11.out.z
      obtain ⟨y0, y1, y2, y3, y4, y5, y6, _⟩ := cells7 hz
      have HB := Lib.hid (below_set7 (u0 := .bool false) (u1 := .bool false) (u2 := .int .u8 0) (u3 := .int .u32 0) (u4 := .slice none 0 0) (u5 := .string ⟨#[]⟩) (u6 := .string ⟨#[]⟩) J11.out.bel (Nat.le_refl _))
      clear hz
      go_wp2
      refine bodyPost_ret (v := .tuple #[pbV pbZ (.slice none 0 0), .int .i64 E]) ?_ rfl ⟨_, rfl, World.ownsRow_nil _ _ _ _, HB.out⟩
      simp [results, Tryd.results31, go_sem, y0, y1, y2, y3, y4, y5, y6, pbV, pbC, pbZ]

end Go.Proofs.YtacffjimkplieaaDoor
