/-
  Parse of publish. (No statement: contracts that the proofs of the statements use.)
-/
import Derived.Test.YtacffjimkplieaaDoorJPub1
namespace Go.Proofs.YtacffjimkplieaaDoor
open Go.RowKit

abbrev pb0 : Array Value := #[.bool false, .bool false, .int .u8 0, .int .u32 0, .slice none 0 0, .string ⟨#[]⟩, .string ⟨#[]⟩]
/-- The error is told, or the Publish. -/
def PubR (w : World) (c : Pb) (E : Int) (e : Ending) (w' : World) : Prop :=
  ∃ v, e = .returned (.tuple #[pbV c v, .int .i64 E]) ∧ OwnP w.heap.size 85 w' v c.ps ∧ Below w.heap.size w w'
/-- What the flags say. -/
def fDup (f : Int) : Bool := bits .and .i64 f 8 != 0
def fRet (f : Int) : Bool := bits .and .i64 f 1 != 0
def fQua (f : Int) : Int := bits .and .i64 (f / 2) 3

set_option maxRecDepth 100000 in
set_option maxHeartbeats 4000000 in
theorem pub_id (w : World) (f : Int) (body : ByteArray) (hT : Tabs w) (D R : Bool) (Q : Int) (hD : fDup f = D) (hR : fRet f = R) (hQ : fQua f = Q) (hq : (Q != 0) = true) (hQ0 : 0 ≤ Q) (hQ3 : Q ≤ 3) (tp s1 : ByteArray) (x1 : Int) (ht : strT body 0 = (tp, s1, x1)) (n : Int) (s2 : ByteArray) (x2 : Int) (hi : idT s1 x1 = (n, s2, x2)) (ps : List Pr) (s3 : ByteArray) (x3 : Int) (hP : takeR (placeN 3 false) s2 x2 = (ps, s3, x3)) (pl s4 : ByteArray) (x4 : Int) (hL : rawT s3 x3 s3.size = (pl, s4, x4)) (E : Int) (hE : endT s4 x4 = E) (C : Pb) (hC : (if E = 0 then ⟨D, R, Q, n, ps, tp, pl⟩ else pbZ) = C) :
    Calls Tryd.prog 30 #[.int .i64 f, .string body] w (PubR w C E) := by
  unfold fDup at hD
  unfold fRet at hR
  unfold fQua at hQ
  have hwr : Q % 256 = Q := by omega
  have hwr2 : IntKind.u8.wrap Q = Q := by rw [IntKind.wrap_u8']; omega
  have Hht := Lib.hid ht
  have Hhi := Lib.hid hi
  have HhP := Lib.hid hP
  have HhL := Lib.hid hL
  have HhE := Lib.hid hE
  have HhC := Lib.hid hC
  have HhT := Lib.hid hT
  clear ht hi hP hL hE hC hT
  go_enter Tryd.func30, Tryd.ntmps30
  go_wp2_with fail
  refine (over_calls _ _).mono ?_
  rintro e W1 ⟨rfl, rfl⟩
  have i1 := InAt.new (w.alloc (.cells pb0 63)) body
  have R1 := Lib.hid ((Below.heap_alloc (w.alloc (.cells pb0 63)) (.cells #[.string body, .int .i64 0] 183) w.heap.size (by simp)).trans (heap_alloc_new w (.cells pb0 63)))
  have B1 := Lib.hid (below_two w (.cells pb0 63) (.cells #[.string body, .int .i64 0] 183))
  rw [World.size_alloc] at i1 ⊢
  generalize ((w.alloc (.cells pb0 63)).alloc (.cells #[.string body, .int .i64 0] 183)) = W1 at *
  generalize hp : w.heap.size + 1 = p at *
  have hpl : w.heap.size < p := by omega
  clear hp
  have N0 := Lib.hid (Ps.start w 63 pb0 p #[.bool D, .bool R, .int .u8 Q, .int .u32 0, .slice none 0 0, .string ⟨#[]⟩, .string ⟨#[]⟩] body 0 W1 i1 R1.out B1.out hpl)
  clear i1 R1 B1
  go_wp2_with fail
  generalize W1.alloc (.cells #[.bool D, .bool R, .int .u8 Q, .int .u32 0, .slice none 0 0, .string ⟨#[]⟩, .string ⟨#[]⟩] 63) = W2 at *
  generalize W1.heap.size = cb at *
  refine (takeS_calls _ p body 0 tp s1 x1 (by have := strT_tak body 0; rw [Hht.out] at this; exact this) N0.out.inn (HhT.out.below N0.out.bel)).mono ?_
  rintro e V1 ⟨rfl, i1, o1⟩
  have K1 := Lib.hid (N0.out.took i1 o1)
  obtain ⟨d0, d1, d2, d3, d4, d5, d6, df⟩ := cells7 K1.out.loc
  clear i1 o1 N0
  have N1 := Lib.hid (K1.out.put (A' := #[.bool D, .bool R, .int .u8 Q, .int .u32 0, .slice none 0 0, .string tp, .string ⟨#[]⟩]) 5 (.string tp) rfl)
  go_wp2_with fail
  generalize V1.setCell ⟨cb, 5, none⟩ (.string tp) = U1 at *
  clear d0 d1 d2 d3 d4 d5 d6 df K1
  obtain ⟨d0, d1, d2, d3, d4, d5, d6, df⟩ := cells7 N1.out.loc
  go_wp2_with fail
  clear d0 d1 d2 d3 d4 d5 d6 df
  refine (takeID_calls _ p s1 x1 n s2 x2 Hhi.out N1.out.inn).mono ?_
  rintro e V2 ⟨rfl, i2, o2⟩
  have K2 := Lib.hid (N1.out.took i2 (Chg.of_only o2))
  obtain ⟨d0, d1, d2, d3, d4, d5, d6, df⟩ := cells7 K2.out.loc
  clear i2 o2 N1
  have N2 := Lib.hid (K2.out.put (A' := #[.bool D, .bool R, .int .u8 Q, .int .u32 n, .slice none 0 0, .string tp, .string ⟨#[]⟩]) 3 (.int .u32 n) rfl)
  go_wp2_with fail
  generalize V2.setCell ⟨cb, 3, none⟩ (.int .u32 n) = U2 at *
  clear d0 d1 d2 d3 d4 d5 d6 df K2
  refine ((by have := take3_calls _ p s2 x2 3 false N2.out.inn (HhT.out.below N2.out.bel); rw [HhP.out] at this; exact this : Calls _ _ _ _ (TookL _ p (ps, s3, x3)))).mono ?_
  rintro e V3 ⟨vv, rfl, oo, -, i3, o3⟩
  have K3 := Lib.hid (N2.out.took i3 o3)
  dsimp only at oo
  have OO := Lib.hid (oo.mono (show cb + 1 ≤ _ from lt_of_block N2.out.loc))
  obtain ⟨va, vc, rfl⟩ := oo.form
  clear oo i3 o3 N2
  obtain ⟨d0, d1, d2, d3, d4, d5, d6, df⟩ := cells7 K3.out.loc
  have N3 := Lib.hid (K3.out.putv (A' := #[.bool D, .bool R, .int .u8 Q, .int .u32 n, .slice va ps.length vc, .string tp, .string ⟨#[]⟩]) 4 (.slice va ps.length vc) OO.out rfl)
  go_wp2_with fail
  generalize V3.setCell ⟨cb, 4, none⟩ (.slice va ps.length vc) = U3 at *
  clear d0 d1 d2 d3 d4 d5 d6 df K3 OO
  refine (rest_calls _ p s3 x3 N3.out.inn).mono ?_
  rw [HhL.out]
  rintro e V4 ⟨rfl, i4, o4⟩
  have K4 := Lib.hid (N3.out.took i4 (Chg.of_only o4))
  obtain ⟨d0, d1, d2, d3, d4, d5, d6, df⟩ := cells7 K4.out.loc
  clear i4 o4 N3
  have N4 := Lib.hid (K4.out.put (A' := #[.bool D, .bool R, .int .u8 Q, .int .u32 n, .slice va ps.length vc, .string tp, .string pl]) 6 (.string pl) rfl)
  go_wp2_with fail
  generalize V4.setCell ⟨cb, 6, none⟩ (.string pl) = U4 at *
  clear d0 d1 d2 d3 d4 d5 d6 df K4
  refine (end_calls _ p s4 x4 N4.out.inn).mono ?_
  rw [HhE.out]
  rintro e w9 ⟨rfl, rfl⟩
  obtain ⟨r0, r1, r2, r3, r4, r5, r6, rf⟩ := cells7 N4.out.res
  have rl := lt_of_block N4.out.res
  have hcb : w.heap.size < cb := Nat.lt_trans N4.out.hp N4.out.hc
  by_cases hE : E = 0
  · subst hE
    have hCC := HhC.out
    rw [if_pos rfl] at hCC
    subst hCC
    obtain ⟨d0, d1, d2, d3, d4, d5, d6, df⟩ := cells7 N4.out.loc
    have dl := lt_of_block N4.out.loc
    go_wp2
    refine bodyPost_ret (v := .tuple #[.agg #[.bool D, .bool R, .int .u8 Q, .int .u32 n, .slice va ps.length vc, .string tp, .string pl], .int .i64 0]) ?_ rfl ⟨.slice va ps.length vc, rfl, ?_, ?_⟩
    · simp [results, Tryd.results30, go_sem, r0, r1, r2, r3, r4, r5, r6]
    · refine OwnP.mono ?_ (show w.heap.size ≤ cb + 1 by omega)
      iterate 7 (refine OwnP.set ?_ (Nat.lt_succ_of_lt hcb))
      exact N4.out.own
    · iterate 7 (refine below_set ?_ (Nat.le_refl _) _ _)
      exact N4.out.bel
  · have hEb : (E != 0) = true := by simpa using hE
    have hCC := HhC.out
    rw [if_neg hE] at hCC
    subst hCC
    go_wp2
    refine bodyPost_ret (v := .tuple #[.agg #[.bool false, .bool false, .int .u8 0, .int .u32 0, .slice none 0 0, .string ⟨#[]⟩, .string ⟨#[]⟩], .int .i64 E]) ?_ rfl ⟨.slice none 0 0, rfl, World.ownsRow_nil _ _ _ _, ?_⟩
    · simp [results, Tryd.results30, go_sem, r0, r1, r2, r3, r4, r5, r6]
    · iterate 7 (refine below_set ?_ (Nat.le_refl _) _ _)
      exact N4.out.bel

set_option maxRecDepth 100000 in
set_option maxHeartbeats 4000000 in
theorem pub_no (w : World) (f : Int) (body : ByteArray) (hT : Tabs w) (D R : Bool) (Q : Int) (hD : fDup f = D) (hR : fRet f = R) (hQ : fQua f = Q) (hq : (Q != 0) = false) (hQ0 : 0 ≤ Q) (hQ3 : Q ≤ 3) (tp s1 : ByteArray) (x1 : Int) (ht : strT body 0 = (tp, s1, x1)) (ps : List Pr) (s3 : ByteArray) (x3 : Int) (hP : takeR (placeN 3 false) s1 x1 = (ps, s3, x3)) (pl s4 : ByteArray) (x4 : Int) (hL : rawT s3 x3 s3.size = (pl, s4, x4)) (E : Int) (hE : endT s4 x4 = E) (C : Pb) (hC : (if E = 0 then ⟨D, R, Q, 0, ps, tp, pl⟩ else pbZ) = C) :
    Calls Tryd.prog 30 #[.int .i64 f, .string body] w (PubR w C E) := by
  unfold fDup at hD
  unfold fRet at hR
  unfold fQua at hQ
  have hwr : Q % 256 = Q := by omega
  have hwr2 : IntKind.u8.wrap Q = Q := by rw [IntKind.wrap_u8']; omega
  have Hht := Lib.hid ht
  have HhP := Lib.hid hP
  have HhL := Lib.hid hL
  have HhE := Lib.hid hE
  have HhC := Lib.hid hC
  have HhT := Lib.hid hT
  clear ht hP hL hE hC hT
  go_enter Tryd.func30, Tryd.ntmps30
  go_wp2_with fail
  refine (over_calls _ _).mono ?_
  rintro e W1 ⟨rfl, rfl⟩
  have i1 := InAt.new (w.alloc (.cells pb0 63)) body
  have R1 := Lib.hid ((Below.heap_alloc (w.alloc (.cells pb0 63)) (.cells #[.string body, .int .i64 0] 183) w.heap.size (by simp)).trans (heap_alloc_new w (.cells pb0 63)))
  have B1 := Lib.hid (below_two w (.cells pb0 63) (.cells #[.string body, .int .i64 0] 183))
  rw [World.size_alloc] at i1 ⊢
  generalize ((w.alloc (.cells pb0 63)).alloc (.cells #[.string body, .int .i64 0] 183)) = W1 at *
  generalize hp : w.heap.size + 1 = p at *
  have hpl : w.heap.size < p := by omega
  clear hp
  have N0 := Lib.hid (Ps.start w 63 pb0 p #[.bool D, .bool R, .int .u8 Q, .int .u32 0, .slice none 0 0, .string ⟨#[]⟩, .string ⟨#[]⟩] body 0 W1 i1 R1.out B1.out hpl)
  clear i1 R1 B1
  go_wp2_with fail
  generalize W1.alloc (.cells #[.bool D, .bool R, .int .u8 Q, .int .u32 0, .slice none 0 0, .string ⟨#[]⟩, .string ⟨#[]⟩] 63) = W2 at *
  generalize W1.heap.size = cb at *
  refine (takeS_calls _ p body 0 tp s1 x1 (by have := strT_tak body 0; rw [Hht.out] at this; exact this) N0.out.inn (HhT.out.below N0.out.bel)).mono ?_
  rintro e V1 ⟨rfl, i1, o1⟩
  have K1 := Lib.hid (N0.out.took i1 o1)
  obtain ⟨d0, d1, d2, d3, d4, d5, d6, df⟩ := cells7 K1.out.loc
  clear i1 o1 N0
  have N1 := Lib.hid (K1.out.put (A' := #[.bool D, .bool R, .int .u8 Q, .int .u32 0, .slice none 0 0, .string tp, .string ⟨#[]⟩]) 5 (.string tp) rfl)
  go_wp2_with fail
  generalize V1.setCell ⟨cb, 5, none⟩ (.string tp) = U1 at *
  clear d0 d1 d2 d3 d4 d5 d6 df K1
  have N2 := N1
  obtain ⟨d0, d1, d2, d3, d4, d5, d6, df⟩ := cells7 N1.out.loc
  clear N1
  go_wp2_with fail
  clear d0 d1 d2 d3 d4 d5 d6 df
  refine ((by have := take3_calls _ p s1 x1 3 false N2.out.inn (HhT.out.below N2.out.bel); rw [HhP.out] at this; exact this : Calls _ _ _ _ (TookL _ p (ps, s3, x3)))).mono ?_
  rintro e V3 ⟨vv, rfl, oo, -, i3, o3⟩
  have K3 := Lib.hid (N2.out.took i3 o3)
  dsimp only at oo
  have OO := Lib.hid (oo.mono (show cb + 1 ≤ _ from lt_of_block N2.out.loc))
  obtain ⟨va, vc, rfl⟩ := oo.form
  clear oo i3 o3 N2
  obtain ⟨d0, d1, d2, d3, d4, d5, d6, df⟩ := cells7 K3.out.loc
  have N3 := Lib.hid (K3.out.putv (A' := #[.bool D, .bool R, .int .u8 Q, .int .u32 0, .slice va ps.length vc, .string tp, .string ⟨#[]⟩]) 4 (.slice va ps.length vc) OO.out rfl)
  go_wp2_with fail
  generalize V3.setCell ⟨cb, 4, none⟩ (.slice va ps.length vc) = U3 at *
  clear d0 d1 d2 d3 d4 d5 d6 df K3 OO
  refine (rest_calls _ p s3 x3 N3.out.inn).mono ?_
  rw [HhL.out]
  rintro e V4 ⟨rfl, i4, o4⟩
  have K4 := Lib.hid (N3.out.took i4 (Chg.of_only o4))
  obtain ⟨d0, d1, d2, d3, d4, d5, d6, df⟩ := cells7 K4.out.loc
  clear i4 o4 N3
  have N4 := Lib.hid (K4.out.put (A' := #[.bool D, .bool R, .int .u8 Q, .int .u32 0, .slice va ps.length vc, .string tp, .string pl]) 6 (.string pl) rfl)
  go_wp2_with fail
  generalize V4.setCell ⟨cb, 6, none⟩ (.string pl) = U4 at *
  clear d0 d1 d2 d3 d4 d5 d6 df K4
  refine (end_calls _ p s4 x4 N4.out.inn).mono ?_
  rw [HhE.out]
  rintro e w9 ⟨rfl, rfl⟩
  obtain ⟨r0, r1, r2, r3, r4, r5, r6, rf⟩ := cells7 N4.out.res
  have rl := lt_of_block N4.out.res
  have hcb : w.heap.size < cb := Nat.lt_trans N4.out.hp N4.out.hc
  by_cases hE : E = 0
  · subst hE
    have hCC := HhC.out
    rw [if_pos rfl] at hCC
    subst hCC
    obtain ⟨d0, d1, d2, d3, d4, d5, d6, df⟩ := cells7 N4.out.loc
    have dl := lt_of_block N4.out.loc
    go_wp2
    refine bodyPost_ret (v := .tuple #[.agg #[.bool D, .bool R, .int .u8 Q, .int .u32 0, .slice va ps.length vc, .string tp, .string pl], .int .i64 0]) ?_ rfl ⟨.slice va ps.length vc, rfl, ?_, ?_⟩
    · simp [results, Tryd.results30, go_sem, r0, r1, r2, r3, r4, r5, r6]
    · refine OwnP.mono ?_ (show w.heap.size ≤ cb + 1 by omega)
      iterate 7 (refine OwnP.set ?_ (Nat.lt_succ_of_lt hcb))
      exact N4.out.own
    · iterate 7 (refine below_set ?_ (Nat.le_refl _) _ _)
      exact N4.out.bel
  · have hEb : (E != 0) = true := by simpa using hE
    have hCC := HhC.out
    rw [if_neg hE] at hCC
    subst hCC
    go_wp2
    refine bodyPost_ret (v := .tuple #[.agg #[.bool false, .bool false, .int .u8 0, .int .u32 0, .slice none 0 0, .string ⟨#[]⟩, .string ⟨#[]⟩], .int .i64 E]) ?_ rfl ⟨.slice none 0 0, rfl, World.ownsRow_nil _ _ _ _, ?_⟩
    · simp [results, Tryd.results30, go_sem, r0, r1, r2, r3, r4, r5, r6]
    · iterate 7 (refine below_set ?_ (Nat.le_refl _) _ _)
      exact N4.out.bel

/-- The parts of a body, as they are taken. -/
def idP (q : Int) (s : ByteArray) (x : Int) : Int × ByteArray × Int := if q = 0 then (0, s, x) else idT s x
structure PubOf (body : ByteArray) (Q : Int) (tp : ByteArray) (n : Int) (ps : List Pr) (pl : ByteArray) (E : Int) (s1 : ByteArray) (x1 : Int) (s2 : ByteArray) (x2 : Int) (s3 : ByteArray) (x3 : Int) (s4 : ByteArray) (x4 : Int) : Prop where
  t : strT body 0 = (tp, s1, x1)
  i : idP Q s1 x1 = (n, s2, x2)
  p : takeR (placeN 3 false) s2 x2 = (ps, s3, x3)
  l : rawT s3 x3 s3.size = (pl, s4, x4)
  e : endT s4 x4 = E

theorem pub_calls (w : World) (f : Int) (body : ByteArray) (hT : Tabs w) (hq0 : 0 ≤ fQua f) (hq3 : fQua f ≤ 3) {tp : ByteArray} {n : Int} {ps : List Pr} {pl : ByteArray} {E : Int} {s1 : ByteArray} {x1 : Int} {s2 : ByteArray} {x2 : Int} {s3 : ByteArray} {x3 : Int} {s4 : ByteArray} {x4 : Int} (h : PubOf body (fQua f) tp n ps pl E s1 x1 s2 x2 s3 x3 s4 x4) (C : Pb) (hC : (if E = 0 then ⟨fDup f, fRet f, fQua f, n, ps, tp, pl⟩ else pbZ) = C) :
    Calls Tryd.prog 30 #[.int .i64 f, .string body] w (PubR w C E) := by
  obtain ⟨ht, hi, hp, hl, he⟩ := h
  by_cases hz : fQua f = 0
  · unfold idP at hi
    rw [if_pos hz] at hi
    injection hi with a1 hi
    injection hi with a2 a3
    subst a1 a2 a3
    exact pub_no w f body hT _ _ _ rfl rfl rfl (by simpa using hz) hq0 hq3 tp s1 x1 ht ps s3 x3 hp pl s4 x4 hl E he C hC
  · unfold idP at hi
    rw [if_neg hz] at hi
    exact pub_id w f body hT _ _ _ rfl rfl rfl (by simpa using hz) hq0 hq3 tp s1 x1 ht n s2 x2 hi ps s3 x3 hp pl s4 x4 hl E he C hC

theorem pub_of (body : ByteArray) (Q : Int) : ∃ tp n ps pl E s1 x1 s2 x2 s3 x3 s4 x4, PubOf body Q tp n ps pl E s1 x1 s2 x2 s3 x3 s4 x4 := by
  rcases h1 : strT body 0 with ⟨tp, s1, x1⟩
  rcases h2 : idP Q s1 x1 with ⟨n, s2, x2⟩
  rcases h3 : takeR (placeN 3 false) s2 x2 with ⟨ps, s3, x3⟩
  rcases h4 : rawT s3 x3 s3.size with ⟨pl, s4, x4⟩
  exact ⟨tp, n, ps, pl, _, s1, x1, s2, x2, s3, x3, s4, x4, ⟨h1, h2, h3, h4, rfl⟩⟩

#print axioms pub_calls
end Go.Proofs.YtacffjimkplieaaDoor
