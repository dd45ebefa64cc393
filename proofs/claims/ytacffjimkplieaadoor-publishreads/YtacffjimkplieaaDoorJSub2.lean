/-
  takeSub, mayAll, putHead of subscribe. (No statement: contracts that the proofs of the statements use.)
-/
import Derived.Test.YtacffjimkplieaaDoorJSub1
namespace Go.Proofs.YtacffjimkplieaaDoor
open Go.RowKit

/-- What a byte of options says. -/
def sbOf (f : ByteArray) (b : Int) : Sb := ⟨f, bits .and .u8 b 3, bits .and .u8 b 4 != 0, bits .and .u8 b 8 != 0, bits .and .u8 (b / 16) 3⟩
def subX1 (b x : Int) : Int := if decide (63 < b) = true then failed x 2 else x
def subX2 (q h x : Int) : Int := if decide (2 < q) = true then failed x 3 else if decide (2 < h) = true then failed x 3 else x
structure SubOf (s : ByteArray) (x : Int) (f : ByteArray) (b : Int) (s' : ByteArray) (x' : Int) (s1 : ByteArray) (x1 : Int) (t : ByteArray) (x2 : Int) : Prop where
  hf : strT s x = (f, s1, x1)
  ht : rawT s1 x1 1 = (t, s', x2)
  hb : (numL t.data.toList : Int) = b
  he : subX2 (bits .and .u8 b 3) (bits .and .u8 (b / 16) 3) (subX1 b x2) = x'
theorem sub_of (s : ByteArray) (x : Int) : ∃ f b s' x' s1 x1 t x2, SubOf s x f b s' x' s1 x1 t x2 := by
  rcases h1 : strT s x with ⟨f, s1, x1⟩
  rcases h2 : rawT s1 x1 1 with ⟨t, s', x2⟩
  exact ⟨f, _, s', _, s1, x1, t, x2, ⟨h1, h2, rfl, rfl⟩⟩
/-- What takeSub answers, and leaves. -/
def TookB (w : World) (p : Nat) (c : Sb) (s' : ByteArray) (x' : Int) (e : Ending) (w' : World) : Prop :=
  e = .returned (.agg #[.string c.f, .int .u8 c.q, .bool c.nl, .bool c.ap, .int .u8 c.h]) ∧ InAt w' p s' x' ∧ Chg p w w'
abbrev sb0 : Array Value := #[.string ⟨#[]⟩, .int .u8 0, .bool false, .bool false, .int .u8 0]

set_option maxRecDepth 100000 in
set_option maxHeartbeats 1000000 in
theorem takeSub_0n (w : World) (p : Nat) (s : ByteArray) (x : Int) (h : InAt w p s x) (hT : Tabs w) (f s1 : ByteArray) (x1 : Int) (hf : strT s x = (f, s1, x1)) (t s' : ByteArray) (x2 : Int) (ht : rawT s1 x1 1 = (t, s', x2)) (b : Int) (hb : (numL t.data.toList : Int) = b) (q hd : Int) (nl ap : Bool) (hq : bits .and .u8 b 3 = q) (hn : (bits .and .u8 b 4 != 0) = nl) (ha : (bits .and .u8 b 8 != 0) = ap) (hh : bits .and .u8 (b / 16) 3 = hd) (hb1 : decide (63 < b) = false) (hq1 : decide (2 < q) = false) (hh1 : decide (2 < hd) = false) (X : Int) (hX : x2 = X) :
    Calls Tryd.prog 106 #[.pointer (some ⟨p, 0, none⟩)] w (TookB w p ⟨f, q, nl, ap, hd⟩ s' X) := by
  have hlt := h.lt
  have HF := Lib.hid (show TakS s x f s1 x1 from by have := strT_tak s x; rw [hf] at this; exact this)
  have HRT := Lib.hid ht
  have HB := Lib.hid hb
  have HT := Lib.hid hT
  clear hf ht hb hT
  have i0 := h.below (below_one w (.cells sb0 175))
  have R0 := Lib.hid (heap_alloc_new w (.cells sb0 175))
  have C0 := Lib.hid (Chg.of_below (p := p) (below_one w (.cells sb0 175)))
  have T0 := Lib.hid (HT.out.below (below_one w (.cells sb0 175)))
  clear h HT
  go_enter Tryd.func106, Tryd.ntmps106
  go_wp2_with fail
  generalize w.alloc (.cells sb0 175) = W0 at *
  refine (takeS_calls _ p s x f s1 x1 HF.out i0 T0.out).mono ?_
  rintro e V1 ⟨rfl, i1, c1⟩
  have R1 := Lib.hid ((c1.block _ (lt_of_block R0.out) (fun e => by injection e; omega)).trans R0.out)
  have C1 := Lib.hid (C0.out.trans c1)
  clear i0 c1 R0 C0 T0
  go_wp2_with fail
  refine (byteIn_calls _ p s1 x1 t s' x2 HRT.out i1).mono ?_
  rw [HB.out]
  rintro e V2 ⟨rfl, i2, o2⟩
  have R2 := Lib.hid ((o2.block _ (by omega)).trans R1.out)
  have C2 := Lib.hid (C1.out.trans (Chg.of_only o2))
  clear i1 o2 R1 C1
  have iL := i2.below (below_one V2 (.cells #[.string f, .int .u8 q, .bool nl, .bool ap, .int .u8 hd] 175))
  have RL := Lib.hid ((Below.heap_alloc V2 (.cells #[.string f, .int .u8 q, .bool nl, .bool ap, .int .u8 hd] 175) _ (lt_of_block R2.out)).trans R2.out)
  have LL := Lib.hid (heap_alloc_new V2 (.cells #[.string f, .int .u8 q, .bool nl, .bool ap, .int .u8 hd] 175))
  have CL := Lib.hid (C2.out.trans (Chg.of_below (below_one V2 (.cells #[.string f, .int .u8 q, .bool nl, .bool ap, .int .u8 hd] 175))))
  have hsb : w.heap.size < V2.heap.size := lt_of_block R2.out
  obtain ⟨r0, r1, r2, r3, r4, rf⟩ := cells5 R2.out
  have IE := Lib.hid (show InAt V2 p s' X from by rw [← hX]; exact i2)
  have CE := C2
  clear i2 R2 C2
  clear iL RL LL CL
  go_wp2
  refine bodyPost_ret (v := .agg #[.string f, .int .u8 q, .bool nl, .bool ap, .int .u8 hd]) ?_ rfl ⟨rfl, ?_, ?_⟩
  · simp [results, Tryd.results106, go_sem, r0, r1, r2, r3, r4, hsb]
  · refine InAt.below ?_ (below_one _ _)
    iterate 5 (refine InAt.far ?_ (Nat.ne_of_lt hlt) _ _)
    exact IE.out
  · refine (?_ : Chg p w _).trans (Chg.of_below (below_one _ _))
    iterate 5 (refine Chg.setNew ?_ (Nat.le_refl _))
    exact CE.out

set_option maxRecDepth 100000 in
set_option maxHeartbeats 1000000 in
theorem takeSub_0q (w : World) (p : Nat) (s : ByteArray) (x : Int) (h : InAt w p s x) (hT : Tabs w) (f s1 : ByteArray) (x1 : Int) (hf : strT s x = (f, s1, x1)) (t s' : ByteArray) (x2 : Int) (ht : rawT s1 x1 1 = (t, s', x2)) (b : Int) (hb : (numL t.data.toList : Int) = b) (q hd : Int) (nl ap : Bool) (hq : bits .and .u8 b 3 = q) (hn : (bits .and .u8 b 4 != 0) = nl) (ha : (bits .and .u8 b 8 != 0) = ap) (hh : bits .and .u8 (b / 16) 3 = hd) (hb1 : decide (63 < b) = false) (hq1 : decide (2 < q) = true) (X : Int) (hX : failed x2 3 = X) :
    Calls Tryd.prog 106 #[.pointer (some ⟨p, 0, none⟩)] w (TookB w p ⟨f, q, nl, ap, hd⟩ s' X) := by
  have hlt := h.lt
  have HF := Lib.hid (show TakS s x f s1 x1 from by have := strT_tak s x; rw [hf] at this; exact this)
  have HRT := Lib.hid ht
  have HB := Lib.hid hb
  have HT := Lib.hid hT
  clear hf ht hb hT
  have i0 := h.below (below_one w (.cells sb0 175))
  have R0 := Lib.hid (heap_alloc_new w (.cells sb0 175))
  have C0 := Lib.hid (Chg.of_below (p := p) (below_one w (.cells sb0 175)))
  have T0 := Lib.hid (HT.out.below (below_one w (.cells sb0 175)))
  clear h HT
  go_enter Tryd.func106, Tryd.ntmps106
  go_wp2_with fail
  generalize w.alloc (.cells sb0 175) = W0 at *
  refine (takeS_calls _ p s x f s1 x1 HF.out i0 T0.out).mono ?_
  rintro e V1 ⟨rfl, i1, c1⟩
  have R1 := Lib.hid ((c1.block _ (lt_of_block R0.out) (fun e => by injection e; omega)).trans R0.out)
  have C1 := Lib.hid (C0.out.trans c1)
  clear i0 c1 R0 C0 T0
  go_wp2_with fail
  refine (byteIn_calls _ p s1 x1 t s' x2 HRT.out i1).mono ?_
  rw [HB.out]
  rintro e V2 ⟨rfl, i2, o2⟩
  have R2 := Lib.hid ((o2.block _ (by omega)).trans R1.out)
  have C2 := Lib.hid (C1.out.trans (Chg.of_only o2))
  clear i1 o2 R1 C1
  have iL := i2.below (below_one V2 (.cells #[.string f, .int .u8 q, .bool nl, .bool ap, .int .u8 hd] 175))
  have RL := Lib.hid ((Below.heap_alloc V2 (.cells #[.string f, .int .u8 q, .bool nl, .bool ap, .int .u8 hd] 175) _ (lt_of_block R2.out)).trans R2.out)
  have LL := Lib.hid (heap_alloc_new V2 (.cells #[.string f, .int .u8 q, .bool nl, .bool ap, .int .u8 hd] 175))
  have CL := Lib.hid (C2.out.trans (Chg.of_below (below_one V2 (.cells #[.string f, .int .u8 q, .bool nl, .bool ap, .int .u8 hd] 175))))
  have hsb : w.heap.size < V2.heap.size := lt_of_block R2.out
  clear i2 R2 C2
  go_wp2_with fail
  generalize V2.alloc (.cells #[.string f, .int .u8 q, .bool nl, .bool ap, .int .u8 hd] 175) = WL at *
  generalize V2.heap.size = cb at *
  refine (fail_calls _ p s' x2 3 iL).mono ?_
  rw [hX]
  rintro e V5 ⟨rfl, i5, o5⟩
  have hpc : p < cb := by omega
  have RE := Lib.hid ((o5.block _ (by omega)).trans RL.out)
  have LE := Lib.hid ((o5.block _ (by omega)).trans LL.out)
  have CE := Lib.hid (CL.out.trans (Chg.of_only o5))
  have IE := Lib.hid i5
  clear i5 o5 iL RL LL CL
  obtain ⟨d0, d1, d2, d3, d4, df⟩ := cells5 LE.out
  obtain ⟨r0, r1, r2, r3, r4, rf⟩ := cells5 RE.out
  have rl := lt_of_block RE.out
  go_wp2
  refine bodyPost_ret (v := .agg #[.string f, .int .u8 q, .bool nl, .bool ap, .int .u8 hd]) ?_ rfl ⟨rfl, ?_, ?_⟩
  · simp [results, Tryd.results106, go_sem, r0, r1, r2, r3, r4]
  · iterate 5 (refine InAt.far ?_ (Nat.ne_of_lt hlt) _ _)
    exact IE.out
  · iterate 5 (refine Chg.setNew ?_ (Nat.le_refl _))
    exact CE.out

set_option maxRecDepth 100000 in
set_option maxHeartbeats 1000000 in
theorem takeSub_0h (w : World) (p : Nat) (s : ByteArray) (x : Int) (h : InAt w p s x) (hT : Tabs w) (f s1 : ByteArray) (x1 : Int) (hf : strT s x = (f, s1, x1)) (t s' : ByteArray) (x2 : Int) (ht : rawT s1 x1 1 = (t, s', x2)) (b : Int) (hb : (numL t.data.toList : Int) = b) (q hd : Int) (nl ap : Bool) (hq : bits .and .u8 b 3 = q) (hn : (bits .and .u8 b 4 != 0) = nl) (ha : (bits .and .u8 b 8 != 0) = ap) (hh : bits .and .u8 (b / 16) 3 = hd) (hb1 : decide (63 < b) = false) (hq1 : decide (2 < q) = false) (hh1 : decide (2 < hd) = true) (X : Int) (hX : failed x2 3 = X) :
    Calls Tryd.prog 106 #[.pointer (some ⟨p, 0, none⟩)] w (TookB w p ⟨f, q, nl, ap, hd⟩ s' X) := by
  have hlt := h.lt
  have HF := Lib.hid (show TakS s x f s1 x1 from by have := strT_tak s x; rw [hf] at this; exact this)
  have HRT := Lib.hid ht
  have HB := Lib.hid hb
  have HT := Lib.hid hT
  clear hf ht hb hT
  have i0 := h.below (below_one w (.cells sb0 175))
  have R0 := Lib.hid (heap_alloc_new w (.cells sb0 175))
  have C0 := Lib.hid (Chg.of_below (p := p) (below_one w (.cells sb0 175)))
  have T0 := Lib.hid (HT.out.below (below_one w (.cells sb0 175)))
  clear h HT
  go_enter Tryd.func106, Tryd.ntmps106
  go_wp2_with fail
  generalize w.alloc (.cells sb0 175) = W0 at *
  refine (takeS_calls _ p s x f s1 x1 HF.out i0 T0.out).mono ?_
  rintro e V1 ⟨rfl, i1, c1⟩
  have R1 := Lib.hid ((c1.block _ (lt_of_block R0.out) (fun e => by injection e; omega)).trans R0.out)
  have C1 := Lib.hid (C0.out.trans c1)
  clear i0 c1 R0 C0 T0
  go_wp2_with fail
  refine (byteIn_calls _ p s1 x1 t s' x2 HRT.out i1).mono ?_
  rw [HB.out]
  rintro e V2 ⟨rfl, i2, o2⟩
  have R2 := Lib.hid ((o2.block _ (by omega)).trans R1.out)
  have C2 := Lib.hid (C1.out.trans (Chg.of_only o2))
  clear i1 o2 R1 C1
  have iL := i2.below (below_one V2 (.cells #[.string f, .int .u8 q, .bool nl, .bool ap, .int .u8 hd] 175))
  have RL := Lib.hid ((Below.heap_alloc V2 (.cells #[.string f, .int .u8 q, .bool nl, .bool ap, .int .u8 hd] 175) _ (lt_of_block R2.out)).trans R2.out)
  have LL := Lib.hid (heap_alloc_new V2 (.cells #[.string f, .int .u8 q, .bool nl, .bool ap, .int .u8 hd] 175))
  have CL := Lib.hid (C2.out.trans (Chg.of_below (below_one V2 (.cells #[.string f, .int .u8 q, .bool nl, .bool ap, .int .u8 hd] 175))))
  have hsb : w.heap.size < V2.heap.size := lt_of_block R2.out
  clear i2 R2 C2
  go_wp2_with fail
  generalize V2.alloc (.cells #[.string f, .int .u8 q, .bool nl, .bool ap, .int .u8 hd] 175) = WL at *
  generalize V2.heap.size = cb at *
  refine (fail_calls _ p s' x2 3 iL).mono ?_
  rw [hX]
  rintro e V5 ⟨rfl, i5, o5⟩
  have hpc : p < cb := by omega
  have RE := Lib.hid ((o5.block _ (by omega)).trans RL.out)
  have LE := Lib.hid ((o5.block _ (by omega)).trans LL.out)
  have CE := Lib.hid (CL.out.trans (Chg.of_only o5))
  have IE := Lib.hid i5
  clear i5 o5 iL RL LL CL
  obtain ⟨d0, d1, d2, d3, d4, df⟩ := cells5 LE.out
  obtain ⟨r0, r1, r2, r3, r4, rf⟩ := cells5 RE.out
  have rl := lt_of_block RE.out
  go_wp2
  refine bodyPost_ret (v := .agg #[.string f, .int .u8 q, .bool nl, .bool ap, .int .u8 hd]) ?_ rfl ⟨rfl, ?_, ?_⟩
  · simp [results, Tryd.results106, go_sem, r0, r1, r2, r3, r4]
  · iterate 5 (refine InAt.far ?_ (Nat.ne_of_lt hlt) _ _)
    exact IE.out
  · iterate 5 (refine Chg.setNew ?_ (Nat.le_refl _))
    exact CE.out

set_option maxRecDepth 100000 in
set_option maxHeartbeats 1000000 in
theorem takeSub_1n (w : World) (p : Nat) (s : ByteArray) (x : Int) (h : InAt w p s x) (hT : Tabs w) (f s1 : ByteArray) (x1 : Int) (hf : strT s x = (f, s1, x1)) (t s' : ByteArray) (x2 : Int) (ht : rawT s1 x1 1 = (t, s', x2)) (b : Int) (hb : (numL t.data.toList : Int) = b) (q hd : Int) (nl ap : Bool) (hq : bits .and .u8 b 3 = q) (hn : (bits .and .u8 b 4 != 0) = nl) (ha : (bits .and .u8 b 8 != 0) = ap) (hh : bits .and .u8 (b / 16) 3 = hd) (hb1 : decide (63 < b) = true) (hq1 : decide (2 < q) = false) (hh1 : decide (2 < hd) = false) (X : Int) (hX : (failed x2 2) = X) :
    Calls Tryd.prog 106 #[.pointer (some ⟨p, 0, none⟩)] w (TookB w p ⟨f, q, nl, ap, hd⟩ s' X) := by
  have hlt := h.lt
  have HF := Lib.hid (show TakS s x f s1 x1 from by have := strT_tak s x; rw [hf] at this; exact this)
  have HRT := Lib.hid ht
  have HB := Lib.hid hb
  have HT := Lib.hid hT
  clear hf ht hb hT
  have i0 := h.below (below_one w (.cells sb0 175))
  have R0 := Lib.hid (heap_alloc_new w (.cells sb0 175))
  have C0 := Lib.hid (Chg.of_below (p := p) (below_one w (.cells sb0 175)))
  have T0 := Lib.hid (HT.out.below (below_one w (.cells sb0 175)))
  clear h HT
  go_enter Tryd.func106, Tryd.ntmps106
  go_wp2_with fail
  generalize w.alloc (.cells sb0 175) = W0 at *
  refine (takeS_calls _ p s x f s1 x1 HF.out i0 T0.out).mono ?_
  rintro e V1 ⟨rfl, i1, c1⟩
  have R1 := Lib.hid ((c1.block _ (lt_of_block R0.out) (fun e => by injection e; omega)).trans R0.out)
  have C1 := Lib.hid (C0.out.trans c1)
  clear i0 c1 R0 C0 T0
  go_wp2_with fail
  refine (byteIn_calls _ p s1 x1 t s' x2 HRT.out i1).mono ?_
  rw [HB.out]
  rintro e V2 ⟨rfl, i2, o2⟩
  have R2 := Lib.hid ((o2.block _ (by omega)).trans R1.out)
  have C2 := Lib.hid (C1.out.trans (Chg.of_only o2))
  clear i1 o2 R1 C1
  go_wp2_with fail
  refine (fail_calls _ p s' x2 2 i2).mono ?_
  rintro e V3 ⟨rfl, i3, o3⟩
  have R3 := Lib.hid ((o3.block _ (by omega)).trans R2.out)
  have C3 := Lib.hid (C2.out.trans (Chg.of_only o3))
  clear i2 o3 R2 C2
  have iL := i3.below (below_one V3 (.cells #[.string f, .int .u8 q, .bool nl, .bool ap, .int .u8 hd] 175))
  have RL := Lib.hid ((Below.heap_alloc V3 (.cells #[.string f, .int .u8 q, .bool nl, .bool ap, .int .u8 hd] 175) _ (lt_of_block R3.out)).trans R3.out)
  have LL := Lib.hid (heap_alloc_new V3 (.cells #[.string f, .int .u8 q, .bool nl, .bool ap, .int .u8 hd] 175))
  have CL := Lib.hid (C3.out.trans (Chg.of_below (below_one V3 (.cells #[.string f, .int .u8 q, .bool nl, .bool ap, .int .u8 hd] 175))))
  have hsb : w.heap.size < V3.heap.size := lt_of_block R3.out
  obtain ⟨r0, r1, r2, r3, r4, rf⟩ := cells5 R3.out
  have IE := Lib.hid (show InAt V3 p s' X from by rw [← hX]; exact i3)
  have CE := C3
  clear i3 R3 C3
  clear iL RL LL CL
  go_wp2
  refine bodyPost_ret (v := .agg #[.string f, .int .u8 q, .bool nl, .bool ap, .int .u8 hd]) ?_ rfl ⟨rfl, ?_, ?_⟩
  · simp [results, Tryd.results106, go_sem, r0, r1, r2, r3, r4, hsb]
  · refine InAt.below ?_ (below_one _ _)
    iterate 5 (refine InAt.far ?_ (Nat.ne_of_lt hlt) _ _)
    exact IE.out
  · refine (?_ : Chg p w _).trans (Chg.of_below (below_one _ _))
    iterate 5 (refine Chg.setNew ?_ (Nat.le_refl _))
    exact CE.out

set_option maxRecDepth 100000 in
set_option maxHeartbeats 1000000 in
theorem takeSub_1q (w : World) (p : Nat) (s : ByteArray) (x : Int) (h : InAt w p s x) (hT : Tabs w) (f s1 : ByteArray) (x1 : Int) (hf : strT s x = (f, s1, x1)) (t s' : ByteArray) (x2 : Int) (ht : rawT s1 x1 1 = (t, s', x2)) (b : Int) (hb : (numL t.data.toList : Int) = b) (q hd : Int) (nl ap : Bool) (hq : bits .and .u8 b 3 = q) (hn : (bits .and .u8 b 4 != 0) = nl) (ha : (bits .and .u8 b 8 != 0) = ap) (hh : bits .and .u8 (b / 16) 3 = hd) (hb1 : decide (63 < b) = true) (hq1 : decide (2 < q) = true) (X : Int) (hX : failed (failed x2 2) 3 = X) :
    Calls Tryd.prog 106 #[.pointer (some ⟨p, 0, none⟩)] w (TookB w p ⟨f, q, nl, ap, hd⟩ s' X) := by
  have hlt := h.lt
  have HF := Lib.hid (show TakS s x f s1 x1 from by have := strT_tak s x; rw [hf] at this; exact this)
  have HRT := Lib.hid ht
  have HB := Lib.hid hb
  have HT := Lib.hid hT
  clear hf ht hb hT
  have i0 := h.below (below_one w (.cells sb0 175))
  have R0 := Lib.hid (heap_alloc_new w (.cells sb0 175))
  have C0 := Lib.hid (Chg.of_below (p := p) (below_one w (.cells sb0 175)))
  have T0 := Lib.hid (HT.out.below (below_one w (.cells sb0 175)))
  clear h HT
  go_enter Tryd.func106, Tryd.ntmps106
  go_wp2_with fail
  generalize w.alloc (.cells sb0 175) = W0 at *
  refine (takeS_calls _ p s x f s1 x1 HF.out i0 T0.out).mono ?_
  rintro e V1 ⟨rfl, i1, c1⟩
  have R1 := Lib.hid ((c1.block _ (lt_of_block R0.out) (fun e => by injection e; omega)).trans R0.out)
  have C1 := Lib.hid (C0.out.trans c1)
  clear i0 c1 R0 C0 T0
  go_wp2_with fail
  refine (byteIn_calls _ p s1 x1 t s' x2 HRT.out i1).mono ?_
  rw [HB.out]
  rintro e V2 ⟨rfl, i2, o2⟩
  have R2 := Lib.hid ((o2.block _ (by omega)).trans R1.out)
  have C2 := Lib.hid (C1.out.trans (Chg.of_only o2))
  clear i1 o2 R1 C1
  go_wp2_with fail
  refine (fail_calls _ p s' x2 2 i2).mono ?_
  rintro e V3 ⟨rfl, i3, o3⟩
  have R3 := Lib.hid ((o3.block _ (by omega)).trans R2.out)
  have C3 := Lib.hid (C2.out.trans (Chg.of_only o3))
  clear i2 o3 R2 C2
  have iL := i3.below (below_one V3 (.cells #[.string f, .int .u8 q, .bool nl, .bool ap, .int .u8 hd] 175))
  have RL := Lib.hid ((Below.heap_alloc V3 (.cells #[.string f, .int .u8 q, .bool nl, .bool ap, .int .u8 hd] 175) _ (lt_of_block R3.out)).trans R3.out)
  have LL := Lib.hid (heap_alloc_new V3 (.cells #[.string f, .int .u8 q, .bool nl, .bool ap, .int .u8 hd] 175))
  have CL := Lib.hid (C3.out.trans (Chg.of_below (below_one V3 (.cells #[.string f, .int .u8 q, .bool nl, .bool ap, .int .u8 hd] 175))))
  have hsb : w.heap.size < V3.heap.size := lt_of_block R3.out
  clear i3 R3 C3
  go_wp2_with fail
  generalize V3.alloc (.cells #[.string f, .int .u8 q, .bool nl, .bool ap, .int .u8 hd] 175) = WL at *
  generalize V3.heap.size = cb at *
  refine (fail_calls _ p s' (failed x2 2) 3 iL).mono ?_
  rw [hX]
  rintro e V5 ⟨rfl, i5, o5⟩
  have hpc : p < cb := by omega
  have RE := Lib.hid ((o5.block _ (by omega)).trans RL.out)
  have LE := Lib.hid ((o5.block _ (by omega)).trans LL.out)
  have CE := Lib.hid (CL.out.trans (Chg.of_only o5))
  have IE := Lib.hid i5
  clear i5 o5 iL RL LL CL
  obtain ⟨d0, d1, d2, d3, d4, df⟩ := cells5 LE.out
  obtain ⟨r0, r1, r2, r3, r4, rf⟩ := cells5 RE.out
  have rl := lt_of_block RE.out
  go_wp2
  refine bodyPost_ret (v := .agg #[.string f, .int .u8 q, .bool nl, .bool ap, .int .u8 hd]) ?_ rfl ⟨rfl, ?_, ?_⟩
  · simp [results, Tryd.results106, go_sem, r0, r1, r2, r3, r4]
  · iterate 5 (refine InAt.far ?_ (Nat.ne_of_lt hlt) _ _)
    exact IE.out
  · iterate 5 (refine Chg.setNew ?_ (Nat.le_refl _))
    exact CE.out

set_option maxRecDepth 100000 in
set_option maxHeartbeats 1000000 in
theorem takeSub_1h (w : World) (p : Nat) (s : ByteArray) (x : Int) (h : InAt w p s x) (hT : Tabs w) (f s1 : ByteArray) (x1 : Int) (hf : strT s x = (f, s1, x1)) (t s' : ByteArray) (x2 : Int) (ht : rawT s1 x1 1 = (t, s', x2)) (b : Int) (hb : (numL t.data.toList : Int) = b) (q hd : Int) (nl ap : Bool) (hq : bits .and .u8 b 3 = q) (hn : (bits .and .u8 b 4 != 0) = nl) (ha : (bits .and .u8 b 8 != 0) = ap) (hh : bits .and .u8 (b / 16) 3 = hd) (hb1 : decide (63 < b) = true) (hq1 : decide (2 < q) = false) (hh1 : decide (2 < hd) = true) (X : Int) (hX : failed (failed x2 2) 3 = X) :
    Calls Tryd.prog 106 #[.pointer (some ⟨p, 0, none⟩)] w (TookB w p ⟨f, q, nl, ap, hd⟩ s' X) := by
  have hlt := h.lt
  have HF := Lib.hid (show TakS s x f s1 x1 from by have := strT_tak s x; rw [hf] at this; exact this)
  have HRT := Lib.hid ht
  have HB := Lib.hid hb
  have HT := Lib.hid hT
  clear hf ht hb hT
  have i0 := h.below (below_one w (.cells sb0 175))
  have R0 := Lib.hid (heap_alloc_new w (.cells sb0 175))
  have C0 := Lib.hid (Chg.of_below (p := p) (below_one w (.cells sb0 175)))
  have T0 := Lib.hid (HT.out.below (below_one w (.cells sb0 175)))
  clear h HT
  go_enter Tryd.func106, Tryd.ntmps106
  go_wp2_with fail
  generalize w.alloc (.cells sb0 175) = W0 at *
  refine (takeS_calls _ p s x f s1 x1 HF.out i0 T0.out).mono ?_
  rintro e V1 ⟨rfl, i1, c1⟩
  have R1 := Lib.hid ((c1.block _ (lt_of_block R0.out) (fun e => by injection e; omega)).trans R0.out)
  have C1 := Lib.hid (C0.out.trans c1)
  clear i0 c1 R0 C0 T0
  go_wp2_with fail
  refine (byteIn_calls _ p s1 x1 t s' x2 HRT.out i1).mono ?_
  rw [HB.out]
  rintro e V2 ⟨rfl, i2, o2⟩
  have R2 := Lib.hid ((o2.block _ (by omega)).trans R1.out)
  have C2 := Lib.hid (C1.out.trans (Chg.of_only o2))
  clear i1 o2 R1 C1
  go_wp2_with fail
  refine (fail_calls _ p s' x2 2 i2).mono ?_
  rintro e V3 ⟨rfl, i3, o3⟩
  have R3 := Lib.hid ((o3.block _ (by omega)).trans R2.out)
  have C3 := Lib.hid (C2.out.trans (Chg.of_only o3))
  clear i2 o3 R2 C2
  have iL := i3.below (below_one V3 (.cells #[.string f, .int .u8 q, .bool nl, .bool ap, .int .u8 hd] 175))
  have RL := Lib.hid ((Below.heap_alloc V3 (.cells #[.string f, .int .u8 q, .bool nl, .bool ap, .int .u8 hd] 175) _ (lt_of_block R3.out)).trans R3.out)
  have LL := Lib.hid (heap_alloc_new V3 (.cells #[.string f, .int .u8 q, .bool nl, .bool ap, .int .u8 hd] 175))
  have CL := Lib.hid (C3.out.trans (Chg.of_below (below_one V3 (.cells #[.string f, .int .u8 q, .bool nl, .bool ap, .int .u8 hd] 175))))
  have hsb : w.heap.size < V3.heap.size := lt_of_block R3.out
  clear i3 R3 C3
  go_wp2_with fail
  generalize V3.alloc (.cells #[.string f, .int .u8 q, .bool nl, .bool ap, .int .u8 hd] 175) = WL at *
  generalize V3.heap.size = cb at *
  refine (fail_calls _ p s' (failed x2 2) 3 iL).mono ?_
  rw [hX]
  rintro e V5 ⟨rfl, i5, o5⟩
  have hpc : p < cb := by omega
  have RE := Lib.hid ((o5.block _ (by omega)).trans RL.out)
  have LE := Lib.hid ((o5.block _ (by omega)).trans LL.out)
  have CE := Lib.hid (CL.out.trans (Chg.of_only o5))
  have IE := Lib.hid i5
  clear i5 o5 iL RL LL CL
  obtain ⟨d0, d1, d2, d3, d4, df⟩ := cells5 LE.out
  obtain ⟨r0, r1, r2, r3, r4, rf⟩ := cells5 RE.out
  have rl := lt_of_block RE.out
  go_wp2
  refine bodyPost_ret (v := .agg #[.string f, .int .u8 q, .bool nl, .bool ap, .int .u8 hd]) ?_ rfl ⟨rfl, ?_, ?_⟩
  · simp [results, Tryd.results106, go_sem, r0, r1, r2, r3, r4]
  · iterate 5 (refine InAt.far ?_ (Nat.ne_of_lt hlt) _ _)
    exact IE.out
  · iterate 5 (refine Chg.setNew ?_ (Nat.le_refl _))
    exact CE.out

theorem takeSub_calls (w : World) (p : Nat) (s : ByteArray) (x : Int) (h : InAt w p s x) (hT : Tabs w) {f : ByteArray} {b : Int} {s' : ByteArray} {x' : Int} {s1 : ByteArray} {x1 : Int} {t : ByteArray} {x2 : Int} (ho : SubOf s x f b s' x' s1 x1 t x2) :
    Calls Tryd.prog 106 #[.pointer (some ⟨p, 0, none⟩)] w (TookB w p (sbOf f b) s' x') := by
  obtain ⟨hf, ht, hb, he⟩ := ho
  unfold subX1 subX2 at he
  unfold sbOf
  cases b1 : decide (63 < b) <;> rw [b1] at he <;> cases b2 : decide (2 < bits .and .u8 b 3) <;> rw [b2] at he <;> simp only [if_true, if_false, Bool.false_eq_true] at he
  · cases b3 : decide (2 < bits .and .u8 (b / 16) 3) <;> rw [b3] at he <;> simp only [if_true, if_false, Bool.false_eq_true] at he
    · exact takeSub_0n w p s x h hT f s1 x1 hf t s' x2 ht b hb _ _ _ _ rfl rfl rfl rfl b1 b2 b3 x' he
    · exact takeSub_0h w p s x h hT f s1 x1 hf t s' x2 ht b hb _ _ _ _ rfl rfl rfl rfl b1 b2 b3 x' he
  · exact takeSub_0q w p s x h hT f s1 x1 hf t s' x2 ht b hb _ _ _ _ rfl rfl rfl rfl b1 b2 x' he
  · cases b3 : decide (2 < bits .and .u8 (b / 16) 3) <;> rw [b3] at he <;> simp only [if_true, if_false, Bool.false_eq_true] at he
    · exact takeSub_1n w p s x h hT f s1 x1 hf t s' x2 ht b hb _ _ _ _ rfl rfl rfl rfl b1 b2 b3 x' he
    · exact takeSub_1h w p s x h hT f s1 x1 hf t s' x2 ht b hb _ _ _ _ rfl rfl rfl rfl b1 b2 b3 x' he
  · exact takeSub_1q w p s x h hT f s1 x1 hf t s' x2 ht b hb _ _ _ _ rfl rfl rfl rfl b1 b2 x' he

#print axioms takeSub_calls
end Go.Proofs.YtacffjimkplieaaDoor
