/-
  Properties put. (No statement: contracts that the proofs of the statements use.)
-/
import Derived.Test.YtdhdjkpocdfjbabDoorProp3
namespace Go.Proofs.YtdhdjkpocdfjbabDoor
open Go.RowKit

/-- A property. -/
structure Pr where
  id : Int
  n : Int
  s : ByteArray
  t : ByteArray

abbrev prV (p : Pr) : Value := .agg #[.int .i64 p.id, .int .u32 p.n, .string p.s, .string p.t]
/-- Its numbers and texts are those of a property. -/
structure Pr.ok (p : Pr) : Prop where
  n0 : 0 ≤ p.n
  n1 : p.n < 4294967296
  s1 : p.s.size ≤ 65535
  t1 : p.t.size ≤ 65535

/-- Block b holds a property. -/
def BoxAt (w : World) (b : Nat) (p : Pr) : Prop := w.heap[b]? = some (.cells #[.int .i64 p.id, .int .u32 p.n, .string p.s, .string p.t] 87 (0, 0))
theorem BoxAt.c0 {w : World} {b : Nat} {p : Pr} (h : BoxAt w b p) : w.cell? ⟨b, 0, none⟩ = some (.int .i64 p.id) := by unfold BoxAt at h; simp [World.cell?, h]
theorem BoxAt.c1 {w : World} {b : Nat} {p : Pr} (h : BoxAt w b p) : w.cell? ⟨b, 1, none⟩ = some (.int .u32 p.n) := by unfold BoxAt at h; simp [World.cell?, h]
theorem BoxAt.c2 {w : World} {b : Nat} {p : Pr} (h : BoxAt w b p) : w.cell? ⟨b, 2, none⟩ = some (.string p.s) := by unfold BoxAt at h; simp [World.cell?, h]
theorem BoxAt.c3 {w : World} {b : Nat} {p : Pr} (h : BoxAt w b p) : w.cell? ⟨b, 3, none⟩ = some (.string p.t) := by unfold BoxAt at h; simp [World.cell?, h]
theorem BoxAt.free {w : World} {b : Nat} {p : Pr} (h : BoxAt w b p) (j : Nat) : w.frozen? ⟨b, j, none⟩ = false := by unfold BoxAt at h; simp [World.frozen?, h]
theorem BoxAt.below {w w' : World} {b : Nat} {p : Pr} (h : BoxAt w b p) (hb : Below w.heap.size w w') : BoxAt w' b p := (hb.block b (lt_of_block h)).trans h
theorem BoxAt.step {w w' : World} {b o : Nat} {r r' : Option Nat} {p : Pr} (h : BoxAt w b p) (hs : Step w w' o r r') (h1 : b ≠ o) (h2 : some b ≠ r) : BoxAt w' b p := (hs.block b (lt_of_block h) h1 h2).trans h

/-- Binary data's bytes. -/
def dataL (s : ByteArray) : List UInt8 := two s.size ++ s.data.toList
/-- What a property says, as bytes. -/
def saysL (k : Int) (p : Pr) : List UInt8 :=
  if k = 1 then [UInt8.ofNat (p.n % 256).toNat] else if k = 2 then two p.n else if k = 3 then two (p.n / 65536) ++ two p.n
  else if k = 4 then varb 3 (min p.n.toNat 268435455) else if k = 7 then dataL p.s ++ dataL p.t else dataL p.s
/-- A property's bytes. -/
def oneL (p : Pr) : List UInt8 := if (ruleL p.id).kind = 0 then [] else varb 3 p.id.toNat ++ saysL (ruleL p.id).kind p

theorem kind_range (i : Int) : ((ruleL i).kind = 0 ∨ (1 ≤ i ∧ i ≤ 42)) ∧ ((ruleL i).kind = 0 ∨ (ruleL i).kind = 1 ∨ (ruleL i).kind = 2 ∨ (ruleL i).kind = 3 ∨ (ruleL i).kind = 4 ∨ (ruleL i).kind = 5 ∨ (ruleL i).kind = 6 ∨ (ruleL i).kind = 7) := by
  rcases ids_mem i with h | ⟨_, h⟩
  · have := (show ∀ i ∈ idsL, ((ruleL i).kind = 0 ∨ (1 ≤ i ∧ i ≤ 42)) ∧ ((ruleL i).kind = 0 ∨ (ruleL i).kind = 1 ∨ (ruleL i).kind = 2 ∨ (ruleL i).kind = 3 ∨ (ruleL i).kind = 4 ∨ (ruleL i).kind = 5 ∨ (ruleL i).kind = 6 ∨ (ruleL i).kind = 7) by decide)
    exact this i h
  · rw [h]; exact ⟨.inl rfl, .inl rfl⟩

theorem data_len (s : ByteArray) (h : s.size ≤ 65535) : (dataL s).length ≤ 65537 := by
  unfold dataL
  rw [List.length_append, two_len, ba_size]; omega
theorem one_len (p : Pr) (h : p.ok) : (oneL p).length ≤ 140000 := by
  have h1 := data_len p.s h.s1
  have h2 := data_len p.t h.t1
  have h3 := varb_len 3 p.id.toNat
  have h4 := varb_len 3 (min p.n.toNat 268435455)
  unfold oneL saysL
  repeat' split
  all_goals (simp only [List.length_append, List.length_cons, List.length_nil, two_len]; omega)

/-- What putOne leaves. -/
def PutP (w : World) (o : Nat) (r : Option Nat) (bs : List UInt8) (e : Ending) (w' : World) : Prop := e = .returned (.tuple #[]) ∧ Put w o r bs w'

set_option maxRecDepth 100000 in
set_option maxHeartbeats 1000000 in
theorem putOne_0 (w : World) (o : Nat) (r : Option Nat) (bs : List UInt8) (p : Pr) (hp : p.ok) (h : OutAt w o r bs) (_hl : bs.length ≤ 900000000) (hk : (ruleL p.id).kind = 0) :
    Calls Tryd.prog 75 #[.pointer (some ⟨o, 0, none⟩), prV p] w (PutP w o r (bs ++ oneL p)) := by
  have hr := (kind_range p.id).1
  have he : oneL p = [] := by unfold oneL saysL; rw [hk]; rfl
  rw [he]
  clear he
  have hst := step_box w (.cells #[.int .i64 p.id, .int .u32 p.n, .string p.s, .string p.t] 87) o r
  have hA := h.alloc (.cells #[.int .i64 p.id, .int .u32 p.n, .string p.s, .string p.t] 87)
  have hbox : BoxAt (w.alloc (.cells #[.int .i64 p.id, .int .u32 p.n, .string p.s, .string p.t] 87)) w.heap.size p := heap_alloc_new w _
  have hbo : w.heap.size ≠ o := by have := h.lt; omega
  have hbr : some w.heap.size ≠ r := fun e => by have := h.row_lt _ e.symm; omega
  obtain ⟨i, n, s, t⟩ := p
  simp only at hk hst hA hbox
  obtain ⟨n0, n1, s1, t1⟩ := hp
  simp only at n0 n1 s1 t1
  have HK := Lib.hid hk
  clear hk h
  clear hr
  go_enter Tryd.func75, Tryd.ntmps75
  go_wp2_with fail
  refine (kind3_calls _ i).mono ?_
  rw [HK.out]
  rintro e w1 ⟨rfl, b1⟩
  have box1 := hbox.below b1
  have out1 := hA.below b1
  have st1 := hst.trans (Step.of_below b1 o r)
  clear b1 hbox hA hst HK
  have HP := Lib.hid (show Put w o r (bs ++ []) w1 by rw [List.append_nil]; exact ⟨r, out1, st1⟩)
  clear out1 st1 box1
  go_wp2
  go_end0
  exact ⟨rfl, HP.out⟩

set_option maxRecDepth 100000 in
set_option maxHeartbeats 1000000 in
theorem putOne_1 (w : World) (o : Nat) (r : Option Nat) (bs : List UInt8) (p : Pr) (hp : p.ok) (h : OutAt w o r bs) (hl : bs.length ≤ 900000000) (hk : (ruleL p.id).kind = 1) :
    Calls Tryd.prog 75 #[.pointer (some ⟨o, 0, none⟩), prV p] w (PutP w o r (bs ++ oneL p)) := by
  have hr := (kind_range p.id).1
  have he : oneL p = varb 3 p.id.toNat ++ [UInt8.ofNat (p.n % 256).toNat] := by unfold oneL saysL; rw [hk]; rfl
  rw [he]
  clear he
  have hst := step_box w (.cells #[.int .i64 p.id, .int .u32 p.n, .string p.s, .string p.t] 87) o r
  have hA := h.alloc (.cells #[.int .i64 p.id, .int .u32 p.n, .string p.s, .string p.t] 87)
  have hbox : BoxAt (w.alloc (.cells #[.int .i64 p.id, .int .u32 p.n, .string p.s, .string p.t] 87)) w.heap.size p := heap_alloc_new w _
  have hbo : w.heap.size ≠ o := by have := h.lt; omega
  have hbr : some w.heap.size ≠ r := fun e => by have := h.row_lt _ e.symm; omega
  obtain ⟨i, n, s, t⟩ := p
  simp only at hk hst hA hbox
  obtain ⟨n0, n1, s1, t1⟩ := hp
  simp only at n0 n1 s1 t1
  have HK := Lib.hid hk
  clear hk h
  have hi : 1 ≤ i ∧ i ≤ 42 := by rcases hr with e | e; (· rw [HK.out] at e; exact absurd e (by decide)); exact e
  obtain ⟨i1, i2⟩ := hi
  simp only
  clear hr
  go_enter Tryd.func75, Tryd.ntmps75
  go_wp2_with fail
  refine (kind3_calls _ i).mono ?_
  rw [HK.out]
  rintro e w1 ⟨rfl, b1⟩
  have box1 := hbox.below b1
  have out1 := hA.below b1
  have st1 := hst.trans (Step.of_below b1 o r)
  clear b1 hbox hA hst HK
  have c0 := box1.c0
  simp only at c0
  go_wp2_with fail
  refine (var_any _ o r bs i i.toNat (by omega) (.inl (by omega)) out1 (by omega)).mono ?_
  rintro e w2 ⟨rfl, r2, h2, s2⟩
  have box2 := box1.step s2 hbo hbr
  have st2 := st1.trans s2
  have hbr2 : some w.heap.size ≠ r2 := by
    rcases s2.row with e | ⟨g, e, hg⟩
    · rw [e]; exact hbr
    · have := lt_of_block box1
      rw [e]; intro e'; injection e' with e'; omega
  have vl := varb_len 3 i.toNat
  generalize hV : varb 3 i.toNat = V at *
  have hL : (bs ++ V).length ≤ 900000004 := by rw [List.length_append]; omega
  clear c0 s2 st1 out1 box1 hbr hV vl
  have c1 := box2.c1
  simp only at c1
  generalize hB : bs ++ V = B at *
  have HBB := Lib.hid hB
  clear hB
  go_wp2_with fail
  refine (byte_calls _ o r2 B _ (by omega) (by omega) h2 (by omega)).mono ?_
  rintro e w3 ⟨rfl, r3, h3, s3⟩
  have HP := Lib.hid (show Put w o r _ w3 from ⟨r3, h3, st2.trans s3⟩)
  clear h2 h3 s3 st2 c1 box2
  go_wp2
  go_end0
  rw [← List.append_assoc, HBB.out]
  exact ⟨rfl, HP.out⟩

set_option maxRecDepth 100000 in
set_option maxHeartbeats 1000000 in
theorem putOne_2 (w : World) (o : Nat) (r : Option Nat) (bs : List UInt8) (p : Pr) (hp : p.ok) (h : OutAt w o r bs) (hl : bs.length ≤ 900000000) (hk : (ruleL p.id).kind = 2) :
    Calls Tryd.prog 75 #[.pointer (some ⟨o, 0, none⟩), prV p] w (PutP w o r (bs ++ oneL p)) := by
  have hr := (kind_range p.id).1
  have he : oneL p = varb 3 p.id.toNat ++ two p.n := by unfold oneL saysL; rw [hk]; rfl
  rw [he]
  clear he
  have hst := step_box w (.cells #[.int .i64 p.id, .int .u32 p.n, .string p.s, .string p.t] 87) o r
  have hA := h.alloc (.cells #[.int .i64 p.id, .int .u32 p.n, .string p.s, .string p.t] 87)
  have hbox : BoxAt (w.alloc (.cells #[.int .i64 p.id, .int .u32 p.n, .string p.s, .string p.t] 87)) w.heap.size p := heap_alloc_new w _
  have hbo : w.heap.size ≠ o := by have := h.lt; omega
  have hbr : some w.heap.size ≠ r := fun e => by have := h.row_lt _ e.symm; omega
  obtain ⟨i, n, s, t⟩ := p
  simp only at hk hst hA hbox
  obtain ⟨n0, n1, s1, t1⟩ := hp
  simp only at n0 n1 s1 t1
  have HK := Lib.hid hk
  clear hk h
  have hi : 1 ≤ i ∧ i ≤ 42 := by rcases hr with e | e; (· rw [HK.out] at e; exact absurd e (by decide)); exact e
  obtain ⟨i1, i2⟩ := hi
  simp only
  clear hr
  go_enter Tryd.func75, Tryd.ntmps75
  go_wp2_with fail
  refine (kind3_calls _ i).mono ?_
  rw [HK.out]
  rintro e w1 ⟨rfl, b1⟩
  have box1 := hbox.below b1
  have out1 := hA.below b1
  have st1 := hst.trans (Step.of_below b1 o r)
  clear b1 hbox hA hst HK
  have c0 := box1.c0
  simp only at c0
  go_wp2_with fail
  refine (var_any _ o r bs i i.toNat (by omega) (.inl (by omega)) out1 (by omega)).mono ?_
  rintro e w2 ⟨rfl, r2, h2, s2⟩
  have box2 := box1.step s2 hbo hbr
  have st2 := st1.trans s2
  have hbr2 : some w.heap.size ≠ r2 := by
    rcases s2.row with e | ⟨g, e, hg⟩
    · rw [e]; exact hbr
    · have := lt_of_block box1
      rw [e]; intro e'; injection e' with e'; omega
  have vl := varb_len 3 i.toNat
  generalize hV : varb 3 i.toNat = V at *
  have hL : (bs ++ V).length ≤ 900000004 := by rw [List.length_append]; omega
  clear c0 s2 st1 out1 box1 hbr hV vl
  have c1 := box2.c1
  simp only at c1
  generalize hB : bs ++ V = B at *
  have HBB := Lib.hid hB
  clear hB
  go_wp2_with fail
  refine (two_calls _ o r2 B n n0 n1 h2 (by omega)).mono ?_
  rintro e w3 ⟨rfl, r3, h3, s3⟩
  have HP := Lib.hid (show Put w o r _ w3 from ⟨r3, h3, st2.trans s3⟩)
  clear h2 h3 s3 st2 c1 box2
  go_wp2
  go_end0
  rw [← List.append_assoc, HBB.out]
  exact ⟨rfl, HP.out⟩

set_option maxRecDepth 100000 in
set_option maxHeartbeats 1000000 in
theorem putOne_3 (w : World) (o : Nat) (r : Option Nat) (bs : List UInt8) (p : Pr) (hp : p.ok) (h : OutAt w o r bs) (hl : bs.length ≤ 900000000) (hk : (ruleL p.id).kind = 3) :
    Calls Tryd.prog 75 #[.pointer (some ⟨o, 0, none⟩), prV p] w (PutP w o r (bs ++ oneL p)) := by
  have hr := (kind_range p.id).1
  have he : oneL p = varb 3 p.id.toNat ++ (two (p.n / 65536) ++ two p.n) := by unfold oneL saysL; rw [hk]; rfl
  rw [he]
  clear he
  have hst := step_box w (.cells #[.int .i64 p.id, .int .u32 p.n, .string p.s, .string p.t] 87) o r
  have hA := h.alloc (.cells #[.int .i64 p.id, .int .u32 p.n, .string p.s, .string p.t] 87)
  have hbox : BoxAt (w.alloc (.cells #[.int .i64 p.id, .int .u32 p.n, .string p.s, .string p.t] 87)) w.heap.size p := heap_alloc_new w _
  have hbo : w.heap.size ≠ o := by have := h.lt; omega
  have hbr : some w.heap.size ≠ r := fun e => by have := h.row_lt _ e.symm; omega
  obtain ⟨i, n, s, t⟩ := p
  simp only at hk hst hA hbox
  obtain ⟨n0, n1, s1, t1⟩ := hp
  simp only at n0 n1 s1 t1
  have HK := Lib.hid hk
  clear hk h
  have hi : 1 ≤ i ∧ i ≤ 42 := by rcases hr with e | e; (· rw [HK.out] at e; exact absurd e (by decide)); exact e
  obtain ⟨i1, i2⟩ := hi
  simp only
  clear hr
  go_enter Tryd.func75, Tryd.ntmps75
  go_wp2_with fail
  refine (kind3_calls _ i).mono ?_
  rw [HK.out]
  rintro e w1 ⟨rfl, b1⟩
  have box1 := hbox.below b1
  have out1 := hA.below b1
  have st1 := hst.trans (Step.of_below b1 o r)
  clear b1 hbox hA hst HK
  have c0 := box1.c0
  simp only at c0
  go_wp2_with fail
  refine (var_any _ o r bs i i.toNat (by omega) (.inl (by omega)) out1 (by omega)).mono ?_
  rintro e w2 ⟨rfl, r2, h2, s2⟩
  have box2 := box1.step s2 hbo hbr
  have st2 := st1.trans s2
  have hbr2 : some w.heap.size ≠ r2 := by
    rcases s2.row with e | ⟨g, e, hg⟩
    · rw [e]; exact hbr
    · have := lt_of_block box1
      rw [e]; intro e'; injection e' with e'; omega
  have vl := varb_len 3 i.toNat
  generalize hV : varb 3 i.toNat = V at *
  have hL : (bs ++ V).length ≤ 900000004 := by rw [List.length_append]; omega
  clear c0 s2 st1 out1 box1 hbr hV vl
  have c1 := box2.c1
  simp only at c1
  generalize hB : bs ++ V = B at *
  have HBB := Lib.hid hB
  clear hB
  go_wp2_with fail
  refine (four_calls _ o r2 B n n0 n1 h2 (by omega)).mono ?_
  rintro e w3 ⟨rfl, r3, h3, s3⟩
  have HP := Lib.hid (show Put w o r _ w3 from ⟨r3, h3, st2.trans s3⟩)
  clear h2 h3 s3 st2 c1 box2
  go_wp2
  go_end0
  rw [← List.append_assoc, HBB.out]
  exact ⟨rfl, HP.out⟩

set_option maxRecDepth 100000 in
set_option maxHeartbeats 1000000 in
theorem putOne_4 (w : World) (o : Nat) (r : Option Nat) (bs : List UInt8) (p : Pr) (hp : p.ok) (h : OutAt w o r bs) (hl : bs.length ≤ 900000000) (hk : (ruleL p.id).kind = 4) :
    Calls Tryd.prog 75 #[.pointer (some ⟨o, 0, none⟩), prV p] w (PutP w o r (bs ++ oneL p)) := by
  have hr := (kind_range p.id).1
  have he : oneL p = varb 3 p.id.toNat ++ varb 3 (min p.n.toNat 268435455) := by unfold oneL saysL; rw [hk]; rfl
  rw [he]
  clear he
  have hst := step_box w (.cells #[.int .i64 p.id, .int .u32 p.n, .string p.s, .string p.t] 87) o r
  have hA := h.alloc (.cells #[.int .i64 p.id, .int .u32 p.n, .string p.s, .string p.t] 87)
  have hbox : BoxAt (w.alloc (.cells #[.int .i64 p.id, .int .u32 p.n, .string p.s, .string p.t] 87)) w.heap.size p := heap_alloc_new w _
  have hbo : w.heap.size ≠ o := by have := h.lt; omega
  have hbr : some w.heap.size ≠ r := fun e => by have := h.row_lt _ e.symm; omega
  obtain ⟨i, n, s, t⟩ := p
  simp only at hk hst hA hbox
  obtain ⟨n0, n1, s1, t1⟩ := hp
  simp only at n0 n1 s1 t1
  have HK := Lib.hid hk
  clear hk h
  have hi : 1 ≤ i ∧ i ≤ 42 := by rcases hr with e | e; (· rw [HK.out] at e; exact absurd e (by decide)); exact e
  obtain ⟨i1, i2⟩ := hi
  simp only
  clear hr
  go_enter Tryd.func75, Tryd.ntmps75
  go_wp2_with fail
  refine (kind3_calls _ i).mono ?_
  rw [HK.out]
  rintro e w1 ⟨rfl, b1⟩
  have box1 := hbox.below b1
  have out1 := hA.below b1
  have st1 := hst.trans (Step.of_below b1 o r)
  clear b1 hbox hA hst HK
  have c0 := box1.c0
  simp only at c0
  go_wp2_with fail
  refine (var_any _ o r bs i i.toNat (by omega) (.inl (by omega)) out1 (by omega)).mono ?_
  rintro e w2 ⟨rfl, r2, h2, s2⟩
  have box2 := box1.step s2 hbo hbr
  have st2 := st1.trans s2
  have hbr2 : some w.heap.size ≠ r2 := by
    rcases s2.row with e | ⟨g, e, hg⟩
    · rw [e]; exact hbr
    · have := lt_of_block box1
      rw [e]; intro e'; injection e' with e'; omega
  have vl := varb_len 3 i.toNat
  generalize hV : varb 3 i.toNat = V at *
  have hL : (bs ++ V).length ≤ 900000004 := by rw [List.length_append]; omega
  clear c0 s2 st1 out1 box1 hbr hV vl
  have c1 := box2.c1
  simp only at c1
  generalize hB : bs ++ V = B at *
  have HBB := Lib.hid hB
  clear hB
  go_wp2_with fail
  refine (var_any _ o r2 B n _ (by omega) (min_clamp n n0 n1) h2 (by omega)).mono ?_
  rintro e w3 ⟨rfl, r3, h3, s3⟩
  have HP := Lib.hid (show Put w o r _ w3 from ⟨r3, h3, st2.trans s3⟩)
  clear h2 h3 s3 st2 c1 box2
  go_wp2
  go_end0
  rw [← List.append_assoc, HBB.out]
  exact ⟨rfl, HP.out⟩

set_option maxRecDepth 100000 in
set_option maxHeartbeats 1000000 in
theorem putOne_5 (w : World) (o : Nat) (r : Option Nat) (bs : List UInt8) (p : Pr) (hp : p.ok) (h : OutAt w o r bs) (hl : bs.length ≤ 900000000) (hk : (ruleL p.id).kind = 5) :
    Calls Tryd.prog 75 #[.pointer (some ⟨o, 0, none⟩), prV p] w (PutP w o r (bs ++ oneL p)) := by
  have hr := (kind_range p.id).1
  have he : oneL p = varb 3 p.id.toNat ++ (two p.s.size ++ p.s.data.toList) := by unfold oneL saysL; rw [hk]; rfl
  rw [he]
  clear he
  have hst := step_box w (.cells #[.int .i64 p.id, .int .u32 p.n, .string p.s, .string p.t] 87) o r
  have hA := h.alloc (.cells #[.int .i64 p.id, .int .u32 p.n, .string p.s, .string p.t] 87)
  have hbox : BoxAt (w.alloc (.cells #[.int .i64 p.id, .int .u32 p.n, .string p.s, .string p.t] 87)) w.heap.size p := heap_alloc_new w _
  have hbo : w.heap.size ≠ o := by have := h.lt; omega
  have hbr : some w.heap.size ≠ r := fun e => by have := h.row_lt _ e.symm; omega
  obtain ⟨i, n, s, t⟩ := p
  simp only at hk hst hA hbox
  obtain ⟨n0, n1, s1, t1⟩ := hp
  simp only at n0 n1 s1 t1
  have HK := Lib.hid hk
  clear hk h
  have hi : 1 ≤ i ∧ i ≤ 42 := by rcases hr with e | e; (· rw [HK.out] at e; exact absurd e (by decide)); exact e
  obtain ⟨i1, i2⟩ := hi
  simp only
  clear hr
  go_enter Tryd.func75, Tryd.ntmps75
  go_wp2_with fail
  refine (kind3_calls _ i).mono ?_
  rw [HK.out]
  rintro e w1 ⟨rfl, b1⟩
  have box1 := hbox.below b1
  have out1 := hA.below b1
  have st1 := hst.trans (Step.of_below b1 o r)
  clear b1 hbox hA hst HK
  have c0 := box1.c0
  simp only at c0
  go_wp2_with fail
  refine (var_any _ o r bs i i.toNat (by omega) (.inl (by omega)) out1 (by omega)).mono ?_
  rintro e w2 ⟨rfl, r2, h2, s2⟩
  have box2 := box1.step s2 hbo hbr
  have st2 := st1.trans s2
  have hbr2 : some w.heap.size ≠ r2 := by
    rcases s2.row with e | ⟨g, e, hg⟩
    · rw [e]; exact hbr
    · have := lt_of_block box1
      rw [e]; intro e'; injection e' with e'; omega
  have vl := varb_len 3 i.toNat
  generalize hV : varb 3 i.toNat = V at *
  have hL : (bs ++ V).length ≤ 900000004 := by rw [List.length_append]; omega
  clear c0 s2 st1 out1 box1 hbr hV vl
  have c1 := box2.c2
  simp only at c1
  generalize hB : bs ++ V = B at *
  have HBB := Lib.hid hB
  clear hB
  go_wp2_with fail
  refine (data_calls _ o r2 B s h2 s1 (by omega)).mono ?_
  rintro e w3 ⟨rfl, r3, h3, s3⟩
  have HP := Lib.hid (show Put w o r _ w3 from ⟨r3, h3, st2.trans s3⟩)
  clear h2 h3 s3 st2 c1 box2
  go_wp2
  go_end0
  rw [← List.append_assoc, HBB.out]
  exact ⟨rfl, HP.out⟩

set_option maxRecDepth 100000 in
set_option maxHeartbeats 1000000 in
theorem putOne_6 (w : World) (o : Nat) (r : Option Nat) (bs : List UInt8) (p : Pr) (hp : p.ok) (h : OutAt w o r bs) (hl : bs.length ≤ 900000000) (hk : (ruleL p.id).kind = 6) :
    Calls Tryd.prog 75 #[.pointer (some ⟨o, 0, none⟩), prV p] w (PutP w o r (bs ++ oneL p)) := by
  have hr := (kind_range p.id).1
  have he : oneL p = varb 3 p.id.toNat ++ (two p.s.size ++ p.s.data.toList) := by unfold oneL saysL; rw [hk]; rfl
  rw [he]
  clear he
  have hst := step_box w (.cells #[.int .i64 p.id, .int .u32 p.n, .string p.s, .string p.t] 87) o r
  have hA := h.alloc (.cells #[.int .i64 p.id, .int .u32 p.n, .string p.s, .string p.t] 87)
  have hbox : BoxAt (w.alloc (.cells #[.int .i64 p.id, .int .u32 p.n, .string p.s, .string p.t] 87)) w.heap.size p := heap_alloc_new w _
  have hbo : w.heap.size ≠ o := by have := h.lt; omega
  have hbr : some w.heap.size ≠ r := fun e => by have := h.row_lt _ e.symm; omega
  obtain ⟨i, n, s, t⟩ := p
  simp only at hk hst hA hbox
  obtain ⟨n0, n1, s1, t1⟩ := hp
  simp only at n0 n1 s1 t1
  have HK := Lib.hid hk
  clear hk h
  have hi : 1 ≤ i ∧ i ≤ 42 := by rcases hr with e | e; (· rw [HK.out] at e; exact absurd e (by decide)); exact e
  obtain ⟨i1, i2⟩ := hi
  simp only
  clear hr
  go_enter Tryd.func75, Tryd.ntmps75
  go_wp2_with fail
  refine (kind3_calls _ i).mono ?_
  rw [HK.out]
  rintro e w1 ⟨rfl, b1⟩
  have box1 := hbox.below b1
  have out1 := hA.below b1
  have st1 := hst.trans (Step.of_below b1 o r)
  clear b1 hbox hA hst HK
  have c0 := box1.c0
  simp only at c0
  go_wp2_with fail
  refine (var_any _ o r bs i i.toNat (by omega) (.inl (by omega)) out1 (by omega)).mono ?_
  rintro e w2 ⟨rfl, r2, h2, s2⟩
  have box2 := box1.step s2 hbo hbr
  have st2 := st1.trans s2
  have hbr2 : some w.heap.size ≠ r2 := by
    rcases s2.row with e | ⟨g, e, hg⟩
    · rw [e]; exact hbr
    · have := lt_of_block box1
      rw [e]; intro e'; injection e' with e'; omega
  have vl := varb_len 3 i.toNat
  generalize hV : varb 3 i.toNat = V at *
  have hL : (bs ++ V).length ≤ 900000004 := by rw [List.length_append]; omega
  clear c0 s2 st1 out1 box1 hbr hV vl
  have c1 := box2.c2
  simp only at c1
  generalize hB : bs ++ V = B at *
  have HBB := Lib.hid hB
  clear hB
  go_wp2_with fail
  refine (data_calls _ o r2 B s h2 s1 (by omega)).mono ?_
  rintro e w3 ⟨rfl, r3, h3, s3⟩
  have HP := Lib.hid (show Put w o r _ w3 from ⟨r3, h3, st2.trans s3⟩)
  clear h2 h3 s3 st2 c1 box2
  go_wp2
  go_end0
  rw [← List.append_assoc, HBB.out]
  exact ⟨rfl, HP.out⟩

end Go.Proofs.YtdhdjkpocdfjbabDoor
