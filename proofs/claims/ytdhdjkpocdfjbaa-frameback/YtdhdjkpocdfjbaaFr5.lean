/-
  A stream of packets: its Reader. (No statement: contracts that the proofs of the statements use.)
-/
import Derived.Test.YtdhdjkpocdfjbaaFr4
import Derived.RegionTactic
namespace Go.Proofs.Ytdhdjkpocdfjbaa
open Go.RowKit

/-- Block q holds a Reader that lets so many bytes by, with bs waiting and the error x; r: the row of what waits. -/
def RdAt (w : World) (q : Nat) (r : Option Nat) (most : Int) (bs : List UInt8) (x : Int) : Prop :=
  ∃ a c, w.heap[q]? = some (.cells #[.int .i64 most, .slice a bs.length c, .int .i64 x] 53 (0, 0)) ∧ TailAt w (.slice a bs.length c) bs ∧ (Value.slice a bs.length c).ownBlock = r ∧ bs.length ≤ c

/-- What a call on the Reader at q may have turned: that block, its row, and what is new. -/
structure RStep (w w' : World) (q : Nat) (r r' : Option Nat) : Prop where
  os : w'.os = w.os
  tape : w'.tape = w.tape
  output : w'.output = w.output
  size : w.heap.size ≤ w'.heap.size
  block : ∀ k, k < w.heap.size → k ≠ q → some k ≠ r → w'.heap[k]? = w.heap[k]?
  row : ∀ g, r' = some g → r = some g ∨ w.heap.size ≤ g

theorem RStep.refl (w : World) (q : Nat) (r : Option Nat) : RStep w w q r r := ⟨rfl, rfl, rfl, Nat.le_refl _, fun _ _ _ _ => rfl, fun _ h => .inl h⟩
theorem RStep.trans {w1 w2 w3 : World} {q : Nat} {r1 r2 r3 : Option Nat} (h : RStep w1 w2 q r1 r2) (k : RStep w2 w3 q r2 r3) : RStep w1 w3 q r1 r3 := by
  refine ⟨k.os.trans h.os, k.tape.trans h.tape, k.output.trans h.output, Nat.le_trans h.size k.size, fun i hi hq hr => ?_, fun g hg => ?_⟩
  · refine (k.block i (Nat.lt_of_lt_of_le hi h.size) hq ?_).trans (h.block i hi hq hr)
    intro e
    rcases h.row i e.symm with e' | e'
    · exact hr e'.symm
    · omega
  · rcases k.row g hg with e | e
    · exact h.row g e
    · have := h.size; exact .inr (by omega)
theorem RStep.below {w w' : World} {q B : Nat} {r r' : Option Nat} (h : RStep w w' q r r') (hB : B ≤ w.heap.size) (hq : B ≤ q) (hr : ∀ g, r = some g → B ≤ g) : Below B w w' :=
  ⟨h.os, h.tape, h.output, h.size, fun k hk => h.block k (by omega) (by omega) (fun e => by have := hr k e.symm; omega)⟩
theorem RStep.row_ge {w w' : World} {q B : Nat} {r r' : Option Nat} (h : RStep w w' q r r') (hB : B ≤ w.heap.size) (hr : ∀ g, r = some g → B ≤ g) : ∀ g, r' = some g → B ≤ g := by
  intro g hg
  rcases h.row g hg with e | e
  · exact hr g e
  · omega
theorem RStep.of_below {w w' : World} {q : Nat} {r : Option Nat} (h : Below w.heap.size w w') : RStep w w' q r r :=
  ⟨h.os, h.tape, h.output, h.size, fun k hk _ _ => h.block k hk, fun _ hg => .inl hg⟩

theorem RdAt.lt {w : World} {q : Nat} {r : Option Nat} {most : Int} {bs : List UInt8} {x : Int} (h : RdAt w q r most bs x) : q < w.heap.size := by
  obtain ⟨a, c, h1, _⟩ := h
  exact lt_of_block h1
theorem RdAt.row_lt {w : World} {q : Nat} {r : Option Nat} {most : Int} {bs : List UInt8} {x : Int} (h : RdAt w q r most bs x) (g : Nat) (hg : r = some g) : g < w.heap.size := by
  obtain ⟨a, c, _, h2, h3, _⟩ := h
  exact h2.lt g (h3.trans hg)
theorem RdAt.row_ne {w : World} {q : Nat} {r : Option Nat} {most : Int} {bs : List UInt8} {x : Int} (h : RdAt w q r most bs x) : r ≠ some q := by
  obtain ⟨a, c, h1, h2, h3, _⟩ := h
  rw [← h3]
  exact h2.ne h1 (by decide)
theorem RdAt.below {w w' : World} {q : Nat} {r : Option Nat} {most : Int} {bs : List UInt8} {x : Int} (h : RdAt w q r most bs x) (hb : Below w.heap.size w w') : RdAt w' q r most bs x := by
  obtain ⟨a, c, h1, h2, h3, h4⟩ := h
  exact ⟨a, c, (hb.block q (lt_of_block h1)).trans h1, h2.below hb, h3, h4⟩
theorem RdAt.new (w : World) (most : Int) : RdAt (w.alloc (.cells #[.int .i64 most, .slice none 0 0, .int .i64 0] 53)) w.heap.size none most [] 0 :=
  ⟨none, 0, heap_alloc_new w _, .inl ⟨rfl, rfl⟩, rfl, Nat.le_refl _⟩
/-- A row of another type lies elsewhere. -/
theorem RdAt.far {w : World} {q : Nat} {r : Option Nat} {most : Int} {bs : List UInt8} {x : Int} (h : RdAt w q r most bs x) {g : Nat} {cs : Array Value} {t : TypeId} (hg : w.heap[g]? = some (.cells cs t (0, 0))) (h1 : t ≠ 53) (h2 : t ≠ 5) : g ≠ q ∧ some g ≠ r := by
  obtain ⟨a, c, e1, e2, e3, _⟩ := h
  refine ⟨fun e => ?_, fun e => ?_⟩
  · subst e
    rw [hg] at e1
    injection e1 with e1
    injection e1 with _ e4
    exact h1 e4
  · rw [← e3] at e
    exact e2.ne hg h2 e.symm

theorem new_calls (w : World) (most : Int) :
    Calls Try.prog 9 #[.int .i64 most] w fun e w' => e = .returned (.pointer (some ⟨w.heap.size, 0, none⟩)) ∧ w' = w.alloc (.cells #[.int .i64 most, .slice none 0 0, .int .i64 0] 53) := by
  go_enter Try.func9, Try.ntmps9
  go_wp2
  go_ret
  exact ⟨rfl, rfl⟩

theorem waits_calls (w : World) (q : Nat) (r : Option Nat) (most : Int) (bs : List UInt8) (x : Int) (h : RdAt w q r most bs x) :
    Calls Try.prog 14 #[.pointer (some ⟨q, 0, none⟩)] w fun e w' => e = .returned (.int .i64 bs.length) ∧ w = w' := by
  obtain ⟨a, c, h1, h2, h3, _⟩ := h
  obtain ⟨⟨c0, c1, c2⟩, _⟩ := three_cells h1
  clear h1 h2 h3
  go_enter Try.func14, Try.ntmps14
  go_wp2
  go_ret
  exact ⟨rfl, rfl⟩

theorem three_set1 {w : World} {b : Nat} {u v x v' : Value} {t : TypeId} (h : w.heap[b]? = some (.cells #[u, v, x] t (0, 0))) : (w.setCell ⟨b, 1, none⟩ v').heap[b]? = some (.cells #[u, v', x] t (0, 0)) := by
  simp [World.setCell, Array.getElem?_modify, h]
theorem three_set2 {w : World} {b : Nat} {u v x v' : Value} {t : TypeId} (h : w.heap[b]? = some (.cells #[u, v, x] t (0, 0))) : (w.setCell ⟨b, 2, none⟩ v').heap[b]? = some (.cells #[u, v, v'] t (0, 0)) := by
  simp [World.setCell, Array.getElem?_modify, h]

theorem three_below {w W : World} {B b : Nat} (h : Below B w W) (hb : B ≤ b) (u v x : Value) : Below B w (((W.setCell ⟨b, 0, none⟩ u).setCell ⟨b, 1, none⟩ v).setCell ⟨b, 2, none⟩ x) :=
  Below.setCell (Below.setCell (Below.setCell h (show B ≤ (⟨b, 0, none⟩ : Addr).block from hb) u) (show B ≤ (⟨b, 1, none⟩ : Addr).block from hb) v) (show B ≤ (⟨b, 2, none⟩ : Addr).block from hb) x
theorem RdAt.keepB {w w' : World} {q B : Nat} {r : Option Nat} {most : Int} {bs : List UInt8} {x : Int} (h : RdAt w q r most bs x) (hb : Below B w w') (hq : q < B) (hr : ∀ g, r = some g → g < B) : RdAt w' q r most bs x := by
  obtain ⟨a, c, h1, h2, h3, h4⟩ := h
  exact ⟨a, c, (hb.block q hq).trans h1, h2.keep (fun g hg => hb.block g (hr g (h3.symm.trans hg))), h3, h4⟩

/-- What Feed leaves. -/
def Fed (w : World) (q : Nat) (r : Option Nat) (most : Int) (bs : List UInt8) (x : Int) (e : Ending) (w' : World) : Prop :=
  e = .returned (.tuple #[]) ∧ ∃ r', RdAt w' q r' most bs x ∧ RStep w w' q r r'

theorem feed_ok (w : World) (q : Nat) (r : Option Nat) (most : Int) (bs : List UInt8) (s : ByteArray) (h : RdAt w q r most bs 0) (hl : bs.length + s.size ≤ 1000000000) :
    Calls Try.prog 10 #[.pointer (some ⟨q, 0, none⟩), .string s] w (Fed w q r most (bs ++ s.data.toList) 0) := by
  have hne := h.row_ne
  have hlt := h.lt
  obtain ⟨a, c, h1, h2, h3, h4⟩ := h
  subst h3
  obtain ⟨⟨c0, c1, c2⟩, f0, f1, f2⟩ := three_cells h1
  have H1 := Lib.hid h1
  have H2 := Lib.hid h2
  have HN := Lib.hid hne
  clear h1 h2 hne
  go_enter Try.func10, Try.ntmps10
  go_wp2_with ((at_builtin; refine wpList_tail _ rfl _ _ rfl _ _ rfl H2.out s rfl (by omega) ?_))
  intro v' w1 ht hg hat
  have hb1 : w1.heap[q]? = some (.cells #[.int .i64 most, .slice a bs.length c, .int .i64 0] 53 (0, 0)) := (hg.block q hlt (fun e => HN.out e.symm)).trans H1.out
  obtain ⟨⟨d0, d1, d2⟩, g0, g1, g2⟩ := three_cells hb1
  obtain ⟨a', c', rfl, hc'⟩ := ht.form
  have hrow : ∀ g, (Value.slice a' (bs ++ s.data.toList).length c').ownBlock = some g → (Value.slice a bs.length c).ownBlock = some g ∨ w.heap.size ≤ g := by
    intro g hgg
    rcases hat with e | e
    · exact .inl (e.symm.trans hgg)
    · rw [e] at hgg; injection hgg with hgg; exact .inr (by omega)
  have hqr : (Value.slice a' (bs ++ s.data.toList).length c').ownBlock ≠ some q := ht.ne hb1 (by decide)
  have R : Fed w q (Value.slice a bs.length c).ownBlock most (bs ++ s.data.toList) 0 (.returned (.tuple #[])) (w1.setCell ⟨q, 1, none⟩ (.slice a' (bs ++ s.data.toList).length c')) := by
    refine ⟨rfl, (Value.slice a' (bs ++ s.data.toList).length c').ownBlock, ⟨a', c', three_set1 hb1, ht.keep (fun g hgg => Below.heap_setCell w1 ⟨q, 1, none⟩ _ g (fun e => hqr (by rw [hgg]; exact congrArg some e))), rfl, hc'⟩, ?_⟩
    exact ⟨hg.os, hg.tape, hg.output, by simpa [World.setCell] using hg.size, fun k hk hkq hkr => (Below.heap_setCell w1 ⟨q, 1, none⟩ _ k hkq).trans (hg.block k hk hkr), hrow⟩
  have hlen : (bs ++ s.data.toList).length = bs.length + s.size := by rw [List.length_append, ba_size]
  have HR := Lib.hid R
  rw [hlen] at HR
  clear R hrow hqr hat hg ht hb1 c0 c1 c2 f0 f1 f2 hlen
  go_wp2
  go_end0
  exact HR.out

theorem feed_err (w : World) (q : Nat) (r : Option Nat) (most : Int) (bs : List UInt8) (x : Int) (hx : x ≠ 0) (s : ByteArray) (h : RdAt w q r most bs x) :
    Calls Try.prog 10 #[.pointer (some ⟨q, 0, none⟩), .string s] w (Fed w q r most bs x) := by
  have R : Fed w q r most bs x (.returned (.tuple #[])) w := ⟨rfl, r, h, RStep.refl _ _ _⟩
  have HR := Lib.hid R
  have hxb : (x == 0) = false := by simpa using hx
  obtain ⟨a, c, h1, h2, h3, h4⟩ := h
  obtain ⟨⟨c0, c1, c2⟩, f0, f1, f2⟩ := three_cells h1
  clear h1 h2 h3 R hx
  go_enter Try.func10, Try.ntmps10
  go_wp2
  go_end0
  exact HR.out

/-- What drop leaves. -/
theorem drop_calls (w : World) (q : Nat) (r : Option Nat) (most : Int) (bs : List UInt8) (n : Nat) (hn : n ≤ bs.length) (h : RdAt w q r most bs 0) :
    Calls Try.prog 23 #[.pointer (some ⟨q, 0, none⟩), .int .i64 n] w (Fed w q r most (bs.drop n) 0) := by
  have hlt := h.lt
  have hne := h.row_ne
  obtain ⟨a, c, h1, h2, h3, h4⟩ := h
  obtain ⟨⟨c0, c1, c2⟩, f0, f1, f2⟩ := three_cells h1
  by_cases hlast : n = bs.length
  · subst hlast
    have R : ∀ u, Fed w q r most [] 0 (.returned (.tuple #[])) ((w.setCell ⟨q, 1, none⟩ u).setCell ⟨q, 1, none⟩ (.slice none 0 0)) := by
      intro u
      refine ⟨rfl, none, ⟨none, 0, three_set1 (three_set1 h1), .inl ⟨rfl, rfl⟩, rfl, Nat.le_refl _⟩, ⟨rfl, rfl, rfl, by simp [World.setCell], fun k hk hkq _ => ?_, fun g hg => by cases hg⟩⟩
      rw [Below.heap_setCell _ _ _ _ hkq, Below.heap_setCell _ _ _ _ hkq]
    have HR := Lib.hid R
    clear R h1 h2 h3 hne
    go_enter Try.func23, Try.ntmps23
    go_wp2
    all_goals
      go_end0
      exact HR.out _
  · have hcn : ¬ c = n := by omega
    have ht := h2.drop n (by omega)
    rw [if_neg hcn, Nat.mul_one] at ht
    have hrow : (Value.slice (a.map (·.add n)) (bs.length - n) (c - n)).ownBlock = r := by
      rw [← h3]
      rcases h2 with ⟨e, _⟩ | ⟨g, k, cap, cur, e, _⟩
      · injection e with e1 e2 e3; subst e1; rfl
      · injection e with e1 e2 e3; subst e1; simp [Value.ownBlock, addr_add]
    have hqr : (Value.slice (a.map (·.add n)) (bs.length - n) (c - n)).ownBlock ≠ some q := by rw [hrow]; exact hne
    have R : Fed w q r most (bs.drop n) 0 (.returned (.tuple #[])) (w.setCell ⟨q, 1, none⟩ (.slice (a.map (·.add n)) (bs.length - n) (c - n))) := by
      have hk := ht.keep (w' := w.setCell ⟨q, 1, none⟩ (.slice (a.map (·.add n)) (bs.length - n) (c - n))) (fun g hgg => Below.heap_setCell w ⟨q, 1, none⟩ _ g (fun e => hqr (by rw [hgg]; exact congrArg some e)))
      have hs := three_set1 (v' := .slice (a.map (·.add n)) (bs.length - n) (c - n)) h1
      have hdl : (bs.drop n).length = bs.length - n := by simp
      refine ⟨rfl, r, ⟨a.map (·.add n), c - n, by rw [hdl]; exact hs, by rw [hdl]; exact hk, by rw [hdl]; exact hrow, by omega⟩, ⟨rfl, rfl, rfl, by simp [World.setCell], fun k hk hkq _ => ?_, fun g hg => .inl hg⟩⟩
      rw [Below.heap_setCell _ _ _ _ hkq]
    have HR := Lib.hid R
    have hz1 : bs.length - n ≠ 0 := by omega
    have hz2 : (((bs.length - n : Nat) : Int) == 0) = false := by simp; omega
    clear R h1 h2 h3 hne ht hrow hqr
    go_enter Try.func23, Try.ntmps23
    go_wp2
    go_end0
    exact HR.out

/-- What Next answers, and leaves. -/
def NextR (w : World) (q : Nat) (r : Option Nat) (most : Int) (F : Nat × Nat × List UInt8) (y : Int) (bs : List UInt8) (x : Int) (e : Ending) (w' : World) : Prop :=
  e = .returned (.tuple #[.agg #[.int .i64 F.1, .int .i64 F.2.1, .string (str F.2.2)], .int .i64 y]) ∧ ∃ r', RdAt w' q r' most bs x ∧ RStep w w' q r r'

theorem next_err (w : World) (q : Nat) (r : Option Nat) (most : Int) (bs : List UInt8) (x : Int) (hx : x ≠ 0) (h : RdAt w q r most bs x) :
    Calls Try.prog 15 #[.pointer (some ⟨q, 0, none⟩)] w (NextR w q r most (0, 0, []) x bs x) := by
  have hA := h.below (below_one w (.cells #[.int .i64 0, .int .i64 0, .string ⟨#[]⟩] 37))
  have hlt := h.lt
  have RLT := Lib.hid h.row_lt
  have hxb : (x == 0) = false := by simpa using hx
  have hxb' : (x != 0) = true := by simpa using hx
  have HA := Lib.hid hA
  have b1 := below_one w (.cells #[.int .i64 0, .int .i64 0, .string ⟨#[]⟩] 37)
  have B1 := Lib.hid b1
  have r1 := heap_alloc_new w (.cells #[.int .i64 0, .int .i64 0, .string ⟨#[]⟩] 37)
  have R1 := Lib.hid r1
  obtain ⟨a, c, h1, h2, h3, h4⟩ := h
  obtain ⟨⟨c0, c1, c2⟩, f0, f1, f2⟩ := three_cells h1
  clear h1 h2 h3 hx hA b1 r1
  go_enter Try.func15, Try.ntmps15
  go_wp2_with fail
  clear c0 c1 c2 f0 f1 f2
  generalize w.alloc (.cells #[.int .i64 0, .int .i64 0, .string ⟨#[]⟩] 37) = W1 at *
  obtain ⟨a', c', h1, h2, h3, h4'⟩ := HA.out
  obtain ⟨⟨c0, c1, c2⟩, f0, f1, f2⟩ := three_cells h1
  obtain ⟨⟨q0, q1, q2⟩, qf0, qf1, qf2⟩ := three_cells R1.out
  have hq := lt_of_block R1.out
  clear h1 h2 h3
  go_region
  go_wp2
  refine bodyPost_ret (v := .tuple #[.agg #[.int .i64 0, .int .i64 0, .string ⟨#[]⟩], .int .i64 x]) ?_ rfl ⟨rfl, r, ?_, ?_⟩
  · simp [results, Try.results15, go_sem, q0, q1, q2]
  · exact HA.out.keepB (three_below (Below.refl w.heap.size W1) (Nat.le_refl _) _ _ _).drew hlt RLT.out
  · exact RStep.of_below (three_below B1.out (Nat.le_refl _) _ _ _).drew

/-- What is there ahead of the last lines of Next: its result at b, the packet at f. -/
structure NxC (w : World) (b f : Nat) (q : Nat) (r : Option Nat) (most : Int) (bs : List UInt8) (F : Nat × Nat × List UInt8) (W : World) : Prop where
  rd : RdAt W q r most bs 0
  st : RStep w W q r r
  cb : W.heap[b]? = some (.cells #[.int .i64 0, .int .i64 0, .string ⟨#[]⟩] 37 (0, 0))
  cf : W.heap[f]? = some (.cells #[.int .i64 F.1, .int .i64 F.2.1, .string (str F.2.2)] 37 (0, 0))
  bf : b ≠ f
  lb : w.heap.size ≤ b
  lf : w.heap.size ≤ f

theorem three_all {w : World} {b : Nat} {u v x u' v' x' : Value} {t : TypeId} (h : w.heap[b]? = some (.cells #[u, v, x] t (0, 0))) : (((w.setCell ⟨b, 0, none⟩ u').setCell ⟨b, 1, none⟩ v').setCell ⟨b, 2, none⟩ x').heap[b]? = some (.cells #[u', v', x'] t (0, 0)) := by
  simp [World.setCell, Array.getElem?_modify, h]

theorem far3_block {w : World} {b q : Nat} (h : q ≠ b) (u v x : Value) : (((w.setCell ⟨b, 0, none⟩ u).setCell ⟨b, 1, none⟩ v).setCell ⟨b, 2, none⟩ x).heap[q]? = w.heap[q]? := by
  rw [Below.heap_setCell _ _ _ _ h, Below.heap_setCell _ _ _ _ h, Below.heap_setCell _ _ _ _ h]
theorem far3 {w : World} {b q : Nat} (h : q ≠ b) (u v x : Value) (o : Nat) : (((w.setCell ⟨b, 0, none⟩ u).setCell ⟨b, 1, none⟩ v).setCell ⟨b, 2, none⟩ x).cell? ⟨q, o, none⟩ = w.cell? ⟨q, o, none⟩ :=
  World.cell?_of_block (far3_block h u v x)
theorem RStep.three {w W : World} {q b : Nat} {r r' : Option Nat} (h : RStep w W q r r') (hb : w.heap.size ≤ b) (u v x : Value) : RStep w (((W.setCell ⟨b, 0, none⟩ u).setCell ⟨b, 1, none⟩ v).setCell ⟨b, 2, none⟩ x) q r r' :=
  ⟨h.os, h.tape, h.output, by simpa [World.setCell] using h.size, fun k hk hq hr => (far3_block (by omega) _ _ _).trans (h.block k hk hq hr), h.row⟩

theorem RStep.errs {w W : World} {q : Nat} {r r' : Option Nat} (h : RStep w W q r r') (u v : Value) : RStep w ((W.setCell ⟨q, 2, none⟩ u).setCell ⟨q, 1, none⟩ v) q r none :=
  ⟨h.os, h.tape, h.output, by simpa [World.setCell] using h.size, fun k hk hq hr => by rw [Below.heap_setCell _ _ _ _ hq, Below.heap_setCell _ _ _ _ hq]; exact h.block k hk hq hr, fun g hg => by cases hg⟩

theorem NxC.ofCall {w W1 w3 : World} {q : Nat} {r : Option Nat} {most : Int} {bs : List UInt8} {F : Nat × Nat × List UInt8} (hA : RdAt W1 q r most bs 0) (hb : Below w.heap.size w W1) (hR : W1.heap[w.heap.size]? = some (.cells #[.int .i64 0, .int .i64 0, .string ⟨#[]⟩] 37 (0, 0))) (h3 : Below W1.heap.size W1 w3) :
    NxC w w.heap.size w3.heap.size q r most bs F (w3.alloc (.cells #[.int .i64 F.1, .int .i64 F.2.1, .string (str F.2.2)] 37)) := by
  have hlt := lt_of_block hR
  have hs := h3.size
  have hb3 := h3.alloc h3.size (.cells #[.int .i64 F.1, .int .i64 F.2.1, .string (str F.2.2)] 37)
  exact ⟨hA.below hb3, RStep.of_below (Below.next hb hb3), (hb3.block _ hlt).trans hR, heap_alloc_new w3 _, by omega, Nat.le_refl _, by omega⟩
theorem NxC.ofAlloc {w W1 w3 : World} {q : Nat} {r : Option Nat} {most : Int} {bs : List UInt8} {F : Nat × Nat × List UInt8} {o : Obj} (hA : RdAt W1 q r most bs 0) (hb : Below w.heap.size w W1) (hR : W1.heap[w.heap.size]? = some (.cells #[.int .i64 0, .int .i64 0, .string ⟨#[]⟩] 37 (0, 0))) (h3 : Below (W1.alloc o).heap.size (W1.alloc o) w3)
    (hd : w3.heap[W1.heap.size]? = some (.cells #[.int .i64 0, .int .i64 0, .string ⟨#[]⟩] 37 (0, 0))) :
    NxC w w.heap.size W1.heap.size q r most bs F (((w3.setCell ⟨W1.heap.size, 0, none⟩ (.int .i64 F.1)).setCell ⟨W1.heap.size, 1, none⟩ (.int .i64 F.2.1)).setCell ⟨W1.heap.size, 2, none⟩ (.string (str F.2.2))) := by
  have hlt := lt_of_block hR
  have hb3 := three_below (Below.next (below_one W1 o) h3) (Nat.le_refl _) (.int .i64 F.1) (.int .i64 F.2.1) (.string (str F.2.2))
  exact ⟨hA.below hb3, RStep.of_below (Below.next hb hb3), (hb3.block _ hlt).trans hR, three_all hd, by omega, Nat.le_refl _, by omega⟩

/-- What a packet that is there says. -/
theorem next_parts {most : Int} {bs : List UInt8} {k f : Nat} {b : List UInt8} (h : nextF most bs = ((k, f, b), 0)) : b.length ≤ 268435455 ∧ 1 + (varb 3 b.length).length + b.length ≤ bs.length ∧ k ≤ 15 ∧ f ≤ 15 ∧ chkB k f = true ∧ ((1 + (varb 3 b.length).length + b.length : Nat) : Int) ≤ most ∧ bs = frameL k f b ++ bs.drop (1 + (varb 3 b.length).length + b.length) := by
  cases bs with
  | nil => rw [nextF] at h; injection h with _ h; cases h
  | cons c t =>
    have hc := c.toNat_lt
    generalize hV : varT 3 0 0 (str t) 0 = V at *
    obtain ⟨n, s', x⟩ := V
    by_cases hk : chkB ((c.toNat / 16 : Nat) : Int) ((c.toNat % 16 : Nat) : Int) = true
    · by_cases hx : x = 0
      · subst hx
        by_cases hm : most < ((1 + (varb 3 n).length + n : Nat) : Int)
        · rw [next_big hk hV hm] at h; injection h with _ h; cases h
        · by_cases hl : (c :: t).length < 1 + (varb 3 n).length + n
          · rw [next_cut hk hV hm hl] at h; injection h with _ h; cases h
          · rw [next_ok hk hV hm hl] at h
            injection h with h _
            injection h with h1 h
            injection h with h2 h3
            obtain ⟨m, e1, e2, e3, _⟩ := varT_one 3 0 0 t n s' hV
            obtain rfl : n = m := by simpa using e1
            have hbl : b.length = n := by rw [← h3]; simp at hl ⊢; omega
            rw [List.length_cons] at hl
            rw [hbl]
            subst h1 h2
            refine ⟨by omega, by rw [List.length_cons]; omega, by omega, by omega, hk, by omega, ?_⟩
            rw [show 1 + (varb 3 n).length + n = ((varb 3 n).length + n) + 1 by omega, List.drop_succ_cons]
            unfold frameL
            have e4 : UInt8.ofNat (c.toNat / 16 * 16 + c.toNat % 16) = c := by rw [show c.toNat / 16 * 16 + c.toNat % 16 = c.toNat by omega]; exact byte_ofNat c
            rw [e4, hbl, ← h3, List.append_assoc, List.append_assoc, ← List.drop_drop, List.take_append_drop, List.singleton_append]
            congr 1
            conv => lhs; rw [e3]
            conv => rhs; rw [e3]
            rw [List.drop_left]
      · rw [next_num hk hV hx] at h; injection h with _ h; exact absurd h hx
    · rw [next_bad (by simpa using hk)] at h; injection h with _ h; cases h

/-- With an error there is no packet. -/
theorem next_none {most : Int} {bs : List UInt8} {F : Nat × Nat × List UInt8} {y : Int} (h : nextF most bs = (F, y)) (hy : y ≠ 0) : F = (0, 0, []) := by
  cases bs with
  | nil => rw [nextF] at h; injection h with h _; exact h.symm
  | cons c t =>
    unfold nextF at h
    repeat' split at h
    all_goals first
      | (injection h with h _; exact h.symm)
      | (injection h with _ h; exact absurd h.symm hy)

/-- What waits behind Next, and the error that stays. -/
def leftR (F : Nat × Nat × List UInt8) (y : Int) (bs : List UInt8) : List UInt8 := if y = 0 then bs.drop (1 + (varb 3 F.2.2.length).length + F.2.2.length) else if y = 1 then bs else []
def stayR (y : Int) : Int := if y = 1 then 0 else y

set_option maxRecDepth 100000 in
set_option maxHeartbeats 2000000 in
theorem next_calls (w : World) (q : Nat) (r : Option Nat) (most : Int) (bs : List UInt8) (F : Nat × Nat × List UInt8) (y : Int) (hF : nextF most bs = (F, y)) (hl : bs.length ≤ 1000000000) (h : RdAt w q r most bs 0) :
    Calls Try.prog 15 #[.pointer (some ⟨q, 0, none⟩)] w (NextR w q r most F y (leftR F y bs) (stayR y)) := by
  have hA := h.below (below_one w (.cells #[.int .i64 0, .int .i64 0, .string ⟨#[]⟩] 37))
  have hlt := h.lt
  have RLT := Lib.hid h.row_lt
  have HA := Lib.hid hA
  have B1 := Lib.hid (below_one w (.cells #[.int .i64 0, .int .i64 0, .string ⟨#[]⟩] 37))
  have R1 := Lib.hid (heap_alloc_new w (.cells #[.int .i64 0, .int .i64 0, .string ⟨#[]⟩] 37))
  have HF := Lib.hid hF
  obtain ⟨a, c, h1, h2, h3, h4⟩ := h
  obtain ⟨⟨c0, c1, c2⟩, f0, f1, f2⟩ := three_cells h1
  clear h1 h2 h3 hA hF h4
  go_enter Try.func15, Try.ntmps15
  go_wp2_with fail
  clear c0 c1 c2 f0 f1 f2
  generalize w.alloc (.cells #[.int .i64 0, .int .i64 0, .string ⟨#[]⟩] 37) = W1 at *
  obtain ⟨a', c', h1, h2, h3, h4⟩ := HA.out
  obtain ⟨⟨c0, c1, c2⟩, f0, f1, f2⟩ := three_cells h1
  have hq := lt_of_block R1.out
  have T0 := Lib.hid (show TailAt W1.drew (.slice a' bs.length c') bs from h2)
  have T1 := Lib.hid (show TailAt (W1.alloc (.cells #[.int .i64 0, .int .i64 0, .string ⟨#[]⟩] 37)).drew (.slice a' bs.length c') bs from h2.below (below_one W1 (.cells #[.int .i64 0, .int .i64 0, .string ⟨#[]⟩] 37)).drew)
  have HN1 := Lib.hid (show (W1.alloc (.cells #[.int .i64 0, .int .i64 0, .string ⟨#[]⟩] 37)).drew.heap[W1.heap.size]? = some (.cells #[.int .i64 0, .int .i64 0, .string ⟨#[]⟩] 37 (0, 0)) from heap_alloc_new W1 _)
  have hqW : q < W1.heap.size := Nat.lt_trans hlt hq
  have hqA : q < (W1.alloc (.cells #[.int .i64 0, .int .i64 0, .string ⟨#[]⟩] 37)).drew.heap.size := by show q < (W1.alloc _).heap.size; rw [World.size_alloc]; omega
  have HS1 := Lib.hid (show (W1.alloc (.cells #[.int .i64 0, .int .i64 0, .string ⟨#[]⟩] 37)).drew.cell? ⟨q, 1, none⟩ = some (.slice a' bs.length c') ∧ (W1.alloc (.cells #[.int .i64 0, .int .i64 0, .string ⟨#[]⟩] 37)).drew.cell? ⟨q, 0, none⟩ = some (.int .i64 most) from ⟨(World.cell?_alloc_lt W1 _ ⟨q, 1, none⟩ hqW).trans c1, (World.cell?_alloc_lt W1 _ ⟨q, 0, none⟩ hqW).trans c0⟩)
  have HS0 := Lib.hid (show W1.drew.cell? ⟨q, 1, none⟩ = some (.slice a' bs.length c') ∧ W1.drew.cell? ⟨q, 0, none⟩ = some (.int .i64 most) from ⟨c1, c0⟩)
  clear h1 h2 h3
  go_region_held3 (fun wx => wx.cell? ⟨q, 1, none⟩ = some (.slice a' bs.length c') ∧ wx.cell? ⟨q, 0, none⟩ = some (.int .i64 most))
    (first | (with_reducible exact HS0.out) | (with_reducible exact HS1.out) | (with_reducible exact And.intro k1 k0) | (with_reducible exact And.intro (Eq.trans (far3 (Nat.ne_of_lt hqW) _ _ _ _) k1) (Eq.trans (far3 (Nat.ne_of_lt hqW) _ _ _ _) k0)) | go_keep | fail)
    (first
      | (go_at_call 22; (with_reducible refine (first_calls _ a' c' most bs T0.out hl h4).mono ?_); rw [HF.out]; rintro e w3 ⟨rfl, b3⟩; have k1 := (b3.cell (p := ⟨q, 1, none⟩) (Nat.lt_trans hlt hq)).trans HS0.out.1; have k0 := (b3.cell (p := ⟨q, 0, none⟩) (Nat.lt_trans hlt hq)).trans HS0.out.2; have B3 := Lib.hid b3; clear b3)
      | (go_at_call 22; (with_reducible refine (first_calls _ a' c' most bs T1.out hl h4).mono ?_); rw [HF.out]; rintro e w3 ⟨rfl, b3⟩; have k1 := (b3.cell (p := ⟨q, 1, none⟩) hqA).trans HS1.out.1; have k0 := (b3.cell (p := ⟨q, 0, none⟩) hqA).trans HS1.out.2; have dd := (b3.block W1.heap.size (lt_of_block HN1.out)).trans HN1.out; have DD := Lib.hid dd; obtain ⟨⟨d0, d1, d2⟩, df0, df1, df2⟩ := three_cells dd; clear dd; have B3 := Lib.hid b3; clear b3))
  · have hN := NxC.ofCall (F := F) HA.out B1.out R1.out (show Below W1.heap.size W1 w3 from Below.trans ((Below.refl _ W1).drew) B3.out)
    clear k1 k0 HS0 HS1 T0 T1 HN1 B3 HA B1 R1 c0 c1 c2 f0 f1 f2 
    rename_i hHeld
    clear hHeld
    generalize w3.alloc (.cells #[.int .i64 F.1, .int .i64 F.2.1, .string (str F.2.2)] 37) = W at *
    generalize w3.heap.size = fb at *
    obtain ⟨kk, ff, body⟩ := F
    have hrow := hN.rd.row_ne
    have hqb : q ≠ w.heap.size := Nat.ne_of_lt hlt
    have hqf : q ≠ fb := by have := hN.lf; omega
    have hcf := hN.cf
    dsimp only at hcf
    have hsz := str_size body
    generalize hS : str body = Sb at hcf hsz ⊢
    dsimp only
    obtain ⟨⟨p0, p1, p2⟩, pf0, pf1, pf2⟩ := three_cells hcf
    obtain ⟨⟨q0, q1, q2⟩, qf0, qf1, qf2⟩ := three_cells hN.cb
    have hlb := lt_of_block hN.cb
    have hlf := lt_of_block hcf
    have hbf : w.heap.size ≠ fb := hN.bf
    have HCF := Lib.hid hcf
    have HN := Lib.hid hN
    have HS := Lib.hid hS
    have HSZ := Lib.hid hsz
    have HROW := Lib.hid hrow
    clear hcf hN hS hrow
    by_cases hy : y = 0
    · subst hy
      obtain ⟨hb1, hb2, -⟩ := next_parts HF.out
      have hnb : Sb.size ≤ 268435455 := by omega
      clear hsz hb1
      go_wp2_with fail
      refine (fsize_calls _ Sb.size hnb).mono ?_
      rw [HSZ.out]
      rintro e w4 ⟨rfl, rfl⟩
      go_wp2_with fail
      refine (drop_calls _ q r most bs _ hb2 HN.out.rd).mono ?_
      rintro e w5 ⟨rfl, r5, h5, s5⟩
      have c5f : w5.heap[fb]? = some (.cells #[.int .i64 kk, .int .i64 ff, .string Sb] 37 (0, 0)) := by
        have hfar := HN.out.rd.far HCF.out (by decide) (by decide)
        exact (s5.block fb hlf hfar.1 hfar.2).trans HCF.out
      have c5b : w5.heap[w.heap.size]? = some (.cells #[.int .i64 0, .int .i64 0, .string ⟨#[]⟩] 37 (0, 0)) := by
        have hfar := HN.out.rd.far HN.out.cb (by decide) (by decide)
        exact (s5.block _ hlb hfar.1 hfar.2).trans HN.out.cb
      clear p0 p1 p2 pf0 pf1 pf2 q0 q1 q2 qf0 qf1 qf2
      obtain ⟨⟨p0, p1, p2⟩, pf0, pf1, pf2⟩ := three_cells c5f
      obtain ⟨⟨q0, q1, q2⟩, qf0, qf1, qf2⟩ := three_cells c5b
      have hl5 := lt_of_block c5b
      have hl5f := lt_of_block c5f
      have H5 := Lib.hid h5
      have S5 := Lib.hid s5
      have hr5 : ∀ g, r5 = some g → g ≠ w.heap.size := by
        intro g hg e
        subst e
        have hfar := h5.far c5b (by decide) (by decide)
        exact hfar.2 hg.symm
      have HR5 := Lib.hid hr5
      clear c5f c5b h5 s5 hr5 hb2
      go_wp2
      refine bodyPost_ret (v := .tuple #[.agg #[.int .i64 kk, .int .i64 ff, .string Sb], .int .i64 0]) ?_ rfl ⟨by rw [← HS.out], r5, ?_, ?_⟩
      · simp [results, Try.results15, go_sem, q0, q1, q2]
      · obtain ⟨a5, c5, e1, e2, e3, e4⟩ := H5.out
        exact ⟨a5, c5, (far3_block hqb _ _ _).trans e1, e2.keep (fun g hg => far3_block (HR5.out g (e3.symm.trans hg)) _ _ _), e3, e4⟩
      · exact (HN.out.st.trans S5.out).three (Nat.le_refl _) _ _ _
    · have hFz := next_none HF.out hy
      injection hFz with hk0 hFz
      injection hFz with hf0 hb0
      subst hk0 hf0 hb0
      have hSe : Sb = ⟨#[]⟩ := HS.out.symm
      subst hSe
      have hyb : (y == 0) = false := by simpa using hy
      by_cases hy1 : y = 1
      · subst hy1
        clear hsz hyb hy
        go_wp2
        refine bodyPost_ret (v := .tuple #[.agg #[.int .i64 0, .int .i64 0, .string ⟨#[]⟩], .int .i64 1]) ?_ rfl ⟨rfl, r, ?_, ?_⟩
        · simp [results, Try.results15, go_sem, q0, q1, q2]
        · exact HN.out.rd.keepB (three_below (Below.refl w.heap.size W) (Nat.le_refl _) _ _ _) hlt RLT.out
        · exact HN.out.st.three (Nat.le_refl _) _ _ _
      · have hyb1 : (y != 1) = true := by simpa using hy1
        obtain ⟨a5, c5, e1, e2, e3, e4⟩ := HN.out.rd
        obtain ⟨⟨d0, d1, d2⟩, df0, df1, df2⟩ := three_cells e1
        have E1 := Lib.hid e1
        have hlq := lt_of_block e1
        have hqfr : fb ≠ q := fun e => hqf e.symm
        have hqbr : w.heap.size ≠ q := fun e => hqb e.symm
        have HY := Lib.hid hy
        have HY1 := Lib.hid hy1
        clear e1 e2 e3 e4 hsz hy hy1
        go_wp2
        refine bodyPost_ret (v := .tuple #[.agg #[.int .i64 0, .int .i64 0, .string ⟨#[]⟩], .int .i64 y]) ?_ rfl ⟨rfl, none, ?_, ?_⟩
        · simp [results, Try.results15, go_sem, q0, q1, q2]
        · rw [show leftR (0, 0, []) y bs = [] by unfold leftR; rw [if_neg HY.out, if_neg HY1.out], show stayR y = y by unfold stayR; rw [if_neg HY1.out]]
          exact ⟨none, 0, (far3_block hqb _ _ _).trans (three_set1 (three_set2 E1.out)), .inl ⟨rfl, rfl⟩, rfl, Nat.le_refl _⟩
        · exact (HN.out.st.errs _ _).three (Nat.le_refl _) _ _ _
  · have hN := NxC.ofAlloc (F := F) HA.out B1.out R1.out (show Below (W1.alloc _).heap.size (W1.alloc (.cells #[.int .i64 0, .int .i64 0, .string ⟨#[]⟩] 37)) w3 from Below.trans ((Below.refl _ _).drew) B3.out) DD.out
    clear k1 k0 HS0 HS1 T0 T1 HN1 B3 HA B1 R1 c0 c1 c2 f0 f1 f2 d0 d1 d2 df0 df1 df2 DD
    rename_i hHeld
    clear hHeld
    generalize ((w3.setCell ⟨W1.heap.size, 0, none⟩ (.int .i64 F.1)).setCell ⟨W1.heap.size, 1, none⟩ (.int .i64 F.2.1)).setCell ⟨W1.heap.size, 2, none⟩ (.string (str F.2.2)) = W at *
    generalize W1.heap.size = fb at *
    obtain ⟨kk, ff, body⟩ := F
    have hrow := hN.rd.row_ne
    have hqb : q ≠ w.heap.size := Nat.ne_of_lt hlt
    have hqf : q ≠ fb := by have := hN.lf; omega
    have hcf := hN.cf
    dsimp only at hcf
    have hsz := str_size body
    generalize hS : str body = Sb at hcf hsz ⊢
    dsimp only
    obtain ⟨⟨p0, p1, p2⟩, pf0, pf1, pf2⟩ := three_cells hcf
    obtain ⟨⟨q0, q1, q2⟩, qf0, qf1, qf2⟩ := three_cells hN.cb
    have hlb := lt_of_block hN.cb
    have hlf := lt_of_block hcf
    have hbf : w.heap.size ≠ fb := hN.bf
    have HCF := Lib.hid hcf
    have HN := Lib.hid hN
    have HS := Lib.hid hS
    have HSZ := Lib.hid hsz
    have HROW := Lib.hid hrow
    clear hcf hN hS hrow
    by_cases hy : y = 0
    · subst hy
      obtain ⟨hb1, hb2, -⟩ := next_parts HF.out
      have hnb : Sb.size ≤ 268435455 := by omega
      clear hsz hb1
      go_wp2_with fail
      refine (fsize_calls _ Sb.size hnb).mono ?_
      rw [HSZ.out]
      rintro e w4 ⟨rfl, rfl⟩
      go_wp2_with fail
      refine (drop_calls _ q r most bs _ hb2 HN.out.rd).mono ?_
      rintro e w5 ⟨rfl, r5, h5, s5⟩
      have c5f : w5.heap[fb]? = some (.cells #[.int .i64 kk, .int .i64 ff, .string Sb] 37 (0, 0)) := by
        have hfar := HN.out.rd.far HCF.out (by decide) (by decide)
        exact (s5.block fb hlf hfar.1 hfar.2).trans HCF.out
      have c5b : w5.heap[w.heap.size]? = some (.cells #[.int .i64 0, .int .i64 0, .string ⟨#[]⟩] 37 (0, 0)) := by
        have hfar := HN.out.rd.far HN.out.cb (by decide) (by decide)
        exact (s5.block _ hlb hfar.1 hfar.2).trans HN.out.cb
      clear p0 p1 p2 pf0 pf1 pf2 q0 q1 q2 qf0 qf1 qf2
      obtain ⟨⟨p0, p1, p2⟩, pf0, pf1, pf2⟩ := three_cells c5f
      obtain ⟨⟨q0, q1, q2⟩, qf0, qf1, qf2⟩ := three_cells c5b
      have hl5 := lt_of_block c5b
      have hl5f := lt_of_block c5f
      have H5 := Lib.hid h5
      have S5 := Lib.hid s5
      have hr5 : ∀ g, r5 = some g → g ≠ w.heap.size := by
        intro g hg e
        subst e
        have hfar := h5.far c5b (by decide) (by decide)
        exact hfar.2 hg.symm
      have HR5 := Lib.hid hr5
      clear c5f c5b h5 s5 hr5 hb2
      go_wp2
      refine bodyPost_ret (v := .tuple #[.agg #[.int .i64 kk, .int .i64 ff, .string Sb], .int .i64 0]) ?_ rfl ⟨by rw [← HS.out], r5, ?_, ?_⟩
      · simp [results, Try.results15, go_sem, q0, q1, q2]
      · obtain ⟨a5, c5, e1, e2, e3, e4⟩ := H5.out
        exact ⟨a5, c5, (far3_block hqb _ _ _).trans e1, e2.keep (fun g hg => far3_block (HR5.out g (e3.symm.trans hg)) _ _ _), e3, e4⟩
      · exact (HN.out.st.trans S5.out).three (Nat.le_refl _) _ _ _
    · have hFz := next_none HF.out hy
      injection hFz with hk0 hFz
      injection hFz with hf0 hb0
      subst hk0 hf0 hb0
      have hSe : Sb = ⟨#[]⟩ := HS.out.symm
      subst hSe
      have hyb : (y == 0) = false := by simpa using hy
      by_cases hy1 : y = 1
      · subst hy1
        clear hsz hyb hy
        go_wp2
        refine bodyPost_ret (v := .tuple #[.agg #[.int .i64 0, .int .i64 0, .string ⟨#[]⟩], .int .i64 1]) ?_ rfl ⟨rfl, r, ?_, ?_⟩
        · simp [results, Try.results15, go_sem, q0, q1, q2]
        · exact HN.out.rd.keepB (three_below (Below.refl w.heap.size W) (Nat.le_refl _) _ _ _) hlt RLT.out
        · exact HN.out.st.three (Nat.le_refl _) _ _ _
      · have hyb1 : (y != 1) = true := by simpa using hy1
        obtain ⟨a5, c5, e1, e2, e3, e4⟩ := HN.out.rd
        obtain ⟨⟨d0, d1, d2⟩, df0, df1, df2⟩ := three_cells e1
        have E1 := Lib.hid e1
        have hlq := lt_of_block e1
        have hqfr : fb ≠ q := fun e => hqf e.symm
        have hqbr : w.heap.size ≠ q := fun e => hqb e.symm
        have HY := Lib.hid hy
        have HY1 := Lib.hid hy1
        clear e1 e2 e3 e4 hsz hy hy1
        go_wp2
        refine bodyPost_ret (v := .tuple #[.agg #[.int .i64 0, .int .i64 0, .string ⟨#[]⟩], .int .i64 y]) ?_ rfl ⟨rfl, none, ?_, ?_⟩
        · simp [results, Try.results15, go_sem, q0, q1, q2]
        · rw [show leftR (0, 0, []) y bs = [] by unfold leftR; rw [if_neg HY.out, if_neg HY1.out], show stayR y = y by unfold stayR; rw [if_neg HY1.out]]
          exact ⟨none, 0, (far3_block hqb _ _ _).trans (three_set1 (three_set2 E1.out)), .inl ⟨rfl, rfl⟩, rfl, Nat.le_refl _⟩
        · exact (HN.out.st.errs _ _).three (Nat.le_refl _) _ _ _

#print axioms next_calls
end Go.Proofs.Ytdhdjkpocdfjbaa
