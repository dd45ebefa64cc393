/-
  PublishReads: what was read, side by side. (No statement: facts that the proof of the statement uses.)
-/
import Derived.Test.YtacffjimkplieaaDoorJRds4
import Derived.Test.YtacffjimkplieaaDoorJPbk1
import Derived.Test.YtacffjimkplieaaDoorJSub3
import Derived.Deep.CutRange
namespace Go.Proofs.YtacffjimkplieaaDoor
open Go.RowKit

/-- The four answers, each in its block. -/
structure RdJ (w : World) (pb qb ab bb : Nat) (D R : Bool) (Q n : Int) (tp pl : ByteArray) (m : Nat) (va vb : Option Addr) (vac vbc : Nat) (ps : List Pr) (k i c : Int) (l : Nat) (ua ub : Option Addr) (uac ubc : Nat) (qs : List Pr) (V : World) : Prop where
  bel : Below w.heap.size w V
  p : V.heap[pb]? = some (.cells #[.bool D, .bool R, .int .u8 Q, .int .u32 n, .slice va m vac, .string tp, .string pl] 63 (0, 0))
  q : V.heap[qb]? = some (.cells #[.bool D, .bool R, .int .u8 Q, .int .u32 n, .slice vb m vbc, .string tp, .string pl] 67 (0, 0))
  a : V.heap[ab]? = some (.cells #[.int .i64 k, .int .u32 i, .int .u8 c, .slice ua l uac] 71 (0, 0))
  b : V.heap[bb]? = some (.cells #[.int .i64 k, .int .u32 i, .int .u8 c, .slice ub l ubc] 75 (0, 0))
  p1 : PropsAt V (.slice va m vac) ps
  p2 : PropsAt V (.slice vb m vbc) ps
  p3 : PropsAt V (.slice ua l uac) qs
  p4 : PropsAt V (.slice ub l ubc) qs
def RdC (pb qb ab bb : Nat) (D R : Bool) (Q n : Int) (tp pl : ByteArray) (m : Nat) (va vb : Option Addr) (vac vbc : Nat) (k i c : Int) (l : Nat) (ua ub : Option Addr) (uac ubc : Nat) (V : World) : Prop :=
  (V.cell? ⟨pb, 0, none⟩ = some (.bool D) ∧ V.cell? ⟨pb, 1, none⟩ = some (.bool R) ∧ V.cell? ⟨pb, 2, none⟩ = some (.int .u8 Q) ∧ V.cell? ⟨pb, 3, none⟩ = some (.int .u32 n) ∧ V.cell? ⟨pb, 4, none⟩ = some (.slice va m vac) ∧ V.cell? ⟨pb, 5, none⟩ = some (.string tp) ∧ V.cell? ⟨pb, 6, none⟩ = some (.string pl)) ∧
  (V.cell? ⟨qb, 0, none⟩ = some (.bool D) ∧ V.cell? ⟨qb, 1, none⟩ = some (.bool R) ∧ V.cell? ⟨qb, 2, none⟩ = some (.int .u8 Q) ∧ V.cell? ⟨qb, 3, none⟩ = some (.int .u32 n) ∧ V.cell? ⟨qb, 4, none⟩ = some (.slice vb m vbc) ∧ V.cell? ⟨qb, 5, none⟩ = some (.string tp) ∧ V.cell? ⟨qb, 6, none⟩ = some (.string pl)) ∧
  (V.cell? ⟨ab, 0, none⟩ = some (.int .i64 k) ∧ V.cell? ⟨ab, 1, none⟩ = some (.int .u32 i) ∧ V.cell? ⟨ab, 2, none⟩ = some (.int .u8 c) ∧ V.cell? ⟨ab, 3, none⟩ = some (.slice ua l uac)) ∧
  (V.cell? ⟨bb, 0, none⟩ = some (.int .i64 k) ∧ V.cell? ⟨bb, 1, none⟩ = some (.int .u32 i) ∧ V.cell? ⟨bb, 2, none⟩ = some (.int .u8 c) ∧ V.cell? ⟨bb, 3, none⟩ = some (.slice ub l ubc))
section
variable {w V V' : World} {pb qb ab bb : Nat} {D R : Bool} {Q n : Int} {tp pl : ByteArray} {m : Nat} {va vb : Option Addr} {vac vbc : Nat} {ps : List Pr} {k i c : Int} {l : Nat} {ua ub : Option Addr} {uac ubc : Nat} {qs : List Pr}
theorem RdJ.cells (h : RdJ w pb qb ab bb D R Q n tp pl m va vb vac vbc ps k i c l ua ub uac ubc qs V) : RdC pb qb ab bb D R Q n tp pl m va vb vac vbc k i c l ua ub uac ubc V := by
  obtain ⟨p0, p1, p2, p3, p4, p5, p6, -⟩ := cells7 h.p
  obtain ⟨q0, q1, q2, q3, q4, q5, q6, -⟩ := cells7 h.q
  obtain ⟨a0, a1, a2, a3, -⟩ := cells4 h.a
  obtain ⟨b0, b1, b2, b3, -⟩ := cells4 h.b
  exact ⟨⟨p0, p1, p2, p3, p4, p5, p6⟩, ⟨q0, q1, q2, q3, q4, q5, q6⟩, ⟨a0, a1, a2, a3⟩, b0, b1, b2, b3⟩
theorem RdJ.below (h : RdJ w pb qb ab bb D R Q n tp pl m va vb vac vbc ps k i c l ua ub uac ubc qs V) (hb : Below V.heap.size V V') : RdJ w pb qb ab bb D R Q n tp pl m va vb vac vbc ps k i c l ua ub uac ubc qs V' :=
  ⟨Below.next h.bel hb, (hb.block _ (lt_of_block h.p)).trans h.p, (hb.block _ (lt_of_block h.q)).trans h.q, (hb.block _ (lt_of_block h.a)).trans h.a, (hb.block _ (lt_of_block h.b)).trans h.b, h.p1.below hb, h.p2.below hb, h.p3.below hb, h.p4.below hb⟩
theorem RdJ.drew (h : RdJ w pb qb ab bb D R Q n tp pl m va vb vac vbc ps k i c l ua ub uac ubc qs V) : RdJ w pb qb ab bb D R Q n tp pl m va vb vac vbc ps k i c l ua ub uac ubc qs V.drew :=
  ⟨h.bel.drew, h.p, h.q, h.a, h.b, h.p1, h.p2, h.p3, h.p4⟩
end

theorem pack_len {k : Int} {body : ByteArray} {n c : Int} {ps : List Pr} {s1 : ByteArray} {x1 : Int} {s2 : ByteArray} {x2 : Int} {s3 : ByteArray} {x3 : Int} (h : PackOf k body n c ps 0 s1 x1 s2 x2 s3 x3) (hb : body.size ≤ 1000) : ps.length ≤ 1000000 := by
  obtain ⟨hi, hc, hp, he⟩ := h
  have hx : x3 = 0 := by
    refine Classical.byContradiction fun hx => ?_
    exact (end_ne s3 x3 hx).1 he
  subst hx
  have h1 : s1.size ≤ body.size := by
    have := rawT_left body 0 2
    unfold idT at hi
    injection hi with e1 e2
    injection e2 with e2 e3
    rw [e2] at this
    exact this
  have h2 : s2.size ≤ s1.size := by
    unfold codeP at hc
    split at hc
    · injection hc with e1 e2
      injection e2 with e2 e3
      rw [e2]
      exact Nat.le_refl _
    · have := rawT_left s1 x1 1
      unfold codeT at hc
      injection hc with e1 e2
      injection e2 with e2 e3
      rw [e2] at this
      exact this
  unfold propP at hp
  split at hp
  · injection hp with e1 e2
    rw [← e1]
    decide
  · have := (take_invX hp).2.2.2
    rw [ba_size] at this
    omega

#print axioms pack_len
end Go.Proofs.YtacffjimkplieaaDoor
