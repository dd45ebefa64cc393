/-
  A list of acts on a queue that came in. (No statement: contracts that the proofs of the statements use.)
-/
import Derived.Test.YteofjcmpelcmaaaJPlq1
namespace Go.Proofs.Yteofjcmpelcmaaa
open Go.RowKit Go.ChangeShapes Go.WideShapes Go.Deep

/-- An act: its kind, its tick, its message. -/
structure Ac where
  kind : Int
  now : Int
  m : Ms
  v : Value
/-- A list of acts that came in. -/
def QActsIn (W : World) (v : Value) (X : List Ac) : Prop :=
  ∃ A cap, v = .slice A X.length cap ∧ X.length ≤ maxLen ∧ ∀ (i : Nat) (e : Ac), X[i]? = some e → MsIn W e.m e.v ∧
    ∃ b off, A = some ⟨b, off, none⟩ ∧ b < W.heap.size ∧ W.cell? ⟨b, off + i * 9, none⟩ = some (.int .i64 e.kind) ∧ W.cell? ⟨b, off + i * 9 + 1, none⟩ = some (.int .i64 e.now) ∧ ∀ j, j < 7 → W.cell? ⟨b, off + i * 9 + 2 + j, none⟩ = (msC e.m e.v)[j]?

set_option maxRecDepth 100000 in
theorem open_cellsAct {H : Type} {enc : TypeId × Value → H} {W : World} {fs : Array Field} {A : Option Addr} {len cap fuel : Nat} {x : DataW H × List MemPlace} (hM : Try.prog.underlying 50 = some (.struct fs)) (hone : oneCellFields Try.prog fs = true) (hfs : fs.size = 7)
    (hf : DataW.trod enc Try.prog W 0 (fun _ => true) true fuel 66 [.slice A len cap] = some x) :
    len ≤ cap ∧ cap ≤ maxLen ∧ ∀ i, i < len → ∃ ad, A = some ad ∧ (∃ u n y, W.cell? (ad.add (i * 9 + 0)) = some u ∧ DataW.trod enc Try.prog W 0 (fun _ => true) true n 3 [u] = some y) ∧
      (∃ u n y, W.cell? (ad.add (i * 9 + 1)) = some u ∧ DataW.trod enc Try.prog W 0 (fun _ => true) true n 3 [u] = some y) ∧ ∀ (j : Nat) (f : Field), fs[j]? = some f →
      ∃ u n y, W.cell? (ad.add (i * 9 + (2 + j))) = some u ∧ DataW.trod enc Try.prog W 0 (fun _ => true) true n f.type [u] = some y := by
  have z0 : Try.prog.cellsOf 3 = 1 := by kernel_rfl
  have z1 : Try.prog.cellsOf 50 = 7 := by kernel_rfl
  have z2 : Try.prog.cellsOf 71 = 9 := by kernel_rfl
  rcases open_slice Try.underlying66 hf with ⟨hcs, _⟩ | ⟨ad, l, c, m, n, D, Pl, hcs, _, hl, hm, hmm, _, hall⟩
  · simp at hcs
    obtain ⟨rfl, rfl, rfl⟩ := hcs
    exact ⟨Nat.le_refl _, Nat.zero_le _, fun i hi => absurd hi (Nat.not_lt_zero _)⟩
  · simp at hcs
    obtain ⟨rfl, rfl, rfl⟩ := hcs
    simp only [if_true] at hmm
    refine ⟨hl, hm, fun i hi => ⟨ad, rfl, ?_⟩⟩
    obtain ⟨cs, hc, htr⟩ := hall i (by omega)
    rw [z2] at hc
    obtain ⟨xs, k, _, _, _, hxl, hfields⟩ := DataW.trod_struct Try.underlying71 htr
    obtain ⟨_, hlen, hat⟩ := World.cells?_some hc
    have hx3 : xs.length = 3 := hxl
    have one : ∀ j, j < cs.length → ∃ u, cs[j]? = some u ∧ (cs.drop j).take 1 = [u] := fun j hj => by
      obtain ⟨u, hu⟩ : ∃ u, cs[j]? = some u := ⟨_, List.getElem?_eq_getElem hj⟩
      refine ⟨u, hu, ?_⟩
      rw [List.drop_eq_getElem_cons hj, List.take_succ_cons, List.take_zero, (List.getElem?_eq_some_iff.1 hu).2]
    have h0 : DataW.trod enc Try.prog W 0 (fun _ => true) true k 3 ((cs.drop 0).take (Try.prog.cellsOf 3)) = xs[0]? := hfields 0 _ rfl
    have h1 : DataW.trod enc Try.prog W 0 (fun _ => true) true k 3 ((cs.drop 1).take (Try.prog.cellsOf 3)) = xs[1]? := hfields 1 _ rfl
    have h2 : DataW.trod enc Try.prog W 0 (fun _ => true) true k 50 ((cs.drop 2).take (Try.prog.cellsOf 50)) = xs[2]? := hfields 2 _ rfl
    rw [z0] at h0 h1
    rw [z1] at h2
    obtain ⟨u0, g0, e0⟩ := one 0 (by omega)
    obtain ⟨u1, g1, e1⟩ := one 1 (by omega)
    rw [e0] at h0
    rw [e1] at h1
    rw [List.getElem?_eq_getElem (show 2 < xs.length by omega)] at h2
    obtain ⟨ys, k2, _, _, _, hyl, hf2⟩ := DataW.trod_struct hM h2
    refine ⟨⟨u0, k, _, by rw [← add_add, hat 0 (by omega), g0], h0.trans (List.getElem?_eq_getElem (show 0 < xs.length by omega))⟩, ⟨u1, k, _, by rw [← add_add, hat 1 (by omega), g1], h1.trans (List.getElem?_eq_getElem (show 1 < xs.length by omega))⟩, fun j f hj => ?_⟩
    obtain ⟨hoff, hone1⟩ := hone_of hone j f hj
    have hjs : j < fs.size := (Array.getElem?_eq_some_iff.1 hj).1
    have h3 := hf2 j f hj
    rw [hoff, hone1] at h3
    obtain ⟨u, gu, eu⟩ := one (2 + j) (by omega)
    have e3 : (((cs.drop 2).take 7).drop j).take 1 = [u] := by
      rw [List.drop_take, List.drop_drop, List.take_take, Nat.min_eq_left (by omega), eu]
    rw [e3] at h3
    exact ⟨u, k2, _, by rw [← add_add, hat (2 + j) (by omega), gu], h3.trans (List.getElem?_eq_getElem (show j < ys.length by omega))⟩

set_option maxRecDepth 100000 in
theorem open_qactsIn {H : Type} {enc : TypeId × Value → H} {W : World} {v : Value} {d : DataW H} {p : List MemPlace} {base : Nat} (hv : Value.okWide Try.prog W .any base 66 v) (h : DataW.Trod enc Try.prog W 0 (fun _ => true) true 66 v d p) :
    ∃ X, QActsIn W v X := by
  obtain ⟨A, len, cap, rfl⟩ := okWide_slice Try.underlying66 hv
  obtain ⟨fuel, hf⟩ := h
  obtain ⟨hl, hm, hall⟩ := open_cellsAct Try.underlying50 (by kernel_rfl) (by kernel_rfl) hf
  haveI : Inhabited Ac := ⟨⟨0, 0, ⟨⟨#[]⟩, 0, 0, false, [], ⟨#[]⟩, ⟨#[]⟩⟩, .slice none 0 0⟩⟩
  obtain ⟨f, hf⟩ := choose_lt (α := Ac) (n := len) (p := fun i e => MsIn W e.m e.v ∧ ∃ b off, A = some ⟨b, off, none⟩ ∧ b < W.heap.size ∧ W.cell? ⟨b, off + i * 9, none⟩ = some (.int .i64 e.kind) ∧ W.cell? ⟨b, off + i * 9 + 1, none⟩ = some (.int .i64 e.now) ∧ ∀ j, j < 7 → W.cell? ⟨b, off + i * 9 + 2 + j, none⟩ = (msC e.m e.v)[j]?) (by
    intro i hi
    obtain ⟨ad, rfl, ⟨uk, nk, yk, ck, tk⟩, ⟨un, nn, yn, cn, tn⟩, hc⟩ := hall i hi
    obtain ⟨u0, n0, y0, c0, t0⟩ := hc 0 _ rfl
    obtain ⟨u1, n1, y1, c1, t1⟩ := hc 1 _ rfl
    obtain ⟨u2, n2, y2, c2, t2⟩ := hc 2 _ rfl
    obtain ⟨u3, n3, y3, c3, t3⟩ := hc 3 _ rfl
    obtain ⟨u4, n4, y4, c4, t4⟩ := hc 4 _ rfl
    obtain ⟨u5, n5, y5, c5, t5⟩ := hc 5 _ rfl
    obtain ⟨u6, n6, y6, c6, t6⟩ := hc 6 _ rfl
    obtain ⟨kk, ek, _, wk⟩ := DataW.trod_int Try.underlying3 tk
    obtain ⟨kn, en, _, wn⟩ := DataW.trod_int Try.underlying3 tn
    obtain ⟨s0, e0, _, w0⟩ := DataW.trod_string Try.underlying9 t0
    obtain ⟨k, e1, _, w1⟩ := DataW.trod_int Try.underlying3 t1
    obtain ⟨q, e2, _, w2⟩ := DataW.trod_int Try.underlying5 t2
    obtain ⟨r, e3, _⟩ := DataW.trod_bool Try.underlying4 t3
    obtain ⟨a, l, c, e4⟩ := Go.Joins.slice_form Try.underlying48 t4
    obtain ⟨s5, e5, _, w5⟩ := DataW.trod_string Try.underlying9 t5
    obtain ⟨s6, e6, _, w6⟩ := DataW.trod_string Try.underlying9 t6
    simp only [List.cons.injEq, and_true] at ek en e0 e1 e2 e3 e4 e5 e6
    subst ek en e0 e1 e2 e3 e4 e5 e6
    obtain ⟨L, hL, hLn⟩ := open_listF (show DataW.trod enc Try.prog W 0 (fun _ => true) true n4 48 [.slice a l c] = some y4 from t4)
    obtain ⟨b, off, spot⟩ := ad
    have hsp : spot = none := by
      obtain ⟨ad', ea, ⟨u', _, _, c', _⟩, _⟩ := hall 0 (by omega)
      injection ea with ea
      subst ea
      simpa [Addr.add] using World.cell?_spot c'
    subst hsp
    have hq := bounds_u8 w2
    simp only [Addr.add_lit, Nat.add_zero] at ck cn c0 c1 c2 c3 c4 c5 c6
    refine ⟨⟨kk, kn, ⟨s0, k, q, r, L, s5, s6⟩, .slice a l c⟩, ⟨hL, w0, w5, w6, bounds_i64 w1, hq.1, Int.lt_of_le_of_lt hq.2 (by decide)⟩, b, off, rfl, World.block_lt_of_cell? W _ c0, ck, by rw [Nat.add_assoc]; exact cn, fun j hj => ?_⟩
    rw [Nat.add_assoc, Nat.add_assoc]
    match j, hj with
    | 0, _ => exact c0
    | 1, _ => exact c1
    | 2, _ => exact c2
    | 3, _ => exact c3
    | 4, _ => exact c4
    | 5, _ => exact c5
    | 6, _ => exact c6)
  refine ⟨(List.range len).map f, A, cap, by simp, by simp; omega, fun i e he => ?_⟩
  simp only [List.getElem?_map, Option.map_eq_some_iff] at he
  obtain ⟨i', hi', rfl⟩ := he
  obtain ⟨hlt, he⟩ := List.getElem?_eq_some_iff.1 hi'
  simp at hlt he
  subst he
  exact hf i hlt

#print axioms open_qactsIn
end Go.Proofs.Yteofjcmpelcmaaa
