/-
  How a Publish and an answer that came in are read, their lists too. (No statement.)
-/
import Derived.Test.YtdbocpkeafcmaaaDoorJOpenPub
import Derived.Test.YtdbocpkeafcmaaaDoorJPub4
namespace Go.Proofs.YtdbocpkeafcmaaaDoor
open Go.RowKit Go.ChangeShapes Go.WideShapes Go.Deep

set_option maxRecDepth 100000 in
/-- A slice of structs, each field one cell, that came in: each element's cells, each with its reading. -/
theorem open_cellsF {H : Type} {enc : TypeId × Value → H} {W : World} {t e : TypeId} {fs : Array Field} {A : Option Addr} {len cap fuel : Nat} {x : DataW H × List MemPlace} (ht : Tryd.prog.underlying t = some (.slice e)) (he : Tryd.prog.underlying e = some (.struct fs))
    (hone : oneCellFields Tryd.prog fs = true) (hC : Tryd.prog.cellsOf e = fs.size) (hf : DataW.trod enc Tryd.prog W 0 (fun _ => true) true fuel t [.slice A len cap] = some x) :
    len ≤ cap ∧ cap ≤ maxLen ∧ ∀ i, i < len → ∃ ad, A = some ad ∧ ∀ (j : Nat) (f : Field), fs[j]? = some f →
      ∃ u n y, W.cell? (ad.add (i * fs.size + j)) = some u ∧ DataW.trod enc Tryd.prog W 0 (fun _ => true) true n f.type [u] = some y := by
  rcases open_slice ht hf with ⟨hcs, _⟩ | ⟨ad, l, c, m, n, D, Pl, hcs, _, hl, hm, hmm, _, hall⟩
  · simp at hcs
    obtain ⟨rfl, rfl, rfl⟩ := hcs
    exact ⟨Nat.le_refl _, Nat.zero_le _, fun i hi => absurd hi (Nat.not_lt_zero _)⟩
  · simp at hcs
    obtain ⟨rfl, rfl, rfl⟩ := hcs
    simp only [if_true] at hmm
    refine ⟨hl, hm, fun i hi => ⟨ad, rfl, fun j f hj => ?_⟩⟩
    obtain ⟨cs, hc, htr⟩ := hall i (by omega)
    rw [hC] at hc
    obtain ⟨xs, k, _, _, _, hxl, hfields⟩ := DataW.trod_struct he htr
    obtain ⟨_, hlen, hat⟩ := World.cells?_some hc
    obtain ⟨hoff, hone1⟩ := hone_of hone j f hj
    have hjs : j < fs.size := (Array.getElem?_eq_some_iff.1 hj).1
    have h1 := hfields j f hj
    rw [hoff, hone1] at h1
    obtain ⟨u, hu⟩ : ∃ u, cs[j]? = some u := ⟨_, List.getElem?_eq_getElem (show j < cs.length by omega)⟩
    have e1 : (cs.drop j).take 1 = [u] := by
      rw [List.drop_eq_getElem_cons (show j < cs.length by omega), List.take_succ_cons, List.take_zero, (List.getElem?_eq_some_iff.1 hu).2]
    rw [e1] at h1
    exact ⟨u, k, _, by rw [← add_add, hat j hjs, hu], h1.trans (List.getElem?_eq_getElem (show j < xs.length by omega))⟩

set_option maxRecDepth 100000 in
theorem open_listF {H : Type} {enc : TypeId × Value → H} {W : World} {A : Option Addr} {len cap fuel : Nat} {y : DataW H × List MemPlace} (h : DataW.trod enc Tryd.prog W 0 (fun _ => true) true fuel 27 [.slice A len cap] = some y) :
    ∃ P, PropsIn W (.slice A len cap) P ∧ P.length = len := by
  obtain ⟨hl, hm, hall⟩ := open_cellsF (e := 41) Tryd.underlying27 Tryd.underlying41 (by kernel_rfl) (by kernel_rfl) h
  haveI : Inhabited Pr := ⟨⟨0, 0, ⟨#[]⟩, ⟨#[]⟩⟩⟩
  obtain ⟨f, hf⟩ := choose_lt (α := Pr) (n := len) (p := fun i x => (∃ b off, A = some ⟨b, off, none⟩ ∧ b < W.heap.size ∧ W.cell? ⟨b, off + i * 4, none⟩ = some (.int .i64 x.id) ∧ W.cell? ⟨b, off + i * 4 + 1, none⟩ = some (.int .u32 x.n) ∧ W.cell? ⟨b, off + i * 4 + 2, none⟩ = some (.string x.s) ∧ W.cell? ⟨b, off + i * 4 + 3, none⟩ = some (.string x.t)) ∧
      0 ≤ x.n ∧ x.n < 4294967296 ∧ x.s.size ≤ maxLen ∧ x.t.size ≤ maxLen) (by
    intro i hi
    obtain ⟨ad, rfl, hc⟩ := hall i hi
    obtain ⟨u0, n0, y0, c0, t0⟩ := hc 0 _ rfl
    obtain ⟨u1, n1, y1, c1, t1⟩ := hc 1 _ rfl
    obtain ⟨u2, n2, y2, c2, t2⟩ := hc 2 _ rfl
    obtain ⟨u3, n3, y3, c3, t3⟩ := hc 3 _ rfl
    obtain ⟨k, e0, _, _⟩ := DataW.trod_int Tryd.underlying3 t0
    obtain ⟨n, e1, _, wn⟩ := DataW.trod_int Tryd.underlying39 t1
    obtain ⟨s, e2, _, hs⟩ := DataW.trod_string Tryd.underlying9 t2
    obtain ⟨s', e3, _, hs'⟩ := DataW.trod_string Tryd.underlying9 t3
    simp only [List.cons.injEq, and_true] at e0 e1 e2 e3
    subst e0 e1 e2 e3
    obtain ⟨b, off, spot⟩ := ad
    have hsp : spot = none := by
      obtain ⟨ad', ea, hc'⟩ := hall 0 (by omega)
      injection ea with ea
      subst ea
      obtain ⟨u', _, _, c', _⟩ := hc' 0 _ rfl
      simpa [Addr.add] using World.cell?_spot c'
    subst hsp
    have hb := bounds_u32 wn
    simp only [Addr.add_lit] at c0 c1 c2 c3
    exact ⟨⟨k, n, s, s'⟩, ⟨b, off, rfl, World.block_lt_of_cell? W _ c0, c0, c1, c2, c3⟩, hb.1, Int.lt_of_le_of_lt hb.2 (by decide), hs, hs'⟩)
  refine ⟨(List.range len).map f, ⟨⟨A, cap, by simp, fun i x hx => ?_⟩, by simp; omega, fun x hx => ?_⟩, by simp⟩
  · simp only [List.getElem?_map, Option.map_eq_some_iff] at hx
    obtain ⟨i', hi', rfl⟩ := hx
    obtain ⟨hlt, he⟩ := List.getElem?_eq_some_iff.1 hi'
    simp at hlt he
    subst he
    exact (hf i hlt).1
  · obtain ⟨i, hi, rfl⟩ := List.mem_map.1 hx
    exact (hf i (List.mem_range.1 hi)).2

/-- A Publish that came in: its parts, its list's slice. -/
structure PubArgL (W : World) (v : Value) (x : Pb × Option Addr × Nat × Nat) : Prop where
  is : v = pbV x.1 (.slice x.2.1 x.2.2.1 x.2.2.2)
  q0 : 0 ≤ x.1.q
  q1 : x.1.q < 256
  i0 : 0 ≤ x.1.id
  i1 : x.1.id < 4294967296
  tp : x.1.tp.size ≤ maxLen
  pl : x.1.pl.size ≤ maxLen
  ps : PropsIn W (.slice x.2.1 x.2.2.1 x.2.2.2) x.1.ps
  pn : x.1.ps.length = x.2.2.1

set_option maxRecDepth 100000 in
theorem open_publ {H : Type} {enc : TypeId × Value → H} {W : World} {v : Value} {d : DataW H} {p : List MemPlace} {base : Nat} (hv : Value.okWide Tryd.prog W .any base 86 v) (h : DataW.Trod enc Tryd.prog W 0 (fun _ => true) true 86 v d p) :
    ∃ x, PubArgL W v x := by
  obtain ⟨cs, rfl, hsz⟩ := okWide_struct Tryd.underlying86 hv
  obtain ⟨c0, c1, c2, c3, c4, c5, c6, rfl⟩ := array7 (hsz.trans (by kernel_rfl))
  obtain ⟨fuel, hf⟩ := h
  obtain ⟨xs, n, _, _, _, hlen, hall⟩ := DataW.trod_struct Tryd.underlying86 hf
  have h0 := hall 0 _ rfl
  have h1 := hall 1 _ rfl
  have h2 := hall 2 _ rfl
  have h3 := hall 3 _ rfl
  have h4 := hall 4 _ rfl
  have h5 := hall 5 _ rfl
  have h6 := hall 6 _ rfl
  have e0 : ∃ y, xs[0]? = some y := ⟨_, List.getElem?_eq_getElem (by rw [hlen]; decide)⟩
  have e1 : ∃ y, xs[1]? = some y := ⟨_, List.getElem?_eq_getElem (by rw [hlen]; decide)⟩
  have e2 : ∃ y, xs[2]? = some y := ⟨_, List.getElem?_eq_getElem (by rw [hlen]; decide)⟩
  have e3 : ∃ y, xs[3]? = some y := ⟨_, List.getElem?_eq_getElem (by rw [hlen]; decide)⟩
  have e4 : ∃ y, xs[4]? = some y := ⟨_, List.getElem?_eq_getElem (by rw [hlen]; decide)⟩
  have e5 : ∃ y, xs[5]? = some y := ⟨_, List.getElem?_eq_getElem (by rw [hlen]; decide)⟩
  have e6 : ∃ y, xs[6]? = some y := ⟨_, List.getElem?_eq_getElem (by rw [hlen]; decide)⟩
  obtain ⟨y0, e0⟩ := e0
  obtain ⟨y1, e1⟩ := e1
  obtain ⟨y2, e2⟩ := e2
  obtain ⟨y3, e3⟩ := e3
  obtain ⟨y4, e4⟩ := e4
  obtain ⟨y5, e5⟩ := e5
  obtain ⟨y6, e6⟩ := e6
  rw [e0] at h0
  rw [e1] at h1
  rw [e2] at h2
  rw [e3] at h3
  rw [e4] at h4
  rw [e5] at h5
  rw [e6] at h6
  obtain ⟨b0, g0, _⟩ := DataW.trod_bool Tryd.underlying4 h0
  obtain ⟨b1, g1, _⟩ := DataW.trod_bool Tryd.underlying4 h1
  obtain ⟨q, g2, _, wq⟩ := DataW.trod_int Tryd.underlying5 h2
  obtain ⟨i, g3, _, wi⟩ := DataW.trod_int Tryd.underlying39 h3
  obtain ⟨a, l, c, g4⟩ := Go.Joins.slice_form Tryd.underlying27 h4
  obtain ⟨tp, g5, _, wt⟩ := DataW.trod_string Tryd.underlying9 h5
  obtain ⟨pl, g6, _, wp⟩ := DataW.trod_string Tryd.underlying9 h6
  have k0 : [c0] = [.bool b0] := g0
  have k1 : [c1] = [.bool b1] := g1
  have k2 : [c2] = [.int .u8 q] := g2
  have k3 : [c3] = [.int .u32 i] := g3
  have k4 : [c4] = [.slice a l c] := g4
  have k5 : [c5] = [.string tp] := g5
  have k6 : [c6] = [.string pl] := g6
  simp only [List.cons.injEq, and_true] at k0 k1 k2 k3 k4 k5 k6
  subst k0 k1 k2 k3 k4 k5 k6
  obtain ⟨L, hL, hLn⟩ := open_listF (show DataW.trod enc Tryd.prog W 0 (fun _ => true) true n 27 [.slice a l c] = some y4 from h4)
  have hb := bounds_u32 wi
  have hq := bounds_u8 wq
  exact ⟨(⟨b0, b1, q, i, L, tp, pl⟩, a, l, c), ⟨rfl, hq.1, Int.lt_of_le_of_lt hq.2 (by decide), hb.1, Int.lt_of_le_of_lt hb.2 (by decide), wt, wp, hL, hLn⟩⟩

/-- An answer that came in. -/
structure PackArg (W : World) (v : Value) (x : Pk × Option Addr × Nat × Nat) : Prop where
  is : v = pkV x.1 (.slice x.2.1 x.2.2.1 x.2.2.2)
  c0 : 0 ≤ x.1.code
  c1 : x.1.code < 256
  i0 : 0 ≤ x.1.id
  i1 : x.1.id < 4294967296
  ps : PropsIn W (.slice x.2.1 x.2.2.1 x.2.2.2) x.1.ps
  pn : x.1.ps.length = x.2.2.1

set_option maxRecDepth 100000 in
theorem open_packa {H : Type} {enc : TypeId × Value → H} {W : World} {v : Value} {d : DataW H} {p : List MemPlace} {base : Nat} (hv : Value.okWide Tryd.prog W .any base 94 v) (h : DataW.Trod enc Tryd.prog W 0 (fun _ => true) true 94 v d p) :
    ∃ x, PackArg W v x := by
  obtain ⟨cs, rfl, hsz⟩ := okWide_struct Tryd.underlying94 hv
  obtain ⟨c0, c1, c2, c3, rfl⟩ := Go.Joins.array4 (hsz.trans (by kernel_rfl))
  obtain ⟨fuel, hf⟩ := h
  obtain ⟨xs, n, _, _, _, hlen, hall⟩ := DataW.trod_struct Tryd.underlying94 hf
  have h0 := hall 0 _ rfl
  have h1 := hall 1 _ rfl
  have h2 := hall 2 _ rfl
  have h3 := hall 3 _ rfl
  obtain ⟨y0, e0⟩ : ∃ y, xs[0]? = some y := ⟨_, List.getElem?_eq_getElem (by rw [hlen]; decide)⟩
  obtain ⟨y1, e1⟩ : ∃ y, xs[1]? = some y := ⟨_, List.getElem?_eq_getElem (by rw [hlen]; decide)⟩
  obtain ⟨y2, e2⟩ : ∃ y, xs[2]? = some y := ⟨_, List.getElem?_eq_getElem (by rw [hlen]; decide)⟩
  obtain ⟨y3, e3⟩ : ∃ y, xs[3]? = some y := ⟨_, List.getElem?_eq_getElem (by rw [hlen]; decide)⟩
  rw [e0] at h0
  rw [e1] at h1
  rw [e2] at h2
  rw [e3] at h3
  obtain ⟨k, g0, _, _⟩ := DataW.trod_int Tryd.underlying3 h0
  obtain ⟨i, g1, _, wi⟩ := DataW.trod_int Tryd.underlying39 h1
  obtain ⟨q, g2, _, wq⟩ := DataW.trod_int Tryd.underlying5 h2
  obtain ⟨a, l, c, g3⟩ := Go.Joins.slice_form Tryd.underlying27 h3
  have k0 : [c0] = [.int .i64 k] := g0
  have k1 : [c1] = [.int .u32 i] := g1
  have k2 : [c2] = [.int .u8 q] := g2
  have k3 : [c3] = [.slice a l c] := g3
  simp only [List.cons.injEq, and_true] at k0 k1 k2 k3
  subst k0 k1 k2 k3
  obtain ⟨L, hL, hLn⟩ := open_listF (show DataW.trod enc Tryd.prog W 0 (fun _ => true) true n 27 [.slice a l c] = some y3 from h3)
  have hb := bounds_u32 wi
  have hq := bounds_u8 wq
  exact ⟨(⟨k, i, q, L⟩, a, l, c), ⟨rfl, hq.1, Int.lt_of_le_of_lt hq.2 (by decide), hb.1, Int.lt_of_le_of_lt hb.2 (by decide), hL, hLn⟩⟩

#print axioms open_publ
#print axioms open_packa
end Go.Proofs.YtdbocpkeafcmaaaDoor
