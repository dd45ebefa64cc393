/-
  How a Publish that came in is read. (No statement.)
-/
import Derived.Test.YtacffjimkplieaaDoorJPropsB
import Derived.Test.YtacffjimkplieaaDoorJPub1
import Derived.Lib.SmallJoins
namespace Go.Proofs.YtacffjimkplieaaDoor
open Go.RowKit Go.ChangeShapes Go.WideShapes Go.Deep

theorem array7 {α : Type} {cs : Array α} (h : cs.size = 7) : ∃ c0 c1 c2 c3 c4 c5 c6, cs = #[c0, c1, c2, c3, c4, c5, c6] := by
  obtain ⟨l⟩ := cs
  match l, h with
  | [c0, c1, c2, c3, c4, c5, c6], _ => exact ⟨c0, c1, c2, c3, c4, c5, c6, rfl⟩

/-- A Publish that came in: its parts, its list's slice. -/
structure PubArg (W : World) (v : Value) (x : Pb × Option Addr × Nat × Nat) : Prop where
  is : v = pbV x.1 (.slice x.2.1 x.2.2.1 x.2.2.2)
  q0 : 0 ≤ x.1.q
  q1 : x.1.q < 256
  i0 : 0 ≤ x.1.id
  i1 : x.1.id < 4294967296
  tp : x.1.tp.size ≤ maxLen
  pl : x.1.pl.size ≤ maxLen

set_option maxRecDepth 100000 in
theorem open_pub {H : Type} {enc : TypeId × Value → H} {W : World} {v : Value} {d : DataW H} {p : List MemPlace} {base : Nat} (hv : Value.okWide Tryd.prog W .any base 63 v) (h : DataW.Trod enc Tryd.prog W 0 (fun _ => true) true 63 v d p) :
    ∃ x, PubArg W v x := by
  obtain ⟨cs, rfl, hsz⟩ := okWide_struct Tryd.underlying63 hv
  obtain ⟨c0, c1, c2, c3, c4, c5, c6, rfl⟩ := array7 (hsz.trans (by kernel_rfl))
  obtain ⟨fuel, hf⟩ := h
  obtain ⟨xs, n, _, _, _, hlen, hall⟩ := DataW.trod_struct Tryd.underlying63 hf
  have h0 := hall 0 _ rfl
  have h1 := hall 1 _ rfl
  have h2 := hall 2 _ rfl
  have h3 := hall 3 _ rfl
  have h4 := hall 4 _ rfl
  have h5 := hall 5 _ rfl
  have h6 := hall 6 _ rfl
  have e0 : ∃ y, xs[0]? = some y := ⟨_, List.getElem?_eq_getElem (by rw [hlen]; decide)⟩
  have e1 : ∃ y, xs[1]? = some y := ⟨_, List.getElem?_eq_getElem (by rw [hlen]; decide)⟩
  have e2 : ∃ y, xs[2]? = some y := ⟨_, List.getElem?_eq_getElem (by rw [hlen]; decide)⟩
  have e3 : ∃ y, xs[3]? = some y := ⟨_, List.getElem?_eq_getElem (by rw [hlen]; decide)⟩
  have e4 : ∃ y, xs[4]? = some y := ⟨_, List.getElem?_eq_getElem (by rw [hlen]; decide)⟩
  have e5 : ∃ y, xs[5]? = some y := ⟨_, List.getElem?_eq_getElem (by rw [hlen]; decide)⟩
  have e6 : ∃ y, xs[6]? = some y := ⟨_, List.getElem?_eq_getElem (by rw [hlen]; decide)⟩
  obtain ⟨y0, e0⟩ := e0
  obtain ⟨y1, e1⟩ := e1
  obtain ⟨y2, e2⟩ := e2
  obtain ⟨y3, e3⟩ := e3
  obtain ⟨y4, e4⟩ := e4
  obtain ⟨y5, e5⟩ := e5
  obtain ⟨y6, e6⟩ := e6
  rw [e0] at h0
  rw [e1] at h1
  rw [e2] at h2
  rw [e3] at h3
  rw [e4] at h4
  rw [e5] at h5
  rw [e6] at h6
  obtain ⟨b0, g0, _⟩ := DataW.trod_bool Tryd.underlying4 h0
  obtain ⟨b1, g1, _⟩ := DataW.trod_bool Tryd.underlying4 h1
  obtain ⟨q, g2, _, wq⟩ := DataW.trod_int Tryd.underlying5 h2
  obtain ⟨i, g3, _, wi⟩ := DataW.trod_int Tryd.underlying23 h3
  obtain ⟨a, l, c, g4⟩ := Go.Joins.slice_form Tryd.underlying25 h4
  obtain ⟨tp, g5, _, wt⟩ := DataW.trod_string Tryd.underlying9 h5
  obtain ⟨pl, g6, _, wp⟩ := DataW.trod_string Tryd.underlying9 h6
  have k0 : [c0] = [.bool b0] := g0
  have k1 : [c1] = [.bool b1] := g1
  have k2 : [c2] = [.int .u8 q] := g2
  have k3 : [c3] = [.int .u32 i] := g3
  have k4 : [c4] = [.slice a l c] := g4
  have k5 : [c5] = [.string tp] := g5
  have k6 : [c6] = [.string pl] := g6
  simp only [List.cons.injEq, and_true] at k0 k1 k2 k3 k4 k5 k6
  subst k0 k1 k2 k3 k4 k5 k6
  have hb := bounds_u32 wi
  have hq := bounds_u8 wq
  exact ⟨(⟨b0, b1, q, i, [], tp, pl⟩, a, l, c), ⟨rfl, hq.1, Int.lt_of_le_of_lt hq.2 (by decide), hb.1, Int.lt_of_le_of_lt hb.2 (by decide), wt, wp⟩⟩

#print axioms open_pub
end Go.Proofs.YtacffjimkplieaaDoor
