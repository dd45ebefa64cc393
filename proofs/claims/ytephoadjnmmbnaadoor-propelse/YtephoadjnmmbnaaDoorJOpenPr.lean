/-
  How a property that came in is read. (No statement.)
-/
import Derived.Test.YtephoadjnmmbnaaDoorJPropsB
import Derived.Lib.SmallJoins
namespace Go.Proofs.YtephoadjnmmbnaaDoor
open Go.RowKit Go.ChangeShapes Go.WideShapes Go.Deep

theorem array4 {α : Type} {cs : Array α} (h : cs.size = 4) : ∃ c0 c1 c2 c3, cs = #[c0, c1, c2, c3] := by
  obtain ⟨l⟩ := cs
  match l, h with
  | [c0, c1, c2, c3], _ => exact ⟨c0, c1, c2, c3, rfl⟩

/-- A property that came in. -/
structure PrArg (_W : World) (v : Value) (x : Pr) : Prop where
  is : v = .agg #[.int .i64 x.id, .int .u32 x.n, .string x.s, .string x.t]
  n0 : 0 ≤ x.n
  n1 : x.n < 4294967296
  s1 : x.s.size ≤ maxLen
  t1 : x.t.size ≤ maxLen

set_option maxRecDepth 100000 in
theorem open_prarg {H : Type} {enc : TypeId × Value → H} {W : World} {v : Value} {d : DataW H} {p : List MemPlace} {base : Nat} (hv : Value.okWide Tryd.prog W .any base 50 v) (h : DataW.Trod enc Tryd.prog W 0 (fun _ => true) true 50 v d p) :
    ∃ x, PrArg W v x := by
  obtain ⟨cs, rfl, hsz⟩ := okWide_struct Tryd.underlying50 hv
  obtain ⟨c0, c1, c2, c3, rfl⟩ := array4 (hsz.trans (by kernel_rfl))
  obtain ⟨fuel, hf⟩ := h
  obtain ⟨xs, n, _, _, _, hlen, hall⟩ := DataW.trod_struct Tryd.underlying50 hf
  have h0 := hall 0 _ rfl
  have h1 := hall 1 _ rfl
  have h2 := hall 2 _ rfl
  have h3 := hall 3 _ rfl
  have e0 : ∃ y, xs[0]? = some y := ⟨_, List.getElem?_eq_getElem (by rw [hlen]; decide)⟩
  have e1 : ∃ y, xs[1]? = some y := ⟨_, List.getElem?_eq_getElem (by rw [hlen]; decide)⟩
  have e2 : ∃ y, xs[2]? = some y := ⟨_, List.getElem?_eq_getElem (by rw [hlen]; decide)⟩
  have e3 : ∃ y, xs[3]? = some y := ⟨_, List.getElem?_eq_getElem (by rw [hlen]; decide)⟩
  obtain ⟨y0, e0⟩ := e0
  obtain ⟨y1, e1⟩ := e1
  obtain ⟨y2, e2⟩ := e2
  obtain ⟨y3, e3⟩ := e3
  rw [e0] at h0
  rw [e1] at h1
  rw [e2] at h2
  rw [e3] at h3
  obtain ⟨i, g0, _, wi⟩ := DataW.trod_int Tryd.underlying3 h0
  obtain ⟨m, g1, _, wm⟩ := DataW.trod_int Tryd.underlying48 h1
  obtain ⟨s, g2, _, ws⟩ := DataW.trod_string Tryd.underlying9 h2
  obtain ⟨t, g3, _, wt⟩ := DataW.trod_string Tryd.underlying9 h3
  have k0 : [c0] = [.int .i64 i] := g0
  have k1 : [c1] = [.int .u32 m] := g1
  have k2 : [c2] = [.string s] := g2
  have k3 : [c3] = [.string t] := g3
  simp only [List.cons.injEq, and_true] at k0 k1 k2 k3
  subst k0 k1 k2 k3
  have hb := bounds_u32 wm
  exact ⟨⟨i, m, s, t⟩, ⟨rfl, hb.1, Int.lt_of_le_of_lt hb.2 (by decide), ws, wt⟩⟩

#print axioms open_prarg
end Go.Proofs.YtephoadjnmmbnaaDoor
