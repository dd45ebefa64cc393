/-
  How a list of properties that came in is read. (No statement.)
-/
import Derived.Test.YtmkajnephkaamaaDoorProp17
namespace Go.Proofs.YtmkajnephkaamaaDoor
open Go.RowKit Go.ChangeShapes Go.WideShapes Go.Deep

set_option maxRecDepth 100000 in
theorem open_props {H : Type} {enc : TypeId × Value → H} {W : World} {v : Value} {d : DataW H} {p : List MemPlace} {base : Nat} (hv : Value.okWide Tryd.prog W .any base 26 v) (h : DataW.Trod enc Tryd.prog W 0 (fun _ => true) true 26 v d p) :
    ∃ P, PropsIn W v P := by
  obtain ⟨A, len, cap, rfl, hl, hm, hall⟩ := open_cells (e := 47) Tryd.underlying26 Tryd.underlying47 (by kernel_rfl) (by kernel_rfl) hv h
  haveI : Inhabited Pr := ⟨⟨0, 0, ⟨#[]⟩, ⟨#[]⟩⟩⟩
  obtain ⟨f, hf⟩ := choose_lt (α := Pr) (n := len) (p := fun i x => (∃ b off, A = some ⟨b, off, none⟩ ∧ b < W.heap.size ∧ W.cell? ⟨b, off + i * 4, none⟩ = some (.int .i64 x.id) ∧ W.cell? ⟨b, off + i * 4 + 1, none⟩ = some (.int .u32 x.n) ∧ W.cell? ⟨b, off + i * 4 + 2, none⟩ = some (.string x.s) ∧ W.cell? ⟨b, off + i * 4 + 3, none⟩ = some (.string x.t)) ∧
      0 ≤ x.n ∧ x.n < 4294967296 ∧ x.s.size ≤ maxLen ∧ x.t.size ≤ maxLen) (by
    intro i hi
    obtain ⟨ad, rfl, hc⟩ := hall i hi
    obtain ⟨u0, n0, y0, c0, t0⟩ := hc 0 _ rfl
    obtain ⟨u1, n1, y1, c1, t1⟩ := hc 1 _ rfl
    obtain ⟨u2, n2, y2, c2, t2⟩ := hc 2 _ rfl
    obtain ⟨u3, n3, y3, c3, t3⟩ := hc 3 _ rfl
    obtain ⟨k, e0, _, _⟩ := DataW.trod_int Tryd.underlying3 t0
    obtain ⟨n, e1, _, wn⟩ := DataW.trod_int Tryd.underlying45 t1
    obtain ⟨s, e2, _, hs⟩ := DataW.trod_string Tryd.underlying9 t2
    obtain ⟨s', e3, _, hs'⟩ := DataW.trod_string Tryd.underlying9 t3
    simp only [List.cons.injEq, and_true] at e0 e1 e2 e3
    subst e0 e1 e2 e3
    obtain ⟨b, off, spot⟩ := ad
    have hsp : spot = none := by
      obtain ⟨ad', ea, hc'⟩ := hall 0 (by omega)
      injection ea with ea
      subst ea
      obtain ⟨u', _, _, c', _⟩ := hc' 0 _ rfl
      simpa [Addr.add] using World.cell?_spot c'
    subst hsp
    have hb := bounds_u32 wn
    simp only [Addr.add_lit] at c0 c1 c2 c3
    exact ⟨⟨k, n, s, s'⟩, ⟨b, off, rfl, World.block_lt_of_cell? W _ c0, c0, c1, c2, c3⟩, hb.1, Int.lt_of_le_of_lt hb.2 (by decide), hs, hs'⟩)
  refine ⟨(List.range len).map f, ⟨A, cap, by simp, fun i x hx => ?_⟩, by simp; omega, fun x hx => ?_⟩
  · simp only [List.getElem?_map, Option.map_eq_some_iff] at hx
    obtain ⟨i', hi', rfl⟩ := hx
    obtain ⟨hlt, he⟩ := List.getElem?_eq_some_iff.1 hi'
    simp at hlt he
    subst he
    exact (hf i hlt).1
  · obtain ⟨i, hi, rfl⟩ := List.mem_map.1 hx
    exact (hf i (List.mem_range.1 hi)).2

/-- The zero property. -/
def zp : Pr := ⟨0, 0, ⟨#[]⟩, ⟨#[]⟩⟩

/-- What holds in PropPuts' loop. -/
structure PutsJ (w : World) (o bx : Nat) (r : Option Nat) (D : List UInt8) (v : Value) (X : List Pr) (i : Int) (k : Nat) (f : Pr) (b : Bool) (wr : World) : Prop where
  own : OwnP w.heap.size 47 wr v X
  out : OutAt wr o r D
  box : BoxAt wr bx f
  fnd : (firstP (X.take k) i = none ∧ b = false ∧ f = zp) ∨ (firstP (X.take k) i = some f ∧ b = true)
  bel : Below w.heap.size w wr
  bxw : w.heap.size ≤ bx
  ne1 : v.ownBlock ≠ some bx
  ne2 : o ≠ bx
  ne3 : r ≠ some bx

theorem first_more (P : List Pr) (k : Nat) (x f : Pr) (i : Int) (h : P[k]? = some x) (hf : firstP (P.take k) i = some f) : firstP (P.take (k + 1)) i = some f := by
  unfold firstP at *
  rw [take_snocP P k x h, List.find?_append, hf]
  rfl
theorem first_here (P : List Pr) (k : Nat) (x : Pr) (i : Int) (h : P[k]? = some x) (hf : firstP (P.take k) i = none) (hx : x.id = i) : firstP (P.take (k + 1)) i = some x := by
  unfold firstP at *
  rw [take_snocP P k x h, List.find?_append, hf]
  simp [hx]

theorem PutsJ.skip {w : World} {o bx : Nat} {r : Option Nat} {D : List UInt8} {v : Value} {X : List Pr} {i : Int} {k : Nat} {f : Pr} {b : Bool} {wr : World} (h : PutsJ w o bx r D v X i k f b wr) (x : Pr) (hx : X[k]? = some x) (hn : b = true ∨ x.id ≠ i) (ob : Obj) : PutsJ w o bx r D v X i (k + 1) f b (wr.alloc ob) := by
  have hb := below_one wr ob
  refine ⟨h.own.below hb, h.out.below hb, h.box.below hb, ?_, h.bel.alloc h.bel.size ob, h.bxw, h.ne1, h.ne2, h.ne3⟩
  rcases h.fnd with ⟨h1, h2, h3⟩ | ⟨h1, h2⟩
  · left
    refine ⟨first_none X k x i hx h1 ?_, h2, h3⟩
    rcases hn with e | e
    · rw [h2] at e; cases e
    · exact e
  · exact .inr ⟨first_more X k x f i hx h1, h2⟩

theorem box_set {w : World} {b : Nat} {f x : Pr} (h : BoxAt w b f) : BoxAt ((((w.setCell ⟨b, 0, none⟩ (.int .i64 x.id)).setCell ⟨b, 1, none⟩ (.int .u32 x.n)).setCell ⟨b, 2, none⟩ (.string x.s)).setCell ⟨b, 3, none⟩ (.string x.t)) b x := by
  unfold BoxAt at *
  have hb := lt_of_block h
  simp [World.setCell, Array.getElem?_modify, h]

theorem far4 {w : World} {b c : Nat} {u0 u1 u2 u3 : Value} (hne : c ≠ b) : ((((w.setCell ⟨b, 0, none⟩ u0).setCell ⟨b, 1, none⟩ u1).setCell ⟨b, 2, none⟩ u2).setCell ⟨b, 3, none⟩ u3).heap[c]? = w.heap[c]? := by
  rw [Below.heap_setCell _ _ _ _ hne, Below.heap_setCell _ _ _ _ hne, Below.heap_setCell _ _ _ _ hne, Below.heap_setCell _ _ _ _ hne]

theorem PutsJ.found {w : World} {o bx : Nat} {r : Option Nat} {D : List UInt8} {v : Value} {X : List Pr} {i : Int} {k : Nat} {f : Pr} {wr : World} (h : PutsJ w o bx r D v X i k f false wr) (x : Pr) (hx : X[k]? = some x) (hi : x.id = i) :
    PutsJ w o bx r D v X i (k + 1) x true ((((wr.setCell ⟨bx, 0, none⟩ (.int .i64 x.id)).setCell ⟨bx, 1, none⟩ (.int .u32 x.n)).setCell ⟨bx, 2, none⟩ (.string x.s)).setCell ⟨bx, 3, none⟩ (.string x.t)) := by
  have hf : firstP (X.take k) i = none := by
    rcases h.fnd with ⟨h1, _, _⟩ | ⟨_, h2⟩
    · exact h1
    · cases h2
  refine ⟨?_, ?_, box_set h.box, .inr ⟨first_here X k x i hx hf hi, rfl⟩, ((((h.bel.setCell h.bxw _).setCell h.bxw _).setCell h.bxw _).setCell h.bxw _), h.bxw, h.ne1, h.ne2, h.ne3⟩
  · exact ownsRow_setCell_other (a := ⟨bx, 3, none⟩) (ownsRow_setCell_other (a := ⟨bx, 2, none⟩) (ownsRow_setCell_other (a := ⟨bx, 1, none⟩) (ownsRow_setCell_other (a := ⟨bx, 0, none⟩) h.own h.ne1 _) h.ne1 _) h.ne1 _) h.ne1 _
  · exact h.out.keep (far4 h.ne2) (fun g hg => far4 (fun e => h.ne3 (by rw [hg, e])))

theorem PutsJ.alloc {w : World} {o bx : Nat} {r : Option Nat} {D : List UInt8} {v : Value} {X : List Pr} {i : Int} {k : Nat} {f : Pr} {b : Bool} {wr : World} (h : PutsJ w o bx r D v X i k f b wr) (ob : Obj) : PutsJ w o bx r D v X i k f b (wr.alloc ob) := by
  have hb := below_one wr ob
  exact ⟨h.own.below hb, h.out.below hb, h.box.below hb, h.fnd, h.bel.alloc h.bel.size ob, h.bxw, h.ne1, h.ne2, h.ne3⟩

#print axioms open_props
end Go.Proofs.YtmkajnephkaamaaDoor
