/-
  PublishBack: the two messages, side by side. (No statement: facts that the proof of the statement uses.)
-/
import Derived.Test.YtacffjimkplieaaDoorJPbk1
namespace Go.Proofs.YtacffjimkplieaaDoor
open Go.RowKit

/-- The first message stands at block xb, its property at block g. -/
structure Mx (w : World) (xb g : Nat) (D ret : Bool) (Q n : Int) (L P M : ByteArray) (V : World) : Prop where
  bel : Below w.heap.size w V
  x : Blk w V xb (.cells #[.bool D, .bool ret, .int .u8 Q, .int .u32 n, .slice (some ⟨g, 0, none⟩) 1 1, .string L, .string P] 63 (0, 0))
  gg : Blk w V g (.cells #[.int .i64 3, .int .u32 0, .string M, .string ⟨#[]⟩] 85 (0, 0))
  hne : g ≠ xb

def MxC (xb g : Nat) (D ret : Bool) (Q n : Int) (L P : ByteArray) (V : World) : Prop :=
  V.cell? ⟨xb, 0, none⟩ = some (.bool D) ∧ V.cell? ⟨xb, 1, none⟩ = some (.bool ret) ∧ V.cell? ⟨xb, 2, none⟩ = some (.int .u8 Q) ∧ V.cell? ⟨xb, 3, none⟩ = some (.int .u32 n) ∧ V.cell? ⟨xb, 4, none⟩ = some (.slice (some ⟨g, 0, none⟩) 1 1) ∧ V.cell? ⟨xb, 5, none⟩ = some (.string L) ∧ V.cell? ⟨xb, 6, none⟩ = some (.string P)

section
variable {w V V' : World} {xb g : Nat} {D ret : Bool} {Q n : Int} {L P M : ByteArray}
theorem Mx.c (h : Mx w xb g D ret Q n L P M V) : MxC xb g D ret Q n L P V := by
  obtain ⟨d0, d1, d2, d3, d4, d5, d6, _⟩ := cells7 h.x.at_
  exact ⟨d0, d1, d2, d3, d4, d5, d6⟩
theorem Mx.below (h : Mx w xb g D ret Q n L P M V) (hb : Below V.heap.size V V') : Mx w xb g D ret Q n L P M V' := ⟨Below.next h.bel hb, h.x.below hb, h.gg.below hb, h.hne⟩
theorem Mx.drew (h : Mx w xb g D ret Q n L P M V) : Mx w xb g D ret Q n L P M V.drew := ⟨h.bel.drew, ⟨h.x.at_, h.x.ge⟩, ⟨h.gg.at_, h.gg.ge⟩, h.hne⟩
theorem Mx.lt (h : Mx w xb g D ret Q n L P M V) : w.heap.size < V.heap.size := Nat.lt_trans h.x.ge h.x.lt
theorem Mx.props (h : Mx w xb g D ret Q n L P M V) : PropsAt V (.slice (some ⟨g, 0, none⟩) 1 1) [⟨3, 0, M, ⟨#[]⟩⟩] := props_one h.gg.at_
theorem Mx.set7 (h : Mx w xb g D ret Q n L P M V) {c : Nat} {u0 u1 u2 u3 u4 u5 u6 : Value} (hc : w.heap.size < c) (h1 : xb ≠ c) (h2 : g ≠ c) :
    Mx w xb g D ret Q n L P M (((((((V.setCell ⟨c, 0, none⟩ u0).setCell ⟨c, 1, none⟩ u1).setCell ⟨c, 2, none⟩ u2).setCell ⟨c, 3, none⟩ u3).setCell ⟨c, 4, none⟩ u4).setCell ⟨c, 5, none⟩ u5).setCell ⟨c, 6, none⟩ u6) := by
  refine ⟨?_, h.x.set7 h1, h.gg.set7 h2, h.hne⟩
  iterate 7 (refine below_set ?_ (by omega) _ _)
  exact h.bel

/-- Behind the identifier. -/
theorem Mx.named (h : Mx w xb g D ret Q n L P M V) (m : Int) : Mx w xb g D ret Q m L P M (V.setCell ⟨xb, 3, none⟩ (.int .u32 m)) := by
  refine ⟨below_set h.bel (by have := h.x.ge; omega) _ _, ⟨?_, h.x.ge⟩, h.gg.set h.hne, h.hne⟩
  have := h.x.at_
  simp [World.setCell, Array.getElem?_modify, this]

/-- Both stand. -/
structure My (w : World) (xb g yb : Nat) (D ret : Bool) (Q n : Int) (L P M : ByteArray) (ya : Option Addr) (yc : Nat) (V : World) : Prop where
  m : Mx w xb g D ret Q n L P M V
  y : Blk w V yb (.cells #[.bool D, .bool ret, .int .u8 Q, .int .u32 n, .slice ya 1 yc, .string L, .string P] 63 (0, 0))
  ps : PropsAt V (.slice ya 1 yc) [⟨3, 0, M, ⟨#[]⟩⟩]
def X6 (w : World) (xb g : Nat) (D ret : Bool) (Q n : Int) (L P M : ByteArray) (v12 v13 : Value) (V : World) : Prop :=
  ∃ yb ya yc, v12 = .pointer (some ⟨yb, 0, none⟩) ∧ v13 = .int .i64 0 ∧ My w xb g yb D ret Q n L P M ya yc V

theorem end6A {B : Nat} {ya : Option Addr} {yc : Nat} (h : Mx w xb g D ret Q n L P M V) (ho : OwnP B 85 V (.slice ya 1 yc) [⟨3, 0, M, ⟨#[]⟩⟩]) :
    MxC xb g D ret Q n L P (V.alloc (.cells #[.bool D, .bool ret, .int .u8 Q, .int .u32 n, .slice ya 1 yc, .string L, .string P] 63)) ∧
    X6 w xb g D ret Q n L P M (.pointer (some ⟨V.heap.size, 0, none⟩)) (.int .i64 0) (V.alloc (.cells #[.bool D, .bool ret, .int .u8 Q, .int .u32 n, .slice ya 1 yc, .string L, .string P] 63)) := by
  have hb := below_one V (.cells #[.bool D, .bool ret, .int .u8 Q, .int .u32 n, .slice ya 1 yc, .string L, .string P] 63)
  have h1 := h.below hb
  exact ⟨h1.c, _, ya, yc, rfl, rfl, h1, Blk.made h.lt _ _, ho.props.below hb⟩

theorem end6C {B zb : Nat} {ya : Option Addr} {yc : Nat} {z0 z1 z2 z3 z4 z5 z6 : Value} (h : Mx w xb g D ret Q n L P M V) (hz : Blk w V zb (.cells #[z0, z1, z2, z3, z4, z5, z6] 63 (0, 0))) (h1 : xb < zb) (h2 : g < zb) (hB : zb < B) (ho : OwnP B 85 V (.slice ya 1 yc) [⟨3, 0, M, ⟨#[]⟩⟩]) :
    MxC xb g D ret Q n L P (((((((V.setCell ⟨zb, 0, none⟩ (.bool D)).setCell ⟨zb, 1, none⟩ (.bool ret)).setCell ⟨zb, 2, none⟩ (.int .u8 Q)).setCell ⟨zb, 3, none⟩ (.int .u32 n)).setCell ⟨zb, 4, none⟩ (.slice ya 1 yc)).setCell ⟨zb, 5, none⟩ (.string L)).setCell ⟨zb, 6, none⟩ (.string P)) ∧
    X6 w xb g D ret Q n L P M (.pointer (some ⟨zb, 0, none⟩)) (.int .i64 0) (((((((V.setCell ⟨zb, 0, none⟩ (.bool D)).setCell ⟨zb, 1, none⟩ (.bool ret)).setCell ⟨zb, 2, none⟩ (.int .u8 Q)).setCell ⟨zb, 3, none⟩ (.int .u32 n)).setCell ⟨zb, 4, none⟩ (.slice ya 1 yc)).setCell ⟨zb, 5, none⟩ (.string L)).setCell ⟨zb, 6, none⟩ (.string P)) := by
  have m := h.set7 hz.ge (Nat.ne_of_lt h1) (Nat.ne_of_lt h2) (u0 := .bool D) (u1 := .bool ret) (u2 := .int .u8 Q) (u3 := .int .u32 n) (u4 := .slice ya 1 yc) (u5 := .string L) (u6 := .string P)
  have y := hz.stored (u0 := .bool D) (u1 := .bool ret) (u2 := .int .u8 Q) (u3 := .int .u32 n) (u4 := .slice ya 1 yc) (u5 := .string L) (u6 := .string P)
  have o : OwnP B 85 (((((((V.setCell ⟨zb, 0, none⟩ (.bool D)).setCell ⟨zb, 1, none⟩ (.bool ret)).setCell ⟨zb, 2, none⟩ (.int .u8 Q)).setCell ⟨zb, 3, none⟩ (.int .u32 n)).setCell ⟨zb, 4, none⟩ (.slice ya 1 yc)).setCell ⟨zb, 5, none⟩ (.string L)).setCell ⟨zb, 6, none⟩ (.string P)) (.slice ya 1 yc) [⟨3, 0, M, ⟨#[]⟩⟩] := by
    iterate 7 (refine OwnP.set ?_ hB)
    exact ho
  exact ⟨m.c, _, ya, yc, rfl, rfl, m, y, o.props⟩

theorem My.below {yb yc : Nat} {ya : Option Addr} (h : My w xb g yb D ret Q n L P M ya yc V) (hb : Below V.heap.size V V') : My w xb g yb D ret Q n L P M ya yc V' := ⟨h.m.below hb, h.y.below hb, h.ps.below hb⟩
theorem My.drew {yb yc : Nat} {ya : Option Addr} (h : My w xb g yb D ret Q n L P M ya yc V) : My w xb g yb D ret Q n L P M ya yc V.drew := ⟨h.m.drew, ⟨h.y.at_, h.y.ge⟩, h.ps⟩
def MyC (xb g yb : Nat) (D ret : Bool) (Q n : Int) (L P : ByteArray) (ya : Option Addr) (yc : Nat) (V : World) : Prop :=
  MxC xb g D ret Q n L P V ∧ (V.cell? ⟨yb, 0, none⟩ = some (.bool D) ∧ V.cell? ⟨yb, 1, none⟩ = some (.bool ret) ∧ V.cell? ⟨yb, 2, none⟩ = some (.int .u8 Q) ∧ V.cell? ⟨yb, 3, none⟩ = some (.int .u32 n) ∧ V.cell? ⟨yb, 4, none⟩ = some (.slice ya 1 yc) ∧ V.cell? ⟨yb, 5, none⟩ = some (.string L) ∧ V.cell? ⟨yb, 6, none⟩ = some (.string P))
theorem My.c {yb yc : Nat} {ya : Option Addr} (h : My w xb g yb D ret Q n L P M ya yc V) : MyC xb g yb D ret Q n L P ya yc V := by
  obtain ⟨d0, d1, d2, d3, d4, d5, d6, _⟩ := cells7 h.y.at_
  exact ⟨h.m.c, d0, d1, d2, d3, d4, d5, d6⟩
end

theorem pick_ix (a : Int) (L : Nat) (h : L = 9 ∨ L = 2) : ∃ J : Nat, J < L ∧ (wrap64 (a.tmod (L : Int) + (L : Int))).tmod (L : Int) = (J : Int) := by
  have h0 : (0 : Int) < L := by omega
  have h1 := Int.tmod_lt_of_pos a h0
  have h2 := Int.lt_tmod_of_pos a h0
  have h9 : (L : Int) ≤ 9 := by omega
  have hw : wrap64 (a.tmod (L : Int) + (L : Int)) = a.tmod (L : Int) + (L : Int) := by unfold wrap64; omega
  rw [hw, Int.tmod_eq_emod_of_nonneg (by omega)]
  have h3 := Int.emod_nonneg (a.tmod (L : Int) + (L : Int)) (show (L : Int) ≠ 0 by omega)
  have h4 := Int.emod_lt_of_pos (a.tmod (L : Int) + (L : Int)) h0
  exact ⟨((a.tmod (L : Int) + (L : Int)) % (L : Int)).toNat, by omega, by omega⟩

theorem row_may (k : Int) (h4 : 4 ≤ k) (h7 : k ≤ 7) (J : Nat) (hJ : J < (rowL k).length) : mayB k (((rowL k).getD J 0).toNat : Int) = true := by
  have hm : (rowL k).getD J 0 ∈ rowL k := by
    rw [List.getD_eq_getElem?_getD, List.getElem?_eq_getElem hJ]
    exact List.getElem_mem _
  generalize (rowL k).getD J 0 = c at *
  have : k = 4 ∨ k = 5 ∨ k = 6 ∨ k = 7 := by omega
  have key : ∀ k ∈ [(4 : Int), 5, 6, 7], ∀ c ∈ rowL k, mayB k (c.toNat : Int) = true := by decide +kernel
  exact key k (by rcases this with rfl | rfl | rfl | rfl <;> decide) c hm

/-- What the calls do with an answer whose properties are ps. -/
structure AckC (k n2 code : Int) (ps : List Pr) (m : Nat) (AB : ByteArray) : Prop where
  text : ∀ V va vc, PropsAt V (.slice va m vc) ps → Calls Tryd.prog 42 #[.agg #[.int .i64 k, .int .u32 n2, .int .u8 code, .slice va m vc]] V (fun e w' => e = .returned (.string AB) ∧ Below V.heap.size V w')
  parse : ∀ V, Tabs V → Calls Tryd.prog 32 #[.int .i64 k, .string AB] V (fun e w' => ∃ ya yc, e = .returned (.tuple #[.agg #[.int .i64 k, .int .u32 n2, .int .u8 code, .slice ya m yc], .int .i64 0]) ∧ PropsAt w' (.slice ya m yc) ps ∧ Below V.heap.size V w')
  acks : ∀ V va vn vc, PropsAt V (.slice va vn vc) ps → Calls Tryd.prog 37 #[.agg #[.int .i64 k, .int .u32 n2, .int .u8 code, .slice va vn vc]] V (fun e w' => ∃ p n a, e = .returned (.agg #[.int .i64 k, .int .u32 n2, .int .u8 code, .slice p n a]) ∧ PropsAt w' (.slice p n a) ps ∧ Below V.heap.size V w')
  same : ∀ V va vn vc ua un uc, PropsAt V (.slice va vn vc) ps → PropsAt V (.slice ua un uc) ps → Calls Tryd.prog 36 #[.agg #[.int .i64 k, .int .u32 n2, .int .u8 code, .slice va vn vc], .agg #[.int .i64 k, .int .u32 n2, .int .u8 code, .slice ua un uc]] V (fun e w' => e = .returned (.bool true) ∧ Below V.heap.size V w')

theorem ack_c (k n2 code : Int) (ps : List Pr) (m : Nat) (hm : ps.length = m) (hk4 : 4 ≤ k) (hk7 : k ≤ 7) (h1 : 1 ≤ n2) (h2 : n2 ≤ 65535) (c0 : 0 ≤ code) (c1 : code < 256) (hmay : mayB k code = true) (hps : ∀ p ∈ ps, p.ok) (hl : ps.length ≤ 1000)
    (htk : ps ≠ [] → ∀ tail, takeR (placeN k false) (str (propsL ps ++ tail)) 0 = (ps, str tail, 0)) : AckC k n2 code ps m (str (packL ⟨k, n2, code, ps⟩)) := by
  have ok : (Pk.mk k n2 code ps).ok := ⟨c0, c1, by show 0 ≤ n2; omega, by show n2 < 4294967296; omega, hps, hl⟩
  obtain ⟨s1, x1, s2, x2, s3, x3, hof⟩ := pack_back ⟨k, n2, code, ps⟩ ok h1 h2 hmay htk
  subst hm
  refine ⟨fun V va vc hv => packtext_calls V ⟨k, n2, code, ps⟩ va vc ok hv, fun V hT => ?_, fun V va vn vc hv => ?_, fun V va vn vc ua un uc hv hu => sameAck_calls V k n2 code va vn vc ua un uc ps hv hu (by omega)⟩
  · refine (pack_calls V k _ hT hk4 hk7 hof ⟨k, n2, code, ps⟩ rfl).mono ?_
    rintro e w' ⟨v, rfl, o, b⟩
    have hp := o.props
    obtain ⟨a, c, rfl⟩ := o.form
    exact ⟨a, c, rfl, hp, b⟩
  · refine (acks7_calls V ⟨k, n2, code, ps⟩ va vn vc hv (by show ps.length ≤ 1000000; omega)).mono ?_
    rintro e w' ⟨a, n, p, rfl, hp, b⟩
    exact ⟨p, n, a, rfl, hp, b⟩

/-- An answer stands at block ab. -/
structure Ax (w : World) (ab : Nat) (k n2 code : Int) (va : Option Addr) (m vc : Nat) (ps : List Pr) (V : World) : Prop where
  bel : Below w.heap.size w V
  a : Blk w V ab (.cells #[.int .i64 k, .int .u32 n2, .int .u8 code, .slice va m vc] 71 (0, 0))
  ps : PropsAt V (.slice va m vc) ps
section
variable {w V V' : World} {ab bb : Nat} {k n2 code : Int} {va ua : Option Addr} {m vc un uc : Nat} {ps : List Pr}
theorem Ax.below (h : Ax w ab k n2 code va m vc ps V) (hb : Below V.heap.size V V') : Ax w ab k n2 code va m vc ps V' := ⟨Below.next h.bel hb, h.a.below hb, h.ps.below hb⟩
theorem Ax.drew (h : Ax w ab k n2 code va m vc ps V) : Ax w ab k n2 code va m vc ps V.drew := ⟨h.bel.drew, ⟨h.a.at_, h.a.ge⟩, h.ps⟩
def AxC (ab bb : Nat) (k n2 code : Int) (va : Option Addr) (m vc : Nat) (ua : Option Addr) (uc : Nat) (V : World) : Prop :=
  (V.cell? ⟨ab, 0, none⟩ = some (.int .i64 k) ∧ V.cell? ⟨ab, 1, none⟩ = some (.int .u32 n2) ∧ V.cell? ⟨ab, 2, none⟩ = some (.int .u8 code) ∧ V.cell? ⟨ab, 3, none⟩ = some (.slice va m vc)) ∧
  (V.cell? ⟨bb, 0, none⟩ = some (.int .i64 k) ∧ V.cell? ⟨bb, 1, none⟩ = some (.int .u32 n2) ∧ V.cell? ⟨bb, 2, none⟩ = some (.int .u8 code) ∧ V.cell? ⟨bb, 3, none⟩ = some (.slice ua m uc))
theorem ax_c (h : Ax w ab k n2 code va m vc ps V) (g : Ax w bb k n2 code ua m uc ps V) : AxC ab bb k n2 code va m vc ua uc V := by
  obtain ⟨a0, a1, a2, a3, -⟩ := cells4 h.a.at_
  obtain ⟨b0, b1, b2, b3, -⟩ := cells4 g.a.at_
  exact ⟨⟨a0, a1, a2, a3⟩, b0, b1, b2, b3⟩
end

theorem ax_named {w V : World} {ab : Nat} {k n2 code : Int} {M : ByteArray} (h : Ax w ab k n2 code none 0 0 [] V) :
    Ax w ab k n2 code (some ⟨V.heap.size, 0, none⟩) 1 1 [⟨31, 0, M, ⟨#[]⟩⟩] ((V.setCell ⟨ab, 3, none⟩ (.slice (some ⟨V.heap.size, 0, none⟩) 1 1)).alloc (.cells #[.int .i64 31, .int .u32 0, .string M, .string ⟨#[]⟩] 85)) := by
  have hb := below_set h.bel (by have := h.a.ge; omega) 3 (.slice (some ⟨V.heap.size, 0, none⟩) 1 1) (b := ab)
  have ha : (V.setCell ⟨ab, 3, none⟩ (.slice (some ⟨V.heap.size, 0, none⟩) 1 1)).heap[ab]? = some (.cells #[.int .i64 k, .int .u32 n2, .int .u8 code, .slice (some ⟨V.heap.size, 0, none⟩) 1 1] 71 (0, 0)) := by
    have := h.a.at_
    simp [World.setCell, Array.getElem?_modify, this]
  have hsz : (V.setCell ⟨ab, 3, none⟩ (.slice (some ⟨V.heap.size, 0, none⟩) 1 1)).heap.size = V.heap.size := by simp [World.setCell]
  generalize V.setCell ⟨ab, 3, none⟩ (.slice (some ⟨V.heap.size, 0, none⟩) 1 1) = V2 at *
  have bl := below_one V2 (.cells #[.int .i64 31, .int .u32 0, .string M, .string ⟨#[]⟩] 85)
  have hg := heap_alloc_new V2 (.cells #[.int .i64 31, .int .u32 0, .string M, .string ⟨#[]⟩] 85)
  rw [hsz] at hg
  exact ⟨Below.next hb bl, ⟨(bl.block ab (lt_of_block ha)).trans ha, h.a.ge⟩, props_one hg⟩

#print axioms end6C
end Go.Proofs.YtacffjimkplieaaDoor
