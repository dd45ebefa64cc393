/-
  Several texts, one behind the other. (No statement: contracts that the proofs of the statements use.)
-/
import Derived.Test.YtbjhdfincoadaaaJTimersA
import Derived.RangeFuncWrites
import Derived.RangeFuncLeaves
import Derived.RangeFuncNested
import Derived.RangeFuncBound
import Derived.RangeFuncCalls
import Derived.Shelf.Abstract
import Derived.Shelf.RegionOpen
import Derived.OwnWalkIn
import Derived.TacticsInMore
import Derived.LoopNIn
import Derived.LoopIn
import Derived.Maps.OwnIn
import Derived.Deep.Onto
import Derived.Deep.Strs
import Derived.Deep.Slices
import Derived.Deep.Fields
import Derived.Laws.StructEq
import Derived.Deep.Upon
import Derived.Outline
import Derived.WalkLawsBesides
namespace Go.Proofs.Ytbjhdfincoadaaa
open Go.RowKit Go.Maps Go.Shelf

attribute [local go_sem] Oper.semAt_some

/-- An entry that there may be. -/
abbrev EnF := { x : En // x.1.length ≤ maxLen ∧ (Lit.int .i64 x.2).wf = true }

/-- What a round that goes on keeps: the box, the row. -/
def KpE (B g : Nat) (X Y : World) : Prop := Y.heap[B]? = X.heap[B]? ∧ Y.heap[g]? = X.heap[g]? ∧ X.heap.size ≤ Y.heap.size
theorem KpE.trans {B g : Nat} {X Y Z : World} (h : KpE B g X Y) (k : KpE B g Y Z) : KpE B g X Z := ⟨k.1.trans h.1, k.2.1.trans h.2.1, Nat.le_trans h.2.2 k.2.2⟩
theorem KpE.refl (B g : Nat) (X : World) : KpE B g X X := ⟨rfl, rfl, Nat.le_refl _⟩
theorem KpE.alloc {B g : Nat} {X Y : World} (h : KpE B g X Y) (hB : B < Y.heap.size) (hg : g < Y.heap.size) (o : Obj) : KpE B g X (Y.alloc o) :=
  ⟨(Below.heap_alloc Y o B hB).trans h.1, (Below.heap_alloc Y o g hg).trans h.2.1, Nat.le_trans h.2.2 (by simp)⟩
theorem KpE.below {B g : Nat} {X Y Z : World} (h : KpE B g X Y) (hb : Below Y.heap.size Y Z) (hB : B < Y.heap.size) (hg : g < Y.heap.size) : KpE B g X Z :=
  ⟨(hb.block B hB).trans h.1, (hb.block g hg).trans h.2.1, Nat.le_trans h.2.2 hb.size⟩

set_option maxRecDepth 100000 in
set_option maxHeartbeats 2000000 in
theorem up1_in (n : Nat) (hn : 1 ≤ n) (l B g len cap : Nat) (A : Option Addr) (zs : List EnF) (hlen : zs.length = len) (hm : len ≤ 1000000) (J Jx : List EnF → World → Prop) (W : World) (hJa : AbidesFrom W.heap.size J)
    (hY : ∀ pre x W1, J pre W1 → pre.length < len → YieldAt Fence.wide (n - 1) Try.prog l #[.string (str x.1.1), .int .i64 x.1.2] W1 fun e W' =>
      (e = .returned (.bool true) ∧ J (pre ++ [x]) W' ∧ KpE B g W1 W') ∨ (e = .returned (.bool false) ∧ Jx (pre ++ [x]) W'))
    (hBl : B < W.heap.size) (hgl : g < W.heap.size) (hbox : W.cell? ⟨B, 0, none⟩ = some (.slice A len cap))
    (hE : ∀ (i : Nat) (x : EnF), zs[i]? = some x → A = some ⟨g, 0, none⟩ ∧ W.cell? ⟨g, i * 2, none⟩ = some (.string (str x.1.1)) ∧ W.cell? ⟨g, i * 2 + 1, none⟩ = some (.int .i64 x.1.2)) (h0 : J [] W) :
    CallsIn Fence.wide n Try.prog 71 #[.func (.yield l) #[] #[], .pointer (some ⟨B, 0, none⟩)] W fun e W' => (∃ v, e = .returned v) ∧ ((∃ ys, ys = zs ∧ J ys W') ∨ (∃ pre, pre <+: zs ∧ Jx pre W')) := by
  refine callsIn_of_wp Try.func71 rfl trivial ?_ rfl
  simp only [Try.ntmps71, List.size_toArray, List.length_cons, List.length_nil, Nat.reduceAdd, Nat.reduceSub, Array.replicate_succ, Array.replicate_zero, List.push_toArray, List.append_toArray, List.nil_append, List.cons_append]
  gi_wp2
  gi_loopw [7] (fun i wr => ∃ k : Nat, k ≤ len ∧ i = .int .i64 k ∧ J (zs.take k) wr ∧ KpE B g W wr) (fun i _ => len - (intOf i).toNat)
  case atStart => exact ⟨0, Nat.zero_le _, rfl, h0, KpE.refl _ _ _⟩
  case round =>
    obtain ⟨k, hk, rfl, hJs, hkp⟩ := hrel
    by_cases hlt : k < len
    · have hzk : zs[k]? = some zs[k] := List.getElem?_eq_getElem (by omega)
      obtain ⟨hA, c0, c1⟩ := hE k _ hzk
      subst hA
      have hgr : g < wr.heap.size := Nat.lt_of_lt_of_le hgl hkp.2.2
      have hBr : B < wr.heap.size := Nat.lt_of_lt_of_le hBl hkp.2.2
      have d0 : wr.cell? ⟨g, k * 2, none⟩ = some (.string (str zs[k].1.1)) := by rw [World.cell?_of_block (w := W) hkp.2.1]; exact c0
      have d1 : wr.cell? ⟨g, k * 2 + 1, none⟩ = some (.int .i64 zs[k].1.2) := by rw [World.cell?_of_block (w := W) hkp.2.1]; exact c1
      have hst : zs.take (k + 1) = zs.take k ++ [zs[k]] := List.take_succ_eq_append_getElem (by omega)
      have hJ1 : J (zs.take k) (wr.alloc (.cells #[.string (str zs[k].1.1), .int .i64 zs[k].1.2] 88)) := hJa _ _ _ none hJs (World.grownBy_alloc _ _ _) (fun r e => by cases e)
      have hka : KpE B g W (wr.alloc (.cells #[.string (str zs[k].1.1), .int .i64 zs[k].1.2] 88)) := hkp.alloc hBr hgr _
      have hc1 := heap_alloc_new wr (.cells #[.string (str zs[k].1.1), .int .i64 zs[k].1.2] 88)
      obtain ⟨fn, tmps, assign, body, hy, hR⟩ := hY (zs.take k) zs[k] _ hJ1 (by rw [List.length_take]; omega)
      have HST := Lib.hid hst
      have HKA := Lib.hid hka
      clear hst hka hJ1 hJs hkp hzk c0 c1 hY hE
      generalize zs[k] = x at *
      gi_wp2
      refine hR.mono ?_
      rintro e W3 (⟨rfl, hJ3, hk3⟩ | ⟨rfl, hJx3⟩)
      · have HJ3 := Lib.hid hJ3
        have HK3 := Lib.hid (HKA.out.trans hk3)
        clear hJ3 hk3
        gi_wp2
        go_roundw
        case rel => exact ⟨k + 1, by omega, by go_num, by rw [HST.out]; exact HJ3.out, HK3.out⟩
        case measure => simp [intOf]; omega
      · gi_wp2
        refine bodyPost_ret (results_none rfl _ _ _) rfl ?_
        exact ⟨⟨_, rfl⟩, .inr ⟨_, ⟨zs.drop (k + 1), by rw [← HST.out, List.take_append_drop]⟩, hJx3⟩⟩
    · obtain rfl : k = len := by omega
      gi_wp2
      go_end0
      exact ⟨⟨_, rfl⟩, .inl ⟨_, by rw [← hlen, List.take_length], hJs⟩⟩

theorem up1_stops (n : Nat) (hn : 1 ≤ n) (B g : Nat) (v : Value) (zs : List EnF) (hm : zs.length ≤ 1000000) (w : World) (hB : B < w.heap.size) (hg : g < w.heap.size) (hbox : w.heap[B]? = some (.cells #[v] 80 (0, 0))) (hE : EntsAt w g v (zs.map (·.1))) :
    SeqStopsK Fence.wide n Try.prog 71 #[.pointer (some ⟨B, 0, none⟩)] (fun x : EnF => #[.string (str x.1.1), .int .i64 x.1.2]) (KpE B g) (fun ys => ys = zs) (fun pre => pre <+: zs) zs.length w := fun l J Jx W hW hJ _ hY h0 => by
  obtain ⟨A, cap, rfl, hc⟩ := hE
  rw [List.length_map] at hbox
  refine up1_in n hn l B g zs.length cap A zs rfl hm J Jx W hJ hY (Nat.lt_of_lt_of_le hB hW.size) (Nat.lt_of_lt_of_le hg hW.size) (one_m ((hW.block B hB).trans hbox)) (fun i x hx => ?_) h0
  obtain ⟨h1, h2, h3, h4⟩ := hc i x.1 (by rw [List.getElem?_map, hx]; rfl)
  exact ⟨h1, (hW.cell (p := ⟨g, _, none⟩) h2).trans h3, (hW.cell (p := ⟨g, _, none⟩) h2).trans h4⟩

#print axioms up1_stops
end Go.Proofs.Ytbjhdfincoadaaa

namespace Go.Proofs.Ytbjhdfincoadaaa
open Go.RowKit Go.Maps Go.Shelf

attribute [local go_sem] Oper.semAt_some

/-- While entries are told, and stopped. -/
structure DuJ (w : World) (p b N : Nat) (R E' : List En) (W : World) : Prop where
  ptr : W.heap[w.heap.size]? = some (.cells #[.pointer (some ⟨p, 0, none⟩)] 67 (0, 0))
  due : ∃ v, W.heap[w.heap.size + 1]? = some (.cells #[v] 80 (0, 0)) ∧ W.ownsRow N 88 2 v R.length (R.flatMap enE)
  tim : TimAt W p b E'
  mv : Moved w W p b
  pw : p < w.heap.size
  bw : b < w.heap.size
  hN : w.heap.size + 2 ≤ N
  sz : N ≤ W.heap.size

section
variable {w : World} {p b N : Nat} {R E' : List En} {W : World}

theorem DuJ.turn (h : DuJ w p b N R E' W) {W' : World} {row : Option Nat} (hg : W.grownBy W' row) (hr : ∀ r, row = some r → w.heap.size + 2 ≤ r ∧ ∃ o : Obj, W.heap[r]? = some o ∧ o.isCells = false) : DuJ w p b N R E' W' := by
  have hp := h.pw
  have hb := h.bw
  have ne : ∀ k, k < w.heap.size + 2 → some k ≠ row := fun k hk e => by have := (hr k e.symm).1; omega
  obtain ⟨v, hv, hown⟩ := h.due
  refine ⟨(hg.block _ (m_size h.ptr) (ne _ (by omega))).trans h.ptr, ⟨v, (hg.block _ (m_size hv) (ne _ (by omega))).trans hv, ?_⟩, h.tim.keep (hg.block _ (m_size h.tim.cells) (ne _ (by omega))) (hg.block _ h.tim.map.lt (ne _ (by omega))), ?_, hp, hb, h.hN, Nat.le_trans h.sz hg.size⟩
  · refine hown.kept hg ?_
    rcases hown.2 with ⟨rfl, _⟩ | ⟨g, cap, cur, rfl, _, hgb, _⟩
    · exact .inl rfl
    · refine .inr fun e => ?_
      obtain ⟨_, o, ho, hc⟩ := hr g (by rw [← e]; rfl)
      rw [hgb] at ho
      cases ho
      cases hc
  · have hm := h.mv
    exact ⟨hg.os.trans hm.os, hg.tape.trans hm.tape, hg.output.trans hm.output, Nat.le_trans hm.size hg.size, fun k hk h1 h2 => (hg.block k (Nat.lt_of_lt_of_le hk hm.size) (ne k (by omega))).trans (hm.block k hk h1 h2)⟩

/-- An entry is appended, and the slice stored. -/
theorem DuJ.app (h : DuJ w p b N R E' W) {v : Value} (hv : W.heap[w.heap.size + 1]? = some (.cells #[v] 80 (0, 0))) (hvo : W.ownsRow N 88 2 v R.length (R.flatMap enE)) {x : En} {O : Obj} {W2 : World} {v' : Value}
    (hown : W2.ownsRow N 88 2 v' (R.length + 1) (R.flatMap enE ++ [.string (str x.1), .int .i64 x.2])) (hg : (W.alloc O).grownBy W2 v.ownBlock) :
    DuJ w p b N (R ++ [x]) E' (W2.setCell ⟨w.heap.size + 1, 0, none⟩ v') := by
  have hp := h.pw
  have hb := h.bw
  have hz := m_size hv
  have ap : ∀ k, k < w.heap.size + 2 → some k ≠ v.ownBlock := fun k hk e => by have := (hvo.lt k e.symm).1; have := h.hN; omega
  have far : ∀ k, k < W.heap.size → k < w.heap.size + 2 → W2.heap[k]? = W.heap[k]? := fun k hk hk2 => (hg.block k (by simp; omega) (ap k hk2)).trans (Below.heap_alloc W O k hk)
  have far2 : ∀ k, k < W.heap.size → k < w.heap.size + 2 → k ≠ w.heap.size + 1 → (W2.setCell ⟨w.heap.size + 1, 0, none⟩ v').heap[k]? = W.heap[k]? := fun k hk hk2 hne => (Below.heap_setCell W2 ⟨w.heap.size + 1, 0, none⟩ v' k (by show k ≠ w.heap.size + 1; exact hne)).trans (far k hk hk2)
  have hm := h.mv
  have hz2 := hg.size
  rw [World.size_alloc] at hz2
  refine ⟨(far2 _ (m_size h.ptr) (by omega) (by omega)).trans h.ptr, ⟨v', ?_, ?_⟩, h.tim.keep (far2 _ (m_size h.tim.cells) (by omega) (by omega)) (far2 _ h.tim.map.lt (by omega) (by omega)), ?_, hp, hb, h.hN, by have := h.sz; simp [World.setCell]; omega⟩
  · have := (far _ hz (by omega)).trans hv
    simp [World.setCell, Array.getElem?_modify, this]
  · have e1 : (R ++ [x]).length = R.length + 1 := by simp
    rw [e1, List.flatMap_append]
    refine hown.kept (grownBy_setCell' W2 (w.heap.size + 1) v') (.inr fun e => ?_)
    have := (hown.lt _ e).1
    have := h.hN
    omega
  · exact ⟨hg.os.trans hm.os, hg.tape.trans hm.tape, hg.output.trans hm.output, by have := hm.size; simp [World.setCell]; omega, fun k hk h1 h2 => (far2 k (by have := hm.size; omega) (by omega) (by omega)).trans (hm.block k hk h1 h2)⟩

/-- A key is stopped. -/
theorem DuJ.stop (h : DuJ w p b N R E' W) {W' : World} {k : List UInt8} (ht : TimAt W' p b (delE k E')) (hm : Moved W W' p b) : DuJ w p b N R (delE k E') W' := by
  have hp := h.pw
  have hb := h.bw
  have hms := h.mv.size
  have hN := h.hN
  obtain ⟨v, hv, hown⟩ := h.due
  refine ⟨(hm.block _ (m_size h.ptr) (by omega) (by omega)).trans h.ptr, ⟨v, (hm.block _ (m_size hv) (by omega) (by omega)).trans hv, ?_⟩, ht, h.mv.trans hm, hp, hb, h.hN, Nat.le_trans h.sz hm.size⟩
  refine ⟨hown.1, ?_⟩
  rcases hown.2 with e | ⟨g, cap, cur, hv2, hB, hg, rest⟩
  · exact .inl e
  · exact .inr ⟨g, cap, cur, hv2, hB, (hm.block g (m_size hg) (by omega) (by omega)).trans hg, rest⟩
theorem DuJ.box1 (h : DuJ w p b N R E' W) {v : Value} (hv : W.heap[w.heap.size + 1]? = some (.cells #[v] 80 (0, 0))) (hvo : W.ownsRow N 88 2 v R.length (R.flatMap enE)) {O : Obj} {W2 : World} (hg : (W.alloc O).grownBy W2 v.ownBlock) :
    W2.heap[w.heap.size + 1]? = some (.cells #[v] 80 (0, 0)) :=
  ((hg.block _ (by have := m_size hv; simp; omega) (fun e => by have := (hvo.lt _ e.symm).1; have := h.hN; omega)).trans (Below.heap_alloc W O _ (m_size hv))).trans hv

/-- What an append, and the store behind it, keep. -/
theorem DuJ.kept (h : DuJ w p b N R E' W) {v : Value} (hv : W.heap[w.heap.size + 1]? = some (.cells #[v] 80 (0, 0))) (hvo : W.ownsRow N 88 2 v R.length (R.flatMap enE)) {O : Obj} {W2 : World} {v' : Value} (hg : (W.alloc O).grownBy W2 v.ownBlock)
    {W3 : World} (hm : Moved (W2.setCell ⟨w.heap.size + 1, 0, none⟩ v') W3 p b) : KeepsFrom N W W3 ∧ ∀ k, k < N → w.heap.size + 2 ≤ k → k < W.heap.size → W3.heap[k]? = W.heap[k]? := by
  have hp := h.pw
  have hb := h.bw
  have hN := h.hN
  have hz2 := hg.size
  rw [World.size_alloc] at hz2
  have hz3 := hm.size
  have e3 : (W2.setCell ⟨w.heap.size + 1, 0, none⟩ v').heap.size = W2.heap.size := by simp [World.setCell]
  rw [e3] at hz3
  have key : ∀ k, w.heap.size + 2 ≤ k → k < W.heap.size → some k ≠ v.ownBlock → W3.heap[k]? = W.heap[k]? := fun k h1 h2 h3 =>
    (hm.block k (by omega) (by omega) (by omega)).trans ((Below.heap_setCell W2 ⟨w.heap.size + 1, 0, none⟩ v' k (by show k ≠ w.heap.size + 1; omega)).trans ((hg.block k (by simp; omega) h3).trans (Below.heap_alloc W O k h2)))
  refine ⟨⟨by omega, fun k o hk ho hc => (key k (by omega) (m_size ho) (fun e => ?_)).trans ho⟩, fun k h1 h2 h3 => key k h2 h3 (fun e => by have := (hvo.lt k e.symm).1; omega)⟩
  rcases hvo.2 with ⟨rfl, _⟩ | ⟨g, cap, cur, rfl, _, hgb, _⟩
  · simp [Value.ownBlock] at e
  · have : k = g := by simpa [Value.ownBlock] using e
    subst this
    rw [hgb] at ho
    cases ho
    cases hc
end

/-- What is left when keys are stopped one behind the other. -/
def dropK (F E : List En) : List En := F.foldl (fun E x => delE x.1 E) E
theorem dropK_snoc (F E : List En) (x : En) : dropK (F ++ [x]) E = delE x.1 (dropK F E) := by simp [dropK, List.foldl_append]
theorem mem_dropK (x : En) : ∀ F E : List En, x ∈ dropK F E ↔ (x ∈ E ∧ ∀ y ∈ F, x.1 ≠ y.1)
  | [], _ => by simp [dropK]
  | y :: F, E => by
    show x ∈ dropK F (delE y.1 E) ↔ _
    rw [mem_dropK x F (delE y.1 E), mem_delE]
    simp [and_assoc]
theorem ord_dropK : ∀ (F : List En) {E : List En}, Ord E → Ord (dropK F E)
  | [], _, h => h
  | y :: F, _, h => ord_dropK F (h.del y.1)
theorem dropK_up {E : List En} (hO : Ord E) (t : Int) : dropK (E.filter fun x => decide (x.2 ≤ t)) E = E.filter fun x => !decide (x.2 ≤ t) := by
  refine Ord.unique (ord_dropK _ hO).rise (hO.filter _).rise fun x => ?_
  rw [mem_dropK, List.mem_filter]
  constructor
  · rintro ⟨h1, h2⟩
    refine ⟨h1, ?_⟩
    by_cases h3 : x.2 ≤ t
    · exact absurd rfl (h2 x (List.mem_filter.2 ⟨h1, by simpa using h3⟩))
    · simpa using h3
  · rintro ⟨h1, h2⟩
    refine ⟨h1, fun y hy e => ?_⟩
    obtain ⟨hy1, hy2⟩ := List.mem_filter.1 hy
    have e1 := (getE_iff hO x.1 x.2).2 h1
    have e2 := (getE_iff hO x.1 y.2).2 (by rw [e]; exact hy1)
    rw [e1] at e2
    injection e2 with e2
    simp at h2 hy2
    omega

theorem two_newT {w : World} {a b : Value} {t : TypeId} : ∀ j u, [a, b][j]? = some u → (w.alloc (.cells #[a, b] t)).cell? ((⟨w.heap.size, 0, none⟩ : Addr).add j) = some u := two_new w a b t

/-- What Due answers, and leaves. -/
structure DueR (w : World) (p b : Nat) (E : List En) (t : Int) (e : Ending) (w' : World) : Prop where
  ans : ∃ v g, e = .returned v ∧ EntsAt w' g v (E.filter fun x => decide (x.2 ≤ t)) ∧ (w.heap.size ≤ g ∧ w'.ownsRow w.heap.size 88 2 v (E.filter fun x => decide (x.2 ≤ t)).length ((E.filter fun x => decide (x.2 ≤ t)).flatMap enE))
  tim : TimAt w' p b (E.filter fun x => !decide (x.2 ≤ t))
  mv : Moved w w' p b

theorem owns_ents {W : World} {B : Nat} {v : Value} {R : List En} (h : W.ownsRow B 88 2 v R.length (R.flatMap enE)) : ∃ g, EntsAt W g v R ∧ B ≤ g := by
  rcases h.2 with ⟨rfl, h0⟩ | ⟨g, cap, cur, rfl, hB, hg, _⟩
  · obtain rfl : R = [] := List.eq_nil_of_length_eq_zero h0
    exact ⟨B, ⟨none, 0, rfl, fun i x hx => by simp at hx⟩, Nat.le_refl _⟩
  · refine ⟨g, ⟨some ⟨g, 0, none⟩, cap, rfl, fun i x hx => ?_⟩, hB⟩
    have hi := (List.getElem?_eq_some_iff.1 hx).1
    refine ⟨rfl, m_size hg, ?_, ?_⟩
    · have := h.cellAt (i * 2 + 0) (by omega)
      rw [enE_at R i 0 (by omega), hx] at this
      simpa [enE] using this
    · have := h.cellAt (i * 2 + 1) (by omega)
      rw [enE_at R i 1 (by omega), hx] at this
      simpa [enE] using this

#print axioms dropK_up
end Go.Proofs.Ytbjhdfincoadaaa

namespace Go.Proofs.Ytbjhdfincoadaaa
open Go.RowKit Go.Maps Go.Shelf

attribute [local go_sem] Oper.semAt_some

theorem enF_list : ∀ {F : List En}, Fits F → ∃ zs : List EnF, zs.map (·.1) = F
  | [], _ => ⟨[], rfl⟩
  | x :: _, h => by
    obtain ⟨zs, hz⟩ := enF_list fun y hy => h y (List.mem_cons_of_mem _ hy)
    exact ⟨⟨x, h x (List.mem_cons_self ..)⟩ :: zs, by simp [hz]⟩
theorem KpE.put {B g : Nat} {W : World} {l : Nat} {o : Obj} (hB : B < l) (hg : g < l) : KpE B g W (W.putObj l o) :=
  ⟨World.putObj_heap_other (by omega), World.putObj_heap_other (by omega), by simp⟩
theorem Fits.filter {E : List En} (h : Fits E) (f : En → Bool) : Fits (E.filter f) := fun x hx => h x (List.mem_filter.1 hx).1

/-- While Due goes on. -/
def DuI (w : World) (p b N : Nat) (E : List En) (pre : List EnF) (W : World) : Prop := DuJ w p b N (pre.map (·.1)) (dropK (pre.map (·.1)) E) W

set_option maxRecDepth 100000 in
set_option maxHeartbeats 2000000 in
theorem tiDue_calls (w : World) (p b : Nat) (E : List En) (t : Int) (hn : E.length ≤ 1000000) (h : TimAt w p b E) : Calls Try.prog 34 #[.pointer (some ⟨p, 0, none⟩), .int .i64 t] w (DueR w p b E t) := by
  obtain ⟨i0, hi, hz0, hz1, hz2⟩ := info_parts Try.infoEntry
  have HW1 := Lib.hid (((Below.refl _ w).alloc (Nat.le_refl _) (.cells #[.pointer (some ⟨p, 0, none⟩)] 67)).alloc (by simp) (.cells #[.slice none 0 0] 80))
  have HP1 := Lib.hid ((Below.heap_alloc (w.alloc (.cells #[.pointer (some ⟨p, 0, none⟩)] 67)) (.cells #[.slice none 0 0] 80) w.heap.size (by simp)).trans (heap_alloc_new w (.cells #[.pointer (some ⟨p, 0, none⟩)] 67)))
  have e2 := heap_alloc_new (w.alloc (.cells #[.pointer (some ⟨p, 0, none⟩)] 67)) (.cells #[.slice none 0 0] 80)
  rw [World.size_alloc] at e2
  have HD1 := Lib.hid e2
  have HH := Lib.hid h
  have hF := enF_list (h.fits.filter fun x => decide (x.2 ≤ t))
  obtain ⟨zs, hzs⟩ := hF
  have hzl : zs.length ≤ 1000000 := by
    have := congrArg List.length hzs
    rw [List.length_map] at this
    have h2 := List.length_filter_le (fun x : En => decide (x.2 ≤ t)) E
    omega
  clear e2 h
  refine (callsIn_wide (n := 5)).1 ?_
  refine callsIn_of_wp_marks Try.func34 rfl trivial ?_ rfl
  simp only [Try.ntmps34, List.size_toArray, List.length_cons, List.length_nil, Nat.reduceAdd, Nat.reduceSub, Array.replicate_succ, Array.replicate_zero, List.push_toArray, List.append_toArray, List.nil_append, List.cons_append]
  gi_wp2_with (refine ⟨trivial, ?_⟩; gi_at_call 59; refine (callsIn_wide.2 (tiUpTo_calls _ p b E t hn (HH.out.below HW1.out))).mono ?_; rintro e w2 ⟨B, g, v, rfl, hU⟩)
  have hpw := m_size HH.out.cells
  have hbw := HH.out.map.lt
  have hs1 : ((w.alloc (.cells #[.pointer (some ⟨p, 0, none⟩)] 67)).alloc (.cells #[.slice none 0 0] 80)).heap.size = w.heap.size + 2 := by simp
  have hUb := hU.bel
  have hUB := hU.hB
  have hUg := hU.hg
  rw [hs1] at hUB hUg
  have hB2 := m_size hU.box
  have J0 := Lib.hid (show DuJ w p b w2.heap.size [] E w2 from by
    have hs2 := hUb.size
    rw [hs1] at hs2
    refine ⟨(hUb.block _ (by omega)).trans HP1.out, ⟨_, (hUb.block _ (by omega)).trans HD1.out, World.ownsRow_nil _ _ _ _⟩, HH.out.below (HW1.out.trans (hUb.mono (by omega))), Moved.of_below (HW1.out.trans (hUb.mono (by omega))), hpw, hbw, hs2, Nat.le_refl _⟩)
  have hent := hU.ents
  have HBX := Lib.hid hU.box
  rw [← hzs] at hent
  obtain ⟨g2, hg2, hent2, hg2r⟩ : ∃ g2, g2 < w2.heap.size ∧ EntsAt w2 g2 v (zs.map (·.1)) ∧ w.heap.size + 2 ≤ g2 := by
    by_cases hgl : g < w2.heap.size
    · exact ⟨g, hgl, hent, hUg⟩
    · refine ⟨B, hB2, ?_, hUB⟩
      obtain ⟨A, c, hv, hc⟩ := hent
      exact ⟨A, c, hv, fun i x hx => absurd (hc i x hx).2.1 hgl⟩
  have HE2 := Lib.hid hent2
  clear hU hUb hent hent2 HP1 HD1 hs1
  refine wpIn_rangeFunc_ownG rfl (by omega) (gf := 71) (lb := #[.pointer (some ⟨B, 0, none⟩)]) rfl trivial (enters_of Try.func71 (by kernel_rfl) rfl)
    (up1_stops (5 - 1) (by omega) B g2 v zs hzl w2 hB2 hg2 HBX.out HE2.out) (fun h k => h.trans k) (fun W l o o' hl _ _ _ => KpE.put (by omega) (by omega)) (Below.refl _ _) (fun _ => rfl)
    (DuI w p b w2.heap.size E)
    (fun _ _ _ => False)
    (fun s W W' row hs hg hr => DuJ.turn hs hg (fun r e => ⟨Nat.le_trans J0.out.hN (hr r e).1, (hr r e).2⟩))
    (fun _ _ _ _ _ hs _ _ => hs)
    J0.out
    (fun x => { tmps := #[.pointer (some ⟨p, 0, none⟩), .int .i64 t, .pointer (some ⟨w.heap.size, 0, none⟩), undef, .slice none 0 0, .pointer (some ⟨w.heap.size + 1, 0, none⟩), .string (str x.1.1), .int .i64 x.1.2, .pointer (some ⟨p, 0, none⟩), .int .i64 t, .func (.func 71) #[] #[.pointer (some ⟨B, 0, none⟩)], .string (str x.1.1), .int .i64 x.1.2, undef, undef, undef, undef, undef, undef, undef, undef, undef, undef], defers := [] }) ?assign ?body ?done ?stop
  case assign =>
    intro l x W K hK
    gi_wp2
    exact hK
  case body =>
    rintro l pre x W hJ0 hlt
    have hJ : DuJ w p b w2.heap.size (pre.map (·.1)) (dropK (pre.map (·.1)) E) W := hJ0
    clear hJ0
    have HJ := Lib.hid hJ
    obtain ⟨v0, hv, hvo⟩ := hJ.due
    have hN := hJ.hN
    have hp0 := one_m hJ.ptr
    have hd0 := one_m hv
    have hdf := one_mf hv
    have HV := Lib.hid hv
    have HVO := Lib.hid hvo
    have hwz := m_size hv
    have hpl : (pre.map (·.1)).length = pre.length := List.length_map _
    obtain ⟨A0, c0, rfl⟩ : ∃ A c, v0 = .slice A pre.length c := by
      rcases hvo.2 with ⟨e, h0⟩ | ⟨g, cap, _, e, _⟩
      · exact ⟨none, 0, by rw [hpl] at h0; rw [h0]; exact e⟩
      · rw [hpl] at e; exact ⟨_, _, e⟩
    rw [hpl] at hvo
    obtain ⟨⟨xk, xa⟩, hxk, hxa⟩ := x
    dsimp only at *
    have OC2 : ∀ u ∈ [Value.string (str xk), .int .i64 xa], u.oneCell' = true := by simp [Value.oneCell']
    have NW2 := Lib.hid (two_new W (.string (str xk)) (.int .i64 xa) 88)
    have OW2 := Lib.hid (World.ownsRow.alloc hvo (.cells #[.string (str xk), .int .i64 xa] 88))
    have BS2 : w2.heap.size ≤ (W.alloc (.cells #[.string (str xk), .int .i64 xa] 88)).heap.size := by have := HJ.out.sz; simp; omega
    have KM2 : pre.length + 1 ≤ maxLen := by unfold maxLen; omega
    have KB2 : (pre.length + 1) * 24 ≤ 140737488355328 := by omega
    gi_wp2_with (first
      | (gi_at_builtin; refine wpListIn_append_own _ rfl _ _ 80 rfl w2.heap.size 88 i0 (.agg #[.string ⟨#[]⟩, .int .i64 0]) 2 24 Try.underlying80 hi hz0 hz1 hz2 rfl (by decide) _ _ _ rfl OW2.out ⟨W.heap.size, 0, none⟩ 1 1 [.string (str xk), .int .i64 xa] rfl rfl NW2.out OC2 KM2 KB2 BS2 ?_; intro v' w1 hown' hgrow _; obtain ⟨g', cap', rfl⟩ := ownsRow_succ hown'; have L1 := HJ.out.box1 HV.out HVO.out hgrow; have m0 := one_m L1; have mf := one_mf L1; have ml := m_size L1; have JA := Lib.hid (HJ.out.app HV.out HVO.out (x := (xk, xa)) (by rw [hpl]; exact hown') hgrow); have p3 := one_m JA.out.ptr; have HG := Lib.hid hgrow; clear hown' hgrow L1 hp0 hd0 hdf)
      | (refine ⟨trivial, ?_⟩; gi_at_call 32; refine (CallsIn.inRound l (callsIn_wide.2 (tiStop_calls _ p b _ xk hxk JA.out.tim))).mono ?_; rintro e w3 ⟨rfl, hT3, hM3⟩))
    have hK := HJ.out.kept HV.out HVO.out HG.out hM3
    have hsz := HJ.out.sz
    refine ⟨hK.1, ⟨hK.2 _ hB2 hUB (by omega), hK.2 _ hg2 hg2r (by omega), hK.1.size⟩, ?_⟩
    show DuJ w p b w2.heap.size _ _ w3
    rw [List.map_append, List.map_singleton, dropK_snoc]
    exact JA.out.stop hT3 hM3
  case done =>
    rintro D xs W hD rfl hJ hK
    have hJ2 : DuJ w p b w2.heap.size (xs.map (·.1)) (dropK (xs.map (·.1)) E) W := hJ
    obtain ⟨v0, hv, hvo⟩ := hJ2.due
    have hd0 := one_m hv
    have hJ3 := hJ2.turn (grownBy_putObj' W D (.deferred none)) (fun r e => by cases e; exact ⟨Nat.le_trans hJ2.hN hD, _, hK, rfl⟩)
    gi_wp2
    refine ⟨by simp, .inl ⟨_, _, rfl, run_takeDeferred hK, ?_⟩⟩
    refine ⟨_, results_tmp rfl _ _ _, ?_⟩
    have hvo3 := ownsRow_putObj (o' := .deferred none) hvo hK rfl
    obtain ⟨g5, he5, hg5⟩ := owns_ents hvo3
    rw [hzs] at he5 hJ3 hvo3
    rw [dropK_up HH.out.ord] at hJ3
    have hNN := hJ2.hN
    exact ⟨⟨_, g5, rfl, he5, by omega, hvo3.mono (by omega)⟩, hJ3.tim, hJ3.mv⟩
  case stop =>
    rintro D c pre W _ _ h _
    exact h.elim

end Go.Proofs.Ytbjhdfincoadaaa

namespace Go.Proofs.Ytbjhdfincoadaaa
open Go.RowKit Go.Maps Go.Shelf

/-- Timers that a call has made. -/
structure TiJ (w : World) (p b : Nat) (E : List En) (W : World) : Prop where
  tim : TimAt W p b E
  bel : Below w.heap.size w W
  hp : w.heap.size ≤ p
  hb : w.heap.size ≤ b
theorem TiJ.below {w W W' : World} {p b : Nat} {E : List En} (h : TiJ w p b E W) (hb : Below W.heap.size W W') : TiJ w p b E W' := ⟨h.tim.below hb, h.bel.trans (hb.mono h.bel.size), h.hp, h.hb⟩
theorem TiJ.moved {w W W' : World} {p b : Nat} {E E' : List En} (h : TiJ w p b E W) (ht : TimAt W' p b E') (hm : Moved W W' p b) : TiJ w p b E' W' := ⟨ht, h.bel.trans (hm.below h.hp h.hb h.bel.size), h.hp, h.hb⟩

theorem aw_set : setE (setE (setE [] [98] 5) [97] 5) [99] 3 = [([99], 3), ([97], 5), ([98], 5)] := by decide +kernel

set_option maxRecDepth 100000 in
set_option maxHeartbeats 2000000 in
theorem awake18_calls (w : World) : Calls Try.prog 27 #[] w fun e w' => e = .returned (.bool true) ∧ Below w.heap.size w w' := by
  have e1 : (str [99]).toList = [99] := str_list _
  have e2 : (str [97]).toList = [97] := str_list _
  go_enter Try.func27, Try.ntmps27
  go_wp2_with fail
  refine (tiNew_calls w).mono ?_
  rintro e w1 ⟨p, b, rfl, hA, hB, hp, hb⟩
  have J1 := Lib.hid (show TiJ w p b [] w1 from ⟨hA, hB, hp, hb⟩)
  clear hA hB hp hb
  go_wp2_with fail
  refine (tiSet_calls w1 p b _ [98] 5 (by unfold maxLen; simp) (by decide) (by unfold maxLen; simp) J1.out.tim).mono ?_
  rintro e w2 ⟨rfl, h1, h2⟩
  have J2 := Lib.hid (J1.out.moved h1 h2)
  clear h1 h2 J1
  go_wp2_with fail
  refine (tiSet_calls w2 p b _ [97] 5 (by unfold maxLen; simp) (by decide) (by unfold maxLen; simp [setE, delE, insE]) J2.out.tim).mono ?_
  rintro e w3 ⟨rfl, h1, h2⟩
  have J3 := Lib.hid (J2.out.moved h1 h2)
  clear h1 h2 J2
  go_wp2_with fail
  refine (tiSet_calls w3 p b _ [99] 3 (by unfold maxLen; simp) (by decide) (by rw [show setE (setE [] [98] 5) [97] 5 = [([97], 5), ([98], 5)] by decide +kernel]; unfold maxLen; simp) J3.out.tim).mono ?_
  rintro e w4 ⟨rfl, h1, h2⟩
  rw [aw_set] at h1
  have J4 := Lib.hid (J3.out.moved h1 h2)
  clear h1 h2 J3
  go_wp2_with fail
  refine (tiDue_calls w4 p b _ 5 (by simp) J4.out.tim).mono ?_
  rintro e w5 ⟨⟨v, g, rfl, ⟨A, c, rfl, hc⟩, hg⟩, h1, h2⟩
  rw [show ([([99], 3), ([97], 5), ([98], 5)] : List En).filter (fun x => !decide (x.2 ≤ 5)) = [] by decide +kernel] at h1
  rw [show ([([99], 3), ([97], 5), ([98], 5)] : List En).filter (fun x => decide (x.2 ≤ 5)) = [([99], 3), ([97], 5), ([98], 5)] by decide +kernel] at hc ⊢
  have J5 := Lib.hid (J4.out.moved h1 h2)
  obtain ⟨rfl, _, c0, _⟩ := hc 0 _ rfl
  obtain ⟨_, _, c1, _⟩ := hc 1 _ rfl
  clear h1 h2 J4 hc
  dsimp only at c0 c1
  go_wp2_with fail
  refine (tiLen_calls w5 p b _ J5.out.tim).mono ?_
  rintro e w6 ⟨rfl, rfl⟩
  go_wp2
  go_ret
  exact ⟨rfl, J5.out.bel⟩

#print axioms awake18_calls
end Go.Proofs.Ytbjhdfincoadaaa

namespace Go.Proofs.Ytbjhdfincoadaaa
open Go.RowKit Go.Maps Go.ChangeShapes Go.WideShapes Go.Deep

/-- A slice of texts that came in. -/
def StrsIn (W : World) (v : Value) (zs : List ByteArray) : Prop :=
  ∃ A cap, v = .slice A zs.length cap ∧ zs.length ≤ maxLen ∧ ∀ (i : Nat) (s : ByteArray), zs[i]? = some s → ∃ b o, A = some ⟨b, o, none⟩ ∧ b < W.heap.size ∧ W.cell? ⟨b, o + i, none⟩ = some (.string s) ∧ s.size ≤ maxLen

set_option maxRecDepth 100000 in
theorem open_strsIn {H : Type} {enc : TypeId × Value → H} {W : World} {v : Value} {d : DataW H} {p : List MemPlace} {base : Nat} (hv : Value.okWide Try.prog W .any base 100 v) (h : DataW.Trod enc Try.prog W 0 (fun _ => true) true 100 v d p) :
    ∃ zs, StrsIn W v zs := by
  obtain ⟨A, len, cap, rfl⟩ := okWide_slice Try.underlying100 hv
  obtain ⟨fuel, hf⟩ := h
  rcases open_strs Try.underlying100 Try.underlying9 (by kernel_rfl) hf with ⟨hcs, _⟩ | ⟨ad, l, c, m, S, hcs, _, hl, hm, hmm, _, hall⟩
  · simp [Value.cells] at hcs
    obtain ⟨rfl, rfl, rfl⟩ := hcs
    exact ⟨[], none, 0, rfl, Nat.zero_le _, fun i s hi => by simp at hi⟩
  · simp [Value.cells] at hcs
    obtain ⟨rfl, rfl, rfl⟩ := hcs
    simp only [if_true] at hmm
    subst hmm
    refine ⟨(List.range len).map S, some ad, _, by simp; rfl, by simp; omega, fun i s hi => ?_⟩
    obtain ⟨hlt, rfl⟩ := List.getElem?_eq_some_iff.1 hi
    simp at hlt
    obtain ⟨b, off, spot⟩ := ad
    have hsp : spot = none := by simpa [Addr.add] using World.cell?_spot (hall 0 (by omega)).1
    subst hsp
    obtain ⟨hc, hs⟩ := hall i (by omega)
    rw [Addr.add_lit] at hc
    exact ⟨b, off, rfl, World.block_lt_of_cell? W _ hc, by simpa using hc, by simpa using hs⟩

theorem ext_takeT (T : List UInt8) (n : Nat) : (str T).extract 0 n = str (T.take n) := by
  apply ByteArray.ext
  rw [ByteArray.data_extract]
  apply Array.ext'
  simp [str]
theorem ba_strT (s : ByteArray) : s = str s.data.toList := by
  apply ByteArray.ext
  simp [str]

theorem cut18_calls (w : World) (s : ByteArray) (n : Nat) (_hs : s.size ≤ maxLen) :
    Calls Try.prog 29 #[.string s, .int .i64 n] w fun e w' => e = .returned (.string (str (s.data.toList.take n))) ∧ w = w' := by
  have e0 : s.extract 0 n = str (s.data.toList.take n) := by
    conv => lhs; rw [ba_strT s]
    exact ext_takeT _ n
  rw [← e0]
  clear e0
  by_cases h : n < s.size
  · go_enter Try.func29, Try.ntmps29
    go_wp2
    go_ret
    exact ⟨rfl, rfl⟩
  · have e : s.extract 0 n = s := by
      apply ByteArray.ext
      rw [ByteArray.data_extract]
      apply Array.ext'
      simp
      exact List.take_of_length_le (by simp; omega)
    rw [e]
    go_enter Try.func29, Try.ntmps29
    go_wp2
    go_ret
    exact ⟨rfl, rfl⟩

/-- Block b is a map of just the keys of E; n: how often it was written, at most. -/
def SeenAt (w : World) (b n : Nat) (E : List En) : Prop :=
  ∃ D : DataW Unit, w.ownsMap Try.prog 9 (plainElem Try.prog 3) b n D ∧ (∀ k, Maps.has D (.string k) = hasE E k) ∧ Maps.size D = E.length
theorem SeenAt.keep {w w' : World} {b n : Nat} {E : List En} (h : SeenAt w b n E) (hb : w'.heap[b]? = w.heap[b]?) : SeenAt w' b n E := by
  obtain ⟨D, ⟨es, clock, h1, F, hs, hD⟩, r⟩ := h
  exact ⟨D, ⟨es, clock, hb.trans h1, F, hs, hD⟩, r⟩
theorem SeenAt.lt {w : World} {b n : Nat} {E : List En} (h : SeenAt w b n E) : b < w.heap.size := by
  obtain ⟨D, h1, _⟩ := h
  exact h1.lt
theorem SeenAt.made (w : World) : SeenAt (w.alloc (.map #[] 0)) w.heap.size 0 [] :=
  ⟨_, World.ownsMap_made _ _ _ _, fun i => by simp [Maps.has, hasE], rfl⟩
/-- A key is written: whatever list has just its keys besides. -/
theorem seen_put {w w' : World} {b n : Nat} {E E' : List En} {D : DataW Unit} {k : List UInt8} {d : DataW Unit} (hO' : E'.length = if hasE E k then E.length else E.length + 1) (hh' : ∀ j, hasE E' j = if k = j then true else hasE E j)
    (hown : w.ownsMap Try.prog 9 (plainElem Try.prog 3) b n D) (hhas : ∀ k, Maps.has D (.string k) = hasE E k) (hsz : Maps.size D = E.length)
    (h' : w'.ownsMap Try.prog 9 (plainElem Try.prog 3) b (n + 1) (D.put (.string k) d)) : SeenAt w' b (n + 1) E' := by
  refine ⟨_, h', fun j => ?_, ?_⟩
  · rw [hh']
    by_cases e : k = j
    · subst e
      rw [has_put_same hown.isMap (by simp [WideAt.IsKeyLit]), if_pos rfl]
    · rw [has_put_other (key_neT (Ne.symm e)), hhas j, if_neg e]
  · rw [size_put (hown.tidy law_strT), hhas k, hsz, hO']

/-- A key that is set twice. -/
theorem hasE_twice (E : List En) (k : List UInt8) (a b : Int) (j : List UInt8) : hasE (setE (setE E k a) k b) j = if k = j then true else hasE E j := by
  rw [hasE_set, hasE_set]
  split <;> simp_all
theorem length_twice {E : List En} (h : Ord E) (k : List UInt8) (a b : Int) : (setE (setE E k a) k b).length = if hasE E k then E.length else E.length + 1 := by
  rw [length_setE k b (h.set k a), hasE_set, if_pos rfl, if_pos rfl, length_setE k a h]
theorem all_twice {E : List En} {b : Int} (h : ∀ x ∈ E, x.2 = b) (k : List UInt8) (a : Int) : ∀ x ∈ setE (setE E k a) k b, x.2 = b := fun x hx => by
  rcases (mem_insE _ _ _).1 hx with rfl | hx
  · rfl
  · obtain ⟨h1, h2⟩ := (mem_delE _ _ _).1 hx
    rcases (mem_insE _ _ _).1 h1 with rfl | h1
    · exact absurd rfl h2
    · exact h x ((mem_delE _ _ _).1 h1).1

#print axioms open_strsIn
end Go.Proofs.Ytbjhdfincoadaaa

namespace Go.Proofs.Ytbjhdfincoadaaa
open Go.RowKit Go.Maps Go.ChangeShapes Go.WideShapes Go.Deep

/-- An act: its kind, its tick, its key. -/
structure TAc where
  kind : Int
  at' : Int
  key : ByteArray
instance : Inhabited TAc := ⟨⟨0, 0, ⟨#[]⟩⟩⟩

/-- A list of acts that came in. -/
def TActsIn (W : World) (v : Value) (X : List TAc) : Prop :=
  ∃ A cap, v = .slice A X.length cap ∧ X.length ≤ maxLen ∧ ∀ (i : Nat) (e : TAc), X[i]? = some e → ∃ b off, A = some ⟨b, off, none⟩ ∧ b < W.heap.size ∧
    W.cell? ⟨b, off + i * 3, none⟩ = some (.int .i64 e.kind) ∧ W.cell? ⟨b, off + i * 3 + 1, none⟩ = some (.int .i64 e.at') ∧ W.cell? ⟨b, off + i * 3 + 2, none⟩ = some (.string e.key) ∧ e.key.size ≤ maxLen ∧ (Lit.int .i64 e.at').wf = true ∧ (Lit.int .i64 e.kind).wf = true

set_option maxRecDepth 100000 in
theorem open_cellsT {H : Type} {enc : TypeId × Value → H} {W : World} {t e : TypeId} {fs : Array Field} {v : Value} {d : DataW H} {p : List MemPlace} (ht : Try.prog.underlying t = some (.slice e)) (he : Try.prog.underlying e = some (.struct fs))
    (hone : oneCellFields Try.prog fs = true) (hC : Try.prog.cellsOf e = fs.size) {base : Nat} (hv : Value.okWide Try.prog W .any base t v) (h : DataW.Trod enc Try.prog W 0 (fun _ => true) true t v d p) :
    ∃ A len cap, v = .slice A len cap ∧ len ≤ cap ∧ cap ≤ maxLen ∧ ∀ i, i < len → ∃ ad, A = some ad ∧ ∀ (j : Nat) (f : Field), fs[j]? = some f →
      ∃ u n y, W.cell? (ad.add (i * fs.size + j)) = some u ∧ DataW.trod enc Try.prog W 0 (fun _ => true) true n f.type [u] = some y := by
  obtain ⟨A, len, cap, rfl⟩ := okWide_slice ht hv
  obtain ⟨fuel, hf⟩ := h
  rcases open_slice ht hf with ⟨hcs, _⟩ | ⟨ad, l, c, m, n, D, Pl, hcs, _, hl, hm, hmm, _, hall⟩
  · simp [Value.cells] at hcs
    obtain ⟨rfl, rfl, rfl⟩ := hcs
    exact ⟨none, 0, 0, rfl, Nat.le_refl _, Nat.zero_le _, fun i hi => absurd hi (Nat.not_lt_zero _)⟩
  · simp [Value.cells] at hcs
    obtain ⟨rfl, rfl, rfl⟩ := hcs
    simp only [if_true] at hmm
    refine ⟨some ad, len, cap, rfl, hl, hm, fun i hi => ⟨ad, rfl, fun j f hj => ?_⟩⟩
    obtain ⟨cs, hc, htr⟩ := hall i (by omega)
    rw [hC] at hc
    obtain ⟨xs, k, _, _, _, hxl, hfields⟩ := DataW.trod_struct he htr
    obtain ⟨_, hlen, hat⟩ := World.cells?_some hc
    obtain ⟨hoff, hone1⟩ := hone_of hone j f hj
    have hjs : j < fs.size := (Array.getElem?_eq_some_iff.1 hj).1
    have h1 := hfields j f hj
    rw [hoff, hone1] at h1
    obtain ⟨u, hu⟩ : ∃ u, cs[j]? = some u := ⟨_, List.getElem?_eq_getElem (show j < cs.length by omega)⟩
    have e1 : (cs.drop j).take 1 = [u] := by
      rw [List.drop_eq_getElem_cons (show j < cs.length by omega), List.take_succ_cons, List.take_zero, (List.getElem?_eq_some_iff.1 hu).2]
    rw [e1] at h1
    exact ⟨u, k, _, by rw [← add_add, hat j hjs, hu], h1.trans (List.getElem?_eq_getElem (show j < xs.length by omega))⟩

set_option maxRecDepth 100000 in
theorem open_tactsIn {H : Type} {enc : TypeId × Value → H} {W : World} {v : Value} {d : DataW H} {p : List MemPlace} {base : Nat} (hv : Value.okWide Try.prog W .any base 66 v) (h : DataW.Trod enc Try.prog W 0 (fun _ => true) true 66 v d p) :
    ∃ X, TActsIn W v X := by
  obtain ⟨A, len, cap, rfl, hl, hm, hall⟩ := open_cellsT (e := 71) Try.underlying66 Try.underlying71 (by kernel_rfl) (by kernel_rfl) hv h
  obtain ⟨f, hf⟩ := choose_lt (α := TAc) (n := len) (p := fun i e => ∃ b off, A = some ⟨b, off, none⟩ ∧ b < W.heap.size ∧
    W.cell? ⟨b, off + i * 3, none⟩ = some (.int .i64 e.kind) ∧ W.cell? ⟨b, off + i * 3 + 1, none⟩ = some (.int .i64 e.at') ∧ W.cell? ⟨b, off + i * 3 + 2, none⟩ = some (.string e.key) ∧ e.key.size ≤ maxLen ∧ (Lit.int .i64 e.at').wf = true ∧ (Lit.int .i64 e.kind).wf = true) (by
    intro i hi
    obtain ⟨ad, rfl, hc⟩ := hall i hi
    obtain ⟨u0, n0, y0, c0, t0⟩ := hc 0 _ rfl
    obtain ⟨u1, n1, y1, c1, t1⟩ := hc 1 _ rfl
    obtain ⟨u2, n2, y2, c2, t2⟩ := hc 2 _ rfl
    obtain ⟨k, e0, _, w0⟩ := DataW.trod_int Try.underlying3 t0
    obtain ⟨n, e1, _, w1⟩ := DataW.trod_int Try.underlying3 t1
    obtain ⟨s, e2, _, hs⟩ := DataW.trod_string Try.underlying9 t2
    simp only [List.cons.injEq, and_true] at e0 e1 e2
    subst e0 e1 e2
    obtain ⟨b, off, spot⟩ := ad
    have hsp : spot = none := by
      obtain ⟨ad', ea, hc'⟩ := hall 0 (by omega)
      injection ea with ea
      subst ea
      obtain ⟨u', _, _, c', _⟩ := hc' 0 _ rfl
      simpa [Addr.add] using World.cell?_spot c'
    subst hsp
    simp only [Addr.add_lit] at c0 c1 c2
    exact ⟨⟨k, n, s⟩, b, off, rfl, World.block_lt_of_cell? W _ c0, c0, c1, c2, hs, w1, w0⟩)
  refine ⟨(List.range len).map f, A, cap, by simp, by simp; omega, fun i x hx => ?_⟩
  simp only [List.getElem?_map, Option.map_eq_some_iff] at hx
  obtain ⟨i', hi', rfl⟩ := hx
  obtain ⟨hlt, he⟩ := List.getElem?_eq_some_iff.1 hi'
  simp at hlt he
  subst he
  exact hf i hlt

theorem TActsIn.below {W W' : World} {v : Value} {X : List TAc} (h : TActsIn W v X) (hb : Below W.heap.size W W') : TActsIn W' v X := by
  obtain ⟨A, cap, rfl, hm, hc⟩ := h
  refine ⟨A, cap, rfl, hm, fun i e he => ?_⟩
  obtain ⟨b, off, hA, hl, c0, c1, c2, r⟩ := hc i e he
  exact ⟨b, off, hA, Nat.lt_of_lt_of_le hl hb.size, (hb.cell (p := ⟨b, _, none⟩) hl).trans c0, (hb.cell (p := ⟨b, _, none⟩) hl).trans c1, (hb.cell (p := ⟨b, _, none⟩) hl).trans c2, r⟩

#print axioms open_tactsIn
end Go.Proofs.Ytbjhdfincoadaaa

namespace Go.Proofs.Ytbjhdfincoadaaa
open Go.RowKit Go.Maps

theorem Try.structEntry : Try.prog.underlying 88 = some (.struct (Try.prog.fieldsOf 88)) := by kernel_rfl
theorem Try.standEntry : Try.prog.stoodInHeld 88 = false := by kernel_rfl
theorem Try.guardEntry : Try.prog.eqGuardType Try.prog.depth 88 = false := by kernel_rfl

set_option maxRecDepth 100000 in
theorem eq_entry (k : ByteArray) (a : Int) (w : World) : (Op.equalIn 10000 88 (.agg #[.string k, .int .i64 a]) (.agg #[.string k, .int .i64 a])).run Try.prog w = .ok true w := by
  rw [run_equalIn_agg w 9999 88 _ _ Try.structEntry Try.standEntry]
  simp [Op.eqFields, go_sem]
theorem neq_entry (k : ByteArray) (a : Int) (w : World) : (binOp .neq 88 (.agg #[.string k, .int .i64 a]) (.agg #[.string k, .int .i64 a])).run Try.prog w = .ok (.bool false) w := by
  rw [run_neq_struct, eq_entry]; rfl

/-- Two timers with the same entries. -/
structure TwJ (w : World) (p b q c : Nat) (E : List En) (k : Nat) (W : World) : Prop where
  s : TiJ w p b E W
  t : TiJ w q c E W
  n1 : p ≠ q
  n2 : p ≠ c
  n3 : b ≠ q
  n4 : b ≠ c
  len : E.length ≤ k

/-- Timers that others' calls leave alone. -/
theorem TiJ.other {w W W' : World} {p b q c : Nat} {E : List En} (h : TiJ w q c E W) (hm : Moved W W' p b) (hp : w.heap.size ≤ p) (hb : w.heap.size ≤ b) (n1 : p ≠ q) (n2 : p ≠ c) (n3 : b ≠ q) (n4 : b ≠ c) : TiJ w q c E W' :=
  ⟨h.tim.keep (hm.block q (m_size h.tim.cells) (Ne.symm n1) (Ne.symm n3)) (hm.block c h.tim.map.lt (Ne.symm n2) (Ne.symm n4)), h.bel.trans (hm.below hp hb h.bel.size), h.hp, h.hb⟩

theorem len_setE_le (E : List En) (hO : Ord E) (k : List UInt8) (a : Int) : (setE E k a).length ≤ E.length + 1 := by
  rw [length_setE k a hO]
  split <;> omega

/-- What is due up to two ticks, one behind the other. -/
theorem two_ticks {E : List En} (hO : Ord E) {a b : Int} (hab : a ≤ b) : (E.filter fun x => decide (x.2 ≤ a)) ++ ((E.filter fun x => !decide (x.2 ≤ a)).filter fun x => decide (x.2 ≤ b)) = E.filter fun x => decide (x.2 ≤ b) := by
  refine Ord.unique ?_ (hO.filter _).rise fun x => ?_
  · rw [List.pairwise_append]
    refine ⟨(hO.filter _).rise, ((hO.filter _).filter _).rise, fun x hx y hy => .inl ?_⟩
    have h1 := (List.mem_filter.1 hx).2
    have h2 := (List.mem_filter.1 (List.mem_filter.1 hy).1).2
    simp at h1 h2
    omega
  · simp only [List.mem_append, List.mem_filter, decide_eq_true_eq, Bool.not_eq_true', decide_eq_false_iff_not]
    constructor
    · rintro (⟨h1, h2⟩ | ⟨⟨h1, _⟩, h2⟩)
      · exact ⟨h1, by omega⟩
      · exact ⟨h1, h2⟩
    · rintro ⟨h1, h2⟩
      by_cases h3 : x.2 ≤ a
      · exact .inl ⟨h1, h3⟩
      · exact .inr ⟨⟨h1, h3⟩, h2⟩
theorem two_left {E : List En} {a b : Int} (hab : a ≤ b) : ((E.filter fun x => !decide (x.2 ≤ a)).filter fun x => !decide (x.2 ≤ b)) = E.filter fun x => !decide (x.2 ≤ b) := by
  rw [List.filter_filter]
  refine List.filter_congr fun x _ => ?_
  by_cases h : x.2 ≤ b
  · simp [h]
  · simp [h]; omega

theorem enE_one (L : List En) : ∀ u ∈ L.flatMap enE, u.oneCell' = true := fun u hu => by
  obtain ⟨x, _, hx⟩ := List.mem_flatMap.1 hu
  simp [enE] at hx
  rcases hx with rfl | rfl <;> rfl

/-- A row that a call owns stays where others' blocks turn. -/
theorem ownsRow_moved {W W' : World} {B p b n size : Nat} {e : TypeId} {v : Value} {xs : List Value} (h : W.ownsRow B e size v n xs) (hm : Moved W W' p b) (hp : p < B) (hb : b < B) : W'.ownsRow B e size v n xs := by
  refine ⟨h.1, ?_⟩
  rcases h.2 with e | ⟨g, cap, cur, hv2, hB, hg, rest⟩
  · exact .inl e
  · exact .inr ⟨g, cap, cur, hv2, hB, (hm.block g (m_size hg) (by omega) (by omega)).trans hg, rest⟩

/-- Timers stay where a row of a later block is written. -/
theorem TiJ.grown {w W W' : World} {p b B : Nat} {E : List En} (h : TiJ w p b E W) {row : Option Nat} (hg : W.grownBy W' row) (hr : ∀ r, row = some r → B ≤ r) (hp : p < B) (hb : b < B) (hw : w.heap.size ≤ B) : TiJ w p b E W' :=
  ⟨h.tim.keep (hg.block p (m_size h.tim.cells) (fun e => by have := hr p e.symm; omega)) (hg.block b h.tim.map.lt (fun e => by have := hr b e.symm; omega)), h.bel.grown hg h.bel.size (fun r e => by have := hr r e; omega), h.hp, h.hb⟩

/-- Nothing is appended. -/
theorem app_none (W : World) (i0 : TypeInfo) (hi : Try.prog.info? 88 = some i0) (A1 : Option Addr) (n1 c1 : Nat) (hle : n1 ≤ c1) (A2 : Option Addr) (c2 : Nat) (ty : TypeId) :
    (Builtin.append_ #[80, 80] ty #[.slice A1 n1 c1, .slice A2 0 c2]).run Try.prog W = .ok (.slice A1 n1 c1) W := by
  refine run_append_nothing W 80 80 ty 88 i0 Try.underlying80 hi A1 n1 c1 hle _ ?_
  cases A2 with
  | none => exact Src.ofNil W Try.underlying80 c2
  | some a => exact Src.ofSlice W Try.underlying80 a 0 c2 [] (by simp) (fun j u h => by simp at h) (fun u h => by cases h)

/-- .. at the operation. -/
theorem wpList_append_none {P : Program} (w : World) {ops : Array Oper} {rest : List Oper} {o : Oper} {a : Act} {Q : Exit → Act → World → Prop} (hgd : o.guard = none) (s x : Operand) (t : TypeId)
    (ho : o.op = .call { callee := .builtin .append, args := #[s, x], argTypes := #[t, t] }) (v u : Value) (hs : a.eval s = v) (hx : a.eval x = u) (hr : ∀ ty, (Builtin.append_ #[t, t] ty #[v, u]).run P w = .ok v w)
    (h : wpList P ops Q rest (a.put o.dst v) w) : wpList P ops Q (o :: rest) a w :=
  wpList_plain hgd fun K hK => by
    unfold Oper.wp execOp
    simp only [ho, resolve, invoke, builtin, Sem.run_bind, Sem.run_pure, Result.andThen_ok, List.map_toArray, List.map_cons, List.map_nil, hs, hx, hr]
    exact hK _ _ h

#print axioms two_ticks
end Go.Proofs.Ytbjhdfincoadaaa

namespace Go.Proofs.Ytbjhdfincoadaaa
open Go.RowKit Go.Maps

theorem and_range64 (a : Int) (m : Nat) (hm : m < 4294967296) : 0 ≤ bits .and .i64 a (m : Int) ∧ bits .and .i64 a (m : Int) ≤ m := by
  have e : (BitVec.ofInt IntKind.i64.bits a &&& BitVec.ofInt IntKind.i64.bits (m : Int)).toNat ≤ m := by
    rw [BitVec.toNat_and]
    refine Nat.le_trans Nat.and_le_right ?_
    rw [BitVec.toNat_ofInt]
    show ((m : Int) % (2 ^ 64 : Nat)).toNat ≤ m
    omega
  have h : bits .and .i64 a (m : Int) = IntKind.i64.wrap ((BitVec.ofInt IntKind.i64.bits a &&& BitVec.ofInt IntKind.i64.bits (m : Int)).toNat : Int) := rfl
  rw [h]
  generalize (BitVec.ofInt IntKind.i64.bits a &&& BitVec.ofInt IntKind.i64.bits (m : Int)).toNat = n at *
  rw [IntKind.wrap_i64]
  omega

/-- A slice of numbers that came in. -/
def I64sIn (W : World) (v : Value) (zs : List Int) : Prop :=
  ∃ A cap, v = .slice A zs.length cap ∧ zs.length ≤ maxLen ∧ ∀ i, i < zs.length → ∃ b o, A = some ⟨b, o, none⟩ ∧ b < W.heap.size ∧ W.cell? ⟨b, o + i, none⟩ = some (.int .i64 (zs.getD i 0))

open Go.ChangeShapes Go.WideShapes Go.Deep in
set_option maxRecDepth 100000 in
theorem open_i64sIn {H : Type} {enc : TypeId × Value → H} {W : World} {v : Value} {d : DataW H} {p : List MemPlace} {base : Nat} (hv : Value.okWide Try.prog W .any base 25 v) (h : DataW.Trod enc Try.prog W 0 (fun _ => true) true 25 v d p) :
    ∃ zs, I64sIn W v zs := by
  obtain ⟨A, len, cap, rfl⟩ := okWide_slice Try.underlying25 hv
  obtain ⟨fuel, hf⟩ := h
  rcases open_ints Try.underlying25 Try.underlying3 (by kernel_rfl) hf with ⟨hcs, _⟩ | ⟨ad, l, c, zs, hcs, _, hl, hm, hzl, _, hall, _⟩
  · simp [Value.cells] at hcs
    obtain ⟨rfl, rfl, rfl⟩ := hcs
    exact ⟨[], none, 0, rfl, Nat.zero_le _, fun i hi => by simp at hi⟩
  · simp [Value.cells] at hcs
    obtain ⟨rfl, rfl, rfl⟩ := hcs
    simp only [if_true] at hzl
    have htl : (zs.take len).length = len := by rw [List.length_take]; omega
    refine ⟨zs.take len, some ad, cap, by rw [htl], by omega, fun i hi => ?_⟩
    rw [htl] at hi
    have hc := hall i (by omega)
    obtain ⟨b, off, spot⟩ := ad
    have hsp : spot = none := by
      have := World.cell?_spot (hall 0 (by omega))
      simpa [Addr.add] using this
    subst hsp
    have hg : (zs.take len).getD i 0 = zs.getD i 0 := by
      rw [List.getD_eq_getElem?_getD, List.getElem?_take, if_pos hi, List.getD_eq_getElem?_getD]
    rw [Addr.add_lit] at hc
    exact ⟨b, off, rfl, World.block_lt_of_cell? W _ hc, by rw [hg]; exact hc⟩

/-- Timers, and a map that holds the same. -/
structure OnJ (w : World) (p b wb : Nat) (E : List En) (W : World) : Prop where
  tj : TiJ w p b E W
  want : MapE W wb E
  n1 : wb ≠ p
  n2 : wb ≠ b
  hs : w.heap.size ≤ wb

theorem OnJ.moved {w : World} {p b wb : Nat} {E E' : List En} {W W' : World} (h : OnJ w p b wb E W) (ht : TimAt W' p b E') (hm : Moved W W' p b) : TiJ w p b E' W' ∧ MapE W' wb E :=
  ⟨h.tj.moved ht hm, h.want.keep (hm.block wb h.want.lt h.n1 h.n2)⟩
theorem TiJ.turned {w : World} {p b wb : Nat} {E : List En} {W W' : World} (h : TiJ w p b E W) (n1 : wb ≠ p) (n2 : wb ≠ b) (hs : w.heap.size ≤ wb) (ht : W.mapTurned W' wb) : TiJ w p b E W' := by
  have hm := Moved.turned (p := wb) ht
  exact ⟨h.tim.keep (hm.block p (m_size h.tim.cells) (Ne.symm n1) (Ne.symm n1)) (hm.block b h.tim.map.lt (Ne.symm n2) (Ne.symm n2)), h.bel.trans (hm.below hs hs h.bel.size), h.hp, h.hb⟩

/-- Entries in a row stay where a map is written. -/
theorem EntsAt.turned {W W' : World} {g wb : Nat} {v : Value} {F : List En} (h : EntsAt W g v F) (ht : W.mapTurned W' wb) : EntsAt W' g v F := by
  have hm := Moved.turned (p := wb) ht
  obtain ⟨es, ck, es', ck', hb, _⟩ := ht
  obtain ⟨A, cap, hv, hc⟩ := h
  refine ⟨A, cap, hv, fun i x hx => ?_⟩
  obtain ⟨h1, h2, h3, h4⟩ := hc i x hx
  have hne : g ≠ wb := by
    rintro rfl
    simp [World.cell?, hb] at h3
  have he := hm.block g h2 hne hne
  exact ⟨h1, Nat.lt_of_lt_of_le h2 hm.size, by rw [World.cell?_of_block (w := W) he]; exact h3, by rw [World.cell?_of_block (w := W) he]; exact h4⟩

/-- What is still wanted while due entries are taken. -/
theorem drop_take_get {E : List En} (hO : Ord E) {F : List En} (hF : Ord F) (hs : ∀ x ∈ F, x ∈ E) (j : Nat) (hj : j < F.length) :
    hasE (dropK (F.take j) E) F[j].1 = true ∧ getE (dropK (F.take j) E) F[j].1 = some F[j].2 ∧ dropK (F.take (j + 1)) E = delE F[j].1 (dropK (F.take j) E) := by
  have hm : F[j] ∈ dropK (F.take j) E := by
    rw [mem_dropK]
    refine ⟨hs _ (List.getElem_mem hj), fun y hy => ?_⟩
    obtain ⟨i, hi, rfl⟩ := List.mem_iff_getElem.1 hy
    rw [List.length_take] at hi
    rw [List.getElem_take]
    exact ((List.pairwise_iff_getElem.1 hF.keys) i j (by omega) hj (by omega)).symm
  refine ⟨(hasE_iff _ _).2 ⟨F[j].2, hm⟩, (getE_iff (ord_dropK _ hO) _ _).2 hm, ?_⟩
  rw [List.take_succ_eq_append_getElem hj, dropK_snoc]

#print axioms drop_take_get
end Go.Proofs.Ytbjhdfincoadaaa
