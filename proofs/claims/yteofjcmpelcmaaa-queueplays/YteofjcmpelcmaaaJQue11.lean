/-
  The calls of queue.Queue: List. (No statement: contracts that the proofs of the statements use.)
-/
import Derived.Test.YteofjcmpelcmaaaJQue10
import Derived.Test.YteofjcmpelcmaaaJMsg3
namespace Go.Proofs.Yteofjcmpelcmaaa
open Go.RowKit

/-- A row of messages, each with its properties; nothing of it is older than B. -/
structure LstM (B : Nat) (w : World) (A : Option Addr) (b off cap : Nat) (L : List (Ms × Value)) : Prop where
  row : RowQ w A b off cap (cellsQ L)
  lt : b < w.heap.size
  new : 0 < cap → B ≤ b
  each : ∀ e ∈ L, MsAt w e.1 e.2
  far : ∀ e ∈ L, ∀ g, e.2.ownBlock = some g → g < w.heap.size ∧ B ≤ g ∧ (0 < cap → g ≠ b)

theorem LstM.below {B : Nat} {w w' : World} {A : Option Addr} {b off cap : Nat} {L : List (Ms × Value)} (h : LstM B w A b off cap L) (hb : Below w.heap.size w w') : LstM B w' A b off cap L :=
  ⟨h.row.keep (fun _ => hb.block b h.lt), Nat.lt_of_lt_of_le h.lt hb.size, h.new, fun e he => (h.each e he).below hb, fun e he g hg => ⟨Nat.lt_of_lt_of_le (h.far e he g hg).1 hb.size, (h.far e he g hg).2⟩⟩

/-- Behind an append. -/
theorem LstM.put {B : Nat} {w w' : World} {A A' : Option Addr} {b off cap b' off' cap' : Nat} {L : List (Ms × Value)} {e : Ms × Value} (h : LstM B w A b off cap L) (hB : B ≤ w.heap.size) (he : MsAt w e.1 e.2) (hf : ∀ g, e.2.ownBlock = some g → g < w.heap.size ∧ B ≤ g ∧ g ≠ b)
    (ha : Appd w w' b cap A' b' off' cap' (L.length + 1) (cellsQ (L ++ [e]))) : LstM B w' A' b' off' cap' (L ++ [e]) := by
  have hfar : ∀ x ∈ L ++ [e], ∀ g, x.2.ownBlock = some g → g < w.heap.size ∧ B ≤ g ∧ (0 < cap → g ≠ b) := fun x hx g hg => by
    rcases List.mem_append.1 hx with hx | hx
    · exact h.far x hx g hg
    · obtain rfl : x = e := by simpa using hx
      exact ⟨(hf g hg).1, (hf g hg).2.1, fun _ => (hf g hg).2.2⟩
  refine ⟨ha.row, ha.lt, fun hc => ?_, fun x hx => ?_, fun x hx g hg => ?_⟩
  · rcases ha.at' with ⟨e1, e2⟩ | e1
    · rw [e1]; exact h.new e2
    · omega
  · have hm : MsAt w x.1 x.2 := by
      rcases List.mem_append.1 hx with hx | hx
      · exact h.each x hx
      · obtain rfl : x = e := by simpa using hx
        exact he
    exact hm.keep (fun g hg hl => ha.mv.block g hl (fun ⟨e1, e2⟩ => (hfar x hx g hg).2.2 e2 e1)) ha.mv.size
  · obtain ⟨g1, g2, g3⟩ := hfar x hx g hg
    refine ⟨Nat.lt_of_lt_of_le g1 ha.mv.size, g2, fun hc => ?_⟩
    rcases ha.at' with ⟨e1, e2⟩ | e1
    · rw [e1]; exact g3 e2
    · omega

/-- What List answers. -/
def QList (w : World) (X : List Ms) (e : Ending) (w' : World) : Prop :=
  ∃ A b off cap L, e = .returned (.slice A X.length cap) ∧ L.map Prod.fst = X ∧ LstM w.heap.size w' A b off cap L ∧ Below w.heap.size w w'

theorem take_snocM (P : List (Ms × Value)) (k : Nat) (x : Ms × Value) (h : P[k]? = some x) : P.take (k + 1) = P.take k ++ [x] := by
  obtain ⟨hk, rfl⟩ := List.getElem?_eq_some_iff.1 h
  exact List.take_succ_eq_append_getElem hk

set_option maxRecDepth 100000 in
set_option maxHeartbeats 4000000 in
theorem qList_calls (w : World) (p b : Nat) (most : Int) (X : List Ms) (h : QAt w p b most X) (hX : X.length ≤ 1000) :
    Calls Try.prog 41 #[.pointer (some ⟨p, 0, none⟩)] w (QList w X) := by
  obtain ⟨L, A, off, cap, rfl, h⟩ := h
  obtain ⟨⟨c0, c1, c2⟩, f0, f1, f2⟩ := three_c h.cells
  have HQ := Lib.hid h
  have hpl := lt_of_block h.cells
  have hLl : L.length ≤ 1000 := by simpa using hX
  have HL := Lib.hid (show LstM w.heap.size w none p 0 0 [] from ⟨⟨fun h => absurd h (by omega), fun j u hj => by simp [cellsQ] at hj, fun j hj => by omega, by simp [cellsQ], by unfold maxLen; omega⟩, hpl, fun h => absurd h (by omega), (fun e he => by cases he), (fun e he => by cases he)⟩)
  clear h hX
  go_enter Try.func41, Try.ntmps41
  go_wp2
  go_loopw [3, 11] (fun s i wr => ∃ (k : Nat) (M : List (Ms × Value)) (A' : Option Addr) (b' off' cap' : Nat), k ≤ L.length ∧ i = .int .i64 k ∧ s = .slice A' k cap' ∧ M.length = k ∧ M.map Prod.fst = (L.take k).map Prod.fst ∧ LstM w.heap.size wr A' b' off' cap' M ∧ Below w.heap.size w wr) (fun _ i _ => L.length - (intOf i).toNat)
  case atStart => exact ⟨0, [], none, p, 0, 0, by omega, rfl, rfl, rfl, rfl, HL.out, Below.refl _ _⟩
  case round =>
    obtain ⟨k, M, A', b', off', cap', hk, rfl, rfl, hMl, hMX, hlm, hb⟩ := hrel
    have HLM := Lib.hid hlm
    have HB := Lib.hid hb
    have HMX := Lib.hid hMX
    have HMl := Lib.hid hMl
    have hz := hb.size
    clear hlm hb hMX hMl
    by_cases hlt : k < L.length
    · obtain ⟨⟨m, v⟩, hx⟩ : ∃ x, L[k]? = some x := ⟨_, List.getElem?_eq_getElem hlt⟩
      have hxm : (m, v) ∈ L := List.mem_of_getElem? hx
      have hme := HQ.out.each _ hxm
      obtain ⟨Am, cm, hv⟩ := hme.ps.form
      dsimp only at hv hme
      subst hv
      have hcap : 0 < cap := by have := HQ.out.row.fit; rw [cellsQ_len] at this; omega
      have hA := HQ.out.row.addr hcap
      subst hA
      have hbl := HQ.out.lt
      have hrow : ∀ i, i < 7 → wr.cell? ⟨b, off + k * 7 + i, none⟩ = (msC m (Value.slice Am m.ps.length cm))[i]? := fun i hi => by
        have h1 := cellsQ_at L k i hi
        rw [hx] at h1
        obtain ⟨u, hu⟩ : ∃ u, (msC m (Value.slice Am m.ps.length cm))[i]? = some u := ⟨_, List.getElem?_eq_getElem (by simpa using hi)⟩
        have h2 : (cellsQ L)[k * 7 + i]? = some u := h1.trans hu
        rw [hu, Nat.add_assoc, HB.out.cell (p := ⟨b, _, none⟩) hbl]
        exact HQ.out.row.holds _ _ h2
      have a0 := hrow 0 (by omega)
      have a1 := hrow 1 (by omega)
      have a2 := hrow 2 (by omega)
      have a3 := hrow 3 (by omega)
      have a4 := hrow 4 (by omega)
      have a5 := hrow 5 (by omega)
      have a6 := hrow 6 (by omega)
      rw [Nat.add_zero] at a0
      simp only [List.getElem?_cons_zero, List.getElem?_cons_succ] at a0 a1 a2 a3 a4 a5 a6
      have hmr := hme.below HB.out
      have HX := Lib.hid hx
      have hkl : (k : Int) < L.length := by omega
      have hb1 := below_one wr (.cells #[.string m.src, .int .i64 m.tick, .int .u8 m.q, .bool m.rt, .slice Am m.ps.length cm, .string m.tp, .string m.pl] 50)
      have hx1 := heap_alloc_new wr (.cells #[.string m.src, .int .i64 m.tick, .int .u8 m.q, .bool m.rt, .slice Am m.ps.length cm, .string m.tp, .string m.pl] 50)
      obtain ⟨d0, d1, d2, d3, d4, d5, d6, df⟩ := cells7 hx1
      have HM1 := Lib.hid (hmr.below hb1)
      have HB1 := Lib.hid hb1
      have HLM1 := Lib.hid (HLM.out.below hb1)
      have hs1 := World.size_alloc wr (.cells #[.string m.src, .int .i64 m.tick, .int .u8 m.q, .bool m.rt, .slice Am m.ps.length cm, .string m.tp, .string m.pl] 50)
      have HS1 := Lib.hid hs1
      clear hrow hme hmr hx hxm hb1 hx1 hs1
      generalize hnm : m.ps.length = nm at *
      go_wp2_with fail
      generalize wr.alloc (.cells #[.string m.src, .int .i64 m.tick, .int .u8 m.q, .bool m.rt, .slice Am nm cm, .string m.tp, .string m.pl] 50) = w1 at *
      refine (own_calls w1 m _ HM1.out).mono ?_
      rintro e w2 ⟨v2, rfl, hm2, hf2, hb2⟩
      obtain ⟨A2, c2', rfl⟩ := hm2.ps.form
      have hb3 := below_one w2 (.cells #[.string m.src, .int .i64 m.tick, .int .u8 m.q, .bool m.rt, .slice A2 m.ps.length c2', .string m.tp, .string m.pl] 50)
      have hx3 := heap_alloc_new w2 (.cells #[.string m.src, .int .i64 m.tick, .int .u8 m.q, .bool m.rt, .slice A2 m.ps.length c2', .string m.tp, .string m.pl] 50)
      have HN3 := Lib.hid (seven_at (e := (m, .slice A2 m.ps.length c2')) hx3)
      have hm3 := hm2.below hb3
      have hl3 := (HLM1.out.below hb2).below hb3
      have hf3 : ∀ g, (Value.slice A2 m.ps.length c2').ownBlock = some g → g < (w2.alloc (.cells #[.string m.src, .int .i64 m.tick, .int .u8 m.q, .bool m.rt, .slice A2 m.ps.length c2', .string m.tp, .string m.pl] 50)).heap.size ∧ w.heap.size ≤ g ∧ g ≠ b' := fun g hg => by
        have h1 := hf2 g hg
        have h2 := HLM1.out.lt
        have h3 := HS1.out
        rw [World.size_alloc]
        omega
      have hs3 : w.heap.size ≤ (w2.alloc (.cells #[.string m.src, .int .i64 m.tick, .int .u8 m.q, .bool m.rt, .slice A2 m.ps.length c2', .string m.tp, .string m.pl] 50)).heap.size := by
        have h3 := HS1.out
        have h4 := hb2.size
        rw [World.size_alloc]
        omega
      have HM3 := Lib.hid hm3
      have HL3 := Lib.hid hl3
      have HF3 := Lib.hid hf3
      have HS3 := Lib.hid hs3
      have HB3 := Lib.hid ((Below.next HB.out HB1.out).trans ((hb2.mono (by have h3 := HS1.out; omega)).trans (hb3.mono (by have h3 := HS1.out; have h4 := hb2.size; omega))))
      clear hm2 hf2 hb2 hb3 hx3 hm3 hl3 hf3 hs3 d0 d1 d2 d3 d4 d5 d6 df a0 a1 a2 a3 a4 a5 a6
      rw [hnm] at *
      go_wp2_with (at_builtin; refine wpList_append_row _ rfl _ _ rfl A' b' off' cap' M (m, .slice A2 nm c2') (by simp [Act.eval, HMl.out]) HL3.out.row HL3.out.lt ⟨w2.heap.size, 0, none⟩ 1 (by simp [Act.eval]) HN3.out rfl (by have := HMl.out; omega) ?_)
      intro A3 b3 off3 cap3 w4 happ
      have HL4 := Lib.hid (HL3.out.put HS3.out HM3.out HF3.out happ)
      have HB4 := Lib.hid (HB3.out.trans (happ.mv.below HS3.out (fun k hk => by rw [hk.1]; exact HLM.out.new hk.2)))
      have hMk : M.length + 1 = k + 1 := by have := HMl.out; omega
      have HMX4 := Lib.hid (show (M ++ [(m, Value.slice A2 nm c2')]).map Prod.fst = (L.take (k + 1)).map Prod.fst from by rw [take_snocM L k _ HX.out]; simp [HMX.out])
      have HMk := Lib.hid (show (M ++ [(m, Value.slice A2 nm c2')]).length = k + 1 by simp [HMl.out])
      rw [hMk]
      clear happ
      go_wp2
      go_roundw
      case rel => exact ⟨k + 1, M ++ [(m, .slice A2 nm c2')], A3, b3, off3, cap3, by omega, by go_num, rfl, HMk.out, HMX4.out, HL4.out, HB4.out⟩
      case measure => simp [intOf]; omega
    · obtain rfl : k = L.length := by omega
      have HQL := Lib.hid (show QList w (L.map Prod.fst) (.returned (.slice A' L.length cap')) wr from ⟨A', b', off', cap', M, by simp, by rw [HMX.out, List.take_length], HLM.out, HB.out⟩)
      go_wp2
      go_ret
      exact HQL.out

#print axioms qList_calls
end Go.Proofs.Yteofjcmpelcmaaa
