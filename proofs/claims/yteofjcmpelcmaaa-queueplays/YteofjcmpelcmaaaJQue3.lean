/-
  The calls of queue.Queue: add. (No statement: contracts that the proofs of the statements use.)
-/
import Derived.Test.YteofjcmpelcmaaaJQue2
namespace Go.Proofs.Yteofjcmpelcmaaa
open Go.RowKit

/-- A message is put behind the others: what the call leaves. -/
structure QPut (w : World) (p b : Nat) (most : Int) (X : List Ms) (w' : World) (b' : Nat) : Prop where
  at' : QAt w' p b' most X
  mv : Mv (fun k => k = p ∨ k = b) w w'
  new : b' = b ∨ w.heap.size ≤ b'

theorem seven_at {w : World} {s : Nat} {e : Ms × Value} (h : w.heap[s]? = some (.cells #[.string e.1.src, .int .i64 e.1.tick, .int .u8 e.1.q, .bool e.1.rt, e.2, .string e.1.tp, .string e.1.pl] 50 (0, 0))) :
    ∀ j u, (msC e.1 e.2)[j]? = some u → w.cell? ((⟨s, 0, none⟩ : Addr).add j) = some u := by
  intro j u hj
  rw [Addr.add_lit, Nat.zero_add]
  have h1 : w.cell? ⟨s, j, none⟩ = (#[.string e.1.src, .int .i64 e.1.tick, .int .u8 e.1.q, .bool e.1.rt, e.2, .string e.1.tp, .string e.1.pl] : Array Value)[j]? := by simp [World.cell?, h]
  rw [h1]
  simpa using hj

/-- Behind append and the store of the list: the queue has the message; its weight is still the elder one's. -/
theorem put_list {w w2 : World} {p b : Nat} {most : Int} {L : List (Ms × Value)} {A : Option Addr} {off cap : Nat} {A' : Option Addr} {b' off' cap' : Nat} {e : Ms × Value} (h : QLst w p b most L A off cap) (ha : Appd w w2 b cap A' b' off' cap' (L.length + 1) (cellsQ (L ++ [e]))) :
    w2.heap[p]? = some (.cells #[.int .i64 most, .slice A L.length cap, wV (lightL (L.map Prod.fst)) (heavyL (L.map Prod.fst))] 131 (0, 0)) ∧ (0 < cap' → b' ≠ p) := by
  have hpl := lt_of_block h.cells
  refine ⟨(ha.mv.block p hpl (fun ⟨e1, e2⟩ => h.ne e2 e1.symm)).trans h.cells, fun _ e1 => ?_⟩
  rcases ha.at' with ⟨e2, e3⟩ | e2
  · exact h.ne e3 (e2.symm.trans e1)
  · omega

theorem run_store_cx (w : World) (a : Addr) (k : FloatKind) (x y : Nat) (m : Mode) : (store a (.complex k x y) m).run Try.prog w = stored Try.prog w a (.complex k x y) m := run_store Try.prog w a _ m rfl

theorem put_done {w W1 w2 w3 : World} {p b : Nat} {most : Int} {L : List (Ms × Value)} {A : Option Addr} {off cap : Nat} {A' : Option Addr} {b' off' cap' : Nat} {m : Ms} {v : Value} (h : QLst w p b most L A off cap) (hm : MsAt w m v)
    (hfar : ∀ g, v.ownBlock = some g → g < w.heap.size ∧ g ≠ p ∧ g ≠ b) (hb : Below w.heap.size w W1) (ha : Appd W1 w2 b cap A' b' off' cap' (L.length + 1) (cellsQ (L ++ [(m, v)])))
    (h3 : Below (w2.setCell ⟨p, 1, none⟩ (.slice A' (L.length + 1) cap')).heap.size (w2.setCell ⟨p, 1, none⟩ (.slice A' (L.length + 1) cap')) w3) :
    QPut w p b most (L.map Prod.fst ++ [m]) (w3.setCell ⟨p, 2, none⟩ (wV (lightL (L.map Prod.fst ++ [m])) (heavyL (L.map Prod.fst ++ [m])))) b' := by
  obtain ⟨hp2, hne⟩ := put_list (h.keep hb) ha
  have hpl := lt_of_block h.cells
  have hpl1 : p < W1.heap.size := Nat.lt_of_lt_of_le hpl hb.size
  have hpl2 := lt_of_block hp2
  have hc3 := (h3.block p (by simpa [World.setCell] using hpl2)).trans (set_cells hp2 1 (.slice A' (L.length + 1) cap'))
  have hc4 := set_cells hc3 2 (wV (lightL (L.map Prod.fst ++ [m])) (heavyL (L.map Prod.fst ++ [m])))
  have hmv : Mv (fun k => k = p ∨ (k = b ∧ 0 < cap)) w (w3.setCell ⟨p, 2, none⟩ (wV (lightL (L.map Prod.fst ++ [m])) (heavyL (L.map Prod.fst ++ [m])))) :=
    ((((Mv.of_below hb).trans (ha.mv.mono (fun k _ hk => Or.inr hk))).trans (Mv.setCell (.inl rfl) _)).trans (Mv.of_below h3)).trans (Mv.setCell (.inl rfl) _)
  have hkeep : ∀ e : Ms × Value, MsAt w e.1 e.2 → (∀ g, e.2.ownBlock = some g → g < w.heap.size ∧ g ≠ p ∧ (0 < cap → g ≠ b)) → MsAt (w3.setCell ⟨p, 2, none⟩ (wV (lightL (L.map Prod.fst ++ [m])) (heavyL (L.map Prod.fst ++ [m])))) e.1 e.2 := fun e he hf =>
    he.keep (fun g hg hl => hmv.block g hl (fun hk => by
      rcases hk with hk | ⟨hk, hc⟩
      · exact (hf g hg).2.1 hk
      · exact (hf g hg).2.2 hc hk)) hmv.size
  have hlt : b' < w3.heap.size := Nat.lt_of_lt_of_le ha.lt (by simpa [World.setCell] using h3.size)
  refine ⟨⟨L ++ [(m, v)], A', off', cap', by simp, ⟨?_, ?_, hne, by simpa [World.setCell] using hlt, fun e he => ?_, fun e he g hg => ?_⟩⟩, hmv.mono (fun k _ hk => hk.imp id And.left), ?_⟩
  · rw [hc4]
    simp
  · refine ha.row.keep (fun hc => ?_)
    refine (Below.heap_setCell _ _ _ _ (hne hc)).trans ((h3.block b' (by simpa [World.setCell] using ha.lt)).trans (Below.heap_setCell _ _ _ _ (hne hc)))
  · rcases List.mem_append.1 he with he | he
    · exact hkeep e (h.each e he) (h.far e he)
    · obtain rfl : e = (m, v) := by simpa using he
      exact hkeep _ hm (fun g hg => ⟨(hfar g hg).1, (hfar g hg).2.1, fun _ => (hfar g hg).2.2⟩)
  · have hf : g < w.heap.size ∧ g ≠ p ∧ (0 < cap → g ≠ b) := by
      rcases List.mem_append.1 he with he | he
      · exact h.far e he g hg
      · obtain rfl : e = (m, v) := by simpa using he
        exact ⟨(hfar g hg).1, (hfar g hg).2.1, fun _ => (hfar g hg).2.2⟩
    refine ⟨Nat.lt_of_lt_of_le hf.1 hmv.size, hf.2.1, fun hc => ?_⟩
    rcases ha.at' with ⟨e1, e2⟩ | e1
    · rw [e1]; exact hf.2.2 e2
    · have := hb.size; omega
  · rcases ha.at' with ⟨e1, _⟩ | e1
    · exact .inl e1
    · right; have := hb.size; omega

set_option maxRecDepth 100000 in
set_option maxHeartbeats 4000000 in
theorem qAdd_calls (w : World) (p b : Nat) (most : Int) (X : List Ms) (m : Ms) (v : Value) (h : QAt w p b most X) (hm : MsAt w m v) (hfar : ∀ g, v.ownBlock = some g → g < w.heap.size ∧ g ≠ p ∧ g ≠ b) (hX : X.length ≤ 60) :
    Calls Try.prog 62 #[.pointer (some ⟨p, 0, none⟩), msV m v] w fun e w' => e = .returned (.tuple #[]) ∧ ∃ b', QPut w p b most (X ++ [m]) w' b' := by
  obtain ⟨L, A, off, cap, rfl, h⟩ := h
  obtain ⟨A1, cap1, rfl⟩ := hm.ps.form
  have hLl : L.length ≤ 60 := by simpa using hX
  have HW := Lib.hid (fun w => run_add_w w (L.map Prod.fst) m (by simp; omega) 37)
  have HQ0 := Lib.hid h
  have HM := Lib.hid hm
  have HF := Lib.hid hfar
  have hpl := lt_of_block h.cells
  have hbl := h.lt
  have hk := h.keep (below_one w (.cells #[.string m.src, .int .i64 m.tick, .int .u8 m.q, .bool m.rt, .slice A1 m.ps.length cap1, .string m.tp, .string m.pl] 50))
  have hbx := heap_alloc_new w (.cells #[.string m.src, .int .i64 m.tick, .int .u8 m.q, .bool m.rt, .slice A1 m.ps.length cap1, .string m.tp, .string m.pl] 50)
  have hsz := World.size_alloc w (.cells #[.string m.src, .int .i64 m.tick, .int .u8 m.q, .bool m.rt, .slice A1 m.ps.length cap1, .string m.tp, .string m.pl] 50)
  have hb0 := below_one w (.cells #[.string m.src, .int .i64 m.tick, .int .u8 m.q, .bool m.rt, .slice A1 m.ps.length cap1, .string m.tp, .string m.pl] 50)
  generalize hvl : m.ps.length = n1 at *
  have HVL := Lib.hid hvl
  have HB0 := Lib.hid hb0
  have HK := Lib.hid hk
  have HBX := Lib.hid hbx
  clear h hm hfar hvl hb0 hk hbx
  go_enter Try.func62, Try.ntmps62
  go_wp2_with fail
  generalize w.alloc (.cells #[.string m.src, .int .i64 m.tick, .int .u8 m.q, .bool m.rt, .slice A1 n1 cap1, .string m.tp, .string m.pl] 50) = w0 at *
  obtain ⟨⟨c0, c1, c2⟩, f0, f1, f2⟩ := three_c HK.out.cells
  obtain ⟨d0, d1, d2, d3, d4, d5, d6, df⟩ := cells7 HBX.out
  have hb1 := (below_one w0 (.cells #[.string m.src, .int .i64 m.tick, .int .u8 m.q, .bool m.rt, .slice A1 n1 cap1, .string m.tp, .string m.pl] 50)).drew
  have hk1 := HK.out.keep hb1
  have hn1 := heap_alloc_new w0 (.cells #[.string m.src, .int .i64 m.tick, .int .u8 m.q, .bool m.rt, .slice A1 n1 cap1, .string m.tp, .string m.pl] 50)
  have HN := Lib.hid (seven_at (w := (w0.alloc (.cells #[.string m.src, .int .i64 m.tick, .int .u8 m.q, .bool m.rt, .slice A1 n1 cap1, .string m.tp, .string m.pl] 50)).drew) (e := (m, .slice A1 n1 cap1)) hn1)
  have HBX1 := Lib.hid ((hb1.block _ (lt_of_block HBX.out)).trans HBX.out)
  have hsz1 : (w0.alloc (.cells #[.string m.src, .int .i64 m.tick, .int .u8 m.q, .bool m.rt, .slice A1 n1 cap1, .string m.tp, .string m.pl] 50)).drew.heap.size = w.heap.size + 2 := by
    show (w0.alloc _).heap.size = _
    rw [World.size_alloc, hsz]
  have HSZ1 := Lib.hid hsz1
  have HB1 := Lib.hid hb1
  have HK1 := Lib.hid hk1
  clear hb1 hk1 hn1 hsz1
  go_region_law (first
    | ((with_reducible refine step_append_row (w0.alloc (.cells #[.string m.src, .int .i64 m.tick, .int .u8 m.q, .bool m.rt, .slice A1 n1 cap1, .string m.tp, .string m.pl] 50)).drew rfl (.tmp 8) (.tmp 10) rfl A b off cap L (m, .slice A1 n1 cap1) (by simp [Act.eval]) HK1.out.row (by have := HSZ1.out; omega) ⟨w0.heap.size, 0, none⟩ 1 (by simp [Act.eval]) HN.out rfl (by omega) ?_); intro A' b' off' cap' w2 happ; have HA := Lib.hid happ; clear happ; obtain ⟨hp2, hne2⟩ := put_list HK1.out HA.out; have HP2 := Lib.hid hp2; have HNE2 := Lib.hid hne2; obtain ⟨⟨g0, g1, g2⟩, k0, k1, k2⟩ := three_c HP2.out; clear hp2 hne2))
  all_goals
    have hp3 := set_cells HP2.out 1 (.slice A' (L.length + 1) cap')
    have hbx3 : (w2.setCell ⟨p, 1, none⟩ (.slice A' (L.length + 1) cap')).heap[w.heap.size]? = some (.cells #[.string m.src, .int .i64 m.tick, .int .u8 m.q, .bool m.rt, .slice A1 n1 cap1, .string m.tp, .string m.pl] 50 (0, 0)) :=
      (Below.heap_setCell _ _ _ _ (by show w.heap.size ≠ p; omega)).trans ((HA.out.mv.block _ (by have := HSZ1.out; omega) (fun e => by omega)).trans HBX1.out)
    have HD := Lib.hid (fun w3 h3 => put_done (w3 := w3) HQ0.out HM.out HF.out (Below.next HB0.out HB1.out) HA.out h3)
    clear c0 c1 c2 f0 f1 f2 d0 d1 d2 d3 d4 d5 d6 df g0 g1 g2 k0 k1 k2
    generalize w2.setCell ⟨p, 1, none⟩ (.slice A' (L.length + 1) cap') = W2 at *
    obtain ⟨⟨c0, c1, c2⟩, f0, f1, f2⟩ := three_c hp3
    obtain ⟨d0, d1, d2, d3, d4, d5, d6, df⟩ := cells7 hbx3
    have HP3 := Lib.hid hp3
    clear hp3 hbx3 HP2 HNE2 HN HBX1 HSZ1 HB1 HK1 HB0 HK HBX HQ0 HA
    have hw := HW.out
    unfold wV at *
    generalize floatOfInt .f64 (lightL (L.map Prod.fst)) = x1 at *
    generalize floatOfInt .f64 (heavyL (L.map Prod.fst)) = y1 at *
    generalize floatOfInt .f64 (lightL (L.map Prod.fst ++ [m])) = x2 at *
    generalize floatOfInt .f64 (heavyL (L.map Prod.fst ++ [m])) = y2 at *
    have hst := run_store_cx
    go_wp2_with fail
    go_region_law (first
      | (go_simp; go_at_call 70; refine (weight_calls W2.drew m _ ⟨_, _, _, rfl⟩).mono ?_; rintro e w3 ⟨rfl, hb3⟩; have HB3 := Lib.hid hb3; have hp4 := (hb3.block p (lt_of_block HP3.out)).trans HP3.out; obtain ⟨⟨g0, g1, g2⟩, k0, k1, k2⟩ := three_c hp4; clear hb3 hp4))
    all_goals
      have HQ := Lib.hid (HD.out _ (Below.trans ((Below.refl _ _).drew) HB3.out))
      clear HD HW
      go_wp2
      go_end0
      exact ⟨rfl, _, HQ.out⟩

#print axioms qAdd_calls
end Go.Proofs.Yteofjcmpelcmaaa
