/-
  The calls of queue.Queue: Expire. (No statement: contracts that the proofs of the statements use.)
-/
import Derived.Test.YteofjcmpelcmaaaJQue13
namespace Go.Proofs.Yteofjcmpelcmaaa
open Go.RowKit

/-- A row of messages that were a queue's. -/
structure GoneL (B : Nat) (w : World) (A : Option Addr) (b off cap : Nat) (G : List (Ms × Value)) : Prop where
  row : RowQ w A b off cap (cellsQ G)
  lt : b < w.heap.size
  new : 0 < cap → B ≤ b
  fit : G.length ≤ cap
theorem GoneL.below {B : Nat} {w w' : World} {A : Option Addr} {b off cap : Nat} {G : List (Ms × Value)} (h : GoneL B w A b off cap G) (hb : Below w.heap.size w w') : GoneL B w' A b off cap G :=
  ⟨h.row.keep (fun _ => hb.block b h.lt), Nat.lt_of_lt_of_le h.lt hb.size, h.new, h.fit⟩
theorem GoneL.moved {B : Nat} {w w' : World} {A : Option Addr} {b off cap : Nat} {G : List (Ms × Value)} {S : Nat → Prop} (h : GoneL B w A b off cap G) (hm : Mv S w w') (hS : ∀ k, S k → k < B) : GoneL B w' A b off cap G :=
  ⟨h.row.keep (fun hc => hm.block b h.lt (fun e => by have h1 := h.new hc; have h2 := hS b e; omega)), Nat.lt_of_lt_of_le h.lt hm.size, h.new, h.fit⟩
theorem GoneL.put {B : Nat} {w w' : World} {A A' : Option Addr} {b off cap b' off' cap' : Nat} {G : List (Ms × Value)} {e : Ms × Value} (h : GoneL B w A b off cap G) (hB : B ≤ w.heap.size) (ha : Appd w w' b cap A' b' off' cap' (G.length + 1) (cellsQ (G ++ [e]))) : GoneL B w' A' b' off' cap' (G ++ [e]) := by
  refine ⟨ha.row, ha.lt, fun hc => ?_, by simpa using ha.room⟩
  rcases ha.at' with ⟨e1, e2⟩ | e1
  · rw [e1]; exact h.new e2
  · omega

/-- While Expire runs: S stay, G are gone, those from k on are to be looked at. -/
structure ExpJ (w : World) (p b : Nat) (most : Int) (L : List (Ms × Value)) (off cap k : Nat) (S G : List (Ms × Value)) (A' : Option Addr) (b' off' cap' : Nat) (W : World) : Prop where
  cells : W.heap[p]? = some (.cells #[.int .i64 most, .slice (some ⟨b, off, none⟩) L.length cap, wV (lightL (S.map Prod.fst ++ (L.drop k).map Prod.fst)) (heavyL (S.map Prod.fst ++ (L.drop k).map Prod.fst))] 131 (0, 0))
  stay : RowQ W (some ⟨b, off, none⟩) b off cap (cellsQ S)
  rest : ∀ i e, k ≤ i → L[i]? = some e → ∀ j, j < 7 → W.cell? ⟨b, off + i * 7 + j, none⟩ = (msC e.1 e.2)[j]?
  gone : GoneL w.heap.size W A' b' off' cap' G
  le : S.length ≤ k
  sub : ∀ e ∈ S, e ∈ L
  mv : Mv (fun k => k = p ∨ k = b) w W

theorem drop_at (L : List (Ms × Value)) (k : Nat) (e : Ms × Value) (h : L[k]? = some e) : L.drop k = e :: L.drop (k + 1) := by
  obtain ⟨hk, rfl⟩ := List.getElem?_eq_some_iff.1 h
  exact List.drop_eq_getElem_cons hk

section
variable {w W W' : World} {p b : Nat} {most : Int} {L : List (Ms × Value)} {off cap k : Nat} {S G : List (Ms × Value)} {A' : Option Addr} {b' off' cap' : Nat}
theorem ExpJ.below (h : ExpJ w p b most L off cap k S G A' b' off' cap' W) (hbl : b < w.heap.size) (hb : Below W.heap.size W W') : ExpJ w p b most L off cap k S G A' b' off' cap' W' := by
  have hbW := Nat.lt_of_lt_of_le hbl h.mv.size
  exact ⟨(hb.block p (lt_of_block h.cells)).trans h.cells, h.stay.keep (fun _ => hb.block b hbW), fun i e hi he j hj => (hb.cell (p := ⟨b, _, none⟩) hbW).trans (h.rest i e hi he j hj), h.gone.below hb, h.le, h.sub, h.mv.trans (Mv.of_below hb)⟩
/-- One more is gone: the row. -/
theorem ExpJ.left (h : ExpJ w p b most L off cap k S G A' b' off' cap' W) (hpl : p < w.heap.size) (hbl : b < w.heap.size) {e : Ms × Value} {A2 : Option Addr} {b2 off2 cap2 : Nat} (ha : Appd W W' b' cap' A2 b2 off2 cap2 (G.length + 1) (cellsQ (G ++ [e]))) :
    ExpJ w p b most L off cap k S (G ++ [e]) A2 b2 off2 cap2 W' := by
  have hbW := Nat.lt_of_lt_of_le hbl h.mv.size
  have hne : ∀ q, q < w.heap.size → W'.heap[q]? = W.heap[q]? := fun q hq => ha.mv.block q (Nat.lt_of_lt_of_le hq h.mv.size) (fun ⟨e1, e2⟩ => by have := h.gone.new e2; omega)
  refine ⟨(hne p hpl).trans h.cells, h.stay.keep (fun _ => hne b hbl), fun i e hi he j hj => (World.cell?_of_block (a := ⟨b, _, none⟩) (hne b hbl)).trans (h.rest i e hi he j hj), h.gone.put h.mv.size ha, h.le, h.sub, ?_⟩
  exact ⟨ha.mv.os.trans h.mv.os, ha.mv.tape.trans h.mv.tape, ha.mv.output.trans h.mv.output, Nat.le_trans h.mv.size ha.mv.size, fun q hq hS => (hne q hq).trans (h.mv.block q hq hS)⟩
/-- .. its weight. -/
theorem ExpJ.weigh (h : ExpJ w p b most L off cap k S G A' b' off' cap' W) (hpl : p < w.heap.size) (hbl : b < w.heap.size) (hbp : b ≠ p) {e : Ms × Value} (_he : L[k]? = some e) (hb : Below W.heap.size W W') :
    ExpJ w p b most L off cap (k + 1) S G A' b' off' cap' (W'.setCell ⟨p, 2, none⟩ (wV (lightL (S.map Prod.fst ++ (L.drop (k + 1)).map Prod.fst)) (heavyL (S.map Prod.fst ++ (L.drop (k + 1)).map Prod.fst)))) := by
  have h' := h.below hbl hb
  have hbq : ∀ q, q ≠ p → (W'.setCell ⟨p, 2, none⟩ (wV (lightL (S.map Prod.fst ++ (L.drop (k + 1)).map Prod.fst)) (heavyL (S.map Prod.fst ++ (L.drop (k + 1)).map Prod.fst)))).heap[q]? = W'.heap[q]? := fun q hq => Below.heap_setCell _ _ _ _ hq
  refine ⟨?_, h'.stay.keep (fun _ => hbq b hbp), fun i e hi he j hj => (World.cell?_of_block (a := ⟨b, _, none⟩) (hbq b hbp)).trans (h'.rest i e (by omega) he j hj), ⟨h'.gone.row.keep (fun hc => hbq b' (fun e => by have := h'.gone.new hc; omega)), by simpa [World.setCell] using h'.gone.lt, h'.gone.new, h'.gone.fit⟩, by have := h.le; omega, h.sub, h'.mv.trans (Mv.setCell (.inl rfl) _)⟩
  rw [set_cells h'.cells 2]
  simp
/-- One more stays. -/
theorem ExpJ.kept (h : ExpJ w p b most L off cap k S G A' b' off' cap' W) (hbl : b < w.heap.size) (hbp : b ≠ p) (hcap : L.length ≤ cap) {e : Ms × Value} (he : L[k]? = some e) :
    ExpJ w p b most L off cap (k + 1) (S ++ [e]) G A' b' off' cap' (W.setCells b (off + S.length * 7) (msC e.1 e.2)) := by
  have hk := (List.getElem?_eq_some_iff.1 he).1
  have hle := h.le
  obtain ⟨hr, hq⟩ := here_row (e := e) h.stay (by omega)
  have hm : Mv (fun k => k = b) W (W.setCells b (off + S.length * 7) (msC e.1 e.2)) := Mv.setCells (S := fun k => k = b) rfl _ _ _
  have hsz : (W.setCells b (off + S.length * 7) (msC e.1 e.2)).heap.size = (W.setCells b (off + S.length * 7) (msC e.1 e.2)).heap.size := rfl
  refine ⟨?_, hr, fun i x hi hx j hj => (hq _ (by omega)).trans (h.rest i x (by omega) hx j hj), h.gone.moved hm (fun q e => by omega), by simp; omega, fun x hx => ?_, h.mv.trans (hm.mono (fun q _ e => .inr e))⟩
  · rw [hm.block p (lt_of_block h.cells) (Ne.symm hbp), h.cells, drop_at L k e he]
    simp
  · rcases List.mem_append.1 hx with hx | hx
    · exact h.sub x hx
    · obtain rfl : x = e := by simpa using hx
      exact List.mem_of_getElem? he
end

/-- Cells behind the elements may be set. -/
theorem row_behind {w : World} {A : Option Addr} {b off cap : Nat} {S : List (Ms × Value)} (h : RowQ w A b off cap (cellsQ S)) (cs : List Value) (hl : cs.length ≤ (cap - S.length) * 7) : RowQ (w.setCells b (off + S.length * 7) cs) A b off cap (cellsQ S) := by
  have hfr : ∀ j, j < cs.length → (w.cell? ⟨b, off + S.length * 7 + j, none⟩).isSome = true := fun j hj => by
    have := (h.free (S.length * 7 + j) (by omega)).1
    rwa [← Nat.add_assoc] at this
  refine ⟨h.addr, fun j u hj => ?_, fun j hj => ⟨?_, ?_⟩, h.fit, h.max⟩
  · have hjl := (List.getElem?_eq_some_iff.1 hj).1
    rw [cellsQ_len] at hjl
    rw [World.cell?_setCells_out b _ _ _ _ (fun _ _ => Or.inl (by show off + j < off + S.length * 7; omega))]
    exact h.holds j u hj
  · by_cases hin : S.length * 7 ≤ j ∧ j < S.length * 7 + cs.length
    · have := World.cell?_setCells_in b cs (off + S.length * 7) w hfr (j - S.length * 7) (by omega)
      rw [show off + S.length * 7 + (j - S.length * 7) = off + j by omega] at this
      rw [this]
      rfl
    · rw [World.cell?_setCells_out b _ _ _ _ (fun _ _ => by show off + j < off + S.length * 7 ∨ off + S.length * 7 + cs.length ≤ off + j; omega)]
      exact (h.free j hj).1
  · rw [World.frozen?_setCells]
    exact (h.free j hj).2

/-- What Expire answers, and leaves. -/
def QExp (w : World) (p b : Nat) (most : Int) (X : List Ms) (now : Int) (e : Ending) (w' : World) : Prop :=
  ∃ A' b' off' cap' G, e = .returned (.slice A' G.length cap') ∧ GoneL w.heap.size w' A' b' off' cap' G ∧ G.map Prod.fst = X.filter (fun m => goneM m now) ∧ (∀ x ∈ G, MsAt w' x.1 x.2 ∧ ∀ g, x.2.ownBlock = some g → g < w.heap.size ∧ g ≠ p ∧ g ≠ b) ∧
    QAt w' p b most (X.filter (fun m => !goneM m now)) ∧ Mv (fun k => k = p ∨ k = b) w w'

theorem run_clear_none (w : World) (ty : TypeId) (A : Option Addr) (c : Nat) : (Builtin.clear_ #[87] ty #[.slice A 0 c]).run Try.prog w = .ok (.tuple #[]) w := by
  cases A <;> simp [Builtin.clear_, run_underlying Try.underlying87]

set_option maxRecDepth 100000 in
set_option maxHeartbeats 4000000 in
theorem qExpire_nil (w : World) (p b : Nat) (most now : Int) (h : QAt w p b most []) :
    Calls Try.prog 39 #[.pointer (some ⟨p, 0, none⟩), .int .i64 now] w (QExp w p b most [] now) := by
  obtain ⟨L, A, off, cap, hL, h⟩ := h
  obtain rfl : L = [] := by simpa using hL
  have hpl := lt_of_block h.cells
  have HF := Lib.hid (show QExp w p b most [] now (.returned (.slice none 0 0)) (w.setCell ⟨p, 1, none⟩ (.slice A 0 cap)) from by
    refine ⟨none, p, 0, 0, [], rfl, ⟨⟨fun h => absurd h (by omega), fun j u hj => by simp [cellsQ] at hj, fun j hj => by omega, by simp [cellsQ], by unfold maxLen; omega⟩, by simpa [World.setCell] using hpl, fun h => absurd h (by omega), by simp⟩, rfl, (fun x hx => by cases hx), ⟨[], A, off, cap, rfl, ?_⟩, Mv.setCell (.inl rfl) _⟩
    refine ⟨(set_cells h.cells 1 (.slice A 0 cap)).trans (by simp), h.row.keep (fun hc => Below.heap_setCell _ _ _ _ (h.ne hc)), h.ne, by simpa [World.setCell] using h.lt, (fun e he => by cases he), (fun e he => by cases he)⟩)
  obtain ⟨⟨c0, c1, c2⟩, f0, f1, f2⟩ := three_c h.cells
  dsimp only [List.length_nil] at c1
  clear h hL
  cases A with
  | none =>
    go_enter Try.func39, Try.ntmps39
    go_wp2
    go_loopw [5, 6, 19] (fun g l i wr => i = .int .i64 0 ∧ g = .slice none 0 0 ∧ l = .slice none 0 cap ∧ wr = w) (fun _ _ _ _ => 0)
    case atStart => exact ⟨rfl, rfl, rfl, rfl⟩
    case round =>
      obtain ⟨rfl, rfl, rfl, rfl⟩ := hrel
      have hcl := run_clear_none
      go_wp2
      go_ret
      exact HF.out
  | some ad =>
    go_enter Try.func39, Try.ntmps39
    go_wp2
    go_loopw [5, 6, 19] (fun g l i wr => i = .int .i64 0 ∧ g = .slice none 0 0 ∧ l = .slice (some ad) 0 cap ∧ wr = w) (fun _ _ _ _ => 0)
    case atStart => exact ⟨rfl, rfl, rfl, rfl⟩
    case round =>
      obtain ⟨rfl, rfl, rfl, rfl⟩ := hrel
      have hcl := run_clear_none
      go_wp2
      go_ret
      exact HF.out

/-- The filter, round by round. -/
theorem filt_snoc (f : Ms × Value → Bool) (L : List (Ms × Value)) (k : Nat) (e : Ms × Value) (h : L[k]? = some e) : (L.take (k + 1)).filter f = (L.take k).filter f ++ (if f e then [e] else []) := by
  rw [take_snocM L k e h, List.filter_append]
  simp [List.filter_cons]

set_option maxRecDepth 100000 in
set_option maxHeartbeats 8000000 in
theorem qExpire_calls (w : World) (p b : Nat) (most now : Int) (X : List Ms) (h : QAt w p b most X) (hX : X.length ≤ 60) (hnum : ∀ m ∈ X, m.num) (h0 : 0 ≤ now) (h1 : now ≤ 1000000) :
    Calls Try.prog 39 #[.pointer (some ⟨p, 0, none⟩), .int .i64 now] w (QExp w p b most X now) := by
  by_cases hne : X = []
  · subst hne; exact qExpire_nil w p b most now h
  obtain ⟨L, A, off, cap, rfl, h⟩ := h
  have hLl : L.length ≤ 60 := by simpa using hX
  have hLp : 0 < L.length := by
    cases L with
    | nil => exact absurd rfl hne
    | cons x L => simp
  have hfit : L.length ≤ cap := by have := h.row.fit; rw [cellsQ_len] at this; omega
  have hA := h.row.addr (by omega)
  subst hA
  have hbp := h.ne (by omega)
  have hpl := lt_of_block h.cells
  have hbl := h.lt
  have HQ := Lib.hid h
  have HNUM := Lib.hid hnum
  have HJ := Lib.hid (show ExpJ w p b most L off cap 0 [] [] none p 0 0 w from
    ⟨h.cells, ⟨fun _ => rfl, fun j u hj => by simp [cellsQ] at hj, h.row.free, by simp [cellsQ], h.row.max⟩, fun i e _ hi j hj => by
      have h1 := cellsQ_at L i j hj
      rw [hi] at h1
      obtain ⟨u, hu⟩ : ∃ u, (msC e.1 e.2)[j]? = some u := ⟨_, List.getElem?_eq_getElem (by simpa using hj)⟩
      have h2 : (cellsQ L)[i * 7 + j]? = some u := h1.trans hu
      rw [hu, Nat.add_assoc]
      exact h.row.holds _ _ h2, ⟨⟨fun h => absurd h (by omega), fun j u hj => by simp [cellsQ] at hj, fun j hj => by omega, by simp [cellsQ], by unfold maxLen; omega⟩, hpl, fun h => absurd h (by omega), by simp⟩, by simp, (fun e he => by cases he), Mv.refl _ _⟩)
  obtain ⟨⟨c0, c1, c2⟩, f0, f1, f2⟩ := three_c h.cells
  clear h hne hX hnum
  go_enter Try.func39, Try.ntmps39
  go_wp2
  go_loopw [5, 6, 19] (fun g l i wr => ∃ (k : Nat) (S G : List (Ms × Value)) (A' : Option Addr) (b' off' cap' : Nat), k ≤ L.length ∧ i = .int .i64 k ∧ g = .slice A' G.length cap' ∧ l = .slice (some ⟨b, off, none⟩) S.length cap ∧ S = (L.take k).filter (fun e => !goneM e.1 now) ∧ G = (L.take k).filter (fun e => goneM e.1 now) ∧ ExpJ w p b most L off cap k S G A' b' off' cap' wr) (fun _ _ i _ => L.length - (intOf i).toNat)
  case atStart => exact ⟨0, [], [], none, p, 0, 0, by omega, rfl, rfl, rfl, rfl, rfl, HJ.out⟩
  case round =>
    obtain ⟨k, S, G, A', b', off', cap', hk, rfl, rfl, rfl, hS, hG, hj⟩ := hrel
    have HE := Lib.hid hj
    have HS := Lib.hid hS
    have HG := Lib.hid hG
    clear hj hS hG
    by_cases hlt : k < L.length
    · obtain ⟨⟨m, v⟩, hx⟩ : ∃ x, L[k]? = some x := ⟨_, List.getElem?_eq_getElem hlt⟩
      have hxm : (m, v) ∈ L := List.mem_of_getElem? hx
      have hme := HQ.out.each _ hxm
      obtain ⟨Am, cm, hv⟩ := hme.ps.form
      dsimp only at hv hme
      subst hv
      have hfar := HQ.out.far _ hxm
      have hmr : MsAt wr m (.slice Am m.ps.length cm) := hme.keep (fun g hg hl => HE.out.mv.block g hl (fun e => by
        obtain ⟨g1, g2, g3⟩ := hfar g hg
        rcases e with e | e
        · exact g2 e
        · exact g3 (by omega) e)) HE.out.mv.size
      have hrow := HE.out.rest k _ (Nat.le_refl _) hx
      have a0 := hrow 0 (by omega)
      have a1 := hrow 1 (by omega)
      have a2 := hrow 2 (by omega)
      have a3 := hrow 3 (by omega)
      have a4 := hrow 4 (by omega)
      have a5 := hrow 5 (by omega)
      have a6 := hrow 6 (by omega)
      rw [Nat.add_zero] at a0
      simp only [List.getElem?_cons_zero, List.getElem?_cons_succ] at a0 a1 a2 a3 a4 a5 a6
      have hn1 : m.num := HNUM.out m (List.mem_map.2 ⟨_, hxm, rfl⟩)
      have hkl : (k : Int) < L.length := by omega
      have hb1 := below_one wr (.cells #[.string m.src, .int .i64 m.tick, .int .u8 m.q, .bool m.rt, .slice Am m.ps.length cm, .string m.tp, .string m.pl] 50)
      have hx1 := heap_alloc_new wr (.cells #[.string m.src, .int .i64 m.tick, .int .u8 m.q, .bool m.rt, .slice Am m.ps.length cm, .string m.tp, .string m.pl] 50)
      obtain ⟨d0, d1, d2, d3, d4, d5, d6, df⟩ := cells7 hx1
      have HM1 := Lib.hid (hmr.below hb1)
      have HB1 := Lib.hid hb1
      have HX1 := Lib.hid hx1
      have HX := Lib.hid hx
      have HN1 := Lib.hid hn1
      clear hrow hme hmr hx hxm hb1 hx1 hfar hn1
      generalize hnm : m.ps.length = nm at *
      have HNM := Lib.hid hnm
      clear hnm
      go_wp2_with fail
      generalize wr.alloc (.cells #[.string m.src, .int .i64 m.tick, .int .u8 m.q, .bool m.rt, .slice Am nm cm, .string m.tp, .string m.pl] 50) = w1 at *
      refine (mGone_calls w1 m _ now HM1.out HN1.out h0 h1).mono ?_
      rintro e w2 ⟨rfl, hb2⟩
      have hx2 := (hb2.block _ (lt_of_block HX1.out)).trans HX1.out
      have HJ2 := Lib.hid ((HE.out.below hbl HB1.out).below hbl hb2)
      have hb3 := below_one w2 (.cells #[.string m.src, .int .i64 m.tick, .int .u8 m.q, .bool m.rt, .slice Am nm cm, .string m.tp, .string m.pl] 50)
      have hx3 := heap_alloc_new w2 (.cells #[.string m.src, .int .i64 m.tick, .int .u8 m.q, .bool m.rt, .slice Am nm cm, .string m.tp, .string m.pl] 50)
      have HN3 := Lib.hid (seven_at (e := (m, .slice Am nm cm)) hx3)
      have HJ3 := Lib.hid (HJ2.out.below hbl hb3)
      have HX3 := Lib.hid ((hb3.block _ (lt_of_block hx2)).trans hx2)
      have hlw := lt_of_block hx2
      have hGl : G.length ≤ 60 := by
        have h2 := List.length_filter_le (fun e : Ms × Value => goneM e.1 now) (L.take k)
        rw [← HG.out, List.length_take] at h2
        omega
      have HFL := Lib.hid (filt_snoc (fun e => goneM e.1 now) L k _ HX.out)
      have HFR := Lib.hid (filt_snoc (fun e => !goneM e.1 now) L k _ HX.out)
      obtain ⟨d0, d1, d2, d3, d4, d5, d6, df⟩ := cells7 hx2
      clear hb2 hx2 hb3 hx3 a0 a1 a2 a3 a4 a5 a6
      cases hgm : goneM m now with
      | true =>
        have HGM := Lib.hid hgm
        clear hgm
        go_wp2_with (at_builtin; refine wpList_append_row _ rfl _ _ rfl A' b' off' cap' G (m, .slice Am nm cm) (by simp [Act.eval]) HJ3.out.gone.row HJ3.out.gone.lt ⟨w2.heap.size, 0, none⟩ 1 (by simp [Act.eval]) HN3.out rfl (by omega) ?_)
        intro A3 b3 off3 cap3 w4 happ
        have hj4 := HJ3.out.left hpl hbl happ
        have hb'w := HE.out.gone.lt
        have hx4 := (happ.mv.block _ (lt_of_block HX3.out) (fun e => by omega)).trans HX3.out
        have HX4 := Lib.hid hx4
        obtain ⟨d0, d1, d2, d3, d4, d5, d6, df⟩ := cells7 hx4
        have hp4 := hj4.cells
        have hde := drop_at L k _ HX.out
        rw [hde, List.map_cons] at hp4
        dsimp only at hp4
        have HP4 := Lib.hid hp4
        obtain ⟨⟨c0, c1, c2⟩, f0, f1, f2⟩ := three_c hp4
        have hSl := hj4.le
        have hw := fun w => run_sub_w w (S.map Prod.fst) ((L.drop (k + 1)).map Prod.fst) m (by simp; omega) 37
        have HD := Lib.hid (fun w5 hb5 => hj4.weigh (W' := w5) hpl hbl hbp HX.out hb5)
        have hst := run_store_cx
        have HGl := Lib.hid (show (G ++ [(m, Value.slice Am nm cm)]).length = G.length + 1 by simp)
        have HFL' := Lib.hid (show G ++ [(m, Value.slice Am nm cm)] = (L.take (k + 1)).filter (fun e => goneM e.1 now) from by rw [HFL.out, ← HG.out]; simp [HGM.out])
        have HFR' := Lib.hid (show S = (L.take (k + 1)).filter (fun e => !goneM e.1 now) from by rw [HFR.out, ← HS.out]; simp [HGM.out])
        rw [← HGl.out]
        clear happ hj4 hx4 hp4 hde HFL HFR HE HJ2 HJ3 HN3 HX3 HX1
        unfold wV at *
        generalize floatOfInt .f64 (lightL (S.map Prod.fst ++ m :: (L.drop (k + 1)).map Prod.fst)) = x1 at *
        generalize floatOfInt .f64 (heavyL (S.map Prod.fst ++ m :: (L.drop (k + 1)).map Prod.fst)) = y1 at *
        generalize floatOfInt .f64 (lightL (S.map Prod.fst ++ (L.drop (k + 1)).map Prod.fst)) = x2 at *
        generalize floatOfInt .f64 (heavyL (S.map Prod.fst ++ (L.drop (k + 1)).map Prod.fst)) = y2 at *
        generalize G ++ [(m, Value.slice Am nm cm)] = G2 at *
        go_wp2_with fail
        go_region_law (first
          | (go_simp; go_at_call 70; refine (weight_calls w4.drew m _ ⟨_, _, _, rfl⟩).mono ?_; rintro e w5 ⟨rfl, hb5⟩; have HB5 := Lib.hid hb5; have hp5 := (hb5.block p (lt_of_block HP4.out)).trans HP4.out; obtain ⟨⟨g0, g1, g2⟩, k0, k1, k2⟩ := three_c hp5; clear hb5 hp5))
        all_goals
          have HJ5 := Lib.hid (HD.out _ (Below.trans ((Below.refl _ _).drew) HB5.out))
          clear HD
          go_wp2
          go_roundw
          case rel => exact ⟨k + 1, S, G2, A3, b3, off3, cap3, by omega, by go_num, rfl, rfl, HFR'.out, HFL'.out, HJ5.out⟩
          case measure => simp [intOf]; omega
      | false =>
        have HGM := Lib.hid hgm
        clear hgm
        go_wp2_with (at_builtin; refine wpList_append_here _ rfl _ _ rfl b off cap S (m, .slice Am nm cm) (by simp [Act.eval]) HJ3.out.stay (by have := HJ3.out.le; omega) ⟨w2.heap.size, 0, none⟩ 1 (by simp [Act.eval]) HN3.out rfl ?_)
        intro w4 hw4
        have hj4 := HJ3.out.kept hbl hbp hfit HX.out
        dsimp only at hj4
        rw [← hw4.out] at hj4
        have HJ4 := Lib.hid hj4
        have HSl := Lib.hid (show (S ++ [(m, Value.slice Am nm cm)]).length = S.length + 1 by simp)
        have HFL' := Lib.hid (show G = (L.take (k + 1)).filter (fun e => goneM e.1 now) from by rw [HFL.out, ← HG.out]; simp [HGM.out])
        have HFR' := Lib.hid (show S ++ [(m, Value.slice Am nm cm)] = (L.take (k + 1)).filter (fun e => !goneM e.1 now) from by rw [HFR.out, ← HS.out]; simp [HGM.out])
        rw [← HSl.out]
        clear hj4 hw4
        generalize S ++ [(m, Value.slice Am nm cm)] = S2 at *
        go_wp2
        go_roundw
        case rel => exact ⟨k + 1, S2, G, A', b', off', cap', by omega, by go_num, rfl, rfl, HFR'.out, HFL'.out, HJ4.out⟩
        case measure => simp [intOf]; omega
    · obtain rfl : k = L.length := by omega
      have hSl := HE.out.le
      rw [List.take_length] at HS HG
      have hbW := Nat.lt_of_lt_of_le hbl HE.out.mv.size
      obtain ⟨oq, hoq, hoq1⟩ : ∃ oq, (if cap = S.length then some (⟨b, off, none⟩ : Addr) else some ⟨b, off + S.length * 7, none⟩) = some ⟨b, oq, none⟩ ∧ (S.length < cap → oq = off + S.length * 7) := by
        by_cases hc : cap = S.length
        · exact ⟨off, by rw [if_pos hc], fun h => by omega⟩
        · exact ⟨off + S.length * 7, by rw [if_neg hc], fun h => rfl⟩
      obtain ⟨cs, hcl, hclr⟩ := run_clear_msgs wr 0 (some ⟨b, oq, none⟩) b oq (L.length - S.length) (cap - S.length) (fun _ => rfl) (fun j hj => by
        rw [hoq1 (by omega)]
        have := HE.out.stay.free (S.length * 7 + j) (by omega)
        rwa [← Nat.add_assoc] at this)
      have hW6 : wr.setCells b oq cs = wr.setCells b (off + S.length * 7) cs := by
        by_cases hc : S.length < cap
        · rw [hoq1 hc]
        · have hnil : cs = [] := List.eq_nil_of_length_eq_zero (by rw [hcl]; have : L.length - S.length = 0 := by omega
                                                                   rw [this])
          rw [hnil]
          rfl
      have hrow6 := row_behind HE.out.stay cs (by rw [hcl]; have : L.length - S.length ≤ cap - S.length := by omega
                                                  omega)
      rw [← hW6] at hrow6
      have hm6 : Mv (fun k => k = b) wr (wr.setCells b oq cs) := Mv.setCells (S := fun k => k = b) rfl _ _ _
      have hp := HE.out.cells
      simp only [List.drop_length, List.map_nil, List.append_nil] at hp
      have hp6 := (hm6.block p (lt_of_block hp) (Ne.symm hbp)).trans hp
      have hmv : Mv (fun k => k = p ∨ k = b) w ((wr.setCells b oq cs).setCell ⟨p, 1, none⟩ (.slice (some ⟨b, off, none⟩) S.length cap)) := (HE.out.mv.trans (hm6.mono (fun q _ e => .inr e))).trans (Mv.setCell (.inl rfl) _)
      have hfarL : ∀ x ∈ L, ∀ g, x.2.ownBlock = some g → g < w.heap.size ∧ g ≠ p ∧ g ≠ b := fun x hx g hg => by
        obtain ⟨g1, g2, g3⟩ := HQ.out.far x hx g hg
        exact ⟨g1, g2, g3 (by omega)⟩
      have heach : ∀ x ∈ L, MsAt ((wr.setCells b oq cs).setCell ⟨p, 1, none⟩ (.slice (some ⟨b, off, none⟩) S.length cap)) x.1 x.2 := fun x hx =>
        (HQ.out.each x hx).keep (fun g hg hl => hmv.block g hl (fun e => by have := hfarL x hx g hg; omega)) hmv.size
      have hGL : ∀ x ∈ G, x ∈ L := fun x hx => by rw [HG.out] at hx; exact (List.mem_filter.1 hx).1
      have hf6 : ∀ q, q ≠ p → ((wr.setCells b oq cs).setCell ⟨p, 1, none⟩ (.slice (some ⟨b, off, none⟩) S.length cap)).heap[q]? = (wr.setCells b oq cs).heap[q]? := fun q hq => Below.heap_setCell _ _ _ _ hq
      have HF := Lib.hid (show QExp w p b most (L.map Prod.fst) now (.returned (.slice A' G.length cap')) ((wr.setCells b oq cs).setCell ⟨p, 1, none⟩ (.slice (some ⟨b, off, none⟩) S.length cap)) from by
        refine ⟨A', b', off', cap', G, rfl, ?_, ?_, fun x hx => ⟨heach x (hGL x hx), hfarL x (hGL x hx)⟩, ⟨S, some ⟨b, off, none⟩, off, cap, ?_, ⟨?_, hrow6.keep (fun _ => hf6 b hbp), fun _ => hbp, Nat.lt_of_lt_of_le hbl hmv.size, fun x hx => heach x (HE.out.sub x hx), fun x hx g hg => ?_⟩⟩, hmv⟩
        · exact (HE.out.gone.moved hm6 (fun q e => by omega)).moved (Mv.setCell (S := fun k => k = p) rfl _) (fun q e => by omega)
        · rw [HG.out, List.filter_map]; rfl
        · rw [HS.out, List.filter_map]; rfl
        · rw [set_cells hp6 1]; simp
        · obtain ⟨g1, g2, g3⟩ := hfarL x (HE.out.sub x hx) g hg
          exact ⟨Nat.lt_of_lt_of_le g1 hmv.size, g2, fun _ => g3⟩)
      clear c0 c1 c2 f0 f1 f2
      obtain ⟨⟨c0, c1, c2⟩, f0, f1, f2⟩ := three_c hp
      obtain ⟨⟨e0, e1, e2⟩, q0, q1, q2⟩ := three_c hp6
      have hsn : (S.length : Int) ≤ L.length := by omega
      have hnc : (L.length : Int) ≤ cap := by omega
      have hkk : ¬ ((L.length : Int) < L.length) := by omega
      clear hrow6 hm6 hp hp6 hmv hfarL heach hGL hf6 HE HS HG HJ hW6 hoq1 hcl
      generalize wr.setCells b oq cs = w6 at *
      go_wp2
      go_ret
      exact HF.out

theorem row_get {w : World} {A : Option Addr} {b off cap : Nat} {G : List (Ms × Value)} {k : Nat} {e : Ms × Value} (h : RowQ w A b off cap (cellsQ G)) (hk : G[k]? = some e) : A = some ⟨b, off, none⟩ ∧ ∀ i, i < 7 → w.cell? ⟨b, off + k * 7 + i, none⟩ = (msC e.1 e.2)[i]? := by
  have hkl := (List.getElem?_eq_some_iff.1 hk).1
  refine ⟨h.addr (by have := h.fit; rw [cellsQ_len] at this; omega), fun i hi => ?_⟩
  have h1 := cellsQ_at G k i hi
  rw [hk] at h1
  obtain ⟨u, hu⟩ : ∃ u, (msC e.1 e.2)[i]? = some u := ⟨_, List.getElem?_eq_getElem (by simpa using hi)⟩
  have h2 : (cellsQ G)[k * 7 + i]? = some u := h1.trans hu
  rw [hu, Nat.add_assoc]
  exact h.holds _ _ h2

theorem filter_two (f : Ms → Bool) (X : List Ms) : (X.filter f).length + (X.filter (fun m => !f m)).length = X.length := by
  induction X with
  | nil => rfl
  | cons m X ih => cases h : f m <;> simp [h] <;> omega

#print axioms qExpire_nil
end Go.Proofs.Yteofjcmpelcmaaa
