/-
  The document's Parts of a queue. (No statement: contracts that the proofs of the statements use.)
-/
import Derived.Test.YteofjcmpelcmaaaJPlq2
namespace Go.Proofs.Yteofjcmpelcmaaa
open Go.RowKit

/-- A row that is not older than B. -/
structure NewS (B : Nat) (w : World) (b off cap : Nat) (Y : List (Ms × Value)) : Prop where
  row : RowQ w (some ⟨b, off, none⟩) b off cap (cellsQ Y)
  lt : b < w.heap.size
  new : B ≤ b
theorem NewS.below {B : Nat} {w w' : World} {b off cap : Nat} {Y : List (Ms × Value)} (h : NewS B w b off cap Y) (hb : Below w.heap.size w w') : NewS B w' b off cap Y :=
  ⟨h.row.keep (fun _ => hb.block b h.lt), Nat.lt_of_lt_of_le h.lt hb.size, h.new⟩
theorem NewS.moved {B : Nat} {w w' : World} {b off cap x : Nat} {Y : List (Ms × Value)} (h : NewS B w b off cap Y) (hm : Mv (fun k => k = x) w w') (hx : b ≠ x) : NewS B w' b off cap Y :=
  ⟨h.row.keep (fun _ => hm.block b h.lt hx), Nat.lt_of_lt_of_le h.lt hm.size, h.new⟩
theorem NewS.put {B : Nat} {w w' : World} {b off cap b' off' cap' n : Nat} {Y Z : List (Ms × Value)} (h : NewS B w b off cap Y) (ha : AppS w w' b b' off' cap' n (cellsQ Z)) : NewS B w' b' off' cap' Z :=
  ⟨ha.row, ha.lt, by have h1 := h.new; have h2 := h.lt; rcases ha.at' with e | e <;> omega⟩
theorem newS_nil (B : Nat) (w : World) (b off : Nat) (hb : b < w.heap.size) (hB : B ≤ b) : NewS B w b off 0 [] := ⟨(rowS_nil w b off hb).row, hb, hB⟩
theorem one_at {w : World} {b : Nat} {e : Ms × Value} (hx : w.heap[b]? = some (.cells #[.string e.1.src, .int .i64 e.1.tick, .int .u8 e.1.q, .bool e.1.rt, e.2, .string e.1.tp, .string e.1.pl] 77 (0, 0))) : ∀ j u, (cellsQ [e])[j]? = some u → w.cell? ⟨b, 0 + j, none⟩ = some u := by
  obtain ⟨d0, d1, d2, d3, d4, d5, d6, df⟩ := cells7 hx
  intro j u hj
  have hl : j < 7 := by have := (List.getElem?_eq_some_iff.1 hj).1; rw [cellsQ_len] at this; simpa using this
  rw [Nat.zero_add]
  match j, hl with
  | 0, _ => simpa [cellsQ] using d0.trans hj
  | 1, _ => simpa [cellsQ] using d1.trans hj
  | 2, _ => simpa [cellsQ] using d2.trans hj
  | 3, _ => simpa [cellsQ] using d3.trans hj
  | 4, _ => simpa [cellsQ] using d4.trans hj
  | 5, _ => simpa [cellsQ] using d5.trans hj
  | 6, _ => simpa [cellsQ] using d6.trans hj

theorem one_one (m : Ms) (A : Option Addr) (n c : Nat) : ∀ e ∈ [((m, .slice A n c) : Ms × Value)], e.2.oneCell' = true := fun e he => by
  obtain rfl : e = (m, .slice A n c) := by simpa using he
  rfl

/-- What Parts answers. -/
def RParts (w : World) (Y : List (Ms × Value)) (now : Int) (e : Ending) (w' : World) : Prop :=
  ∃ b1 o1 c1 b2 o2 c2, e = .returned (.tuple #[.slice (some ⟨b1, o1, none⟩) (Y.filter (fun e => !goneM e.1 now)).length c1, .slice (some ⟨b2, o2, none⟩) (Y.filter (fun e => goneM e.1 now)).length c2]) ∧
    NewS w.heap.size w' b1 o1 c1 (Y.filter (fun e => !goneM e.1 now)) ∧ NewS w.heap.size w' b2 o2 c2 (Y.filter (fun e => goneM e.1 now)) ∧ Below w.heap.size w w'

/-- While Parts runs. -/
structure PrtJ (w : World) (b1 o1 c1 b2 o2 c2 : Nat) (S G : List (Ms × Value)) (W : World) : Prop where
  s : NewS w.heap.size W b1 o1 c1 S
  g : NewS w.heap.size W b2 o2 c2 G
  ne : b1 ≠ b2
  bel : Below w.heap.size w W
theorem PrtJ.below {w W W' : World} {b1 o1 c1 b2 o2 c2 : Nat} {S G : List (Ms × Value)} (h : PrtJ w b1 o1 c1 b2 o2 c2 S G W) (hb : Below W.heap.size W W') : PrtJ w b1 o1 c1 b2 o2 c2 S G W' := ⟨h.s.below hb, h.g.below hb, h.ne, Below.next h.bel hb⟩
theorem PrtJ.stay {w W W' : World} {b1 o1 c1 b2 o2 c2 b' o' c' n : Nat} {S G Z : List (Ms × Value)} (h : PrtJ w b1 o1 c1 b2 o2 c2 S G W) (ha : AppS W W' b1 b' o' c' n (cellsQ Z)) : PrtJ w b' o' c' b2 o2 c2 Z G W' := by
  refine ⟨h.s.put ha, h.g.moved ha.mv (Ne.symm h.ne), ?_, h.bel.trans (ha.mv.below h.bel.size (fun k hk => by have := h.s.new; omega))⟩
  have h1 := h.ne
  have h2 := h.g.lt
  rcases ha.at' with e | e <;> omega
theorem PrtJ.go {w W W' : World} {b1 o1 c1 b2 o2 c2 b' o' c' n : Nat} {S G Z : List (Ms × Value)} (h : PrtJ w b1 o1 c1 b2 o2 c2 S G W) (ha : AppS W W' b2 b' o' c' n (cellsQ Z)) : PrtJ w b1 o1 c1 b' o' c' S Z W' := by
  refine ⟨h.s.moved ha.mv h.ne, h.g.put ha, ?_, h.bel.trans (ha.mv.below h.bel.size (fun k hk => by have := h.g.new; omega))⟩
  have h1 := h.ne
  have h2 := h.s.lt
  rcases ha.at' with e | e <;> omega

set_option maxRecDepth 100000 in
set_option maxHeartbeats 4000000 in
theorem rParts_calls (w : World) (b off cap : Nat) (Y : List (Ms × Value)) (n : Nat) (now : Int) (hs : RowS w b off cap Y) (hY : Y.length = n) (hn : n ≤ 1000) (hnum : ∀ e ∈ Y, e.1.num) (h0 : 0 ≤ now) (h1 : now ≤ 1000000) :
    Calls Try.prog 37 #[.slice (some ⟨b, off, none⟩) n cap, .int .i64 now] w (RParts w Y now) := by
  have HS := Lib.hid hs
  have HN := Lib.hid hnum
  have HY := Lib.hid hY
  have hbl := hs.lt
  have HJ := Lib.hid (show PrtJ w w.heap.size 0 0 (w.heap.size + 1) 0 0 [] [] ((w.alloc (.cells #[] 77)).alloc (.cells #[] 77)) from
    ⟨newS_nil _ _ _ _ (by simp; omega) (Nat.le_refl _), newS_nil _ _ _ _ (by simp) (by omega), by omega, (below_one w _).alloc (by simp) _⟩)
  clear hs hnum hY
  go_enter Try.func37, Try.ntmps37
  go_wp2_with fail
  generalize (w.alloc (.cells #[] 77)).alloc (.cells #[] 77) = w1 at *
  go_loopw [6, 7, 14] (fun l g i wr => ∃ (k : Nat) (S G : List (Ms × Value)) (b1 o1 c1 b2 o2 c2 : Nat), k ≤ n ∧ i = .int .i64 k ∧ l = .slice (some ⟨b1, o1, none⟩) S.length c1 ∧ g = .slice (some ⟨b2, o2, none⟩) G.length c2 ∧ S = (Y.take k).filter (fun e => !goneM e.1 now) ∧ G = (Y.take k).filter (fun e => goneM e.1 now) ∧ PrtJ w b1 o1 c1 b2 o2 c2 S G wr) (fun _ _ i _ => n - (intOf i).toNat)
  case atStart => exact ⟨0, [], [], _, _, _, _, _, _, by omega, rfl, rfl, rfl, rfl, rfl, HJ.out⟩
  case round =>
    obtain ⟨k, S, G, b1, o1, c1, b2, o2, c2, hk, rfl, rfl, rfl, hSe, hGe, hj⟩ := hrel
    have HE := Lib.hid hj
    have HSe := Lib.hid hSe
    have HGe := Lib.hid hGe
    have hbe := hj.bel
    clear hj hSe hGe
    by_cases hlt : k < n
    · obtain ⟨⟨m, v⟩, hx⟩ : ∃ x, Y[k]? = some x := ⟨_, List.getElem?_eq_getElem (by have := HY.out; omega)⟩
      have hxm : (m, v) ∈ Y := List.mem_of_getElem? hx
      have hmw := (HS.out.each _ hxm).below hbe
      have hnm0 := HN.out _ hxm
      dsimp only at hmw hnm0
      obtain ⟨Am, cm, rfl⟩ := hmw.ps.form
      obtain ⟨-, hrow⟩ := row_get HS.out.row hx
      have a0 := (hbe.cell (p := ⟨_, _, none⟩) hbl).trans (hrow 0 (by omega))
      have a1 := (hbe.cell (p := ⟨_, _, none⟩) hbl).trans (hrow 1 (by omega))
      have a2 := (hbe.cell (p := ⟨_, _, none⟩) hbl).trans (hrow 2 (by omega))
      have a3 := (hbe.cell (p := ⟨_, _, none⟩) hbl).trans (hrow 3 (by omega))
      have a4 := (hbe.cell (p := ⟨_, _, none⟩) hbl).trans (hrow 4 (by omega))
      have a5 := (hbe.cell (p := ⟨_, _, none⟩) hbl).trans (hrow 5 (by omega))
      have a6 := (hbe.cell (p := ⟨_, _, none⟩) hbl).trans (hrow 6 (by omega))
      rw [Nat.add_zero] at a0
      simp only [List.getElem?_cons_zero, List.getElem?_cons_succ] at a0 a1 a2 a3 a4 a5 a6
      have hkl : (k : Int) < n := by omega
      have hb1 := below_one wr (.cells #[.string m.src, .int .i64 m.tick, .int .u8 m.q, .bool m.rt, .slice Am m.ps.length cm, .string m.tp, .string m.pl] 77)
      have hx1 := heap_alloc_new wr (.cells #[.string m.src, .int .i64 m.tick, .int .u8 m.q, .bool m.rt, .slice Am m.ps.length cm, .string m.tp, .string m.pl] 77)
      obtain ⟨d0, d1, d2, d3, d4, d5, d6, df⟩ := cells7 hx1
      have HM1 := Lib.hid (hmw.below hb1)
      have HE1 := Lib.hid (HE.out.below hb1)
      have HX1 := Lib.hid hx1
      have HX := Lib.hid hx
      have HN1 := Lib.hid hnm0
      have HLT := Lib.hid hlt
      clear hrow hmw hx hxm hb1 hx1 hnm0 hlt hbe
      generalize hnm : m.ps.length = nm at *
      have HNM := Lib.hid hnm
      clear hnm
      go_wp2_with fail
      generalize wr.alloc (.cells #[.string m.src, .int .i64 m.tick, .int .u8 m.q, .bool m.rt, .slice Am nm cm, .string m.tp, .string m.pl] 77) = w2 at *
      refine (rGone_calls w2 m _ now HM1.out HN1.out h0 h1).mono ?_
      rintro e w3 ⟨rfl, hb3⟩
      have hx3 := (hb3.block _ (lt_of_block HX1.out)).trans HX1.out
      have hj3 := HE1.out.below hb3
      have hb4 := below_one w3 (.cells #[.string m.src, .int .i64 m.tick, .int .u8 m.q, .bool m.rt, .slice Am nm cm, .string m.tp, .string m.pl] 77)
      have HN4 := Lib.hid (one_at (e := (m, .slice Am nm cm)) (heap_alloc_new w3 (.cells #[.string m.src, .int .i64 m.tick, .int .u8 m.q, .bool m.rt, .slice Am nm cm, .string m.tp, .string m.pl] 77)))
      have HJ4 := Lib.hid (hj3.below hb4)
      have hSn : S.length ≤ n := by have h2 := List.length_filter_le (fun e : Ms × Value => !goneM e.1 now) (Y.take k); rw [← HSe.out, List.length_take] at h2; omega
      have hGn : G.length ≤ n := by have h2 := List.length_filter_le (fun e : Ms × Value => goneM e.1 now) (Y.take k); rw [← HGe.out, List.length_take] at h2; omega
      have HFL := Lib.hid (filt_snoc (fun e => goneM e.1 now) Y k _ HX.out)
      have HFR := Lib.hid (filt_snoc (fun e => !goneM e.1 now) Y k _ HX.out)
      obtain ⟨d0, d1, d2, d3, d4, d5, d6, df⟩ := cells7 hx3
      clear hb3 hx3 hj3 hb4 a0 a1 a2 a3 a4 a5 a6
      cases hgm : goneM m now with
      | true =>
        have HGM := Lib.hid hgm
        clear hgm
        go_wp2_with (at_builtin; refine wpList_append_rr _ rfl _ _ rfl b2 o2 c2 G [(m, .slice Am nm cm)] G.length 1 rfl rfl (by simp [Act.eval]) HJ4.out.g.row HJ4.out.g.lt w3.heap.size 0 1 (by simp [Act.eval]) HN4.out (one_one _ _ _ _) (by omega) ?_)
        intro b' o' c' w5 happ
        have HJ5 := Lib.hid (HJ4.out.go happ)
        have HGl := Lib.hid (show (G ++ [(m, Value.slice Am nm cm)]).length = G.length + 1 by simp)
        have HFL' := Lib.hid (show G ++ [(m, Value.slice Am nm cm)] = (Y.take (k + 1)).filter (fun e => goneM e.1 now) from by rw [HFL.out, ← HGe.out]; simp [HGM.out])
        have HFR' := Lib.hid (show S = (Y.take (k + 1)).filter (fun e => !goneM e.1 now) from by rw [HFR.out, ← HSe.out]; simp [HGM.out])
        rw [← HGl.out]
        clear happ HFL HFR
        generalize G ++ [(m, Value.slice Am nm cm)] = G2 at *
        go_wp2
        go_roundw
        case rel => exact ⟨k + 1, S, G2, _, _, _, _, _, _, by have := HLT.out; omega, by go_num, rfl, rfl, HFR'.out, HFL'.out, HJ5.out⟩
        case measure => have := HLT.out; simp [intOf]; omega
      | false =>
        have HGM := Lib.hid hgm
        clear hgm
        go_wp2_with (at_builtin; refine wpList_append_rr _ rfl _ _ rfl b1 o1 c1 S [(m, .slice Am nm cm)] S.length 1 rfl rfl (by simp [Act.eval]) HJ4.out.s.row HJ4.out.s.lt w3.heap.size 0 1 (by simp [Act.eval]) HN4.out (one_one _ _ _ _) (by omega) ?_)
        intro b' o' c' w5 happ
        have HJ5 := Lib.hid (HJ4.out.stay happ)
        have HSl := Lib.hid (show (S ++ [(m, Value.slice Am nm cm)]).length = S.length + 1 by simp)
        have HFL' := Lib.hid (show G = (Y.take (k + 1)).filter (fun e => goneM e.1 now) from by rw [HFL.out, ← HGe.out]; simp [HGM.out])
        have HFR' := Lib.hid (show S ++ [(m, Value.slice Am nm cm)] = (Y.take (k + 1)).filter (fun e => !goneM e.1 now) from by rw [HFR.out, ← HSe.out]; simp [HGM.out])
        rw [← HSl.out]
        clear happ HFL HFR
        generalize S ++ [(m, Value.slice Am nm cm)] = S2 at *
        go_wp2
        go_roundw
        case rel => exact ⟨k + 1, S2, G, _, _, _, _, _, _, by have := HLT.out; omega, by go_num, rfl, rfl, HFR'.out, HFL'.out, HJ5.out⟩
        case measure => have := HLT.out; simp [intOf]; omega
    · obtain rfl : k = n := by omega
      have hkk : ¬ ((k : Int) < k) := by omega
      have hSe := HSe.out
      have hGe := HGe.out
      rw [List.take_of_length_le (by have := HY.out; omega)] at hSe hGe
      have HF := Lib.hid (show RParts w Y now (.returned (.tuple #[.slice (some ⟨b1, o1, none⟩) S.length c1, .slice (some ⟨b2, o2, none⟩) G.length c2])) wr from ⟨b1, o1, c1, b2, o2, c2, by rw [hSe, hGe], by rw [← hSe]; exact HE.out.s, by rw [← hGe]; exact HE.out.g, HE.out.bel⟩)
      clear hSe hGe hbe hlt
      go_wp2
      go_ret2
      exact HF.out

#print axioms rParts_calls
end Go.Proofs.Yteofjcmpelcmaaa
