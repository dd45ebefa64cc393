/-
  Few of layer 3's statements; the document's One and Text. (No statement: contracts that the proofs of the statements use.)
-/
import Derived.Test.YtmkajnephkaamaaDoorProp15
import Derived.Deep.RegionHeld3
import Derived.StillTailTactics
namespace Go.Proofs.YtmkajnephkaamaaDoor
open Go.RowKit

/-- A property with short texts. -/
def cutP (p : Pr) : Pr := ⟨p.id, p.n, p.s.extract 0 20, p.t.extract 0 20⟩
/-- What Few answers. -/
def fewL (P : List Pr) : List Pr := (P.take 8).map cutP

/-- A slice that came in reads as a list of properties. -/
structure PropsIn (W : World) (v : Value) (P : List Pr) : Prop where
  at_ : PropsAt W v P
  len : P.length ≤ maxLen
  num : ∀ p ∈ P, 0 ≤ p.n ∧ p.n < 4294967296 ∧ p.s.size ≤ maxLen ∧ p.t.size ≤ maxLen

theorem few_ok (P : List Pr) (h : ∀ p ∈ P, 0 ≤ p.n ∧ p.n < 4294967296 ∧ p.s.size ≤ maxLen ∧ p.t.size ≤ maxLen) : ∀ p ∈ fewL P, p.ok ∧ p.s.size ≤ 20 ∧ p.t.size ≤ 20 := by
  intro p hp
  obtain ⟨x, hx, rfl⟩ := List.mem_map.1 hp
  obtain ⟨h0, h1, _, _⟩ := h x (List.mem_of_mem_take hx)
  have z1 : (x.s.extract 0 20).size ≤ 20 := by simp [ByteArray.size_extract]; omega
  have z2 : (x.t.extract 0 20).size ≤ 20 := by simp [ByteArray.size_extract]; omega
  exact ⟨⟨h0, h1, by show (x.s.extract 0 20).size ≤ _; omega, by show (x.t.extract 0 20).size ≤ _; omega⟩, z1, z2⟩
theorem few_len (P : List Pr) : (fewL P).length ≤ 8 := by simp [fewL]; omega

theorem few_snoc (P : List Pr) (k : Nat) (x : Pr) (h : P[k]? = some x) : (P.take (k + 1)).map cutP = (P.take k).map cutP ++ [cutP x] := by
  rw [take_snocP P k x h]; simp

set_option maxRecDepth 100000 in
set_option maxHeartbeats 2000000 in
theorem few_calls (w : World) (v : Value) (P : List Pr) (hv : PropsIn w v P) :
    Calls Tryd.prog 16 #[v] w (Made 47 w (fewL P)) := by
  obtain ⟨⟨A, cap, rfl, hc⟩, hlen, hnum⟩ := hv
  unfold maxLen at hlen
  have HC := Lib.hid hc
  have HN := Lib.hid hnum
  clear hc hnum
  go_enter Tryd.func16, Tryd.ntmps16
  go_wp2
  go_loopw [3, 4] (fun s j wr => ∃ (k : Nat) (a : Option Addr) (c : Nat), k ≤ P.length ∧ k ≤ 8 ∧ j = .int .i64 k ∧ s = .slice a k c ∧ OwnP w.heap.size 47 wr (.slice a k c) ((P.take k).map cutP) ∧ Below w.heap.size w wr) (fun _ j _ => 8 - (intOf j).toNat)
  case atStart => exact ⟨0, _, 0, by omega, by omega, rfl, rfl, OwnP.empty w _, below_one w _⟩
  case round =>
    obtain ⟨k, a, c, hk, hk8, rfl, rfl, hown, hb⟩ := hrel
    have HOWN := Lib.hid hown
    have HB := Lib.hid hb
    have hz := hb.size
    clear hown hb
    by_cases hlt : k < P.length ∧ k < 8
    · obtain ⟨h1, h2⟩ := hlt
      obtain ⟨x, hx⟩ : ∃ x, P[k]? = some x := ⟨_, List.getElem?_eq_getElem h1⟩
      obtain ⟨b, off, hA, hbl, c0, c1, c2, c3⟩ := HC.out k x hx
      rw [← HB.out.cell (p := ⟨b, _, none⟩) hbl] at c0 c1 c2 c3
      subst hA
      have HX := Lib.hid hx
      obtain ⟨_, _, zs, zt⟩ := HN.out x (List.mem_of_getElem? hx)
      clear hx
      obtain ⟨xi, xn, xs, xt⟩ := x
      dsimp only at c0 c1 c2 c3 zs zt
      have HNE := Lib.hid (show (Value.slice a k c).ownBlock ≠ some wr.heap.size from fun e => by have := (World.ownsRow.lt HOWN.out _ e).2; omega)
      have hown1 := HOWN.out.alloc (.cells #[.int .i64 xi, .int .u32 xn, .string xs, .string xt] 47)
      have hbx := heap_alloc_new wr (.cells #[.int .i64 xi, .int .u32 xn, .string xs, .string xt] 47)
      have hb1 := HB.out.alloc hz (.cells #[.int .i64 xi, .int .u32 xn, .string xs, .string xt] 47)
      go_wp2_with fail
      generalize wr.alloc (.cells #[.int .i64 xi, .int .u32 xn, .string xs, .string xt] 47) = wb at *
      have hown2 : OwnP w.heap.size 47 wb.drew (.slice a k c) ((P.take k).map cutP) := hown1
      have hbx2 : wb.drew.heap[wr.heap.size]? = some (.cells #[.int .i64 xi, .int .u32 xn, .string xs, .string xt] 47 (0, 0)) := hbx
      have hb2 : Below w.heap.size w wb.drew := hb1.drew
      obtain ⟨⟨e0, e1, e2, e3⟩, g0, g1, g2, g3⟩ := four_cells hbx
      have HO2 := Lib.hid hown2
      have HX2 := Lib.hid hbx2
      have HB2 := Lib.hid hb2
      clear hown1 hbx hb1 hown2 hbx2 hb2 c0 c1 c2 c3 HOWN HB
      go_still_tail 7, (by kernel_rfl)
      still_call ((cut_calls _ xs 20 zs).mono (fun e w' h => ⟨h.1, h.2.symm⟩))
      repeat still_step
      still_call ((cut_calls _ xt 20 zt).mono (fun e w' h => ⟨h.1, h.2.symm⟩))
      repeat still_step
      refine wpStill_nil ?_
      change wpList _ _ _ _ _ wb.drew
      clear e0 e1 e2 e3 g0 g1 g2 g3
      generalize wb.drew = wd at *
      obtain ⟨⟨e0, e1, e2, e3⟩, g0, g1, g2, g3⟩ := four_cells HX2.out
      have hlb := lt_of_block HX2.out
      have hcut : cutP ⟨xi, xn, xs, xt⟩ = ⟨xi, xn, xs.extract 0 20, xt.extract 0 20⟩ := rfl
      have HCUT := Lib.hid hcut
      clear hcut
      generalize xs.extract 0 20 = ys at *
      generalize xt.extract 0 20 = yt at *
      have hlen : ((P.take k).map cutP).length = k := by rw [List.length_map, List.length_take]; omega
      have HLEN := Lib.hid hlen
      have hown3 := (ownsRow_setCell_other (a := ⟨wr.heap.size, 3, none⟩) (ownsRow_setCell_other (a := ⟨wr.heap.size, 2, none⟩) HO2.out HNE.out (.string ys)) HNE.out (.string yt))
      have hown4 : (((wd.setCell ⟨wr.heap.size, 2, none⟩ (.string ys)).setCell ⟨wr.heap.size, 3, none⟩ (.string yt)).alloc (.cells #[.int .i64 xi, .int .u32 xn, .string ys, .string yt] 47)).ownsRow w.heap.size 47 4 (.slice a k c) k (((P.take k).map cutP).flatMap prC) := by
        have := World.ownsRow.alloc hown3 (.cells #[.int .i64 xi, .int .u32 xn, .string ys, .string yt] 47)
        rwa [HLEN.out] at this
      have hsz : ((wd.setCell ⟨wr.heap.size, 2, none⟩ (.string ys)).setCell ⟨wr.heap.size, 3, none⟩ (.string yt)).heap.size = wd.heap.size := by simp [World.setCell]
      have hnews := four_new ((wd.setCell ⟨wr.heap.size, 2, none⟩ (.string ys)).setCell ⟨wr.heap.size, 3, none⟩ (.string yt)) (.int .i64 xi) (.int .u32 xn) (.string ys) (.string yt) 47
      rw [hsz] at hnews
      have HNEWS := Lib.hid hnews
      have HOWN4 := Lib.hid hown4
      have HSZ := Lib.hid hsz
      have hzd := HB2.out.size
      clear hlen hown3 hown4 hnews hsz HO2
      obtain ⟨i0, hi, hz0, hz1, hz2⟩ := info_parts Tryd.infoProp
      go_wp2_with ((at_builtin; refine wpList_append_own_at _ rfl _ _ 27 rfl w.heap.size 47 i0 (.agg #[.int .i64 0, .int .u32 0, .string ⟨#[]⟩, .string ⟨#[]⟩]) 4 48 Tryd.underlying27 hi hz0 hz1 hz2 rfl (by decide) _ _ _ rfl HOWN4.out ⟨wd.heap.size, 0, none⟩ 1 1 [.int .i64 xi, .int .u32 xn, .string ys, .string yt] rfl rfl HNEWS.out (by simp [Value.oneCell']) (by unfold maxLen; omega) (by omega) (by simp [World.setCell]; omega) ?_))
      intro v' w7 hown8 hgrow _ _
      have hbl8 : Below w.heap.size w w7 := (((HB2.out.setCell hz _).setCell hz _).alloc (by simp [World.setCell]; omega) _).grown hgrow (by simp [World.setCell]; omega) (fun k hk => (World.ownsRow.lt HOWN4.out k hk).1)
      have hown9 : OwnP w.heap.size 47 w7 v' ((P.take (k + 1)).map cutP) := by
        rw [few_snoc P k _ HX.out, HCUT.out]
        rw [← List.map_take] at hown8
        exact own_snoc (by rw [HLEN.out]; exact hown8)
      obtain ⟨a', c', hv'⟩ := hown9.form
      rw [show ((P.take (k + 1)).map cutP).length = k + 1 by rw [List.length_map, List.length_take]; omega] at hv'
      subst hv'
      have HO9 := Lib.hid hown9
      have HB8 := Lib.hid hbl8
      clear hown9 hbl8 hown8 hgrow HOWN4 HNEWS HB2 HSZ HX2 HNE e0 e1 e2 e3 g0 g1 g2 g3
      go_wp2
      go_roundw
      case rel => exact ⟨k + 1, a', c', by omega, by omega, by go_num, rfl, HO9.out, HB8.out⟩
      case measure => simp [intOf]; omega
    · have hfin : (P.take k).map cutP = fewL P := by
        unfold fewL
        by_cases h1 : k < P.length
        · obtain rfl : k = 8 := by omega
          rfl
        · rw [List.take_of_length_le (by omega), List.take_of_length_le (by omega)]
      have HF := Lib.hid hfin
      clear hfin HC HN
      by_cases h1 : k < P.length
      · have h2 : 8 ≤ k := by omega
        clear hlt
        go_wp2
        go_ret
        exact ⟨_, rfl, HF.out ▸ HOWN.out, HB.out⟩
      · have h2 : P.length ≤ k := by omega
        clear hlt h1
        go_wp2
        go_ret
        exact ⟨_, rfl, HF.out ▸ HOWN.out, HB.out⟩

#print axioms few_calls
end Go.Proofs.YtmkajnephkaamaaDoor
