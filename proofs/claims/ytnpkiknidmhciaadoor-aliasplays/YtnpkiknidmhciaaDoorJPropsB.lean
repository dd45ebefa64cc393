/-
  Several texts, one behind the other. (No statement: contracts that the proofs of the statements use.)
-/
import Derived.Test.YtnpkiknidmhciaaDoorJPropsA
import Derived.Outline
import Derived.Deep.RegionHeld3
import Derived.StillTailTactics
namespace Go.Proofs.YtnpkiknidmhciaaDoor
open Go.RowKit

theorem Tryd.infoRProp : (Tryd.prog.info? 138).map (fun i => (i.zero, i.size, i.bytes)) = some (some (.agg #[.int .i64 0, .int .u32 0, .string ⟨#[]⟩, .string ⟨#[]⟩]), 4, 48) := by kernel_rfl

theorem OwnP.empty (w : World) (e : TypeId) : OwnP w.heap.size e (w.alloc (.cells #[] e)) (.slice (some ⟨w.heap.size, 0, none⟩) 0 0) [] :=
  ⟨rfl, .inr ⟨w.heap.size, 0, #[], rfl, Nat.le_refl _, heap_alloc_new w _, Nat.le_refl _, Nat.zero_le _, rfl, rfl⟩⟩

/-- A row that has one more. -/
theorem own_snoc {B : Nat} {e : TypeId} {w : World} {v : Value} {acc : List Pr} {x : Pr} (h : w.ownsRow B e 4 v (acc.length + 1) (acc.flatMap prC ++ [.int .i64 x.id, .int .u32 x.n, .string x.s, .string x.t])) : OwnP B e w v (acc ++ [x]) := by
  unfold OwnP
  rw [show (acc ++ [x]).length = acc.length + 1 by simp, List.flatMap_append]
  exact h
theorem OwnP.alloc {B : Nat} {e : TypeId} {w : World} {v : Value} {P : List Pr} (h : OwnP B e w v P) (o : Obj) : OwnP B e (w.alloc o) v P := World.ownsRow.alloc h o

/-- What Told answers, and leaves. -/
def Made (e : TypeId) (w : World) (P : List Pr) (en : Ending) (w' : World) : Prop := ∃ v, en = .returned v ∧ OwnP w.heap.size e w' v P ∧ Below w.heap.size w w'

theorem take_snocP (P : List Pr) (k : Nat) (x : Pr) (h : P[k]? = some x) : P.take (k + 1) = P.take k ++ [x] := by
  obtain ⟨hk, rfl⟩ := List.getElem?_eq_some_iff.1 h
  exact List.take_succ_eq_append_getElem hk

set_option maxRecDepth 100000 in
set_option maxHeartbeats 1000000 in
theorem told_calls (w : World) (v : Value) (P : List Pr) (hv : PropsAt w v P) (hn : P.length ≤ 1000000) :
    Calls Tryd.prog 19 #[v] w (Made 138 w P) := by
  obtain ⟨A, cap, rfl, hc⟩ := hv
  have HC := Lib.hid hc
  clear hc
  go_enter Tryd.func19, Tryd.ntmps19
  go_wp2
  go_loopw [3, 9] (fun s j wr => ∃ (k : Nat) (a : Option Addr) (c : Nat), k ≤ P.length ∧ j = .int .i64 k ∧ s = .slice a k c ∧ OwnP w.heap.size 138 wr (.slice a k c) (P.take k) ∧ Below w.heap.size w wr) (fun _ j _ => P.length - (intOf j).toNat)
  case atStart => exact ⟨0, _, 0, by omega, rfl, rfl, OwnP.empty w _, below_one w _⟩
  case round =>
    obtain ⟨k, a, c, hk, rfl, rfl, hown, hb⟩ := hrel
    have HOWN := Lib.hid hown
    have HB := Lib.hid hb
    have hz := hb.size
    clear hown hb
    by_cases hlt : k < P.length
    · obtain ⟨x, hx⟩ : ∃ x, P[k]? = some x := ⟨_, List.getElem?_eq_getElem hlt⟩
      obtain ⟨b, off, hA, hbl, c0, c1, c2, c3⟩ := HC.out k x hx
      rw [← HB.out.cell (p := ⟨b, _, none⟩) hbl] at c0 c1 c2 c3
      subst hA
      have HX := Lib.hid hx
      have hlen : (P.take k).length = k := by rw [List.length_take]; omega
      have HLEN := Lib.hid hlen
      clear hx hlen
      obtain ⟨i0, hi, hz0, hz1, hz2⟩ := info_parts Tryd.infoRProp
      have hown2 := (HOWN.out.alloc (.cells #[.int .i64 x.id, .int .u32 x.n, .string x.s, .string x.t] 132)).alloc (.cells #[.int .i64 x.id, .int .u32 x.n, .string x.s, .string x.t] 138)
      have hown3 : ((wr.alloc (.cells #[.int .i64 x.id, .int .u32 x.n, .string x.s, .string x.t] 132)).alloc (.cells #[.int .i64 x.id, .int .u32 x.n, .string x.s, .string x.t] 138)).ownsRow w.heap.size 138 4 (.slice a k c) k ((P.take k).flatMap prC) := by
        have := hown2
        unfold OwnP at this
        rwa [HLEN.out] at this
      have hnews := four_new (wr.alloc (.cells #[.int .i64 x.id, .int .u32 x.n, .string x.s, .string x.t] 132)) (.int .i64 x.id) (.int .u32 x.n) (.string x.s) (.string x.t) 138
      rw [show (wr.alloc (.cells #[.int .i64 x.id, .int .u32 x.n, .string x.s, .string x.t] 132)).heap.size = wr.heap.size + 1 by simp] at hnews
      have HNEWS := Lib.hid hnews
      have HOWN3 := Lib.hid hown3
      clear hown2 hown3 hnews
      go_wp2_with ((at_builtin; refine wpList_append_own_at _ rfl _ _ 41 rfl w.heap.size 138 i0 (.agg #[.int .i64 0, .int .u32 0, .string ⟨#[]⟩, .string ⟨#[]⟩]) 4 48 Tryd.underlying41 hi hz0 hz1 hz2 rfl (by decide) _ _ _ rfl HOWN3.out ⟨wr.heap.size + 1, 0, none⟩ 1 1 [.int .i64 x.id, .int .u32 x.n, .string x.s, .string x.t] rfl rfl HNEWS.out (by simp [Value.oneCell']) (by unfold maxLen; omega) (by omega) (by simp; omega) ?_))
      intro v' w7 hown8 hgrow _ _
      have hbl8 : Below w.heap.size w w7 := ((HB.out.alloc hz _).alloc (by simp; omega) _).grown hgrow (by simp; omega) (fun k hk => (World.ownsRow.lt HOWN3.out k hk).1)
      have hown9 : OwnP w.heap.size 138 w7 v' (P.take (k + 1)) := by
        rw [take_snocP P k x HX.out]
        exact own_snoc (by rw [HLEN.out]; exact hown8)
      obtain ⟨a', c', hv'⟩ := hown9.form
      rw [show (P.take (k + 1)).length = k + 1 by rw [List.length_take]; omega] at hv'
      subst hv'
      have HO9 := Lib.hid hown9
      have HB8 := Lib.hid hbl8
      clear hown9 hbl8 hown8 hgrow HOWN3 HNEWS HOWN HB
      go_wp2
      go_roundw
      case rel => exact ⟨k + 1, a', c', by omega, by go_num, rfl, HO9.out, HB8.out⟩
      case measure => simp [intOf]; omega
    · obtain rfl : k = P.length := by omega
      clear HC
      go_wp2
      go_ret
      refine ⟨_, rfl, ?_, HB.out⟩
      have := HOWN.out
      rwa [List.take_length] at this

#print axioms told_calls
end Go.Proofs.YtnpkiknidmhciaaDoor

namespace Go.Proofs.YtnpkiknidmhciaaDoor
open Go.RowKit

/-- A property with short texts. -/
def cutP (p : Pr) : Pr := ⟨p.id, p.n, p.s.extract 0 20, p.t.extract 0 20⟩
/-- What Few answers. -/
def fewL (P : List Pr) : List Pr := (P.take 8).map cutP

/-- A slice that came in reads as a list of properties. -/
structure PropsIn (W : World) (v : Value) (P : List Pr) : Prop where
  at_ : PropsAt W v P
  len : P.length ≤ maxLen
  num : ∀ p ∈ P, 0 ≤ p.n ∧ p.n < 4294967296 ∧ p.s.size ≤ maxLen ∧ p.t.size ≤ maxLen

theorem few_ok (P : List Pr) (h : ∀ p ∈ P, 0 ≤ p.n ∧ p.n < 4294967296 ∧ p.s.size ≤ maxLen ∧ p.t.size ≤ maxLen) : ∀ p ∈ fewL P, p.ok ∧ p.s.size ≤ 20 ∧ p.t.size ≤ 20 := by
  intro p hp
  obtain ⟨x, hx, rfl⟩ := List.mem_map.1 hp
  obtain ⟨h0, h1, _, _⟩ := h x (List.mem_of_mem_take hx)
  have z1 : (x.s.extract 0 20).size ≤ 20 := by simp [ByteArray.size_extract]; omega
  have z2 : (x.t.extract 0 20).size ≤ 20 := by simp [ByteArray.size_extract]; omega
  exact ⟨⟨h0, h1, by show (x.s.extract 0 20).size ≤ _; omega, by show (x.t.extract 0 20).size ≤ _; omega⟩, z1, z2⟩
theorem few_len (P : List Pr) : (fewL P).length ≤ 8 := by simp [fewL]; omega

theorem few_snoc (P : List Pr) (k : Nat) (x : Pr) (h : P[k]? = some x) : (P.take (k + 1)).map cutP = (P.take k).map cutP ++ [cutP x] := by
  rw [take_snocP P k x h]; simp

set_option maxRecDepth 100000 in
set_option maxHeartbeats 2000000 in
theorem few_calls (w : World) (v : Value) (P : List Pr) (hv : PropsIn w v P) :
    Calls Tryd.prog 33 #[v] w (Made 132 w (fewL P)) := by
  obtain ⟨⟨A, cap, rfl, hc⟩, hlen, hnum⟩ := hv
  unfold maxLen at hlen
  have HC := Lib.hid hc
  have HN := Lib.hid hnum
  clear hc hnum
  go_enter Tryd.func33, Tryd.ntmps33
  go_wp2
  go_loopw [3, 4] (fun s j wr => ∃ (k : Nat) (a : Option Addr) (c : Nat), k ≤ P.length ∧ k ≤ 8 ∧ j = .int .i64 k ∧ s = .slice a k c ∧ OwnP w.heap.size 132 wr (.slice a k c) ((P.take k).map cutP) ∧ Below w.heap.size w wr) (fun _ j _ => 8 - (intOf j).toNat)
  case atStart => exact ⟨0, _, 0, by omega, by omega, rfl, rfl, OwnP.empty w _, below_one w _⟩
  case round =>
    obtain ⟨k, a, c, hk, hk8, rfl, rfl, hown, hb⟩ := hrel
    have HOWN := Lib.hid hown
    have HB := Lib.hid hb
    have hz := hb.size
    clear hown hb
    by_cases hlt : k < P.length ∧ k < 8
    · obtain ⟨h1, h2⟩ := hlt
      obtain ⟨x, hx⟩ : ∃ x, P[k]? = some x := ⟨_, List.getElem?_eq_getElem h1⟩
      obtain ⟨b, off, hA, hbl, c0, c1, c2, c3⟩ := HC.out k x hx
      rw [← HB.out.cell (p := ⟨b, _, none⟩) hbl] at c0 c1 c2 c3
      subst hA
      have HX := Lib.hid hx
      obtain ⟨_, _, zs, zt⟩ := HN.out x (List.mem_of_getElem? hx)
      clear hx
      obtain ⟨xi, xn, xs, xt⟩ := x
      dsimp only at c0 c1 c2 c3 zs zt
      have HNE := Lib.hid (show (Value.slice a k c).ownBlock ≠ some wr.heap.size from fun e => by have := (World.ownsRow.lt HOWN.out _ e).2; omega)
      have hown1 := HOWN.out.alloc (.cells #[.int .i64 xi, .int .u32 xn, .string xs, .string xt] 132)
      have hbx := heap_alloc_new wr (.cells #[.int .i64 xi, .int .u32 xn, .string xs, .string xt] 132)
      have hb1 := HB.out.alloc hz (.cells #[.int .i64 xi, .int .u32 xn, .string xs, .string xt] 132)
      go_wp2_with fail
      generalize wr.alloc (.cells #[.int .i64 xi, .int .u32 xn, .string xs, .string xt] 132) = wb at *
      have hown2 : OwnP w.heap.size 132 wb.drew (.slice a k c) ((P.take k).map cutP) := hown1
      have hbx2 : wb.drew.heap[wr.heap.size]? = some (.cells #[.int .i64 xi, .int .u32 xn, .string xs, .string xt] 132 (0, 0)) := hbx
      have hb2 : Below w.heap.size w wb.drew := hb1.drew
      obtain ⟨⟨e0, e1, e2, e3⟩, g0, g1, g2, g3⟩ := four_cells hbx
      have HO2 := Lib.hid hown2
      have HX2 := Lib.hid hbx2
      have HB2 := Lib.hid hb2
      clear hown1 hbx hb1 hown2 hbx2 hb2 c0 c1 c2 c3 HOWN HB
      go_still_tail 7, (by kernel_rfl)
      still_call ((cut_calls _ xs 20 zs).mono (fun e w' h => ⟨h.1, h.2.symm⟩))
      repeat still_step
      still_call ((cut_calls _ xt 20 zt).mono (fun e w' h => ⟨h.1, h.2.symm⟩))
      repeat still_step
      refine wpStill_nil ?_
      change wpList _ _ _ _ _ wb.drew
      clear e0 e1 e2 e3 g0 g1 g2 g3
      generalize wb.drew = wd at *
      obtain ⟨⟨e0, e1, e2, e3⟩, g0, g1, g2, g3⟩ := four_cells HX2.out
      have hlb := lt_of_block HX2.out
      have hcut : cutP ⟨xi, xn, xs, xt⟩ = ⟨xi, xn, xs.extract 0 20, xt.extract 0 20⟩ := rfl
      have HCUT := Lib.hid hcut
      clear hcut
      generalize xs.extract 0 20 = ys at *
      generalize xt.extract 0 20 = yt at *
      have hlen : ((P.take k).map cutP).length = k := by rw [List.length_map, List.length_take]; omega
      have HLEN := Lib.hid hlen
      have hown3 := (ownsRow_setCell_other (a := ⟨wr.heap.size, 3, none⟩) (ownsRow_setCell_other (a := ⟨wr.heap.size, 2, none⟩) HO2.out HNE.out (.string ys)) HNE.out (.string yt))
      have hown4 : (((wd.setCell ⟨wr.heap.size, 2, none⟩ (.string ys)).setCell ⟨wr.heap.size, 3, none⟩ (.string yt)).alloc (.cells #[.int .i64 xi, .int .u32 xn, .string ys, .string yt] 132)).ownsRow w.heap.size 132 4 (.slice a k c) k (((P.take k).map cutP).flatMap prC) := by
        have := World.ownsRow.alloc hown3 (.cells #[.int .i64 xi, .int .u32 xn, .string ys, .string yt] 132)
        rwa [HLEN.out] at this
      have hsz : ((wd.setCell ⟨wr.heap.size, 2, none⟩ (.string ys)).setCell ⟨wr.heap.size, 3, none⟩ (.string yt)).heap.size = wd.heap.size := by simp [World.setCell]
      have hnews := four_new ((wd.setCell ⟨wr.heap.size, 2, none⟩ (.string ys)).setCell ⟨wr.heap.size, 3, none⟩ (.string yt)) (.int .i64 xi) (.int .u32 xn) (.string ys) (.string yt) 132
      rw [hsz] at hnews
      have HNEWS := Lib.hid hnews
      have HOWN4 := Lib.hid hown4
      have HSZ := Lib.hid hsz
      have hzd := HB2.out.size
      clear hlen hown3 hown4 hnews hsz HO2
      obtain ⟨i0, hi, hz0, hz1, hz2⟩ := info_parts Tryd.infoProp
      go_wp2_with ((at_builtin; refine wpList_append_own_at _ rfl _ _ 29 rfl w.heap.size 132 i0 (.agg #[.int .i64 0, .int .u32 0, .string ⟨#[]⟩, .string ⟨#[]⟩]) 4 48 Tryd.underlying29 hi hz0 hz1 hz2 rfl (by decide) _ _ _ rfl HOWN4.out ⟨wd.heap.size, 0, none⟩ 1 1 [.int .i64 xi, .int .u32 xn, .string ys, .string yt] rfl rfl HNEWS.out (by simp [Value.oneCell']) (by unfold maxLen; omega) (by omega) (by simp [World.setCell]; omega) ?_))
      intro v' w7 hown8 hgrow _ _
      have hbl8 : Below w.heap.size w w7 := (((HB2.out.setCell hz _).setCell hz _).alloc (by simp [World.setCell]; omega) _).grown hgrow (by simp [World.setCell]; omega) (fun k hk => (World.ownsRow.lt HOWN4.out k hk).1)
      have hown9 : OwnP w.heap.size 132 w7 v' ((P.take (k + 1)).map cutP) := by
        rw [few_snoc P k _ HX.out, HCUT.out]
        rw [← List.map_take] at hown8
        exact own_snoc (by rw [HLEN.out]; exact hown8)
      obtain ⟨a', c', hv'⟩ := hown9.form
      rw [show ((P.take (k + 1)).map cutP).length = k + 1 by rw [List.length_map, List.length_take]; omega] at hv'
      subst hv'
      have HO9 := Lib.hid hown9
      have HB8 := Lib.hid hbl8
      clear hown9 hbl8 hown8 hgrow HOWN4 HNEWS HB2 HSZ HX2 HNE e0 e1 e2 e3 g0 g1 g2 g3
      go_wp2
      go_roundw
      case rel => exact ⟨k + 1, a', c', by omega, by omega, by go_num, rfl, HO9.out, HB8.out⟩
      case measure => simp [intOf]; omega
    · have hfin : (P.take k).map cutP = fewL P := by
        unfold fewL
        by_cases h1 : k < P.length
        · obtain rfl : k = 8 := by omega
          rfl
        · rw [List.take_of_length_le (by omega), List.take_of_length_le (by omega)]
      have HF := Lib.hid hfin
      clear hfin HC HN
      by_cases h1 : k < P.length
      · have h2 : 8 ≤ k := by omega
        clear hlt
        go_wp2
        go_ret
        exact ⟨_, rfl, HF.out ▸ HOWN.out, HB.out⟩
      · have h2 : P.length ≤ k := by omega
        clear hlt h1
        go_wp2
        go_ret
        exact ⟨_, rfl, HF.out ▸ HOWN.out, HB.out⟩

#print axioms few_calls
end Go.Proofs.YtnpkiknidmhciaaDoor

namespace Go.Proofs.YtnpkiknidmhciaaDoor
open Go.RowKit

/-- The worlds behind w in which a property of the document's lies in the block that was new then. -/
structure RBoxC (w : World) (i n : Int) (s t : ByteArray) (wx : World) : Prop where
  box : wx.heap[w.heap.size]? = some (.cells #[.int .i64 i, .int .u32 n, .string s, .string t] 138 (0, 0))
  bel : Below w.heap.size w wx
theorem RBoxC.next {w : World} {i n : Int} {s t : ByteArray} {wx wy : World} (h : RBoxC w i n s t wx) (hb : Below wx.heap.size wx wy) : RBoxC w i n s t wy := ⟨(hb.block _ (lt_of_block h.box)).trans h.box, Below.next h.bel hb⟩

theorem r1data_of (w : World) (s : ByteArray) (D : List UInt8) (hs : s.size ≤ 65535) (hD : Hid (two s.size ++ s.data.toList = D)) :
    Calls Tryd.prog 93 #[.string s] w fun e w' => e = .returned (.string (str D)) ∧ Below w.heap.size w w' := by
  have := r1data_calls w s hs
  rw [hD.out] at this
  exact this

/-- What One answers. -/
def OneR (w : World) (L : List UInt8) (e : Ending) (w' : World) : Prop := e = .returned (.string (str L)) ∧ Below w.heap.size w w'

set_option maxRecDepth 100000 in
set_option maxHeartbeats 1000000 in
theorem r3one_1 (w : World) (p : Pr) (hp : p.ok) (hk : (ruleL p.id).kind = 1) : Calls Tryd.prog 135 #[prV p] w (OneR w (oneL p)) := by
  have hr := (kind_range p.id).1
  have he : oneL p = varb 3 p.id.toNat ++ [UInt8.ofNat (p.n % 256).toNat] := by unfold oneL saysL; rw [hk]; rfl
  rw [he]
  clear he
  obtain ⟨i, n, s, t⟩ := p
  obtain ⟨n0, n1, s1, t1⟩ := hp
  dsimp only at hk hr n0 n1 s1 t1 ⊢
  have hi : 1 ≤ i ∧ i ≤ 42 := by rcases hr with e | e; (· rw [hk] at e; exact absurd e (by decide)); exact e
  obtain ⟨i1, i2⟩ := hi
  have HK := Lib.hid hk
  clear hk hr
  have hbx := heap_alloc_new w (.cells #[.int .i64 i, .int .u32 n, .string s, .string t] 138)
  have b0 := below_one w (.cells #[.int .i64 i, .int .u32 n, .string s, .string t] 138)
  generalize hL : varb 3 i.toNat ++ [UInt8.ofNat (n % 256).toNat] = L
  have HL := Lib.hid hL
  clear hL
  go_enter Tryd.func135, Tryd.ntmps135
  go_wp2_with fail
  refine (r1var_any _ i i.toNat (by omega) (.inl (by omega))).mono ?_
  rintro e w1 ⟨rfl, b1⟩
  have hbx1 := (b1.block _ (lt_of_block hbx)).trans hbx
  have HB1 := Lib.hid (Below.next b0 b1)
  have vl := varb_len 3 i.toNat
  generalize varb 3 i.toNat = V at *
  clear hbx b0 b1
  obtain ⟨⟨c0, c1, c2, c3⟩, _, _, _, _⟩ := four_cells hbx1
  have HBX := Lib.hid hbx1
  have hlb := lt_of_block hbx1
  have zV : (str V).size ≤ 4 := by rw [str_size]; omega
  clear hbx1
  go_wp2_with fail
  refine (r3kind_calls _ i).mono ?_
  rw [HK.out]
  rintro e w2 ⟨rfl, rfl⟩
  clear HK
  have hcv := conv1 w1 (n % 256)
  have ha := str_append V [UInt8.ofNat (n % 256).toNat]
  rw [HL.out] at ha
  have zZ : (str [UInt8.ofNat (n % 256).toNat]).size ≤ 1 := by rw [str_size]; exact Nat.le_refl _
  generalize [UInt8.ofNat (n % 256).toNat] = Z at *
  clear HL HBX
  go_wp2
  go_ret
  exact ⟨rfl, HB1.out.alloc HB1.out.size _⟩

set_option maxRecDepth 100000 in
set_option maxHeartbeats 1000000 in
theorem r3one_2 (w : World) (p : Pr) (hp : p.ok) (hk : (ruleL p.id).kind = 2) : Calls Tryd.prog 135 #[prV p] w (OneR w (oneL p)) := by
  have hr := (kind_range p.id).1
  have he : oneL p = varb 3 p.id.toNat ++ two p.n := by unfold oneL saysL; rw [hk]; rfl
  rw [he]
  clear he
  obtain ⟨i, n, s, t⟩ := p
  obtain ⟨n0, n1, s1, t1⟩ := hp
  dsimp only at hk hr n0 n1 s1 t1 ⊢
  have hi : 1 ≤ i ∧ i ≤ 42 := by rcases hr with e | e; (· rw [hk] at e; exact absurd e (by decide)); exact e
  obtain ⟨i1, i2⟩ := hi
  have HK := Lib.hid hk
  clear hk hr
  have hbx := heap_alloc_new w (.cells #[.int .i64 i, .int .u32 n, .string s, .string t] 138)
  have b0 := below_one w (.cells #[.int .i64 i, .int .u32 n, .string s, .string t] 138)
  generalize hL : varb 3 i.toNat ++ two n = L
  have HL := Lib.hid hL
  clear hL
  go_enter Tryd.func135, Tryd.ntmps135
  go_wp2_with fail
  refine (r1var_any _ i i.toNat (by omega) (.inl (by omega))).mono ?_
  rintro e w1 ⟨rfl, b1⟩
  have hbx1 := (b1.block _ (lt_of_block hbx)).trans hbx
  have HB1 := Lib.hid (Below.next b0 b1)
  have vl := varb_len 3 i.toNat
  generalize varb 3 i.toNat = V at *
  clear hbx b0 b1
  obtain ⟨⟨c0, c1, c2, c3⟩, _, _, _, _⟩ := four_cells hbx1
  have HBX := Lib.hid hbx1
  have hlb := lt_of_block hbx1
  have zV : (str V).size ≤ 4 := by rw [str_size]; omega
  clear hbx1
  go_wp2_with fail
  refine (r3kind_calls _ i).mono ?_
  rw [HK.out]
  rintro e w2 ⟨rfl, rfl⟩
  clear HK
  go_wp2_with fail
  refine (r1two_calls _ n n0 n1).mono ?_
  rintro e w2 ⟨rfl, b2⟩
  have HB2 := Lib.hid (Below.next HB1.out b2)
  clear b2 HB1 HBX
  have hlen : (two n).length ≤ 2 := Nat.le_refl _
  have ha := str_append V (two n)
  rw [HL.out] at ha
  generalize two n = Z at *
  have zZ : (str Z).size ≤ 2 := by rw [str_size]; exact hlen
  clear HL hlen c0 c1 c2 c3
  go_wp2
  go_ret
  exact ⟨rfl, HB2.out⟩

set_option maxRecDepth 100000 in
set_option maxHeartbeats 1000000 in
theorem r3one_3 (w : World) (p : Pr) (hp : p.ok) (hk : (ruleL p.id).kind = 3) : Calls Tryd.prog 135 #[prV p] w (OneR w (oneL p)) := by
  have hr := (kind_range p.id).1
  have he : oneL p = varb 3 p.id.toNat ++ (two (p.n / 65536) ++ two p.n) := by unfold oneL saysL; rw [hk]; rfl
  rw [he]
  clear he
  obtain ⟨i, n, s, t⟩ := p
  obtain ⟨n0, n1, s1, t1⟩ := hp
  dsimp only at hk hr n0 n1 s1 t1 ⊢
  have hi : 1 ≤ i ∧ i ≤ 42 := by rcases hr with e | e; (· rw [hk] at e; exact absurd e (by decide)); exact e
  obtain ⟨i1, i2⟩ := hi
  have HK := Lib.hid hk
  clear hk hr
  have hbx := heap_alloc_new w (.cells #[.int .i64 i, .int .u32 n, .string s, .string t] 138)
  have b0 := below_one w (.cells #[.int .i64 i, .int .u32 n, .string s, .string t] 138)
  generalize hL : varb 3 i.toNat ++ (two (n / 65536) ++ two n) = L
  have HL := Lib.hid hL
  clear hL
  go_enter Tryd.func135, Tryd.ntmps135
  go_wp2_with fail
  refine (r1var_any _ i i.toNat (by omega) (.inl (by omega))).mono ?_
  rintro e w1 ⟨rfl, b1⟩
  have hbx1 := (b1.block _ (lt_of_block hbx)).trans hbx
  have HB1 := Lib.hid (Below.next b0 b1)
  have vl := varb_len 3 i.toNat
  generalize varb 3 i.toNat = V at *
  clear hbx b0 b1
  obtain ⟨⟨c0, c1, c2, c3⟩, _, _, _, _⟩ := four_cells hbx1
  have HBX := Lib.hid hbx1
  have hlb := lt_of_block hbx1
  have zV : (str V).size ≤ 4 := by rw [str_size]; omega
  clear hbx1
  go_wp2_with fail
  refine (r3kind_calls _ i).mono ?_
  rw [HK.out]
  rintro e w2 ⟨rfl, rfl⟩
  clear HK
  go_wp2_with fail
  refine (r1four_calls _ n n0 n1).mono ?_
  rintro e w2 ⟨rfl, b2⟩
  have HB2 := Lib.hid (Below.next HB1.out b2)
  clear b2 HB1 HBX
  have hlen : (two (n / 65536) ++ two n).length ≤ 4 := Nat.le_refl _
  have ha := str_append V (two (n / 65536) ++ two n)
  rw [HL.out] at ha
  generalize two (n / 65536) ++ two n = Z at *
  have zZ : (str Z).size ≤ 4 := by rw [str_size]; exact hlen
  clear HL hlen c0 c1 c2 c3
  go_wp2
  go_ret
  exact ⟨rfl, HB2.out⟩

set_option maxRecDepth 100000 in
set_option maxHeartbeats 1000000 in
theorem r3one_4 (w : World) (p : Pr) (hp : p.ok) (hk : (ruleL p.id).kind = 4) : Calls Tryd.prog 135 #[prV p] w (OneR w (oneL p)) := by
  have hr := (kind_range p.id).1
  have he : oneL p = varb 3 p.id.toNat ++ varb 3 (min p.n.toNat 268435455) := by unfold oneL saysL; rw [hk]; rfl
  rw [he]
  clear he
  obtain ⟨i, n, s, t⟩ := p
  obtain ⟨n0, n1, s1, t1⟩ := hp
  dsimp only at hk hr n0 n1 s1 t1 ⊢
  have hi : 1 ≤ i ∧ i ≤ 42 := by rcases hr with e | e; (· rw [hk] at e; exact absurd e (by decide)); exact e
  obtain ⟨i1, i2⟩ := hi
  have HK := Lib.hid hk
  clear hk hr
  have hbx := heap_alloc_new w (.cells #[.int .i64 i, .int .u32 n, .string s, .string t] 138)
  have b0 := below_one w (.cells #[.int .i64 i, .int .u32 n, .string s, .string t] 138)
  generalize hL : varb 3 i.toNat ++ varb 3 (min n.toNat 268435455) = L
  have HL := Lib.hid hL
  clear hL
  go_enter Tryd.func135, Tryd.ntmps135
  go_wp2_with fail
  refine (r1var_any _ i i.toNat (by omega) (.inl (by omega))).mono ?_
  rintro e w1 ⟨rfl, b1⟩
  have hbx1 := (b1.block _ (lt_of_block hbx)).trans hbx
  have HB1 := Lib.hid (Below.next b0 b1)
  have vl := varb_len 3 i.toNat
  generalize varb 3 i.toNat = V at *
  clear hbx b0 b1
  obtain ⟨⟨c0, c1, c2, c3⟩, _, _, _, _⟩ := four_cells hbx1
  have HBX := Lib.hid hbx1
  have hlb := lt_of_block hbx1
  have zV : (str V).size ≤ 4 := by rw [str_size]; omega
  clear hbx1
  go_wp2_with fail
  refine (r3kind_calls _ i).mono ?_
  rw [HK.out]
  rintro e w2 ⟨rfl, rfl⟩
  clear HK
  go_wp2_with fail
  refine (r1var_any _ n _ (by omega) (min_clamp n n0 n1)).mono ?_
  rintro e w2 ⟨rfl, b2⟩
  have HB2 := Lib.hid (Below.next HB1.out b2)
  clear b2 HB1 HBX
  have hlen : (varb 3 (min n.toNat 268435455)).length ≤ 4 := varb_len 3 _
  have ha := str_append V (varb 3 (min n.toNat 268435455))
  rw [HL.out] at ha
  generalize varb 3 (min n.toNat 268435455) = Z at *
  have zZ : (str Z).size ≤ 4 := by rw [str_size]; exact hlen
  clear HL hlen c0 c1 c2 c3
  go_wp2
  go_ret
  exact ⟨rfl, HB2.out⟩

set_option maxRecDepth 100000 in
set_option maxHeartbeats 1000000 in
theorem r3one_5 (w : World) (p : Pr) (hp : p.ok) (hk : (ruleL p.id).kind = 5) : Calls Tryd.prog 135 #[prV p] w (OneR w (oneL p)) := by
  have hr := (kind_range p.id).1
  have he : oneL p = varb 3 p.id.toNat ++ (two p.s.size ++ p.s.data.toList) := by unfold oneL saysL; rw [hk]; rfl
  rw [he]
  clear he
  obtain ⟨i, n, s, t⟩ := p
  obtain ⟨n0, n1, s1, t1⟩ := hp
  dsimp only at hk hr n0 n1 s1 t1 ⊢
  have hi : 1 ≤ i ∧ i ≤ 42 := by rcases hr with e | e; (· rw [hk] at e; exact absurd e (by decide)); exact e
  obtain ⟨i1, i2⟩ := hi
  have HK := Lib.hid hk
  clear hk hr
  have hbx := heap_alloc_new w (.cells #[.int .i64 i, .int .u32 n, .string s, .string t] 138)
  have b0 := below_one w (.cells #[.int .i64 i, .int .u32 n, .string s, .string t] 138)
  generalize hL : varb 3 i.toNat ++ (two s.size ++ s.data.toList) = L
  have HL := Lib.hid hL
  clear hL
  go_enter Tryd.func135, Tryd.ntmps135
  go_wp2_with fail
  refine (r1var_any _ i i.toNat (by omega) (.inl (by omega))).mono ?_
  rintro e w1 ⟨rfl, b1⟩
  have hbx1 := (b1.block _ (lt_of_block hbx)).trans hbx
  have HB1 := Lib.hid (Below.next b0 b1)
  have vl := varb_len 3 i.toNat
  generalize varb 3 i.toNat = V at *
  clear hbx b0 b1
  obtain ⟨⟨c0, c1, c2, c3⟩, _, _, _, _⟩ := four_cells hbx1
  have HBX := Lib.hid hbx1
  have hlb := lt_of_block hbx1
  have zV : (str V).size ≤ 4 := by rw [str_size]; omega
  clear hbx1
  go_wp2_with fail
  refine (r3kind_calls _ i).mono ?_
  rw [HK.out]
  rintro e w2 ⟨rfl, rfl⟩
  clear HK
  go_wp2_with fail
  refine (r1data_calls _ s s1).mono ?_
  rintro e w2 ⟨rfl, b2⟩
  have HB2 := Lib.hid (Below.next HB1.out b2)
  clear b2 HB1 HBX
  have hlen : (two s.size ++ s.data.toList).length ≤ 65537 := data_len s s1
  have ha := str_append V (two s.size ++ s.data.toList)
  rw [HL.out] at ha
  generalize two s.size ++ s.data.toList = Z at *
  have zZ : (str Z).size ≤ 65537 := by rw [str_size]; exact hlen
  clear HL hlen c0 c1 c2 c3
  go_wp2
  go_ret
  exact ⟨rfl, HB2.out⟩

set_option maxRecDepth 100000 in
set_option maxHeartbeats 1000000 in
theorem r3one_6 (w : World) (p : Pr) (hp : p.ok) (hk : (ruleL p.id).kind = 6) : Calls Tryd.prog 135 #[prV p] w (OneR w (oneL p)) := by
  have hr := (kind_range p.id).1
  have he : oneL p = varb 3 p.id.toNat ++ (two p.s.size ++ p.s.data.toList) := by unfold oneL saysL; rw [hk]; rfl
  rw [he]
  clear he
  obtain ⟨i, n, s, t⟩ := p
  obtain ⟨n0, n1, s1, t1⟩ := hp
  dsimp only at hk hr n0 n1 s1 t1 ⊢
  have hi : 1 ≤ i ∧ i ≤ 42 := by rcases hr with e | e; (· rw [hk] at e; exact absurd e (by decide)); exact e
  obtain ⟨i1, i2⟩ := hi
  have HK := Lib.hid hk
  clear hk hr
  have hbx := heap_alloc_new w (.cells #[.int .i64 i, .int .u32 n, .string s, .string t] 138)
  have b0 := below_one w (.cells #[.int .i64 i, .int .u32 n, .string s, .string t] 138)
  generalize hL : varb 3 i.toNat ++ (two s.size ++ s.data.toList) = L
  have HL := Lib.hid hL
  clear hL
  go_enter Tryd.func135, Tryd.ntmps135
  go_wp2_with fail
  refine (r1var_any _ i i.toNat (by omega) (.inl (by omega))).mono ?_
  rintro e w1 ⟨rfl, b1⟩
  have hbx1 := (b1.block _ (lt_of_block hbx)).trans hbx
  have HB1 := Lib.hid (Below.next b0 b1)
  have vl := varb_len 3 i.toNat
  generalize varb 3 i.toNat = V at *
  clear hbx b0 b1
  obtain ⟨⟨c0, c1, c2, c3⟩, _, _, _, _⟩ := four_cells hbx1
  have HBX := Lib.hid hbx1
  have hlb := lt_of_block hbx1
  have zV : (str V).size ≤ 4 := by rw [str_size]; omega
  clear hbx1
  go_wp2_with fail
  refine (r3kind_calls _ i).mono ?_
  rw [HK.out]
  rintro e w2 ⟨rfl, rfl⟩
  clear HK
  go_wp2_with fail
  refine (r1data_calls _ s s1).mono ?_
  rintro e w2 ⟨rfl, b2⟩
  have HB2 := Lib.hid (Below.next HB1.out b2)
  clear b2 HB1 HBX
  have hlen : (two s.size ++ s.data.toList).length ≤ 65537 := data_len s s1
  have ha := str_append V (two s.size ++ s.data.toList)
  rw [HL.out] at ha
  generalize two s.size ++ s.data.toList = Z at *
  have zZ : (str Z).size ≤ 65537 := by rw [str_size]; exact hlen
  clear HL hlen c0 c1 c2 c3
  go_wp2
  go_ret
  exact ⟨rfl, HB2.out⟩

set_option maxRecDepth 100000 in
set_option maxHeartbeats 1000000 in
theorem r3one_7 (w : World) (p : Pr) (hp : p.ok) (hk : (ruleL p.id).kind = 7) : Calls Tryd.prog 135 #[prV p] w (OneR w (oneL p)) := by
  have hr := (kind_range p.id).1
  have he : oneL p = varb 3 p.id.toNat ++ ((two p.s.size ++ p.s.data.toList) ++ (two p.t.size ++ p.t.data.toList)) := by unfold oneL saysL; rw [hk]; rfl
  rw [he]
  clear he
  obtain ⟨i, n, s, t⟩ := p
  obtain ⟨n0, n1, s1, t1⟩ := hp
  dsimp only at hk hr n0 n1 s1 t1 ⊢
  have hi : 1 ≤ i ∧ i ≤ 42 := by rcases hr with e | e; (· rw [hk] at e; exact absurd e (by decide)); exact e
  obtain ⟨i1, i2⟩ := hi
  have HK := Lib.hid hk
  clear hk hr
  have hbx := heap_alloc_new w (.cells #[.int .i64 i, .int .u32 n, .string s, .string t] 138)
  have b0 := below_one w (.cells #[.int .i64 i, .int .u32 n, .string s, .string t] 138)
  generalize hL : varb 3 i.toNat ++ ((two s.size ++ s.data.toList) ++ (two t.size ++ t.data.toList)) = L
  have HL := Lib.hid hL
  clear hL
  go_enter Tryd.func135, Tryd.ntmps135
  go_wp2_with fail
  refine (r1var_any _ i i.toNat (by omega) (.inl (by omega))).mono ?_
  rintro e w1 ⟨rfl, b1⟩
  have hbx1 := (b1.block _ (lt_of_block hbx)).trans hbx
  have HB1 := Lib.hid (Below.next b0 b1)
  have vl := varb_len 3 i.toNat
  generalize varb 3 i.toNat = V at *
  clear hbx b0 b1
  obtain ⟨⟨c0, c1, c2, c3⟩, _, _, _, _⟩ := four_cells hbx1
  have HBX := Lib.hid hbx1
  have hlb := lt_of_block hbx1
  have zV : (str V).size ≤ 4 := by rw [str_size]; omega
  clear hbx1
  go_wp2_with fail
  refine (r3kind_calls _ i).mono ?_
  rw [HK.out]
  rintro e w2 ⟨rfl, rfl⟩
  clear HK
  have hd1 : (two s.size ++ s.data.toList).length ≤ 65537 := data_len s s1
  have hd2 : (two t.size ++ t.data.toList).length ≤ 65537 := data_len t t1
  generalize hD1 : two s.size ++ s.data.toList = D1 at *
  generalize hD2 : two t.size ++ t.data.toList = D2 at *
  have HD1 := Lib.hid hD1
  have HD2 := Lib.hid hD2
  have ha1 := str_append V D1
  have ha2 := str_append (V ++ D1) D2
  rw [List.append_assoc, HL.out] at ha2
  have z1 : (str D1).size ≤ 65537 := by rw [str_size]; exact hd1
  have z2 : (str D2).size ≤ 65537 := by rw [str_size]; exact hd2
  have z3 : (str (V ++ D1)).size ≤ 65541 := by rw [str_size, List.length_append]; omega
  generalize V ++ D1 = VD at *
  clear hD1 hD2 HL
  go_wp2_with fail
  have hs1 : (str V).size + (str D1).size ≤ 9223372036854775807 := by omega
  have hs2 : (str VD).size + (str D2).size ≤ 9223372036854775807 := by omega
  have hC : RBoxC w i n s t w1.drew := ⟨HBX.out, HB1.out.drew⟩
  refine wp_region_quiet_cls (fun wx => RBoxC w i n s t wx) (by kernel_rfl) (by kernel_rfl) hC ?_
  clear hC c0 c1 c2 c3 HBX HB1
  iterate 10
    refine wpQuiet_step (fun K hK => ?_)
    go_simp
    first
      | (refine hK _ ?_; clear hK K)
      | (apply Exists.intro
         refine ⟨fun wx hwx => ?_, hK _ ?_⟩
         · first
             | exact rfl
             | (rw [if_neg (by omega)]; exact And.intro rfl rfl)
             | (rw [(four_cells hwx.box).1.2.2.1]; exact And.intro rfl rfl)
             | (rw [(four_cells hwx.box).1.2.2.2]; exact And.intro rfl rfl)
             | with_reducible exact (r1data_of wx s D1 s1 HD1).mono (fun e w2 h => And.intro h.1 (hwx.next h.2))
             | with_reducible exact (r1data_of wx t D2 t1 HD2).mono (fun e w2 h => And.intro h.1 (hwx.next h.2))
         clear hK K)
  refine wpQuiet_nil ?_
  intro w2 hb2
  have HBE := Lib.hid hb2.bel
  clear hb2
  go_wp2
  go_ret
  exact ⟨rfl, HBE.out⟩

theorem r3one_calls (w : World) (p : Pr) (hp : p.ok) (hk : (ruleL p.id).kind ≠ 0) : Calls Tryd.prog 135 #[prV p] w (OneR w (oneL p)) := by
  rcases (kind_range p.id).2 with h0 | h0 | h0 | h0 | h0 | h0 | h0 | h0
  · exact absurd h0 hk
  · exact r3one_1 w p hp h0
  · exact r3one_2 w p hp h0
  · exact r3one_3 w p hp h0
  · exact r3one_4 w p hp h0
  · exact r3one_5 w p hp h0
  · exact r3one_6 w p hp h0
  · exact r3one_7 w p hp h0

set_option maxRecDepth 100000 in
set_option maxHeartbeats 1000000 in
theorem r3text_calls (w : World) (v : Value) (P : List Pr) (hv : PropsAt w v P) (hok : ∀ p ∈ P, p.ok) (hn : P.length ≤ 1000) :
    Calls Tryd.prog 94 #[v] w (OneR w (propsL P)) := by
  have hbl := bodyL_len P hok
  obtain ⟨A, cap, rfl, hc⟩ := hv
  have HC := Lib.hid hc
  have HOK := Lib.hid hok
  clear hc hok
  generalize hR : propsL P = R
  have HR := Lib.hid hR
  clear hR
  go_enter Tryd.func94, Tryd.ntmps94
  go_wp2
  go_loopw [3, 8] (fun s j wr => ∃ k : Nat, k ≤ P.length ∧ j = .int .i64 k ∧ s = .string (str (bodyL (P.take k))) ∧ Below w.heap.size w wr) (fun _ j _ => P.length - (intOf j).toNat)
  case atStart => exact ⟨0, by omega, rfl, rfl, Below.refl _ _⟩
  case round =>
    obtain ⟨k, hk, rfl, rfl, hb⟩ := hrel
    have HB := Lib.hid hb
    have hz := hb.size
    clear hb
    by_cases hlt : k < P.length
    · obtain ⟨x, hx⟩ : ∃ x, P[k]? = some x := ⟨_, List.getElem?_eq_getElem hlt⟩
      obtain ⟨b, off, hA, hbl2, c0, c1, c2, c3⟩ := HC.out k x hx
      rw [← HB.out.cell (p := ⟨b, _, none⟩) hbl2] at c0 c1 c2 c3
      subst hA
      have hsn := bodyL_snoc P k x hx
      have hxok := HOK.out x (List.mem_of_getElem? hx)
      have hl3 : (bodyL (P.take k)).length ≤ 140000000 := by
        have := bodyL_len (P.take k) (fun p hp => HOK.out p (List.mem_of_mem_take hp))
        rw [List.length_take] at this
        omega
      have hl4 := one_len x hxok
      have HXO := Lib.hid hxok
      have HSN := Lib.hid hsn
      clear hx hxok hsn
      have hbx := heap_alloc_new wr (.cells #[.int .i64 x.id, .int .u32 x.n, .string x.s, .string x.t] 138)
      have hb1 := HB.out.alloc hz (.cells #[.int .i64 x.id, .int .u32 x.n, .string x.s, .string x.t] 138)
      go_wp2_with fail
      refine (r3kind_calls _ x.id).mono ?_
      rintro e w2 ⟨rfl, hw2⟩
      rw [hw2] at hbx hb1
      clear hw2
      obtain ⟨⟨d0, d1, d2, d3⟩, _, _, _, _⟩ := four_cells hbx
      have HB1 := Lib.hid hb1
      clear hb1 hbx c0 c1 c2 c3 HB
      by_cases hk0 : (ruleL x.id).kind = 0
      · rw [hk0]
        have ho : oneL x = [] := by unfold oneL; rw [if_pos hk0]
        have HS2 : Hid (bodyL (P.take (k + 1)) = bodyL (P.take k)) := by have := HSN.out; rwa [ho, List.append_nil] at this
        clear HSN ho hk0 d0 d1 d2 d3 HXO
        go_wp2
        go_roundw
        case rel => exact ⟨k + 1, by omega, by go_num, by rw [HS2.out], HB1.out⟩
        case measure => simp [intOf]; omega
      · have hkp : 0 < (ruleL x.id).kind := by rcases (kind_range x.id).2 with e | e <;> omega
        have HK0 := Lib.hid hk0
        clear hk0
        generalize (ruleL x.id).kind = kd at hkp ⊢
        go_wp2_with fail
        refine (r3one_calls _ x HXO.out HK0.out).mono ?_
        rintro e w3 ⟨rfl, b3⟩
        have HB3 := Lib.hid (HB1.out.trans (b3.mono HB1.out.size))
        have ha := str_append (bodyL (P.take k)) (oneL x)
        rw [← HSN.out] at ha
        have z1 : (str (bodyL (P.take k))).size ≤ 140000000 := by rw [str_size]; exact hl3
        have z2 : (str (oneL x)).size ≤ 140000 := by rw [str_size]; exact hl4
        clear HSN HXO b3 HB1 d0 d1 d2 d3 hl3 hl4
        generalize hS1 : str (bodyL (P.take (k + 1))) = S1 at *
        have HS1 := Lib.hid hS1
        clear hS1
        generalize str (bodyL (P.take k)) = S0 at *
        generalize str (oneL x) = X at *
        go_wp2
        go_roundw
        case rel => exact ⟨k + 1, by omega, by go_num, by rw [HS1.out], HB3.out⟩
        case measure => simp [intOf]; omega
    · obtain rfl : k = P.length := by omega
      rw [List.take_length]
      have HR2 := HR.out
      unfold propsL at HR2
      have hl : (bodyL P).length < 268435455 := by omega
      generalize bodyL P = D at *
      have zD : (str D).size = D.length := str_size D
      have ha := str_append (varb 3 D.length) D
      rw [HR2] at ha
      have zV : (str (varb 3 D.length)).size ≤ 4 := by rw [str_size]; exact varb_len 3 _
      clear HR HR2 HC HOK
      go_wp2_with fail
      refine (r1var_any _ D.length D.length (by omega) (.inl rfl)).mono ?_
      rintro e w3 ⟨rfl, b3⟩
      have HB3 := Lib.hid (HB.out.trans (b3.mono HB.out.size))
      clear b3 HB
      go_wp2
      go_ret
      exact ⟨rfl, HB3.out⟩

#print axioms r3text_calls
end Go.Proofs.YtnpkiknidmhciaaDoor

namespace Go.Proofs.YtnpkiknidmhciaaDoor
open Go.RowKit Go.ChangeShapes Go.WideShapes Go.Deep

set_option maxRecDepth 100000 in
theorem open_props {H : Type} {enc : TypeId × Value → H} {W : World} {v : Value} {d : DataW H} {p : List MemPlace} {base : Nat} (hv : Value.okWide Tryd.prog W .any base 28 v) (h : DataW.Trod enc Tryd.prog W 0 (fun _ => true) true 28 v d p) :
    ∃ P, PropsIn W v P := by
  obtain ⟨A, len, cap, rfl, hl, hm, hall⟩ := open_cells (e := 132) Tryd.underlying28 Tryd.underlying132 (by kernel_rfl) (by kernel_rfl) hv h
  haveI : Inhabited Pr := ⟨⟨0, 0, ⟨#[]⟩, ⟨#[]⟩⟩⟩
  obtain ⟨f, hf⟩ := choose_lt (α := Pr) (n := len) (p := fun i x => (∃ b off, A = some ⟨b, off, none⟩ ∧ b < W.heap.size ∧ W.cell? ⟨b, off + i * 4, none⟩ = some (.int .i64 x.id) ∧ W.cell? ⟨b, off + i * 4 + 1, none⟩ = some (.int .u32 x.n) ∧ W.cell? ⟨b, off + i * 4 + 2, none⟩ = some (.string x.s) ∧ W.cell? ⟨b, off + i * 4 + 3, none⟩ = some (.string x.t)) ∧
      0 ≤ x.n ∧ x.n < 4294967296 ∧ x.s.size ≤ maxLen ∧ x.t.size ≤ maxLen) (by
    intro i hi
    obtain ⟨ad, rfl, hc⟩ := hall i hi
    obtain ⟨u0, n0, y0, c0, t0⟩ := hc 0 _ rfl
    obtain ⟨u1, n1, y1, c1, t1⟩ := hc 1 _ rfl
    obtain ⟨u2, n2, y2, c2, t2⟩ := hc 2 _ rfl
    obtain ⟨u3, n3, y3, c3, t3⟩ := hc 3 _ rfl
    obtain ⟨k, e0, _, _⟩ := DataW.trod_int Tryd.underlying3 t0
    obtain ⟨n, e1, _, wn⟩ := DataW.trod_int Tryd.underlying22 t1
    obtain ⟨s, e2, _, hs⟩ := DataW.trod_string Tryd.underlying9 t2
    obtain ⟨s', e3, _, hs'⟩ := DataW.trod_string Tryd.underlying9 t3
    simp only [List.cons.injEq, and_true] at e0 e1 e2 e3
    subst e0 e1 e2 e3
    obtain ⟨b, off, spot⟩ := ad
    have hsp : spot = none := by
      obtain ⟨ad', ea, hc'⟩ := hall 0 (by omega)
      injection ea with ea
      subst ea
      obtain ⟨u', _, _, c', _⟩ := hc' 0 _ rfl
      simpa [Addr.add] using World.cell?_spot c'
    subst hsp
    have hb := bounds_u32 wn
    simp only [Addr.add_lit] at c0 c1 c2 c3
    exact ⟨⟨k, n, s, s'⟩, ⟨b, off, rfl, World.block_lt_of_cell? W _ c0, c0, c1, c2, c3⟩, hb.1, Int.lt_of_le_of_lt hb.2 (by decide), hs, hs'⟩)
  refine ⟨(List.range len).map f, ⟨A, cap, by simp, fun i x hx => ?_⟩, by simp; omega, fun x hx => ?_⟩
  · simp only [List.getElem?_map, Option.map_eq_some_iff] at hx
    obtain ⟨i', hi', rfl⟩ := hx
    obtain ⟨hlt, he⟩ := List.getElem?_eq_some_iff.1 hi'
    simp at hlt he
    subst he
    exact (hf i hlt).1
  · obtain ⟨i, hi, rfl⟩ := List.mem_map.1 hx
    exact (hf i (List.mem_range.1 hi)).2

/-- The zero property. -/
def zp : Pr := ⟨0, 0, ⟨#[]⟩, ⟨#[]⟩⟩

/-- What holds in PropPuts' loop. -/
structure PutsJ (w : World) (o bx : Nat) (r : Option Nat) (D : List UInt8) (v : Value) (X : List Pr) (i : Int) (k : Nat) (f : Pr) (b : Bool) (wr : World) : Prop where
  own : OwnP w.heap.size 132 wr v X
  out : OutAt wr o r D
  box : BoxAt wr bx f
  fnd : (firstP (X.take k) i = none ∧ b = false ∧ f = zp) ∨ (firstP (X.take k) i = some f ∧ b = true)
  bel : Below w.heap.size w wr
  bxw : w.heap.size ≤ bx
  ne1 : v.ownBlock ≠ some bx
  ne2 : o ≠ bx
  ne3 : r ≠ some bx

theorem first_more (P : List Pr) (k : Nat) (x f : Pr) (i : Int) (h : P[k]? = some x) (hf : firstP (P.take k) i = some f) : firstP (P.take (k + 1)) i = some f := by
  unfold firstP at *
  rw [take_snocP P k x h, List.find?_append, hf]
  rfl
theorem first_here (P : List Pr) (k : Nat) (x : Pr) (i : Int) (h : P[k]? = some x) (hf : firstP (P.take k) i = none) (hx : x.id = i) : firstP (P.take (k + 1)) i = some x := by
  unfold firstP at *
  rw [take_snocP P k x h, List.find?_append, hf]
  simp [hx]

theorem PutsJ.skip {w : World} {o bx : Nat} {r : Option Nat} {D : List UInt8} {v : Value} {X : List Pr} {i : Int} {k : Nat} {f : Pr} {b : Bool} {wr : World} (h : PutsJ w o bx r D v X i k f b wr) (x : Pr) (hx : X[k]? = some x) (hn : b = true ∨ x.id ≠ i) (ob : Obj) : PutsJ w o bx r D v X i (k + 1) f b (wr.alloc ob) := by
  have hb := below_one wr ob
  refine ⟨h.own.below hb, h.out.below hb, h.box.below hb, ?_, h.bel.alloc h.bel.size ob, h.bxw, h.ne1, h.ne2, h.ne3⟩
  rcases h.fnd with ⟨h1, h2, h3⟩ | ⟨h1, h2⟩
  · left
    refine ⟨first_none X k x i hx h1 ?_, h2, h3⟩
    rcases hn with e | e
    · rw [h2] at e; cases e
    · exact e
  · exact .inr ⟨first_more X k x f i hx h1, h2⟩

theorem box_set {w : World} {b : Nat} {f x : Pr} (h : BoxAt w b f) : BoxAt ((((w.setCell ⟨b, 0, none⟩ (.int .i64 x.id)).setCell ⟨b, 1, none⟩ (.int .u32 x.n)).setCell ⟨b, 2, none⟩ (.string x.s)).setCell ⟨b, 3, none⟩ (.string x.t)) b x := by
  unfold BoxAt at *
  have hb := lt_of_block h
  simp [World.setCell, Array.getElem?_modify, h]

theorem far4 {w : World} {b c : Nat} {u0 u1 u2 u3 : Value} (hne : c ≠ b) : ((((w.setCell ⟨b, 0, none⟩ u0).setCell ⟨b, 1, none⟩ u1).setCell ⟨b, 2, none⟩ u2).setCell ⟨b, 3, none⟩ u3).heap[c]? = w.heap[c]? := by
  rw [Below.heap_setCell _ _ _ _ hne, Below.heap_setCell _ _ _ _ hne, Below.heap_setCell _ _ _ _ hne, Below.heap_setCell _ _ _ _ hne]

theorem PutsJ.found {w : World} {o bx : Nat} {r : Option Nat} {D : List UInt8} {v : Value} {X : List Pr} {i : Int} {k : Nat} {f : Pr} {wr : World} (h : PutsJ w o bx r D v X i k f false wr) (x : Pr) (hx : X[k]? = some x) (hi : x.id = i) :
    PutsJ w o bx r D v X i (k + 1) x true ((((wr.setCell ⟨bx, 0, none⟩ (.int .i64 x.id)).setCell ⟨bx, 1, none⟩ (.int .u32 x.n)).setCell ⟨bx, 2, none⟩ (.string x.s)).setCell ⟨bx, 3, none⟩ (.string x.t)) := by
  have hf : firstP (X.take k) i = none := by
    rcases h.fnd with ⟨h1, _, _⟩ | ⟨_, h2⟩
    · exact h1
    · cases h2
  refine ⟨?_, ?_, box_set h.box, .inr ⟨first_here X k x i hx hf hi, rfl⟩, ((((h.bel.setCell h.bxw _).setCell h.bxw _).setCell h.bxw _).setCell h.bxw _), h.bxw, h.ne1, h.ne2, h.ne3⟩
  · exact ownsRow_setCell_other (a := ⟨bx, 3, none⟩) (ownsRow_setCell_other (a := ⟨bx, 2, none⟩) (ownsRow_setCell_other (a := ⟨bx, 1, none⟩) (ownsRow_setCell_other (a := ⟨bx, 0, none⟩) h.own h.ne1 _) h.ne1 _) h.ne1 _) h.ne1 _
  · exact h.out.keep (far4 h.ne2) (fun g hg => far4 (fun e => h.ne3 (by rw [hg, e])))

theorem PutsJ.alloc {w : World} {o bx : Nat} {r : Option Nat} {D : List UInt8} {v : Value} {X : List Pr} {i : Int} {k : Nat} {f : Pr} {b : Bool} {wr : World} (h : PutsJ w o bx r D v X i k f b wr) (ob : Obj) : PutsJ w o bx r D v X i k f b (wr.alloc ob) := by
  have hb := below_one wr ob
  exact ⟨h.own.below hb, h.out.below hb, h.box.below hb, h.fnd, h.bel.alloc h.bel.size ob, h.bxw, h.ne1, h.ne2, h.ne3⟩

#print axioms open_props
end Go.Proofs.YtnpkiknidmhciaaDoor

namespace Go.Proofs.YtnpkiknidmhciaaDoor
open Go.RowKit

/-- A letter of a byte. -/
def letC (c : UInt8) : UInt8 := UInt8.ofNat (97 + c.toNat % 26)
/-- Letters of bytes. -/
def lets (l : List UInt8) : List UInt8 := l.map letC

theorem enc_let (c : UInt8) : Utf8.encode (97 + (c.toNat : Int) % 26) = str [letC c] := by
  have h : ∀ n : Nat, n < 26 → Utf8.encode (97 + (n : Int)) = str [UInt8.ofNat (97 + n)] := by decide +kernel
  have := h (c.toNat % 26) (by omega)
  unfold letC
  rw [← this]
  congr 1

theorem lets_snoc (l : List UInt8) (k : Nat) (h : k < l.length) : lets (l.take (k + 1)) = lets (l.take k) ++ [letC (l.getD k 0)] := by
  unfold lets
  rw [List.take_succ_eq_append_getElem h, List.map_append]
  simp [List.getD, h]

theorem good_one : ∀ n : Nat, n < 26 → goodB (str [UInt8.ofNat (97 + n)]) = true := by decide +kernel
theorem good_lets (l : List UInt8) (hl : l.length ≤ 65535) : goodB (str (lets l)) = true := by
  induction l with
  | nil => decide +kernel
  | cons c l ih =>
    have h1 := good_one (c.toNat % 26) (by omega)
    have e : lets (c :: l) = [letC c] ++ lets l := rfl
    rw [e, good_append [letC c] (lets l) h1 (by simp [lets] at hl ⊢; omega)]
    exact ih (by simp at hl; omega)

end Go.Proofs.YtnpkiknidmhciaaDoor
