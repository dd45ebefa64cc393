/-
  Told and Few of layer 3's statements. (No statement: contracts that the proofs of the statements use.)
-/
import Derived.Test.YtmkajnephkaamaaDoorProp14
import Derived.Outline
namespace Go.Proofs.YtmkajnephkaamaaDoor
open Go.RowKit

theorem Tryd.infoRProp : (Tryd.prog.info? 75).map (fun i => (i.zero, i.size, i.bytes)) = some (some (.agg #[.int .i64 0, .int .u32 0, .string ⟨#[]⟩, .string ⟨#[]⟩]), 4, 48) := by kernel_rfl

theorem OwnP.empty (w : World) (e : TypeId) : OwnP w.heap.size e (w.alloc (.cells #[] e)) (.slice (some ⟨w.heap.size, 0, none⟩) 0 0) [] :=
  ⟨rfl, .inr ⟨w.heap.size, 0, #[], rfl, Nat.le_refl _, heap_alloc_new w _, Nat.le_refl _, Nat.zero_le _, rfl, rfl⟩⟩

/-- A row that has one more. -/
theorem own_snoc {B : Nat} {e : TypeId} {w : World} {v : Value} {acc : List Pr} {x : Pr} (h : w.ownsRow B e 4 v (acc.length + 1) (acc.flatMap prC ++ [.int .i64 x.id, .int .u32 x.n, .string x.s, .string x.t])) : OwnP B e w v (acc ++ [x]) := by
  unfold OwnP
  rw [show (acc ++ [x]).length = acc.length + 1 by simp, List.flatMap_append]
  exact h
theorem OwnP.alloc {B : Nat} {e : TypeId} {w : World} {v : Value} {P : List Pr} (h : OwnP B e w v P) (o : Obj) : OwnP B e (w.alloc o) v P := World.ownsRow.alloc h o

/-- What Told answers, and leaves. -/
def Made (e : TypeId) (w : World) (P : List Pr) (en : Ending) (w' : World) : Prop := ∃ v, en = .returned v ∧ OwnP w.heap.size e w' v P ∧ Below w.heap.size w w'

theorem take_snocP (P : List Pr) (k : Nat) (x : Pr) (h : P[k]? = some x) : P.take (k + 1) = P.take k ++ [x] := by
  obtain ⟨hk, rfl⟩ := List.getElem?_eq_some_iff.1 h
  exact List.take_succ_eq_append_getElem hk

set_option maxRecDepth 100000 in
set_option maxHeartbeats 1000000 in
theorem told_calls (w : World) (v : Value) (P : List Pr) (hv : PropsAt w v P) (hn : P.length ≤ 1000000) :
    Calls Tryd.prog 22 #[v] w (Made 75 w P) := by
  obtain ⟨A, cap, rfl, hc⟩ := hv
  have HC := Lib.hid hc
  clear hc
  go_enter Tryd.func22, Tryd.ntmps22
  go_wp2
  go_loopw [3, 9] (fun s j wr => ∃ (k : Nat) (a : Option Addr) (c : Nat), k ≤ P.length ∧ j = .int .i64 k ∧ s = .slice a k c ∧ OwnP w.heap.size 75 wr (.slice a k c) (P.take k) ∧ Below w.heap.size w wr) (fun _ j _ => P.length - (intOf j).toNat)
  case atStart => exact ⟨0, _, 0, by omega, rfl, rfl, OwnP.empty w _, below_one w _⟩
  case round =>
    obtain ⟨k, a, c, hk, rfl, rfl, hown, hb⟩ := hrel
    have HOWN := Lib.hid hown
    have HB := Lib.hid hb
    have hz := hb.size
    clear hown hb
    by_cases hlt : k < P.length
    · obtain ⟨x, hx⟩ : ∃ x, P[k]? = some x := ⟨_, List.getElem?_eq_getElem hlt⟩
      obtain ⟨b, off, hA, hbl, c0, c1, c2, c3⟩ := HC.out k x hx
      rw [← HB.out.cell (p := ⟨b, _, none⟩) hbl] at c0 c1 c2 c3
      subst hA
      have HX := Lib.hid hx
      have hlen : (P.take k).length = k := by rw [List.length_take]; omega
      have HLEN := Lib.hid hlen
      clear hx hlen
      obtain ⟨i0, hi, hz0, hz1, hz2⟩ := info_parts Tryd.infoRProp
      have hown2 := (HOWN.out.alloc (.cells #[.int .i64 x.id, .int .u32 x.n, .string x.s, .string x.t] 47)).alloc (.cells #[.int .i64 x.id, .int .u32 x.n, .string x.s, .string x.t] 75)
      have hown3 : ((wr.alloc (.cells #[.int .i64 x.id, .int .u32 x.n, .string x.s, .string x.t] 47)).alloc (.cells #[.int .i64 x.id, .int .u32 x.n, .string x.s, .string x.t] 75)).ownsRow w.heap.size 75 4 (.slice a k c) k ((P.take k).flatMap prC) := by
        have := hown2
        unfold OwnP at this
        rwa [HLEN.out] at this
      have hnews := four_new (wr.alloc (.cells #[.int .i64 x.id, .int .u32 x.n, .string x.s, .string x.t] 47)) (.int .i64 x.id) (.int .u32 x.n) (.string x.s) (.string x.t) 75
      rw [show (wr.alloc (.cells #[.int .i64 x.id, .int .u32 x.n, .string x.s, .string x.t] 47)).heap.size = wr.heap.size + 1 by simp] at hnews
      have HNEWS := Lib.hid hnews
      have HOWN3 := Lib.hid hown3
      clear hown2 hown3 hnews
      go_wp2_with ((at_builtin; refine wpList_append_own_at _ rfl _ _ 31 rfl w.heap.size 75 i0 (.agg #[.int .i64 0, .int .u32 0, .string ⟨#[]⟩, .string ⟨#[]⟩]) 4 48 Tryd.underlying31 hi hz0 hz1 hz2 rfl (by decide) _ _ _ rfl HOWN3.out ⟨wr.heap.size + 1, 0, none⟩ 1 1 [.int .i64 x.id, .int .u32 x.n, .string x.s, .string x.t] rfl rfl HNEWS.out (by simp [Value.oneCell']) (by unfold maxLen; omega) (by omega) (by simp; omega) ?_))
      intro v' w7 hown8 hgrow _ _
      have hbl8 : Below w.heap.size w w7 := ((HB.out.alloc hz _).alloc (by simp; omega) _).grown hgrow (by simp; omega) (fun k hk => (World.ownsRow.lt HOWN3.out k hk).1)
      have hown9 : OwnP w.heap.size 75 w7 v' (P.take (k + 1)) := by
        rw [take_snocP P k x HX.out]
        exact own_snoc (by rw [HLEN.out]; exact hown8)
      obtain ⟨a', c', hv'⟩ := hown9.form
      rw [show (P.take (k + 1)).length = k + 1 by rw [List.length_take]; omega] at hv'
      subst hv'
      have HO9 := Lib.hid hown9
      have HB8 := Lib.hid hbl8
      clear hown9 hbl8 hown8 hgrow HOWN3 HNEWS HOWN HB
      go_wp2
      go_roundw
      case rel => exact ⟨k + 1, a', c', by omega, by go_num, rfl, HO9.out, HB8.out⟩
      case measure => simp [intOf]; omega
    · obtain rfl : k = P.length := by omega
      clear HC
      go_wp2
      go_ret
      refine ⟨_, rfl, ?_, HB.out⟩
      have := HOWN.out
      rwa [List.take_length] at this

#print axioms told_calls
end Go.Proofs.YtmkajnephkaamaaDoor
