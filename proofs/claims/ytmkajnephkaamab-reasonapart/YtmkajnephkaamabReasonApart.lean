/-
  ReasonApart answers true for every kind of a packet and every byte: what was answered of the codes is not changed by what is done with an earlier answer.
  Its conditions: none beside those of the row itself.
-/
import Derived.Test.YtmkajnephkaamabReason
import Derived.ProofKit
import Derived.OpenShut
import Derived.ShutString
import Derived.ChangeOld
namespace Go.Proofs.Ytmkajnephkaamab.reasonApart
open Go.ChangeShapes Go.WideShapes Go.ChangeAt Go.RowKit
open Go.ChangeMaps (open_string shut_string)
set_option linter.unusedVariables false

theorem own : ownKnob Try.prog.godebug = none := by kernel_rfl

theorem row_short (k : Int) : (rowL k).length ≤ 29 := by
  rcases kinds k with h | ⟨_, h⟩
  · rcases h with rfl | rfl | rfl | rfl | rfl | rfl | rfl | rfl | rfl <;> decide
  · rw [h]; decide
/-- Each code of a row may be said, and is greater than the one ahead of it. -/
theorem row_rises (k : Int) : ∀ j, j < (rowL k).length → mayB k ((rowL k).getD j 0).toNat = true ∧ (0 < j → decide (((rowL k).getD j 0).toNat ≤ ((rowL k).getD (j - 1) 0).toNat) = false) := by
  rcases kinds k with h | ⟨_, h⟩
  · rcases h with rfl | rfl | rfl | rfl | rfl | rfl | rfl | rfl | rfl <;> decide +kernel
  · rw [h]; intro j hj; exact absurd hj (by simp)

/-- Some bytes of a row of its own. -/
def Loose (w : World) (p n : Nat) : Prop := p < w.heap.size ∧ ∀ j, j < n → (∃ x : Int, w.cell? ⟨p, j, none⟩ = some (.int .u8 x)) ∧ w.frozen? ⟨p, j, none⟩ = false

theorem Loose.set {w : World} {p n k : Nat} (h : Loose w p n) (hk : k < n) (y : Int) : Loose (w.setCell ⟨p, k, none⟩ (.int .u8 y)) p n := by
  refine ⟨by simpa [World.setCell] using h.1, fun j hj => ⟨?_, by simpa using (h.2 j hj).2⟩⟩
  by_cases e : j = k
  · subst e
    obtain ⟨x, hx⟩ := (h.2 j hj).1
    exact ⟨y, World.cell?_setCell_same _ _ _ hx⟩
  · obtain ⟨x, hx⟩ := (h.2 j hj).1
    exact ⟨x, by rw [World.cell?_setCell_other _ _ _ _ (by intro h; injection h with _ h; omega)]; exact hx⟩

theorem drewN_below {B : Nat} {a w : World} (h : Below B a w) (n : Nat) : Below B a (w.drewN n) := ⟨h.os, h.tape, h.output, h.size, h.block⟩
theorem drewN_row {w : World} {p : Nat} {l : List UInt8} (h : RowAt w p l) (n : Nat) : RowAt (w.drewN n) p l := h
theorem may_true (w : World) (k c : Int) (h : mayB k c = true) : Calls Try.prog 10 #[.int .i64 k, .int .u8 c] w fun e w' => e = .returned (.bool true) ∧ w = w' := h ▸ may_calls w k c

set_option maxHeartbeats 1000000 in
theorem walk (a0 : Int) (w0 : (Lit.int .i64 a0).wf = true) (a1 : Int) (w1 : (Lit.int .u8 a1).wf = true) (w : World) :
    Calls Try.prog 4 #[.int .i64 a0, .int .u8 a1] w fun e w' => e = .returned (.bool true) ∧ Below w.heap.size w w' := by
  clear w0 w1
  have hs := row_short a0
  have HR := Lib.hid (row_rises a0)
  go_enter Try.func4, Try.ntmps4
  go_wp2_with fail
  refine (codes_calls _ _).mono ?_
  rintro e w1 ⟨c, rfl, hr, hb⟩
  have HZ := Lib.hid (show Loose w1 w.heap.size (rowL a0).length from ⟨hr.1, fun j hj => ⟨⟨_, (hr.2 j hj).1⟩, (hr.2 j hj).2⟩⟩)
  have HB := Lib.hid hb
  generalize hl : rowL a0 = l at *
  have HL := Lib.hid hl
  clear hl hb hr
  go_wp2
  go_loopw [16] (fun i wr => ∃ k : Nat, k ≤ l.length ∧ i = .int .i64 k ∧ Loose wr w.heap.size l.length ∧ Below w.heap.size w wr) (fun i _ => l.length - (intOf i).toNat)
  case atStart => exact ⟨0, by omega, rfl, HZ.out, HB.out⟩
  case round =>
    clear HZ HB
    obtain ⟨k, hk, rfl, hz, hb⟩ := hrel
    have HB := Lib.hid hb
    have HZ := Lib.hid hz
    clear hb hz
    by_cases hlt : k < l.length
    · obtain ⟨x, hc⟩ := (HZ.out.2 k hlt).1
      have hf := (HZ.out.2 k hlt).2
      have hp := HZ.out.1
      go_wp2
      go_roundw
      case rel => exact ⟨k + 1, by omega, by go_num, HZ.out.set hlt _, HB.out.setCell (Nat.le_refl _) _⟩
      case measure => simp [intOf]; omega
    · have hge : l.length ≤ k := by omega
      obtain rfl : k = l.length := by omega
      clear hk hlt hge HZ
      go_wp2_with fail
      refine (codes_calls _ _).mono ?_
      rintro e w2 ⟨c2, rfl, hr, hb2⟩
      rw [HL.out] at hr ⊢
      have HB2 := Lib.hid (HB.out.trans (hb2.mono HB.out.size))
      have HR2 := Lib.hid hr
      have hz : w.heap.size ≤ wr.heap.size := HB.out.size
      clear hr hb2 HB
      generalize wr.heap.size = q at *
      go_wp2
      go_loopw [31] (fun i wr => ∃ k : Nat, k ≤ l.length ∧ i = .int .i64 k ∧ RowAt wr q l ∧ Below w.heap.size w wr) (fun i _ => l.length - (intOf i).toNat)
      case atStart => exact ⟨0, by omega, rfl, HR2.out, HB2.out⟩
      case round =>
        clear HR2 HB2
        obtain ⟨k, hk, rfl, hr, hb⟩ := hrel
        have HB := Lib.hid hb
        have HR2 := Lib.hid hr
        clear hb hr
        by_cases hlt : k < l.length
        · have hc := (HR2.out.2 k hlt).1
          have hm := (HR.out k hlt).1
          have hM := Lib.hid hm
          have hd := (HR.out k hlt).2
          have HD := Lib.hid hd
          clear hm hd
          by_cases h0 : k = 0
          · have hz0 : decide (0 < k) = false := by simp; omega
            generalize l.getD k 0 = x at *
            clear HD
            have H0 := Lib.hid h0
            clear h0
            go_wp2_with fail
            go_quiet (exact (may_true _ _ _ hM.out).mono (fun e w' h => ⟨h.1, _, h.2.symm⟩))
            have HB' := Lib.hid (drewN_below HB.out nq)
            have HR' := Lib.hid (drewN_row HR2.out nq)
            clear HB HR2 hc
            generalize wr.drewN nq = wq at *
            go_wp2
            go_roundw
            case rel => exact ⟨k + 1, by omega, by go_num, HR'.out, HB'.out⟩
            case measure => simp [intOf]; omega
          · have hpos : decide (0 < k) = true := by simp; omega
            have hge1 : (0 : Int) ≤ (k : Int) - 1 := by omega
            have hlt1 : (k : Int) - 1 < l.length := by omega
            have hc1 := (HR2.out.2 (k - 1) (by omega)).1
            have e1 : ((k : Int) - 1).toNat = k - 1 := by omega
            have hd := HD.out (by omega)
            have hw : IntKind.i64.wrap ((k : Int) - 1) = (k : Int) - 1 := IntWalk.i64_in _ (by omega)
            generalize l.getD k 0 = x at *
            generalize l.getD (k - 1) 0 = y at *
            clear HD h0
            go_wp2_with fail
            go_quiet (exact (may_true _ _ _ hM.out).mono (fun e w' h => ⟨h.1, _, h.2.symm⟩))
            have HB' := Lib.hid (drewN_below HB.out nq)
            have HR' := Lib.hid (drewN_row HR2.out nq)
            clear HB HR2 hc hc1 hw e1
            generalize wr.drewN nq = wq at *
            go_wp2
            go_roundw
            case rel => exact ⟨k + 1, by omega, by go_num, HR'.out, HB'.out⟩
            case measure => simp [intOf]; omega
        · have hge : l.length ≤ k := by omega
          obtain rfl : k = l.length := by omega
          clear hk hlt hge HR2
          go_wp2_with fail
          refine (awake4_calls _).mono ?_
          rintro e w3 ⟨rfl, hb3⟩
          have HB3 := Lib.hid (HB.out.trans (hb3.mono HB.out.size))
          clear HB hb3
          go_wp2
          go_ret
          exact ⟨rfl, HB3.out⟩

set_option maxRecDepth 100000 in
theorem lifted (os : Os) (started : os.Started) (H : Type) (enc : TypeId × Value → H) :
    ReturnsInHanded {} Try.checked os 4 .any (Rows.reasonApartSpec.pre6 enc Try.prog Try.f4 Rows.reasonApartRow.domain false) (Rows.reasonApartSpec.post enc Try.prog Try.f4 false true false false) := by
  refine returnsInHanded_of_change (C := Try.checked) own started (by kernel_rfl) Try.func4
    (ChangeSpec.witness6 (enc := enc) (C := Try.checked) false ⟨#[], #[.int .i64 0, .int .u8 0], []⟩ 8 (by kernel_rfl) (by kernel_rfl) (by kernel_rfl) (by kernel_rfl)) ?_
  intro W base args ds gs before hval0 hW hcnd _
  have hval : ∀ (j : Nat) t v, Try.f4.params[j]? = some t → args[j]? = some v → Value.okWide Try.prog W .any base t v := hval0
  have hW' := hW
  obtain ⟨p, q, hA0, hV, rfl, hfz, hnd⟩ := hW
  have hA : DataW.TrodAll enc Try.prog W 0 (fun _ => true) true Try.f4.params.toList args.toList ds p := hA0
  rw [Try.params4] at hA hval
  obtain ⟨v0, vs0, d0, ds0, p0, q0, hargs, rfl, rfl, h0, r0⟩ := trodAll_cons hA
  obtain ⟨v1, vs1, d1, ds1, p1, q1, rfl, rfl, rfl, h1, r1⟩ := trodAll_cons r0
  obtain ⟨rfl, rfl, rfl⟩ := trodAll_nil r1
  obtain rfl : args = #[v0, v1] := by cases args; simp_all
  obtain ⟨rfl, rfl⟩ := trodVars_none hV
  obtain ⟨a0, rfl, rfl, rfl, w0⟩ := open_int Try.underlying3 (hval 0 3 v0 rfl rfl) h0
  obtain ⟨a1, rfl, rfl, rfl, w1⟩ := open_int Try.underlying5 (hval 1 5 v1 rfl rfl) h1
  clear hA0 hval0
  refine (walk a0 w0 a1 w1 W ).mono fun e W' ⟨he, bel⟩ => ?_
  subst he
  exact ⟨_, rfl, _, _, _, [], _, [], hW', trodAll_mk1 (shut_bool Try.underlying4 _), (trodAll_cons_mk (shut_int Try.underlying3 w0) (trodAll_cons_mk (shut_int Try.underlying5 w1) trodAll_mk0)), rfl, bel.frame _, fun h => by cases h⟩

theorem over : Rows.reasonApartRow.holds Try.pinned (OpenSpec.ofChange Rows.reasonApartSpec) :=
  OpenClaim.holds_of_wide 4 Try.f4 rfl rfl rfl rfl rfl rfl rfl ⟨rfl, rfl, rfl, rfl, rfl⟩ rfl rfl rfl rfl rfl (by kernel_rfl) Try.func4 (by kernel_rfl)
    (of_decide_eq_true (by kernel_rfl)) (by unfold Func.isWrapper; first | (rw [if_pos (by decide +kernel)]; kernel_rfl) | (rw [if_neg (by decide +kernel)]; exact ⟨rfl, rfl⟩))
    (fun os started H enc _ => lifted os started H enc)

end Go.Proofs.Ytmkajnephkaamab.reasonApart
namespace Go.Proofs.Ytmkajnephkaamab
/-- The statement. -/
theorem reasonApart_holds : Rows.ReasonApartSaid := reasonApart.over
#print axioms reasonApart_holds
end Go.Proofs.Ytmkajnephkaamab
