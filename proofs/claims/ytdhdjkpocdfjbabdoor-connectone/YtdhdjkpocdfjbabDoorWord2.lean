/-
  Strings taken; awake of layer 2's statements. (No statement: contracts that the proofs of the statements use.)
-/
import Derived.Test.YtdhdjkpocdfjbabDoorWord
namespace Go.Proofs.YtdhdjkpocdfjbabDoor
open Go.RowKit

/-- Block p, and what is new, may have turned. -/
abbrev Chg (p : Nat) (w w' : World) : Prop := w.grownBy w' (some p)
theorem Chg.of_only {p : Nat} {w w' : World} (h : Only p w w') : Chg p w w' := ⟨h.os, h.tape, h.output, Nat.le_of_eq h.size.symm, fun k _ hk => h.block k (fun e => hk (by rw [e]))⟩
theorem Chg.of_below {p : Nat} {w w' : World} (h : Below w.heap.size w w') : Chg p w w' := ⟨h.os, h.tape, h.output, h.size, fun k hk _ => h.block k hk⟩
theorem Chg.below {p B : Nat} {w w' : World} (h : Chg p w w') (hB : B ≤ w.heap.size) (hp : B ≤ p) : Below B w w' :=
  (Below.refl B w).grown h hB (fun k hk => by injection hk with hk; omega)

theorem Tabs.ne_in {w : World} {p : Nat} {s : ByteArray} {x : Int} (h : Tabs w) (hi : InAt w p s x) : Tryd.lays196_ren.g 3 ≠ p ∧ Tryd.lays196_ren.g 4 ≠ p := by
  have c := hi.cell0
  refine ⟨fun e => ?_, fun e => ?_⟩
  · have h1 := h.1 0 (by omega)
    rw [e, c] at h1
    simp at h1
  · have h1 := (h.2 0 (by omega)).1
    rw [e] at h1
    simp only [Nat.mul_zero] at h1
    rw [c] at h1
    simp at h1

theorem Tabs.chg {w w' : World} {p : Nat} {s : ByteArray} {x : Int} (h : Tabs w) (hi : InAt w p s x) (hc : Chg p w w') : Tabs w' := by
  obtain ⟨n3, n4⟩ := h.ne_in hi
  have b3 : Tryd.lays196_ren.g 3 < w.heap.size := World.block_lt_of_cell? w _ (h.1 0 (by omega))
  have b4 : Tryd.lays196_ren.g 4 < w.heap.size := World.block_lt_of_cell? w _ (h.2 0 (by omega)).1
  have k3 := hc.block _ b3 (fun e => n3 (by injection e))
  have k4 := hc.block _ b4 (fun e => n4 (by injection e))
  exact ⟨fun c hc' => (World.cell?_of_block (w := w) k3).trans (h.1 c hc'), fun i hi' => ⟨(World.cell?_of_block (w := w) k4).trans (h.2 i hi').1, (World.cell?_of_block (w := w) k4).trans (h.2 i hi').2⟩⟩

/-- What Take answers, and leaves. -/
def TookS (w : World) (p : Nat) (s : ByteArray) (x : Int) (w' : World) : Prop := InAt w' p s x ∧ Chg p w w'

theorem takeW_calls (w : World) (p : Nat) (s : ByteArray) (x : Int) (t s1 : ByteArray) (x1 : Int) (hr : rawT s x 2 = (t, s1, x1)) (t2 s2 : ByteArray) (x2 : Int) (hr2 : rawT s1 x1 (numL t.data.toList) = (t2, s2, x2)) (h : InAt w p s x) (hT : Tabs w) :
    Calls Tryd.prog 30 #[.pointer (some ⟨p, 0, none⟩)] w fun e w' => e = .returned (.string (if goodB t2 = true then t2 else ⟨#[]⟩)) ∧ TookS w p s2 (if goodB t2 = true then x2 else failed x2 2) w' := by
  have hb := num_lt2 s x t s1 x1 hr
  have ht2 : t2.size ≤ maxLen := by have := rawT_size s1 x1 (numL t.data.toList); rw [hr2] at this; dsimp only at this; unfold maxLen; omega
  have HR := Lib.hid hr
  have HR2 := Lib.hid hr2
  have HT := Lib.hid hT
  clear hr hr2 hT
  cases hg : goodB t2 with
  | true =>
    have HG := Lib.hid hg
    clear hg
    simp only [if_true]
    go_enter Tryd.func30, Tryd.ntmps30
    go_wp2_with fail
    refine (dataIn_calls _ p s x t s1 x1 HR.out t2 s2 x2 HR2.out h).mono ?_
    rintro e w1 ⟨rfl, hi, ho⟩
    have hT1 := HT.out.chg h (Chg.of_only ho)
    go_wp2_with fail
    refine (good_calls _ t2 ht2 hT1).mono ?_
    rw [HG.out]
    rintro e w2 ⟨rfl, hb2⟩
    have HK := Lib.hid (show TookS w p s2 x2 w2 from ⟨hi.below hb2, (Chg.of_only ho).trans (Chg.of_below hb2)⟩)
    clear hb2 hT1 hi ho h HT HR HR2 HG
    go_wp2
    go_ret
    exact ⟨rfl, HK.out⟩
  | false =>
    have HG := Lib.hid hg
    clear hg
    rw [if_neg (by simp), if_neg (by simp)]
    go_enter Tryd.func30, Tryd.ntmps30
    go_wp2_with fail
    refine (dataIn_calls _ p s x t s1 x1 HR.out t2 s2 x2 HR2.out h).mono ?_
    rintro e w1 ⟨rfl, hi, ho⟩
    have hT1 := HT.out.chg h (Chg.of_only ho)
    go_wp2_with fail
    refine (good_calls _ t2 ht2 hT1).mono ?_
    rw [HG.out]
    rintro e w2 ⟨rfl, hb2⟩
    have hi2 := hi.below hb2
    have HC := Lib.hid ((Chg.of_only ho).trans (Chg.of_below hb2))
    clear hb2 hT1 hi ho h HT HR HR2 HG
    go_wp2_with fail
    refine (fail_calls _ p s2 x2 2 hi2).mono ?_
    rintro e w3 ⟨rfl, hi3, ho3⟩
    have HK := Lib.hid (show TookS w p s2 (failed x2 2) w3 from ⟨hi3, HC.out.trans (Chg.of_only ho3)⟩)
    clear hi2 hi3 ho3 HC
    go_wp2
    go_ret
    exact ⟨rfl, HK.out⟩

theorem sgn_1 : sgn ⟨#[195, 169, 120]⟩ = (233, 2) := by decide +kernel
theorem sgn_2 : sgn ⟨#[192, 128]⟩ = (0, 0) := by decide +kernel
theorem good_1 : goodB ⟨#[97, 195, 169]⟩ = true := by decide +kernel
theorem good_2 : goodB ⟨#[97, 0]⟩ = false := by decide +kernel

end Go.Proofs.YtdhdjkpocdfjbabDoor
