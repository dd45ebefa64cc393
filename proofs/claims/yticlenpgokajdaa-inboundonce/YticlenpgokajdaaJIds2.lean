/-
  awake of layer 13's statements; Next where the first that is looked at is free. (No statement: contracts that the proofs of the statements use.)
-/
import Derived.Test.YticlenpgokajdaaJIds1
namespace Go.Proofs.Yticlenpgokajdaa
open Go.RowKit Go.Maps

theorem idsNext_one (w : World) (p b most last : Nat) (U : List Nat) (d : Nat) (h : PoolAt w p b most last U) (hf : U.length < most) (hd : last % most + 1 = d) (hk : d ∉ U) :
    Calls Try.prog 14 #[.pointer (some ⟨p, 0, none⟩)] w (PoolR w p b most d (ins d U) (.tuple #[.int .u32 d, .int .i64 0])) := by
  have e : look1 most last 1 = d := by rw [look1_one]; exact hd
  exact idsNext_calls w p b most last U 1 d h hf (Nat.le_refl _) e (by rw [e]; exact hk) (fun i h1 h2 => by omega)

theorem awake13_calls (w : World) : Calls Try.prog 13 #[] w fun e w' => e = .returned (.bool true) ∧ Below w.heap.size w w' := by
  go_enter Try.func13, Try.ntmps13
  go_wp2_with fail
  refine (idsNew_calls _ 9 9 (by decide) rfl).mono ?_
  rintro e w1 ⟨p, b, rfl, h1, b1, hp, hb⟩
  have HB1 := Lib.hid b1
  clear b1
  go_wp2_with fail
  refine (idsNext_one _ p b 9 0 [] 1 h1 (by decide) rfl (by decide)).mono ?_
  rintro e w2 ⟨rfl, h2, m2⟩
  have HB2 := Lib.hid (HB1.out.trans (m2.below hp hb HB1.out.size))
  clear m2 HB1 h1
  go_wp2_with fail
  refine (idsNext_one _ p b 9 1 [1] 2 h2 (by decide) rfl (by decide)).mono ?_
  rintro e w3 ⟨rfl, h3, m3⟩
  have HB3 := Lib.hid (HB2.out.trans (m3.below hp hb HB2.out.size))
  clear m3 HB2 h2
  go_wp2_with fail
  refine (idsFree_calls _ p b 9 2 [1, 2] 1 (by decide) h3).mono ?_
  rintro e w4 ⟨rfl, h4, m4⟩
  have HB4 := Lib.hid (HB3.out.trans (m4.below hp hb HB3.out.size))
  rw [show freeE [1, 2] 1 = 0 from rfl]
  clear m4 HB3 h3
  go_wp2_with fail
  refine (idsNext_one _ p b 9 2 [2] 3 h4 (by decide) rfl (by decide)).mono ?_
  rintro e w5 ⟨rfl, h5, m5⟩
  have HB5 := Lib.hid (HB4.out.trans (m5.below hp hb HB4.out.size))
  clear m5 HB4 h4
  go_wp2_with fail
  refine (idsLen_calls _ p b 9 3 [2, 3] h5).mono ?_
  rintro e w6 ⟨rfl, rfl⟩
  go_wp2_with fail
  refine (idsHas_calls _ p b 9 3 [2, 3] 3 (by decide) h5).mono ?_
  rw [show decide (3 ∈ [2, 3]) = true from rfl]
  rintro e w7 ⟨rfl, b7⟩
  have h7 := h5.below b7
  have HB7 := Lib.hid (HB5.out.trans (b7.mono HB5.out.size))
  clear b7 HB5 h5
  go_wp2_with fail
  refine (idsHas_calls _ p b 9 3 [2, 3] 1 (by decide) h7).mono ?_
  rw [show decide (1 ∈ [2, 3]) = false from rfl]
  rintro e w8 ⟨rfl, b8⟩
  have HB8 := Lib.hid (HB7.out.trans (b8.mono HB7.out.size))
  clear b8 HB7 h7
  go_wp2
  go_ret
  exact ⟨rfl, HB8.out⟩

#print axioms awake13_calls
end Go.Proofs.Yticlenpgokajdaa
