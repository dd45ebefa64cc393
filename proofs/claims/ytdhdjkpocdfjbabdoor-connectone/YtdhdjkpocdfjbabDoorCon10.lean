/-
  Text of a connect, as one; answers that the document fixes. (No statement: contracts that the proofs of the statements use.)
-/
import Derived.Test.YtdhdjkpocdfjbabDoorCon9
import Derived.Test.YtdhdjkpocdfjbabDoorCon9b
import Derived.Test.YtdhdjkpocdfjbabDoorCon9c
import Derived.Test.YtdhdjkpocdfjbabDoorCon9d
namespace Go.Proofs.YtdhdjkpocdfjbabDoor
open Go.RowKit

theorem ctext_calls (w : World) (c : Cn) (v u : Value) (hok : c.ok) (hv : PropsAt w v c.ps) (hu : PropsAt w u c.wp) :
    Calls Tryd.prog 20 #[cnV c v u] w fun e w' => e = .returned (.string (str (textL c))) ∧ Below w.heap.size w w' := by
  obtain ⟨va, vc, rfl, _⟩ := id hv
  obtain ⟨ua, uc, rfl, _⟩ := id hu
  obtain ⟨cl, keep, ps, i, hw, wp, tp, py, q, rt, hhu, hp, us, pw⟩ := c
  cases hw <;> cases hhu <;> cases hp
  · exact text_000 w cl keep ps i wp tp py q rt us pw _ _ _ _ _ _ hok hv hu
  · exact text_001 w cl keep ps i wp tp py q rt us pw _ _ _ _ _ _ hok hv hu
  · exact text_010 w cl keep ps i wp tp py q rt us pw _ _ _ _ _ _ hok hv hu
  · exact text_011 w cl keep ps i wp tp py q rt us pw _ _ _ _ _ _ hok hv hu
  · exact text_100 w cl keep ps i wp tp py q rt us pw _ _ _ _ _ _ hok hv hu
  · exact text_101 w cl keep ps i wp tp py q rt us pw _ _ _ _ _ _ hok hv hu
  · exact text_110 w cl keep ps i wp tp py q rt us pw _ _ _ _ _ _ hok hv hu
  · exact text_111 w cl keep ps i wp tp py q rt us pw _ _ _ _ _ _ hok hv hu

/-- The parts of a body. -/
def partsF (body : ByteArray) : Parts :=
  let v := verT body 0
  let f := rawT v.1 v.2 1
  let k := rawT f.2.1 (flagX (numL f.1.data.toList) f.2.2) 2
  let p := takeR (placeN 1 false) k.2.1 k.2.2
  let i := strT p.2.1 p.2.2
  let w := willT (flB (numL f.1.data.toList) 4) i.2.1 i.2.2
  let u := userT (flB (numL f.1.data.toList) 128) w.2.2.2.1 w.2.2.2.2
  let q := passT (flB (numL f.1.data.toList) 64) u.2.1 u.2.2
  ⟨v, f, k, p, i, w, u, q⟩
theorem partsF_of (body : ByteArray) : (partsF body).Of body := by
  constructor <;> simp only [partsF, Parts.fl]

theorem props_nil (w : World) : PropsAt w (.slice none 0 0) [] := ⟨none, 0, rfl, fun i x hx => by simp at hx⟩

/-- A Connect without anything, Clean. -/
def cnClean : Cn := ⟨true, 0, [], ⟨#[]⟩, false, [], ⟨#[]⟩, ⟨#[]⟩, 0, false, false, false, ⟨#[]⟩, ⟨#[]⟩⟩
theorem clean_ok : cnClean.ok := ⟨by decide, by decide, by decide, by decide, by decide, by decide, by decide, by decide, by decide, (fun p hp => by cases hp), (fun p hp => by cases hp), by decide, by decide⟩
theorem clean_text : str (textL cnClean) = ⟨#[0, 4, 77, 81, 84, 84, 5, 2, 0, 0, 0, 0, 0]⟩ := by decide +kernel
theorem clean_err : (partsF ⟨#[0, 4, 77, 81, 84, 84, 5, 2, 0, 0, 0, 0, 0]⟩).err = 0 := by decide +kernel
theorem clean_cl : (partsF ⟨#[0, 4, 77, 81, 84, 84, 5, 2, 0, 0, 0, 0, 0]⟩).cn.cl = true := by decide +kernel
theorem four_err : (partsF ⟨#[0, 4, 77, 81, 84, 84, 4]⟩).err = 14 := by decide +kernel

/-- Parse of a body whose error is known. -/
theorem parse_known (w : World) (body : ByteArray) (hT : Tabs w) (E : Int) (hE : (partsF body).err = E) :
    Calls Tryd.prog 9 #[.string body] w (ParseR w (if E = 0 then (partsF body).cn else cnZ) E) := by
  have := parse_calls w body hT (partsF body) (partsF_of body) _ rfl
  rw [hE] at this
  exact this

set_option maxRecDepth 100000 in
set_option maxHeartbeats 1000000 in
theorem awake6_calls (w : World) (hT : Tabs w) : Calls Tryd.prog 13 #[] w fun e w' => e = .returned (.bool true) ∧ Below w.heap.size w w' := by
  have HT := Lib.hid hT
  clear hT
  go_enter Tryd.func13, Tryd.ntmps13
  go_wp2_with fail
  refine (ctext_calls _ cnClean (.slice none 0 0) (.slice none 0 0) clean_ok (props_nil _) (props_nil _)).mono ?_
  rw [clean_text]
  rintro e w1 ⟨rfl, b1⟩
  have B1 := Lib.hid b1
  clear b1
  go_wp2_with fail
  refine (parse_known _ _ (HT.out.below B1.out) 0 clean_err).mono ?_
  rw [if_pos rfl]
  rintro e w2 ⟨v2, u2, rfl, o2, p2, b2⟩
  have hcl := clean_cl
  generalize (partsF ⟨#[0, 4, 77, 81, 84, 84, 5, 2, 0, 0, 0, 0, 0]⟩).cn = C at *
  obtain ⟨cl, keep, ps, i, hw, wp, tp, py, q, rt, hhu, hp, us, pw⟩ := C
  dsimp only at hcl
  subst hcl
  obtain ⟨va, vc, rfl⟩ := o2.form
  obtain ⟨ua, uc, rfl⟩ := p2.form
  have B2 := Lib.hid (Below.next B1.out b2)
  unfold cnV cnC
  dsimp only
  clear o2 p2 b2 B1
  go_wp2_with fail
  have hbx := heap_alloc_new w2 (.cells #[.bool true, .int .u32 keep, .slice va ps.length vc, .string i, .bool hw, .slice ua wp.length uc, .string tp, .string py, .int .u8 q, .bool rt, .bool hhu, .bool hp, .string us, .string pw] 29)
  have B3 := Lib.hid (Below.next B2.out (below_one w2 (.cells #[.bool true, .int .u32 keep, .slice va ps.length vc, .string i, .bool hw, .slice ua wp.length uc, .string tp, .string py, .int .u8 q, .bool rt, .bool hhu, .bool hp, .string us, .string pw] 29)))
  generalize w2.alloc (.cells #[.bool true, .int .u32 keep, .slice va ps.length vc, .string i, .bool hw, .slice ua wp.length uc, .string tp, .string py, .int .u8 q, .bool rt, .bool hhu, .bool hp, .string us, .string pw] 29) = W3 at *
  generalize w2.heap.size = b3 at *
  have HBX := Lib.hid hbx
  have hl3 := lt_of_block hbx
  clear hbx B2
  refine (parse_known _ _ (HT.out.below B3.out) 14 four_err).mono ?_
  rw [if_neg (by decide)]
  rintro e w4 ⟨v4, u4, rfl, o4, p4, b4⟩
  have c4 := (b4.block b3 hl3).trans HBX.out
  obtain ⟨⟨d0, -⟩, -⟩ := cells14 c4
  have B4 := Lib.hid (Below.next B3.out b4)
  have hl4 := lt_of_block c4
  obtain ⟨va4, vc4, rfl⟩ := o4.form
  obtain ⟨ua4, uc4, rfl⟩ := p4.form
  unfold cnV cnC cnZ
  dsimp only
  clear o4 p4 b4 c4 HBX B3
  have B5 := Lib.hid (Below.next B4.out (below_one w4 (.cells #[.bool false, .int .u32 0, .slice va4 cnZ.ps.length vc4, .string ⟨#[]⟩, .bool false, .slice ua4 cnZ.wp.length uc4, .string ⟨#[]⟩, .string ⟨#[]⟩, .int .u8 0, .bool false, .bool false, .bool false, .string ⟨#[]⟩, .string ⟨#[]⟩] 29)))
  clear B4
  go_wp2
  go_ret
  exact ⟨rfl, B5.out⟩

#print axioms awake6_calls
end Go.Proofs.YtdhdjkpocdfjbabDoor
