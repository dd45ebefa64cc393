/-
  The document's One and Text of layer 3. (No statement: contracts that the proofs of the statements use.)
-/
import Derived.Test.YtmkajnephkaamaaDoorProp16
namespace Go.Proofs.YtmkajnephkaamaaDoor
open Go.RowKit

/-- The worlds behind w in which a property of the document's lies in the block that was new then. -/
structure RBoxC (w : World) (i n : Int) (s t : ByteArray) (wx : World) : Prop where
  box : wx.heap[w.heap.size]? = some (.cells #[.int .i64 i, .int .u32 n, .string s, .string t] 75 (0, 0))
  bel : Below w.heap.size w wx
theorem RBoxC.next {w : World} {i n : Int} {s t : ByteArray} {wx wy : World} (h : RBoxC w i n s t wx) (hb : Below wx.heap.size wx wy) : RBoxC w i n s t wy := ⟨(hb.block _ (lt_of_block h.box)).trans h.box, Below.next h.bel hb⟩

theorem r1data_of (w : World) (s : ByteArray) (D : List UInt8) (hs : s.size ≤ 65535) (hD : Hid (two s.size ++ s.data.toList = D)) :
    Calls Tryd.prog 61 #[.string s] w fun e w' => e = .returned (.string (str D)) ∧ Below w.heap.size w w' := by
  have := r1data_calls w s hs
  rw [hD.out] at this
  exact this

/-- What One answers. -/
def OneR (w : World) (L : List UInt8) (e : Ending) (w' : World) : Prop := e = .returned (.string (str L)) ∧ Below w.heap.size w w'

set_option maxRecDepth 100000 in
set_option maxHeartbeats 1000000 in
theorem r3one_1 (w : World) (p : Pr) (hp : p.ok) (hk : (ruleL p.id).kind = 1) : Calls Tryd.prog 42 #[prV p] w (OneR w (oneL p)) := by
  have hr := (kind_range p.id).1
  have he : oneL p = varb 3 p.id.toNat ++ [UInt8.ofNat (p.n % 256).toNat] := by unfold oneL saysL; rw [hk]; rfl
  rw [he]
  clear he
  obtain ⟨i, n, s, t⟩ := p
  obtain ⟨n0, n1, s1, t1⟩ := hp
  dsimp only at hk hr n0 n1 s1 t1 ⊢
  have hi : 1 ≤ i ∧ i ≤ 42 := by rcases hr with e | e; (· rw [hk] at e; exact absurd e (by decide)); exact e
  obtain ⟨i1, i2⟩ := hi
  have HK := Lib.hid hk
  clear hk hr
  have hbx := heap_alloc_new w (.cells #[.int .i64 i, .int .u32 n, .string s, .string t] 75)
  have b0 := below_one w (.cells #[.int .i64 i, .int .u32 n, .string s, .string t] 75)
  generalize hL : varb 3 i.toNat ++ [UInt8.ofNat (n % 256).toNat] = L
  have HL := Lib.hid hL
  clear hL
  go_enter Tryd.func42, Tryd.ntmps42
  go_wp2_with fail
  refine (r1var_any _ i i.toNat (by omega) (.inl (by omega))).mono ?_
  rintro e w1 ⟨rfl, b1⟩
  have hbx1 := (b1.block _ (lt_of_block hbx)).trans hbx
  have HB1 := Lib.hid (Below.next b0 b1)
  have vl := varb_len 3 i.toNat
  generalize varb 3 i.toNat = V at *
  clear hbx b0 b1
  obtain ⟨⟨c0, c1, c2, c3⟩, _, _, _, _⟩ := four_cells hbx1
  have HBX := Lib.hid hbx1
  have hlb := lt_of_block hbx1
  have zV : (str V).size ≤ 4 := by rw [str_size]; omega
  clear hbx1
  go_wp2_with fail
  refine (r3kind_calls _ i).mono ?_
  rw [HK.out]
  rintro e w2 ⟨rfl, rfl⟩
  clear HK
  have hcv := conv1 w1 (n % 256)
  have ha := str_append V [UInt8.ofNat (n % 256).toNat]
  rw [HL.out] at ha
  have zZ : (str [UInt8.ofNat (n % 256).toNat]).size ≤ 1 := by rw [str_size]; exact Nat.le_refl _
  generalize [UInt8.ofNat (n % 256).toNat] = Z at *
  clear HL HBX
  go_wp2
  go_ret
  exact ⟨rfl, HB1.out.alloc HB1.out.size _⟩

set_option maxRecDepth 100000 in
set_option maxHeartbeats 1000000 in
theorem r3one_2 (w : World) (p : Pr) (hp : p.ok) (hk : (ruleL p.id).kind = 2) : Calls Tryd.prog 42 #[prV p] w (OneR w (oneL p)) := by
  have hr := (kind_range p.id).1
  have he : oneL p = varb 3 p.id.toNat ++ two p.n := by unfold oneL saysL; rw [hk]; rfl
  rw [he]
  clear he
  obtain ⟨i, n, s, t⟩ := p
  obtain ⟨n0, n1, s1, t1⟩ := hp
  dsimp only at hk hr n0 n1 s1 t1 ⊢
  have hi : 1 ≤ i ∧ i ≤ 42 := by rcases hr with e | e; (· rw [hk] at e; exact absurd e (by decide)); exact e
  obtain ⟨i1, i2⟩ := hi
  have HK := Lib.hid hk
  clear hk hr
  have hbx := heap_alloc_new w (.cells #[.int .i64 i, .int .u32 n, .string s, .string t] 75)
  have b0 := below_one w (.cells #[.int .i64 i, .int .u32 n, .string s, .string t] 75)
  generalize hL : varb 3 i.toNat ++ two n = L
  have HL := Lib.hid hL
  clear hL
  go_enter Tryd.func42, Tryd.ntmps42
  go_wp2_with fail
  refine (r1var_any _ i i.toNat (by omega) (.inl (by omega))).mono ?_
  rintro e w1 ⟨rfl, b1⟩
  have hbx1 := (b1.block _ (lt_of_block hbx)).trans hbx
  have HB1 := Lib.hid (Below.next b0 b1)
  have vl := varb_len 3 i.toNat
  generalize varb 3 i.toNat = V at *
  clear hbx b0 b1
  obtain ⟨⟨c0, c1, c2, c3⟩, _, _, _, _⟩ := four_cells hbx1
  have HBX := Lib.hid hbx1
  have hlb := lt_of_block hbx1
  have zV : (str V).size ≤ 4 := by rw [str_size]; omega
  clear hbx1
  go_wp2_with fail
  refine (r3kind_calls _ i).mono ?_
  rw [HK.out]
  rintro e w2 ⟨rfl, rfl⟩
  clear HK
  go_wp2_with fail
  refine (r1two_calls _ n n0 n1).mono ?_
  rintro e w2 ⟨rfl, b2⟩
  have HB2 := Lib.hid (Below.next HB1.out b2)
  clear b2 HB1 HBX
  have hlen : (two n).length ≤ 2 := Nat.le_refl _
  have ha := str_append V (two n)
  rw [HL.out] at ha
  generalize two n = Z at *
  have zZ : (str Z).size ≤ 2 := by rw [str_size]; exact hlen
  clear HL hlen c0 c1 c2 c3
  go_wp2
  go_ret
  exact ⟨rfl, HB2.out⟩

set_option maxRecDepth 100000 in
set_option maxHeartbeats 1000000 in
theorem r3one_3 (w : World) (p : Pr) (hp : p.ok) (hk : (ruleL p.id).kind = 3) : Calls Tryd.prog 42 #[prV p] w (OneR w (oneL p)) := by
  have hr := (kind_range p.id).1
  have he : oneL p = varb 3 p.id.toNat ++ (two (p.n / 65536) ++ two p.n) := by unfold oneL saysL; rw [hk]; rfl
  rw [he]
  clear he
  obtain ⟨i, n, s, t⟩ := p
  obtain ⟨n0, n1, s1, t1⟩ := hp
  dsimp only at hk hr n0 n1 s1 t1 ⊢
  have hi : 1 ≤ i ∧ i ≤ 42 := by rcases hr with e | e; (· rw [hk] at e; exact absurd e (by decide)); exact e
  obtain ⟨i1, i2⟩ := hi
  have HK := Lib.hid hk
  clear hk hr
  have hbx := heap_alloc_new w (.cells #[.int .i64 i, .int .u32 n, .string s, .string t] 75)
  have b0 := below_one w (.cells #[.int .i64 i, .int .u32 n, .string s, .string t] 75)
  generalize hL : varb 3 i.toNat ++ (two (n / 65536) ++ two n) = L
  have HL := Lib.hid hL
  clear hL
  go_enter Tryd.func42, Tryd.ntmps42
  go_wp2_with fail
  refine (r1var_any _ i i.toNat (by omega) (.inl (by omega))).mono ?_
  rintro e w1 ⟨rfl, b1⟩
  have hbx1 := (b1.block _ (lt_of_block hbx)).trans hbx
  have HB1 := Lib.hid (Below.next b0 b1)
  have vl := varb_len 3 i.toNat
  generalize varb 3 i.toNat = V at *
  clear hbx b0 b1
  obtain ⟨⟨c0, c1, c2, c3⟩, _, _, _, _⟩ := four_cells hbx1
  have HBX := Lib.hid hbx1
  have hlb := lt_of_block hbx1
  have zV : (str V).size ≤ 4 := by rw [str_size]; omega
  clear hbx1
  go_wp2_with fail
  refine (r3kind_calls _ i).mono ?_
  rw [HK.out]
  rintro e w2 ⟨rfl, rfl⟩
  clear HK
  go_wp2_with fail
  refine (r1four_calls _ n n0 n1).mono ?_
  rintro e w2 ⟨rfl, b2⟩
  have HB2 := Lib.hid (Below.next HB1.out b2)
  clear b2 HB1 HBX
  have hlen : (two (n / 65536) ++ two n).length ≤ 4 := Nat.le_refl _
  have ha := str_append V (two (n / 65536) ++ two n)
  rw [HL.out] at ha
  generalize two (n / 65536) ++ two n = Z at *
  have zZ : (str Z).size ≤ 4 := by rw [str_size]; exact hlen
  clear HL hlen c0 c1 c2 c3
  go_wp2
  go_ret
  exact ⟨rfl, HB2.out⟩

set_option maxRecDepth 100000 in
set_option maxHeartbeats 1000000 in
theorem r3one_4 (w : World) (p : Pr) (hp : p.ok) (hk : (ruleL p.id).kind = 4) : Calls Tryd.prog 42 #[prV p] w (OneR w (oneL p)) := by
  have hr := (kind_range p.id).1
  have he : oneL p = varb 3 p.id.toNat ++ varb 3 (min p.n.toNat 268435455) := by unfold oneL saysL; rw [hk]; rfl
  rw [he]
  clear he
  obtain ⟨i, n, s, t⟩ := p
  obtain ⟨n0, n1, s1, t1⟩ := hp
  dsimp only at hk hr n0 n1 s1 t1 ⊢
  have hi : 1 ≤ i ∧ i ≤ 42 := by rcases hr with e | e; (· rw [hk] at e; exact absurd e (by decide)); exact e
  obtain ⟨i1, i2⟩ := hi
  have HK := Lib.hid hk
  clear hk hr
  have hbx := heap_alloc_new w (.cells #[.int .i64 i, .int .u32 n, .string s, .string t] 75)
  have b0 := below_one w (.cells #[.int .i64 i, .int .u32 n, .string s, .string t] 75)
  generalize hL : varb 3 i.toNat ++ varb 3 (min n.toNat 268435455) = L
  have HL := Lib.hid hL
  clear hL
  go_enter Tryd.func42, Tryd.ntmps42
  go_wp2_with fail
  refine (r1var_any _ i i.toNat (by omega) (.inl (by omega))).mono ?_
  rintro e w1 ⟨rfl, b1⟩
  have hbx1 := (b1.block _ (lt_of_block hbx)).trans hbx
  have HB1 := Lib.hid (Below.next b0 b1)
  have vl := varb_len 3 i.toNat
  generalize varb 3 i.toNat = V at *
  clear hbx b0 b1
  obtain ⟨⟨c0, c1, c2, c3⟩, _, _, _, _⟩ := four_cells hbx1
  have HBX := Lib.hid hbx1
  have hlb := lt_of_block hbx1
  have zV : (str V).size ≤ 4 := by rw [str_size]; omega
  clear hbx1
  go_wp2_with fail
  refine (r3kind_calls _ i).mono ?_
  rw [HK.out]
  rintro e w2 ⟨rfl, rfl⟩
  clear HK
  go_wp2_with fail
  refine (r1var_any _ n _ (by omega) (min_clamp n n0 n1)).mono ?_
  rintro e w2 ⟨rfl, b2⟩
  have HB2 := Lib.hid (Below.next HB1.out b2)
  clear b2 HB1 HBX
  have hlen : (varb 3 (min n.toNat 268435455)).length ≤ 4 := varb_len 3 _
  have ha := str_append V (varb 3 (min n.toNat 268435455))
  rw [HL.out] at ha
  generalize varb 3 (min n.toNat 268435455) = Z at *
  have zZ : (str Z).size ≤ 4 := by rw [str_size]; exact hlen
  clear HL hlen c0 c1 c2 c3
  go_wp2
  go_ret
  exact ⟨rfl, HB2.out⟩

set_option maxRecDepth 100000 in
set_option maxHeartbeats 1000000 in
theorem r3one_5 (w : World) (p : Pr) (hp : p.ok) (hk : (ruleL p.id).kind = 5) : Calls Tryd.prog 42 #[prV p] w (OneR w (oneL p)) := by
  have hr := (kind_range p.id).1
  have he : oneL p = varb 3 p.id.toNat ++ (two p.s.size ++ p.s.data.toList) := by unfold oneL saysL; rw [hk]; rfl
  rw [he]
  clear he
  obtain ⟨i, n, s, t⟩ := p
  obtain ⟨n0, n1, s1, t1⟩ := hp
  dsimp only at hk hr n0 n1 s1 t1 ⊢
  have hi : 1 ≤ i ∧ i ≤ 42 := by rcases hr with e | e; (· rw [hk] at e; exact absurd e (by decide)); exact e
  obtain ⟨i1, i2⟩ := hi
  have HK := Lib.hid hk
  clear hk hr
  have hbx := heap_alloc_new w (.cells #[.int .i64 i, .int .u32 n, .string s, .string t] 75)
  have b0 := below_one w (.cells #[.int .i64 i, .int .u32 n, .string s, .string t] 75)
  generalize hL : varb 3 i.toNat ++ (two s.size ++ s.data.toList) = L
  have HL := Lib.hid hL
  clear hL
  go_enter Tryd.func42, Tryd.ntmps42
  go_wp2_with fail
  refine (r1var_any _ i i.toNat (by omega) (.inl (by omega))).mono ?_
  rintro e w1 ⟨rfl, b1⟩
  have hbx1 := (b1.block _ (lt_of_block hbx)).trans hbx
  have HB1 := Lib.hid (Below.next b0 b1)
  have vl := varb_len 3 i.toNat
  generalize varb 3 i.toNat = V at *
  clear hbx b0 b1
  obtain ⟨⟨c0, c1, c2, c3⟩, _, _, _, _⟩ := four_cells hbx1
  have HBX := Lib.hid hbx1
  have hlb := lt_of_block hbx1
  have zV : (str V).size ≤ 4 := by rw [str_size]; omega
  clear hbx1
  go_wp2_with fail
  refine (r3kind_calls _ i).mono ?_
  rw [HK.out]
  rintro e w2 ⟨rfl, rfl⟩
  clear HK
  go_wp2_with fail
  refine (r1data_calls _ s s1).mono ?_
  rintro e w2 ⟨rfl, b2⟩
  have HB2 := Lib.hid (Below.next HB1.out b2)
  clear b2 HB1 HBX
  have hlen : (two s.size ++ s.data.toList).length ≤ 65537 := data_len s s1
  have ha := str_append V (two s.size ++ s.data.toList)
  rw [HL.out] at ha
  generalize two s.size ++ s.data.toList = Z at *
  have zZ : (str Z).size ≤ 65537 := by rw [str_size]; exact hlen
  clear HL hlen c0 c1 c2 c3
  go_wp2
  go_ret
  exact ⟨rfl, HB2.out⟩

set_option maxRecDepth 100000 in
set_option maxHeartbeats 1000000 in
theorem r3one_6 (w : World) (p : Pr) (hp : p.ok) (hk : (ruleL p.id).kind = 6) : Calls Tryd.prog 42 #[prV p] w (OneR w (oneL p)) := by
  have hr := (kind_range p.id).1
  have he : oneL p = varb 3 p.id.toNat ++ (two p.s.size ++ p.s.data.toList) := by unfold oneL saysL; rw [hk]; rfl
  rw [he]
  clear he
  obtain ⟨i, n, s, t⟩ := p
  obtain ⟨n0, n1, s1, t1⟩ := hp
  dsimp only at hk hr n0 n1 s1 t1 ⊢
  have hi : 1 ≤ i ∧ i ≤ 42 := by rcases hr with e | e; (· rw [hk] at e; exact absurd e (by decide)); exact e
  obtain ⟨i1, i2⟩ := hi
  have HK := Lib.hid hk
  clear hk hr
  have hbx := heap_alloc_new w (.cells #[.int .i64 i, .int .u32 n, .string s, .string t] 75)
  have b0 := below_one w (.cells #[.int .i64 i, .int .u32 n, .string s, .string t] 75)
  generalize hL : varb 3 i.toNat ++ (two s.size ++ s.data.toList) = L
  have HL := Lib.hid hL
  clear hL
  go_enter Tryd.func42, Tryd.ntmps42
  go_wp2_with fail
  refine (r1var_any _ i i.toNat (by omega) (.inl (by omega))).mono ?_
  rintro e w1 ⟨rfl, b1⟩
  have hbx1 := (b1.block _ (lt_of_block hbx)).trans hbx
  have HB1 := Lib.hid (Below.next b0 b1)
  have vl := varb_len 3 i.toNat
  generalize varb 3 i.toNat = V at *
  clear hbx b0 b1
  obtain ⟨⟨c0, c1, c2, c3⟩, _, _, _, _⟩ := four_cells hbx1
  have HBX := Lib.hid hbx1
  have hlb := lt_of_block hbx1
  have zV : (str V).size ≤ 4 := by rw [str_size]; omega
  clear hbx1
  go_wp2_with fail
  refine (r3kind_calls _ i).mono ?_
  rw [HK.out]
  rintro e w2 ⟨rfl, rfl⟩
  clear HK
  go_wp2_with fail
  refine (r1data_calls _ s s1).mono ?_
  rintro e w2 ⟨rfl, b2⟩
  have HB2 := Lib.hid (Below.next HB1.out b2)
  clear b2 HB1 HBX
  have hlen : (two s.size ++ s.data.toList).length ≤ 65537 := data_len s s1
  have ha := str_append V (two s.size ++ s.data.toList)
  rw [HL.out] at ha
  generalize two s.size ++ s.data.toList = Z at *
  have zZ : (str Z).size ≤ 65537 := by rw [str_size]; exact hlen
  clear HL hlen c0 c1 c2 c3
  go_wp2
  go_ret
  exact ⟨rfl, HB2.out⟩

set_option maxRecDepth 100000 in
set_option maxHeartbeats 1000000 in
theorem r3one_7 (w : World) (p : Pr) (hp : p.ok) (hk : (ruleL p.id).kind = 7) : Calls Tryd.prog 42 #[prV p] w (OneR w (oneL p)) := by
  have hr := (kind_range p.id).1
  have he : oneL p = varb 3 p.id.toNat ++ ((two p.s.size ++ p.s.data.toList) ++ (two p.t.size ++ p.t.data.toList)) := by unfold oneL saysL; rw [hk]; rfl
  rw [he]
  clear he
  obtain ⟨i, n, s, t⟩ := p
  obtain ⟨n0, n1, s1, t1⟩ := hp
  dsimp only at hk hr n0 n1 s1 t1 ⊢
  have hi : 1 ≤ i ∧ i ≤ 42 := by rcases hr with e | e; (· rw [hk] at e; exact absurd e (by decide)); exact e
  obtain ⟨i1, i2⟩ := hi
  have HK := Lib.hid hk
  clear hk hr
  have hbx := heap_alloc_new w (.cells #[.int .i64 i, .int .u32 n, .string s, .string t] 75)
  have b0 := below_one w (.cells #[.int .i64 i, .int .u32 n, .string s, .string t] 75)
  generalize hL : varb 3 i.toNat ++ ((two s.size ++ s.data.toList) ++ (two t.size ++ t.data.toList)) = L
  have HL := Lib.hid hL
  clear hL
  go_enter Tryd.func42, Tryd.ntmps42
  go_wp2_with fail
  refine (r1var_any _ i i.toNat (by omega) (.inl (by omega))).mono ?_
  rintro e w1 ⟨rfl, b1⟩
  have hbx1 := (b1.block _ (lt_of_block hbx)).trans hbx
  have HB1 := Lib.hid (Below.next b0 b1)
  have vl := varb_len 3 i.toNat
  generalize varb 3 i.toNat = V at *
  clear hbx b0 b1
  obtain ⟨⟨c0, c1, c2, c3⟩, _, _, _, _⟩ := four_cells hbx1
  have HBX := Lib.hid hbx1
  have hlb := lt_of_block hbx1
  have zV : (str V).size ≤ 4 := by rw [str_size]; omega
  clear hbx1
  go_wp2_with fail
  refine (r3kind_calls _ i).mono ?_
  rw [HK.out]
  rintro e w2 ⟨rfl, rfl⟩
  clear HK
  have hd1 : (two s.size ++ s.data.toList).length ≤ 65537 := data_len s s1
  have hd2 : (two t.size ++ t.data.toList).length ≤ 65537 := data_len t t1
  generalize hD1 : two s.size ++ s.data.toList = D1 at *
  generalize hD2 : two t.size ++ t.data.toList = D2 at *
  have HD1 := Lib.hid hD1
  have HD2 := Lib.hid hD2
  have ha1 := str_append V D1
  have ha2 := str_append (V ++ D1) D2
  rw [List.append_assoc, HL.out] at ha2
  have z1 : (str D1).size ≤ 65537 := by rw [str_size]; exact hd1
  have z2 : (str D2).size ≤ 65537 := by rw [str_size]; exact hd2
  have z3 : (str (V ++ D1)).size ≤ 65541 := by rw [str_size, List.length_append]; omega
  generalize V ++ D1 = VD at *
  clear hD1 hD2 HL
  go_wp2_with fail
  have hs1 : (str V).size + (str D1).size ≤ 9223372036854775807 := by omega
  have hs2 : (str VD).size + (str D2).size ≤ 9223372036854775807 := by omega
  have hC : RBoxC w i n s t w1.drew := ⟨HBX.out, HB1.out.drew⟩
  refine wp_region_quiet_cls (fun wx => RBoxC w i n s t wx) (by kernel_rfl) (by kernel_rfl) hC ?_
  clear hC c0 c1 c2 c3 HBX HB1
  iterate 10
    refine wpQuiet_step (fun K hK => ?_)
    go_simp
    first
      | (refine hK _ ?_; clear hK K)
      | (apply Exists.intro
         refine ⟨fun wx hwx => ?_, hK _ ?_⟩
         · first
             | exact rfl
             | (rw [if_neg (by omega)]; exact And.intro rfl rfl)
             | (rw [(four_cells hwx.box).1.2.2.1]; exact And.intro rfl rfl)
             | (rw [(four_cells hwx.box).1.2.2.2]; exact And.intro rfl rfl)
             | with_reducible exact (r1data_of wx s D1 s1 HD1).mono (fun e w2 h => And.intro h.1 (hwx.next h.2))
             | with_reducible exact (r1data_of wx t D2 t1 HD2).mono (fun e w2 h => And.intro h.1 (hwx.next h.2))
         clear hK K)
  refine wpQuiet_nil ?_
  intro w2 hb2
  have HBE := Lib.hid hb2.bel
  clear hb2
  go_wp2
  go_ret
  exact ⟨rfl, HBE.out⟩

theorem r3one_calls (w : World) (p : Pr) (hp : p.ok) (hk : (ruleL p.id).kind ≠ 0) : Calls Tryd.prog 42 #[prV p] w (OneR w (oneL p)) := by
  rcases (kind_range p.id).2 with h0 | h0 | h0 | h0 | h0 | h0 | h0 | h0
  · exact absurd h0 hk
  · exact r3one_1 w p hp h0
  · exact r3one_2 w p hp h0
  · exact r3one_3 w p hp h0
  · exact r3one_4 w p hp h0
  · exact r3one_5 w p hp h0
  · exact r3one_6 w p hp h0
  · exact r3one_7 w p hp h0

set_option maxRecDepth 100000 in
set_option maxHeartbeats 1000000 in
theorem r3text_calls (w : World) (v : Value) (P : List Pr) (hv : PropsAt w v P) (hok : ∀ p ∈ P, p.ok) (hn : P.length ≤ 1000) :
    Calls Tryd.prog 21 #[v] w (OneR w (propsL P)) := by
  have hbl := bodyL_len P hok
  obtain ⟨A, cap, rfl, hc⟩ := hv
  have HC := Lib.hid hc
  have HOK := Lib.hid hok
  clear hc hok
  generalize hR : propsL P = R
  have HR := Lib.hid hR
  clear hR
  go_enter Tryd.func21, Tryd.ntmps21
  go_wp2
  go_loopw [3, 8] (fun s j wr => ∃ k : Nat, k ≤ P.length ∧ j = .int .i64 k ∧ s = .string (str (bodyL (P.take k))) ∧ Below w.heap.size w wr) (fun _ j _ => P.length - (intOf j).toNat)
  case atStart => exact ⟨0, by omega, rfl, rfl, Below.refl _ _⟩
  case round =>
    obtain ⟨k, hk, rfl, rfl, hb⟩ := hrel
    have HB := Lib.hid hb
    have hz := hb.size
    clear hb
    by_cases hlt : k < P.length
    · obtain ⟨x, hx⟩ : ∃ x, P[k]? = some x := ⟨_, List.getElem?_eq_getElem hlt⟩
      obtain ⟨b, off, hA, hbl2, c0, c1, c2, c3⟩ := HC.out k x hx
      rw [← HB.out.cell (p := ⟨b, _, none⟩) hbl2] at c0 c1 c2 c3
      subst hA
      have hsn := bodyL_snoc P k x hx
      have hxok := HOK.out x (List.mem_of_getElem? hx)
      have hl3 : (bodyL (P.take k)).length ≤ 140000000 := by
        have := bodyL_len (P.take k) (fun p hp => HOK.out p (List.mem_of_mem_take hp))
        rw [List.length_take] at this
        omega
      have hl4 := one_len x hxok
      have HXO := Lib.hid hxok
      have HSN := Lib.hid hsn
      clear hx hxok hsn
      have hbx := heap_alloc_new wr (.cells #[.int .i64 x.id, .int .u32 x.n, .string x.s, .string x.t] 75)
      have hb1 := HB.out.alloc hz (.cells #[.int .i64 x.id, .int .u32 x.n, .string x.s, .string x.t] 75)
      go_wp2_with fail
      refine (r3kind_calls _ x.id).mono ?_
      rintro e w2 ⟨rfl, hw2⟩
      rw [hw2] at hbx hb1
      clear hw2
      obtain ⟨⟨d0, d1, d2, d3⟩, _, _, _, _⟩ := four_cells hbx
      have HB1 := Lib.hid hb1
      clear hb1 hbx c0 c1 c2 c3 HB
      by_cases hk0 : (ruleL x.id).kind = 0
      · rw [hk0]
        have ho : oneL x = [] := by unfold oneL; rw [if_pos hk0]
        have HS2 : Hid (bodyL (P.take (k + 1)) = bodyL (P.take k)) := by have := HSN.out; rwa [ho, List.append_nil] at this
        clear HSN ho hk0 d0 d1 d2 d3 HXO
        go_wp2
        go_roundw
        case rel => exact ⟨k + 1, by omega, by go_num, by rw [HS2.out], HB1.out⟩
        case measure => simp [intOf]; omega
      · have hkp : 0 < (ruleL x.id).kind := by rcases (kind_range x.id).2 with e | e <;> omega
        have HK0 := Lib.hid hk0
        clear hk0
        generalize (ruleL x.id).kind = kd at hkp ⊢
        go_wp2_with fail
        refine (r3one_calls _ x HXO.out HK0.out).mono ?_
        rintro e w3 ⟨rfl, b3⟩
        have HB3 := Lib.hid (HB1.out.trans (b3.mono HB1.out.size))
        have ha := str_append (bodyL (P.take k)) (oneL x)
        rw [← HSN.out] at ha
        have z1 : (str (bodyL (P.take k))).size ≤ 140000000 := by rw [str_size]; exact hl3
        have z2 : (str (oneL x)).size ≤ 140000 := by rw [str_size]; exact hl4
        clear HSN HXO b3 HB1 d0 d1 d2 d3 hl3 hl4
        generalize hS1 : str (bodyL (P.take (k + 1))) = S1 at *
        have HS1 := Lib.hid hS1
        clear hS1
        generalize str (bodyL (P.take k)) = S0 at *
        generalize str (oneL x) = X at *
        go_wp2
        go_roundw
        case rel => exact ⟨k + 1, by omega, by go_num, by rw [HS1.out], HB3.out⟩
        case measure => simp [intOf]; omega
    · obtain rfl : k = P.length := by omega
      rw [List.take_length]
      have HR2 := HR.out
      unfold propsL at HR2
      have hl : (bodyL P).length < 268435455 := by omega
      generalize bodyL P = D at *
      have zD : (str D).size = D.length := str_size D
      have ha := str_append (varb 3 D.length) D
      rw [HR2] at ha
      have zV : (str (varb 3 D.length)).size ≤ 4 := by rw [str_size]; exact varb_len 3 _
      clear HR HR2 HC HOK
      go_wp2_with fail
      refine (r1var_any _ D.length D.length (by omega) (.inl rfl)).mono ?_
      rintro e w3 ⟨rfl, b3⟩
      have HB3 := Lib.hid (HB.out.trans (b3.mono HB.out.size))
      clear b3 HB
      go_wp2
      go_ret
      exact ⟨rfl, HB3.out⟩

#print axioms r3text_calls
end Go.Proofs.YtmkajnephkaamaaDoor
