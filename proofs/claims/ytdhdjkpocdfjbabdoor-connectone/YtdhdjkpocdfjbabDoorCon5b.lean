/-
  Parse of a connect. (No statement: contracts that the proofs of the statements use.)
-/
import Derived.Test.YtdhdjkpocdfjbabDoorCon4
namespace Go.Proofs.YtdhdjkpocdfjbabDoor
open Go.RowKit

set_option maxRecDepth 100000 in
set_option maxHeartbeats 4000000 in
theorem parse_010 (w : World) (body : ByteArray) (hT : Tabs w) (s1 : ByteArray) (x1 : Int) (hv : verT body 0 = (s1, x1)) (t s2 : ByteArray) (x2 : Int) (hr : rawT s1 x1 1 = (t, s2, x2)) (F : Nat) (hF : numL t.data.toList = F) (b4 : flB F 4 = false) (b128 : flB F 128 = true) (b64 : flB F 64 = false) (X : Int) (hX : flagX F x2 = X) (tk s3 : ByteArray) (x3 : Int) (hk : rawT s2 X 2 = (tk, s3, x3)) (ps : List Pr) (s4 : ByteArray) (x4 : Int) (hP : takeR (placeN 1 false) s3 x3 = (ps, s4, x4)) (id s5 : ByteArray) (x5 : Int) (hI : strT s4 x4 = (id, s5, x5)) (us s9 : ByteArray) (x9 : Int) (hU : strT s5 x5 = (us, s9, x9)) (E : Int) (hE : endT s9 x9 = E) (C : Cn) (hC : (if E = 0 then { cnF F with keep := numL tk.data.toList, ps := ps, id := id, us := us } else cnZ) = C) :
    Calls Tryd.prog 9 #[.string body] w (ParseR w C E) := by
  have Hhv := Lib.hid hv
  have Hhr := Lib.hid hr
  have HhF := Lib.hid hF
  have HhX := Lib.hid hX
  have Hhk := Lib.hid hk
  have HhP := Lib.hid hP
  have HhI := Lib.hid hI
  have HhT := Lib.hid hT
  have HhU := Lib.hid hU
  have HhE := Lib.hid hE
  have HhC := Lib.hid hC
  clear hv hr hF hX hk hP hI hT hU hE hC
  have hVV : flagV F = .agg #[.bool (flB F 2), .int .u32 0, .slice none 0 0, .string ⟨#[]⟩, .bool false, .slice none 0 0, .string ⟨#[]⟩, .string ⟨#[]⟩, .int .u8 (quaN F), .bool (flB F 32), .bool true, .bool false, .string ⟨#[]⟩, .string ⟨#[]⟩] := by unfold flagV; rw [b4, b128, b64]
  have hCF : cnF F = ⟨flB F 2, 0, [], ⟨#[]⟩, false, [], ⟨#[]⟩, ⟨#[]⟩, quaN F, flB F 32, true, false, ⟨#[]⟩, ⟨#[]⟩⟩ := by unfold cnF; rw [b4, b128, b64]
  have hFL := Lib.hid (fun W p s x (h : InAt W p s x) t' s1' x1' (hr' : rawT s x 1 = (t', s1', x1')) => flags_calls W p s x h t' s1' x1' hr')
  generalize flB F 2 = B2 at *
  generalize flB F 32 = B32 at *
  generalize quaN F = Q at *
  have HVV := Lib.hid hVV
  have HCF := Lib.hid hCF
  clear hVV hCF b4 b128 b64
  go_enter Tryd.func9, Tryd.ntmps9
  go_wp2_with fail
  refine (over_calls _ _).mono ?_
  rintro e W1 ⟨rfl, rfl⟩
  have i1 := InAt.new (w.alloc (.cells cn0 29)) body
  have R1 := Lib.hid ((Below.heap_alloc (w.alloc (.cells cn0 29)) (.cells #[.string body, .int .i64 0] 103) w.heap.size (by simp)).trans (heap_alloc_new w (.cells cn0 29)))
  have B1 := Lib.hid (below_two w (.cells cn0 29) (.cells #[.string body, .int .i64 0] 103))
  rw [World.size_alloc] at i1 ⊢
  generalize ((w.alloc (.cells cn0 29)).alloc (.cells #[.string body, .int .i64 0] 103)) = W1 at *
  generalize hp : w.heap.size + 1 = p at *
  have hpl : w.heap.size < p := by omega
  clear hp
  go_wp2_with fail
  refine (version_calls _ p body 0 i1 (HhT.out.below B1.out) s1 x1 Hhv.out).mono ?_
  rintro e W2 ⟨rfl, i2, g2⟩
  have R2 := Lib.hid ((g2.block w.heap.size (lt_of_block R1.out) (fun e => by injection e; omega)).trans R1.out)
  have B2' := Lib.hid (B1.out.trans (g2.below B1.out.size (Nat.le_of_lt hpl)))
  clear i1 g2 R1 B1
  go_wp2_with fail
  refine (hFL.out _ p s1 x1 i2 t s2 x2 Hhr.out).mono ?_
  rw [HhF.out, HhX.out]
  rintro e W3 ⟨rfl, i3, g3⟩
  have R3 := Lib.hid ((g3.block w.heap.size (lt_of_block R2.out) (fun e => by injection e; omega)).trans R2.out)
  have B3 := Lib.hid (B2'.out.trans (g3.below B2'.out.size (Nat.le_of_lt hpl)))
  have hp3 := i3.lt
  have N0 := Lib.hid (show PsC w p W3.heap.size ⟨B2, 0, [], ⟨#[]⟩, false, [], ⟨#[]⟩, ⟨#[]⟩, Q, B32, true, false, ⟨#[]⟩, ⟨#[]⟩⟩ (.slice none 0 0) (.slice none 0 0) s2 X (W3.alloc (.cells #[.bool B2, .int .u32 0, .slice none 0 0, .string ⟨#[]⟩, .bool false, .slice none 0 0, .string ⟨#[]⟩, .string ⟨#[]⟩, .int .u8 Q, .bool B32, .bool true, .bool false, .string ⟨#[]⟩, .string ⟨#[]⟩] 29)) from
    ⟨i3.below (below_one W3 _), (Below.heap_alloc W3 _ _ (lt_of_block R3.out)).trans R3.out, heap_alloc_new W3 _, B3.out.alloc B3.out.size _, hpl, hp3, World.ownsRow_nil _ _ _ _, World.ownsRow_nil _ _ _ _⟩)
  rw [HVV.out]
  clear i2 g3 R2 B2' i3 R3 B3 hFL
  go_wp2_with fail
  generalize W3.alloc (.cells #[.bool B2, .int .u32 0, .slice none 0 0, .string ⟨#[]⟩, .bool false, .slice none 0 0, .string ⟨#[]⟩, .string ⟨#[]⟩, .int .u8 Q, .bool B32, .bool true, .bool false, .string ⟨#[]⟩, .string ⟨#[]⟩] 29) = W4 at *
  generalize W3.heap.size = cb at *
  refine (twoIn_calls _ p s2 X tk s3 x3 Hhk.out N0.out.inn).mono ?_
  rintro e V1 ⟨rfl, i1, o1⟩
  have K1 := Lib.hid (N0.out.took i1 (Chg.of_only o1))
  obtain ⟨⟨⟨d0, d1, d2, d3, d4, d5, d6⟩, ⟨d7, d8, d9, d10, d11, d12, d13⟩, df⟩, dl⟩ := K1.out.cells
  dsimp only at d0 d1 d2 d3 d4 d5 d6 d7 d8 d9 d10 d11 d12 d13
  clear i1 o1 N0
  go_wp2_with fail
  have N1 := Lib.hid (K1.out.putKeep (numL tk.data.toList))
  generalize V1.setCell ⟨cb, 1, none⟩ (.int .u32 (numL tk.data.toList)) = U1 at *
  clear d0 d1 d2 d3 d4 d5 d6 d7 d8 d9 d10 d11 d12 d13 df dl K1
  refine ((by have := take3_calls _ p s3 x3 1 false N1.out.inn (HhT.out.below N1.out.bel); rw [HhP.out] at this; exact this : Calls _ _ _ _ (TookL _ p (ps, s4, x4)))).mono ?_
  rintro e V2 ⟨vv2, rfl, oo2, -, i2, o2⟩
  have K2 := Lib.hid (N1.out.took i2 o2)
  dsimp only at oo2
  have OO2 := Lib.hid (oo2.mono (show cb + 1 ≤ _ from N1.out.cells.2))
  obtain ⟨va2, vc2, rfl⟩ := oo2.form
  clear oo2
  obtain ⟨⟨⟨d0, d1, d2, d3, d4, d5, d6⟩, ⟨d7, d8, d9, d10, d11, d12, d13⟩, df⟩, dl⟩ := K2.out.cells
  dsimp only at d0 d1 d2 d3 d4 d5 d6 d7 d8 d9 d10 d11 d12 d13
  clear i2 o2 N1
  go_wp2_with fail
  have N2 := Lib.hid (K2.out.putProps _ ps OO2.out)
  generalize V2.setCell ⟨cb, 2, none⟩ (.slice va2 ps.length vc2) = U2 at *
  clear d0 d1 d2 d3 d4 d5 d6 d7 d8 d9 d10 d11 d12 d13 df dl K2
  refine (takeS_calls _ p s4 x4 id s5 x5 (by have := strT_tak s4 x4; rw [HhI.out] at this; exact this) N2.out.inn (HhT.out.below N2.out.bel)).mono ?_
  rintro e V3 ⟨rfl, i3, o3⟩
  have K3 := Lib.hid (N2.out.took i3 o3)
  obtain ⟨⟨⟨d0, d1, d2, d3, d4, d5, d6⟩, ⟨d7, d8, d9, d10, d11, d12, d13⟩, df⟩, dl⟩ := K3.out.cells
  dsimp only at d0 d1 d2 d3 d4 d5 d6 d7 d8 d9 d10 d11 d12 d13
  clear i3 o3 N2
  go_wp2_with fail
  have N3 := Lib.hid (K3.out.putId id)
  generalize V3.setCell ⟨cb, 3, none⟩ (.string id) = U3 at *
  clear d0 d1 d2 d3 d4 d5 d6 d7 d8 d9 d10 d11 d12 d13 df dl K3
  refine (takeS_calls _ p s5 x5 us s9 x9 (by have := strT_tak s5 x5; rw [HhU.out] at this; exact this) N3.out.inn (HhT.out.below N3.out.bel)).mono ?_
  rintro e V4 ⟨rfl, i4, o4⟩
  have K4 := Lib.hid (N3.out.took i4 o4)
  obtain ⟨⟨⟨d0, d1, d2, d3, d4, d5, d6⟩, ⟨d7, d8, d9, d10, d11, d12, d13⟩, df⟩, dl⟩ := K4.out.cells
  dsimp only at d0 d1 d2 d3 d4 d5 d6 d7 d8 d9 d10 d11 d12 d13
  clear i4 o4 N3
  go_wp2_with fail
  have N4 := Lib.hid (K4.out.putUser us)
  generalize V4.setCell ⟨cb, 12, none⟩ (.string us) = U4 at *
  clear d0 d1 d2 d3 d4 d5 d6 d7 d8 d9 d10 d11 d12 d13 df dl K4
  refine (end_calls _ p s9 x9 N4.out.inn).mono ?_
  rw [HhE.out]
  rintro e w9 ⟨rfl, rfl⟩
  obtain ⟨⟨r0, r1, r2, r3, r4, r5, r6⟩, ⟨r7, r8, r9, r10, r11, r12, r13⟩, rf⟩ := cells14 N4.out.res
  have rl := lt_of_block N4.out.res
  have hcb : w.heap.size < cb := Nat.lt_trans N4.out.hp N4.out.hc
  by_cases hE : E = 0
  · subst hE
    have hCC := HhC.out
    rw [if_pos rfl, HCF.out] at hCC
    subst hCC
    obtain ⟨⟨⟨d0, d1, d2, d3, d4, d5, d6⟩, ⟨d7, d8, d9, d10, d11, d12, d13⟩, df⟩, dl⟩ := N4.out.cells
    dsimp only at d0 d1 d2 d3 d4 d5 d6 d7 d8 d9 d10 d11 d12 d13
    go_wp2
    refine bodyPost_ret (v := .tuple #[.agg #[.bool B2, .int .u32 (numL tk.data.toList), .slice va2 ps.length vc2, .string id, .bool false, .slice none 0 0, .string ⟨#[]⟩, .string ⟨#[]⟩, .int .u8 Q, .bool B32, .bool true, .bool false, .string us, .string ⟨#[]⟩], .int .i64 0]) ?_ rfl ⟨.slice va2 ps.length vc2, .slice none 0 0, rfl, ?_, ?_, ?_⟩
    · simp [results, Tryd.results9, go_sem, r0, r1, r2, r3, r4, r5, r6, r7, r8, r9, r10, r11, r12, r13]
    · refine OwnP.mono ?_ (show w.heap.size ≤ cb + 1 by omega)
      iterate 14 (refine OwnP.set ?_ (Nat.lt_succ_of_lt hcb))
      exact N4.out.o1
    · refine OwnP.mono ?_ (show w.heap.size ≤ cb + 1 by omega)
      iterate 14 (refine OwnP.set ?_ (Nat.lt_succ_of_lt hcb))
      exact N4.out.o2
    · iterate 14 (refine below_set ?_ (Nat.le_refl _) _ _)
      exact N4.out.bel
  · have hEb : (E != 0) = true := by simpa using hE
    have hCC := HhC.out
    rw [if_neg hE] at hCC
    subst hCC
    go_wp2
    refine bodyPost_ret (v := .tuple #[.agg #[.bool false, .int .u32 0, .slice none 0 0, .string ⟨#[]⟩, .bool false, .slice none 0 0, .string ⟨#[]⟩, .string ⟨#[]⟩, .int .u8 0, .bool false, .bool false, .bool false, .string ⟨#[]⟩, .string ⟨#[]⟩], .int .i64 E]) ?_ rfl ⟨.slice none 0 0, .slice none 0 0, rfl, World.ownsRow_nil _ _ _ _, World.ownsRow_nil _ _ _ _, ?_⟩
    · simp [results, Tryd.results9, go_sem, r0, r1, r2, r3, r4, r5, r6, r7, r8, r9, r10, r11, r12, r13]
    · iterate 14 (refine below_set ?_ (Nat.le_refl _) _ _)
      exact N4.out.bel

set_option maxRecDepth 100000 in
set_option maxHeartbeats 4000000 in
theorem parse_011 (w : World) (body : ByteArray) (hT : Tabs w) (s1 : ByteArray) (x1 : Int) (hv : verT body 0 = (s1, x1)) (t s2 : ByteArray) (x2 : Int) (hr : rawT s1 x1 1 = (t, s2, x2)) (F : Nat) (hF : numL t.data.toList = F) (b4 : flB F 4 = false) (b128 : flB F 128 = true) (b64 : flB F 64 = true) (X : Int) (hX : flagX F x2 = X) (tk s3 : ByteArray) (x3 : Int) (hk : rawT s2 X 2 = (tk, s3, x3)) (ps : List Pr) (s4 : ByteArray) (x4 : Int) (hP : takeR (placeN 1 false) s3 x3 = (ps, s4, x4)) (id s5 : ByteArray) (x5 : Int) (hI : strT s4 x4 = (id, s5, x5)) (us s9 : ByteArray) (x9 : Int) (hU : strT s5 x5 = (us, s9, x9)) (ty sy : ByteArray) (xy : Int) (hy1 : rawT s9 x9 2 = (ty, sy, xy)) (pw s10 : ByteArray) (x10 : Int) (hy2 : rawT sy xy (numL ty.data.toList) = (pw, s10, x10)) (E : Int) (hE : endT s10 x10 = E) (C : Cn) (hC : (if E = 0 then { cnF F with keep := numL tk.data.toList, ps := ps, id := id, us := us, pw := pw } else cnZ) = C) :
    Calls Tryd.prog 9 #[.string body] w (ParseR w C E) := by
  have Hhv := Lib.hid hv
  have Hhr := Lib.hid hr
  have HhF := Lib.hid hF
  have HhX := Lib.hid hX
  have Hhk := Lib.hid hk
  have HhP := Lib.hid hP
  have HhI := Lib.hid hI
  have HhT := Lib.hid hT
  have HhU := Lib.hid hU
  have Hhy1 := Lib.hid hy1
  have Hhy2 := Lib.hid hy2
  have HhE := Lib.hid hE
  have HhC := Lib.hid hC
  clear hv hr hF hX hk hP hI hT hU hy1 hy2 hE hC
  have hVV : flagV F = .agg #[.bool (flB F 2), .int .u32 0, .slice none 0 0, .string ⟨#[]⟩, .bool false, .slice none 0 0, .string ⟨#[]⟩, .string ⟨#[]⟩, .int .u8 (quaN F), .bool (flB F 32), .bool true, .bool true, .string ⟨#[]⟩, .string ⟨#[]⟩] := by unfold flagV; rw [b4, b128, b64]
  have hCF : cnF F = ⟨flB F 2, 0, [], ⟨#[]⟩, false, [], ⟨#[]⟩, ⟨#[]⟩, quaN F, flB F 32, true, true, ⟨#[]⟩, ⟨#[]⟩⟩ := by unfold cnF; rw [b4, b128, b64]
  have hFL := Lib.hid (fun W p s x (h : InAt W p s x) t' s1' x1' (hr' : rawT s x 1 = (t', s1', x1')) => flags_calls W p s x h t' s1' x1' hr')
  generalize flB F 2 = B2 at *
  generalize flB F 32 = B32 at *
  generalize quaN F = Q at *
  have HVV := Lib.hid hVV
  have HCF := Lib.hid hCF
  clear hVV hCF b4 b128 b64
  go_enter Tryd.func9, Tryd.ntmps9
  go_wp2_with fail
  refine (over_calls _ _).mono ?_
  rintro e W1 ⟨rfl, rfl⟩
  have i1 := InAt.new (w.alloc (.cells cn0 29)) body
  have R1 := Lib.hid ((Below.heap_alloc (w.alloc (.cells cn0 29)) (.cells #[.string body, .int .i64 0] 103) w.heap.size (by simp)).trans (heap_alloc_new w (.cells cn0 29)))
  have B1 := Lib.hid (below_two w (.cells cn0 29) (.cells #[.string body, .int .i64 0] 103))
  rw [World.size_alloc] at i1 ⊢
  generalize ((w.alloc (.cells cn0 29)).alloc (.cells #[.string body, .int .i64 0] 103)) = W1 at *
  generalize hp : w.heap.size + 1 = p at *
  have hpl : w.heap.size < p := by omega
  clear hp
  go_wp2_with fail
  refine (version_calls _ p body 0 i1 (HhT.out.below B1.out) s1 x1 Hhv.out).mono ?_
  rintro e W2 ⟨rfl, i2, g2⟩
  have R2 := Lib.hid ((g2.block w.heap.size (lt_of_block R1.out) (fun e => by injection e; omega)).trans R1.out)
  have B2' := Lib.hid (B1.out.trans (g2.below B1.out.size (Nat.le_of_lt hpl)))
  clear i1 g2 R1 B1
  go_wp2_with fail
  refine (hFL.out _ p s1 x1 i2 t s2 x2 Hhr.out).mono ?_
  rw [HhF.out, HhX.out]
  rintro e W3 ⟨rfl, i3, g3⟩
  have R3 := Lib.hid ((g3.block w.heap.size (lt_of_block R2.out) (fun e => by injection e; omega)).trans R2.out)
  have B3 := Lib.hid (B2'.out.trans (g3.below B2'.out.size (Nat.le_of_lt hpl)))
  have hp3 := i3.lt
  have N0 := Lib.hid (show PsC w p W3.heap.size ⟨B2, 0, [], ⟨#[]⟩, false, [], ⟨#[]⟩, ⟨#[]⟩, Q, B32, true, true, ⟨#[]⟩, ⟨#[]⟩⟩ (.slice none 0 0) (.slice none 0 0) s2 X (W3.alloc (.cells #[.bool B2, .int .u32 0, .slice none 0 0, .string ⟨#[]⟩, .bool false, .slice none 0 0, .string ⟨#[]⟩, .string ⟨#[]⟩, .int .u8 Q, .bool B32, .bool true, .bool true, .string ⟨#[]⟩, .string ⟨#[]⟩] 29)) from
    ⟨i3.below (below_one W3 _), (Below.heap_alloc W3 _ _ (lt_of_block R3.out)).trans R3.out, heap_alloc_new W3 _, B3.out.alloc B3.out.size _, hpl, hp3, World.ownsRow_nil _ _ _ _, World.ownsRow_nil _ _ _ _⟩)
  rw [HVV.out]
  clear i2 g3 R2 B2' i3 R3 B3 hFL
  go_wp2_with fail
  generalize W3.alloc (.cells #[.bool B2, .int .u32 0, .slice none 0 0, .string ⟨#[]⟩, .bool false, .slice none 0 0, .string ⟨#[]⟩, .string ⟨#[]⟩, .int .u8 Q, .bool B32, .bool true, .bool true, .string ⟨#[]⟩, .string ⟨#[]⟩] 29) = W4 at *
  generalize W3.heap.size = cb at *
  refine (twoIn_calls _ p s2 X tk s3 x3 Hhk.out N0.out.inn).mono ?_
  rintro e V1 ⟨rfl, i1, o1⟩
  have K1 := Lib.hid (N0.out.took i1 (Chg.of_only o1))
  obtain ⟨⟨⟨d0, d1, d2, d3, d4, d5, d6⟩, ⟨d7, d8, d9, d10, d11, d12, d13⟩, df⟩, dl⟩ := K1.out.cells
  dsimp only at d0 d1 d2 d3 d4 d5 d6 d7 d8 d9 d10 d11 d12 d13
  clear i1 o1 N0
  go_wp2_with fail
  have N1 := Lib.hid (K1.out.putKeep (numL tk.data.toList))
  generalize V1.setCell ⟨cb, 1, none⟩ (.int .u32 (numL tk.data.toList)) = U1 at *
  clear d0 d1 d2 d3 d4 d5 d6 d7 d8 d9 d10 d11 d12 d13 df dl K1
  refine ((by have := take3_calls _ p s3 x3 1 false N1.out.inn (HhT.out.below N1.out.bel); rw [HhP.out] at this; exact this : Calls _ _ _ _ (TookL _ p (ps, s4, x4)))).mono ?_
  rintro e V2 ⟨vv2, rfl, oo2, -, i2, o2⟩
  have K2 := Lib.hid (N1.out.took i2 o2)
  dsimp only at oo2
  have OO2 := Lib.hid (oo2.mono (show cb + 1 ≤ _ from N1.out.cells.2))
  obtain ⟨va2, vc2, rfl⟩ := oo2.form
  clear oo2
  obtain ⟨⟨⟨d0, d1, d2, d3, d4, d5, d6⟩, ⟨d7, d8, d9, d10, d11, d12, d13⟩, df⟩, dl⟩ := K2.out.cells
  dsimp only at d0 d1 d2 d3 d4 d5 d6 d7 d8 d9 d10 d11 d12 d13
  clear i2 o2 N1
  go_wp2_with fail
  have N2 := Lib.hid (K2.out.putProps _ ps OO2.out)
  generalize V2.setCell ⟨cb, 2, none⟩ (.slice va2 ps.length vc2) = U2 at *
  clear d0 d1 d2 d3 d4 d5 d6 d7 d8 d9 d10 d11 d12 d13 df dl K2
  refine (takeS_calls _ p s4 x4 id s5 x5 (by have := strT_tak s4 x4; rw [HhI.out] at this; exact this) N2.out.inn (HhT.out.below N2.out.bel)).mono ?_
  rintro e V3 ⟨rfl, i3, o3⟩
  have K3 := Lib.hid (N2.out.took i3 o3)
  obtain ⟨⟨⟨d0, d1, d2, d3, d4, d5, d6⟩, ⟨d7, d8, d9, d10, d11, d12, d13⟩, df⟩, dl⟩ := K3.out.cells
  dsimp only at d0 d1 d2 d3 d4 d5 d6 d7 d8 d9 d10 d11 d12 d13
  clear i3 o3 N2
  go_wp2_with fail
  have N3 := Lib.hid (K3.out.putId id)
  generalize V3.setCell ⟨cb, 3, none⟩ (.string id) = U3 at *
  clear d0 d1 d2 d3 d4 d5 d6 d7 d8 d9 d10 d11 d12 d13 df dl K3
  refine (takeS_calls _ p s5 x5 us s9 x9 (by have := strT_tak s5 x5; rw [HhU.out] at this; exact this) N3.out.inn (HhT.out.below N3.out.bel)).mono ?_
  rintro e V4 ⟨rfl, i4, o4⟩
  have K4 := Lib.hid (N3.out.took i4 o4)
  obtain ⟨⟨⟨d0, d1, d2, d3, d4, d5, d6⟩, ⟨d7, d8, d9, d10, d11, d12, d13⟩, df⟩, dl⟩ := K4.out.cells
  dsimp only at d0 d1 d2 d3 d4 d5 d6 d7 d8 d9 d10 d11 d12 d13
  clear i4 o4 N3
  go_wp2_with fail
  have N4 := Lib.hid (K4.out.putUser us)
  generalize V4.setCell ⟨cb, 12, none⟩ (.string us) = U4 at *
  clear d0 d1 d2 d3 d4 d5 d6 d7 d8 d9 d10 d11 d12 d13 df dl K4
  refine (dataIn_calls _ p s9 x9 ty sy xy Hhy1.out pw s10 x10 Hhy2.out N4.out.inn).mono ?_
  rintro e V5 ⟨rfl, i5, o5⟩
  have K5 := Lib.hid (N4.out.took i5 (Chg.of_only o5))
  obtain ⟨⟨⟨d0, d1, d2, d3, d4, d5, d6⟩, ⟨d7, d8, d9, d10, d11, d12, d13⟩, df⟩, dl⟩ := K5.out.cells
  dsimp only at d0 d1 d2 d3 d4 d5 d6 d7 d8 d9 d10 d11 d12 d13
  clear i5 o5 N4
  go_wp2_with fail
  have N5 := Lib.hid (K5.out.putPass pw)
  generalize V5.setCell ⟨cb, 13, none⟩ (.string pw) = U5 at *
  clear d0 d1 d2 d3 d4 d5 d6 d7 d8 d9 d10 d11 d12 d13 df dl K5
  refine (end_calls _ p s10 x10 N5.out.inn).mono ?_
  rw [HhE.out]
  rintro e w9 ⟨rfl, rfl⟩
  obtain ⟨⟨r0, r1, r2, r3, r4, r5, r6⟩, ⟨r7, r8, r9, r10, r11, r12, r13⟩, rf⟩ := cells14 N5.out.res
  have rl := lt_of_block N5.out.res
  have hcb : w.heap.size < cb := Nat.lt_trans N5.out.hp N5.out.hc
  by_cases hE : E = 0
  · subst hE
    have hCC := HhC.out
    rw [if_pos rfl, HCF.out] at hCC
    subst hCC
    obtain ⟨⟨⟨d0, d1, d2, d3, d4, d5, d6⟩, ⟨d7, d8, d9, d10, d11, d12, d13⟩, df⟩, dl⟩ := N5.out.cells
    dsimp only at d0 d1 d2 d3 d4 d5 d6 d7 d8 d9 d10 d11 d12 d13
    go_wp2
    refine bodyPost_ret (v := .tuple #[.agg #[.bool B2, .int .u32 (numL tk.data.toList), .slice va2 ps.length vc2, .string id, .bool false, .slice none 0 0, .string ⟨#[]⟩, .string ⟨#[]⟩, .int .u8 Q, .bool B32, .bool true, .bool true, .string us, .string pw], .int .i64 0]) ?_ rfl ⟨.slice va2 ps.length vc2, .slice none 0 0, rfl, ?_, ?_, ?_⟩
    · simp [results, Tryd.results9, go_sem, r0, r1, r2, r3, r4, r5, r6, r7, r8, r9, r10, r11, r12, r13]
    · refine OwnP.mono ?_ (show w.heap.size ≤ cb + 1 by omega)
      iterate 14 (refine OwnP.set ?_ (Nat.lt_succ_of_lt hcb))
      exact N5.out.o1
    · refine OwnP.mono ?_ (show w.heap.size ≤ cb + 1 by omega)
      iterate 14 (refine OwnP.set ?_ (Nat.lt_succ_of_lt hcb))
      exact N5.out.o2
    · iterate 14 (refine below_set ?_ (Nat.le_refl _) _ _)
      exact N5.out.bel
  · have hEb : (E != 0) = true := by simpa using hE
    have hCC := HhC.out
    rw [if_neg hE] at hCC
    subst hCC
    go_wp2
    refine bodyPost_ret (v := .tuple #[.agg #[.bool false, .int .u32 0, .slice none 0 0, .string ⟨#[]⟩, .bool false, .slice none 0 0, .string ⟨#[]⟩, .string ⟨#[]⟩, .int .u8 0, .bool false, .bool false, .bool false, .string ⟨#[]⟩, .string ⟨#[]⟩], .int .i64 E]) ?_ rfl ⟨.slice none 0 0, .slice none 0 0, rfl, World.ownsRow_nil _ _ _ _, World.ownsRow_nil _ _ _ _, ?_⟩
    · simp [results, Tryd.results9, go_sem, r0, r1, r2, r3, r4, r5, r6, r7, r8, r9, r10, r11, r12, r13]
    · iterate 14 (refine below_set ?_ (Nat.le_refl _) _ _)
      exact N5.out.bel

end Go.Proofs.YtdhdjkpocdfjbabDoor
