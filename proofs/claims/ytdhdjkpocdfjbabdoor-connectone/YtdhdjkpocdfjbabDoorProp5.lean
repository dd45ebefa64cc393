/-
  Properties put: pairs; lists. (No statement: contracts that the proofs of the statements use.)
-/
import Derived.Test.YtdhdjkpocdfjbabDoorProp4
import Derived.Deep.RegionHeld3
namespace Go.Proofs.YtdhdjkpocdfjbabDoor
open Go.RowKit

theorem Step.drew {w w' : World} {o : Nat} {r r' : Option Nat} (h : Step w w' o r r') : Step w w'.drew o r r' := ⟨h.os, h.tape, h.output, h.size, h.block, h.row⟩
theorem row_other {w w' : World} {o b : Nat} {r r' : Option Nat} (h : Step w w' o r r') (hb : b < w.heap.size) (hne : some b ≠ r) : some b ≠ r' := by
  rcases h.row with e | ⟨g, e, hg⟩
  · rw [e]; exact hne
  · rw [e]; intro e'; injection e' with e'; omega

set_option maxRecDepth 100000 in
set_option maxHeartbeats 1000000 in
theorem putOne_7 (w : World) (o : Nat) (r : Option Nat) (bs : List UInt8) (p : Pr) (hp : p.ok) (h : OutAt w o r bs) (hl : bs.length ≤ 900000000) (hk : (ruleL p.id).kind = 7) :
    Calls Tryd.prog 75 #[.pointer (some ⟨o, 0, none⟩), prV p] w (PutP w o r (bs ++ oneL p)) := by
  have hr := (kind_range p.id).1
  have he : oneL p = varb 3 p.id.toNat ++ ((two p.s.size ++ p.s.data.toList) ++ (two p.t.size ++ p.t.data.toList)) := by unfold oneL saysL; rw [hk]; rfl
  rw [he]
  clear he
  have hst := step_box w (.cells #[.int .i64 p.id, .int .u32 p.n, .string p.s, .string p.t] 87) o r
  have hA := h.alloc (.cells #[.int .i64 p.id, .int .u32 p.n, .string p.s, .string p.t] 87)
  have hbox : BoxAt (w.alloc (.cells #[.int .i64 p.id, .int .u32 p.n, .string p.s, .string p.t] 87)) w.heap.size p := heap_alloc_new w _
  have hbo : w.heap.size ≠ o := by have := h.lt; omega
  have hbr : some w.heap.size ≠ r := fun e => by have := h.row_lt _ e.symm; omega
  obtain ⟨i, n, s, t⟩ := p
  simp only at hk hst hA hbox
  obtain ⟨n0, n1, s1, t1⟩ := hp
  simp only at n0 n1 s1 t1
  have HK := Lib.hid hk
  clear hk h
  have hi : 1 ≤ i ∧ i ≤ 42 := by rcases hr with e | e; (· rw [HK.out] at e; exact absurd e (by decide)); exact e
  obtain ⟨i1, i2⟩ := hi
  simp only
  clear hr
  go_enter Tryd.func75, Tryd.ntmps75
  go_wp2_with fail
  refine (kind3_calls _ i).mono ?_
  rw [HK.out]
  rintro e w1 ⟨rfl, b1⟩
  have box1 := hbox.below b1
  have out1 := hA.below b1
  have st1 := hst.trans (Step.of_below b1 o r)
  clear b1 hbox hA hst HK
  have c0 := box1.c0
  simp only at c0
  go_wp2_with fail
  refine (var_any _ o r bs i i.toNat (by omega) (.inl (by omega)) out1 (by omega)).mono ?_
  rintro e w2 ⟨rfl, r2, h2, s2⟩
  have box2 := box1.step s2 hbo hbr
  have st2 := st1.trans s2
  have hbr2 : some w.heap.size ≠ r2 := by
    rcases s2.row with e | ⟨g, e, hg⟩
    · rw [e]; exact hbr
    · have := lt_of_block box1
      rw [e]; intro e'; injection e' with e'; omega
  have vl := varb_len 3 i.toNat
  generalize hV : varb 3 i.toNat = V at *
  have hL : (bs ++ V).length ≤ 900000004 := by rw [List.length_append]; omega
  clear c0 s2 st1 out1 box1 hbr hV vl
  have c2 := box2.c2
  have c3 := box2.c3
  simp only at c2 c3
  generalize hB : bs ++ V = B at *
  have HBB := Lib.hid hB
  clear hB
  have hd1 : (two s.size ++ s.data.toList).length ≤ 65537 := data_len s s1
  generalize hD1 : two s.size ++ s.data.toList = D1 at *
  generalize hD2 : two t.size ++ t.data.toList = D2 at *
  have HD1 := Lib.hid hD1
  have HD2 := Lib.hid hD2
  clear hD1 hD2
  go_wp2_with fail
  have od : OutAt w2.drew o r2 B := h2
  have OD := Lib.hid od
  have hS0 : w2.drew.cell? ⟨w.heap.size, 2, none⟩ = some (.string s) ∧ w2.drew.cell? ⟨w.heap.size, 3, none⟩ = some (.string t) := ⟨c2, c3⟩
  have HS0 := Lib.hid hS0
  have bd : BoxAt w2.drew w.heap.size ⟨i, n, s, t⟩ := box2
  have BD := Lib.hid bd
  have sd : Step w w2.drew o r r2 := st2.drew
  have SD := Lib.hid sd
  clear od hS0 bd sd
  go_region_held3 (fun wx => wx.cell? ⟨w.heap.size, 2, none⟩ = some (.string s) ∧ wx.cell? ⟨w.heap.size, 3, none⟩ = some (.string t))
    (first | exact HS0.out | exact K3.out | exact K4.out | fail)
    (first
      | (go_at_call 44; (with_reducible refine (data_calls _ o r2 B s OD.out s1 (by omega)).mono ?_); rw [HD1.out]; rintro e w3 ⟨rfl, r3, h3, s3⟩; have box3 := BD.out.step s3 hbo hbr2; have K3 := Lib.hid (show w3.cell? ⟨w.heap.size, 2, none⟩ = some (.string s) ∧ w3.cell? ⟨w.heap.size, 3, none⟩ = some (.string t) from ⟨box3.c2, box3.c3⟩); have hbr3 := row_other s3 (lt_of_block BD.out) hbr2; have BX3 := Lib.hid box3; have S3 := Lib.hid s3; clear box3 s3)
      | (go_at_call 44; (with_reducible refine (data_calls _ o r3 _ t h3 t1 (by rw [List.length_append]; omega)).mono ?_); rw [HD2.out]; rintro e w4 ⟨rfl, r4, h4, s4⟩; have box4 := BX3.out.step s4 hbo hbr3; have K4 := Lib.hid (show w4.cell? ⟨w.heap.size, 2, none⟩ = some (.string s) ∧ w4.cell? ⟨w.heap.size, 3, none⟩ = some (.string t) from ⟨box4.c2, box4.c3⟩); clear box4))
  rename_i hHeld
  have HP := Lib.hid (show Put w o r _ w4 from ⟨r4, h4, (SD.out.trans S3.out).trans s4⟩)
  clear hHeld h4 s4 h3 S3 BX3 K3 K4 SD BD HS0 OD h2 st2 box2 c2 c3
  go_wp2
  go_end0
  refine ⟨rfl, ?_⟩
  rw [← List.append_assoc, HBB.out, ← List.append_assoc]
  exact HP.out

theorem putOne_calls (w : World) (o : Nat) (r : Option Nat) (bs : List UInt8) (p : Pr) (hp : p.ok) (h : OutAt w o r bs) (hl : bs.length ≤ 900000000) :
    Calls Tryd.prog 75 #[.pointer (some ⟨o, 0, none⟩), prV p] w (PutP w o r (bs ++ oneL p)) := by
  rcases (kind_range p.id).2 with h0 | h0 | h0 | h0 | h0 | h0 | h0 | h0
  · exact putOne_0 w o r bs p hp h hl h0
  · exact putOne_1 w o r bs p hp h hl h0
  · exact putOne_2 w o r bs p hp h hl h0
  · exact putOne_3 w o r bs p hp h hl h0
  · exact putOne_4 w o r bs p hp h hl h0
  · exact putOne_5 w o r bs p hp h hl h0
  · exact putOne_6 w o r bs p hp h hl h0
  · exact putOne_7 w o r bs p hp h hl h0

#print axioms putOne_calls
end Go.Proofs.YtdhdjkpocdfjbabDoor
