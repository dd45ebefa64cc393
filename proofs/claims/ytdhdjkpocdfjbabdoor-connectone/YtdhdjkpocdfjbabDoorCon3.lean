/-
  A Connect's flags, taken. (No statement: contracts that the proofs of the statements use.)
-/
import Derived.Test.YtdhdjkpocdfjbabDoorCon2
namespace Go.Proofs.YtdhdjkpocdfjbabDoor
open Go.RowKit

/-- The cells of a Connect that has nothing. -/
abbrev cn0 : Array Value := #[.bool false, .int .u32 0, .slice none 0 0, .string ⟨#[]⟩, .bool false, .slice none 0 0, .string ⟨#[]⟩, .string ⟨#[]⟩, .int .u8 0, .bool false, .bool false, .bool false, .string ⟨#[]⟩, .string ⟨#[]⟩]

theorem cells14 {w : World} {b : Nat} {t : TypeId} {u0 u1 u2 u3 u4 u5 u6 u7 u8 u9 u10 u11 u12 u13 : Value} (h : w.heap[b]? = some (.cells #[u0, u1, u2, u3, u4, u5, u6, u7, u8, u9, u10, u11, u12, u13] t (0, 0))) :
    (w.cell? ⟨b, 0, none⟩ = some u0 ∧ w.cell? ⟨b, 1, none⟩ = some u1 ∧ w.cell? ⟨b, 2, none⟩ = some u2 ∧ w.cell? ⟨b, 3, none⟩ = some u3 ∧ w.cell? ⟨b, 4, none⟩ = some u4 ∧ w.cell? ⟨b, 5, none⟩ = some u5 ∧ w.cell? ⟨b, 6, none⟩ = some u6) ∧
    (w.cell? ⟨b, 7, none⟩ = some u7 ∧ w.cell? ⟨b, 8, none⟩ = some u8 ∧ w.cell? ⟨b, 9, none⟩ = some u9 ∧ w.cell? ⟨b, 10, none⟩ = some u10 ∧ w.cell? ⟨b, 11, none⟩ = some u11 ∧ w.cell? ⟨b, 12, none⟩ = some u12 ∧ w.cell? ⟨b, 13, none⟩ = some u13) ∧
    ∀ j, w.frozen? ⟨b, j, none⟩ = false := by
  simp [World.cell?, World.frozen?, h]

theorem Chg.setOwn {p b : Nat} {w W : World} (h : Chg p w W) (hb : w.heap.size ≤ b) (j : Nat) (u : Value) : Chg p w (W.setCell ⟨b, j, none⟩ u) :=
  ⟨h.os, h.tape, h.output, by simpa [World.setCell] using h.size, fun k hk hkp => (Below.heap_setCell W ⟨b, j, none⟩ u k (by show k ≠ b; omega)).trans (h.block k hk hkp)⟩
theorem InAt.far {p b : Nat} {W : World} {s : ByteArray} {x : Int} (h : InAt W p s x) (hb : p ≠ b) (j : Nat) (u : Value) : InAt (W.setCell ⟨b, j, none⟩ u) p s x := h.keep (Below.heap_setCell W ⟨b, j, none⟩ u p hb)

/-- The error behind the flags. -/
def flagX (f x : Int) : Int := if mayF f = true then x else failed x 2
/-- The Connect that the flags say. -/
def flagV (f : Int) : Value := .agg #[.bool (flB f 2), .int .u32 0, .slice none 0 0, .string ⟨#[]⟩, .bool (flB f 4), .slice none 0 0, .string ⟨#[]⟩, .string ⟨#[]⟩, .int .u8 (quaN f), .bool (flB f 32), .bool (flB f 128), .bool (flB f 64), .string ⟨#[]⟩, .string ⟨#[]⟩]
/-- What takeFlags answers, and leaves. -/
def FlagR (w : World) (p : Nat) (f : Int) (s : ByteArray) (x : Int) (e : Ending) (w' : World) : Prop := e = .returned (flagV f) ∧ TookS w p s x w'

set_option maxRecDepth 100000 in
set_option maxHeartbeats 1000000 in
theorem flags_calls (w : World) (p : Nat) (s : ByteArray) (x : Int) (h : InAt w p s x) (t s1 : ByteArray) (x1 : Int) (hr : rawT s x 1 = (t, s1, x1)) :
    Calls Tryd.prog 27 #[.pointer (some ⟨p, 0, none⟩)] w (FlagR w p (numL t.data.toList) s1 (flagX (numL t.data.toList) x1)) := by
  have hlt := num_lt1 s x t s1 x1 hr
  have HRW := Lib.hid hr
  have hp := h.lt
  have h0 := h.below (below_one w (.cells cn0 29))
  have c0 := heap_alloc_new w (.cells cn0 29)
  have g0 := Chg.of_below (p := p) (below_one w (.cells cn0 29))
  generalize hf : numL t.data.toList = F at *
  have HF := Lib.hid hf
  clear hf hr
  have e2 := flB_ne F 2
  have e4 := flB_ne F 4
  have e32 := flB_ne F 32
  have e64 := flB_ne F 64
  have e128 := flB_ne F 128
  have HMB := Lib.hid (fun W => maybe_calls W F (by omega) (by omega))
  have HQ := Lib.hid (fun W => qual_calls W F (by omega) (by omega))
  have HV := Lib.hid (show flagV F = .agg #[.bool (flB F 2), .int .u32 0, .slice none 0 0, .string ⟨#[]⟩, .bool (flB F 4), .slice none 0 0, .string ⟨#[]⟩, .string ⟨#[]⟩, .int .u8 (quaN F), .bool (flB F 32), .bool (flB F 128), .bool (flB F 64), .string ⟨#[]⟩, .string ⟨#[]⟩] from rfl)
  have HC0 := Lib.hid c0
  have HG0 := Lib.hid g0
  unfold flagX
  generalize hm : mayF F = M at *
  generalize flB F 2 = b2 at *
  generalize flB F 4 = b4 at *
  generalize flB F 32 = b32 at *
  generalize flB F 64 = b64 at *
  generalize flB F 128 = b128 at *
  generalize quaN F = q at *
  clear hm c0 g0 h
  cases M
  · rw [if_neg (by simp)]
    go_enter Tryd.func27, Tryd.ntmps27
    go_wp2_with fail
    generalize w.alloc (.cells cn0 29) = W0 at *
    refine (byteIn_calls _ p s x t s1 x1 HRW.out h0).mono ?_
    rw [HF.out]
    rintro e w1 ⟨rfl, i1, o1⟩
    have HC1 := Lib.hid ((o1.block w.heap.size (by omega)).trans HC0.out)
    have HG1 := Lib.hid (HG0.out.trans (Chg.of_only o1))
    clear h0 o1 HC0 HG0
    go_wp2_with fail
    refine (HMB.out _).mono ?_
    rintro e w2 ⟨rfl, rfl⟩
    go_wp2_with fail
    refine (fail_calls _ p s1 x1 2 i1).mono ?_
    rintro e w3 ⟨rfl, i3, o3⟩
    have HC3 := Lib.hid ((o3.block w.heap.size (by omega)).trans HC1.out)
    have HG3 := Lib.hid (HG1.out.trans (Chg.of_only o3))
    have I3 := Lib.hid i3
    clear i1 o3 HC1 HG1 i3
    go_wp2_with fail
    refine (HQ.out _).mono ?_
    rintro e w4 ⟨rfl, rfl⟩
    obtain ⟨⟨q0, q1, q2, q3, q4, q5, q6⟩, ⟨q7, q8, q9, q10, q11, q12, q13⟩, qf⟩ := cells14 HC3.out
    have hq := lt_of_block HC3.out
    go_wp2
    refine bodyPost_ret (v := .agg #[.bool b2, .int .u32 0, .slice none 0 0, .string ⟨#[]⟩, .bool b4, .slice none 0 0, .string ⟨#[]⟩, .string ⟨#[]⟩, .int .u8 q, .bool b32, .bool b128, .bool b64, .string ⟨#[]⟩, .string ⟨#[]⟩]) ?_ rfl ⟨by rw [HV.out], ?_, ?_⟩
    · simp [results, Tryd.results27, go_sem, q0, q1, q2, q3, q4, q5, q6, q7, q8, q9, q10, q11, q12, q13]
    · iterate 14 (refine InAt.far ?_ (Nat.ne_of_lt hp) _ _)
      exact I3.out
    · iterate 14 (refine Chg.setOwn ?_ (Nat.le_refl _) _ _)
      exact HG3.out
  · rw [if_pos rfl]
    go_enter Tryd.func27, Tryd.ntmps27
    go_wp2_with fail
    generalize w.alloc (.cells cn0 29) = W0 at *
    refine (byteIn_calls _ p s x t s1 x1 HRW.out h0).mono ?_
    rw [HF.out]
    rintro e w1 ⟨rfl, i1, o1⟩
    have HC1 := Lib.hid ((o1.block w.heap.size (by omega)).trans HC0.out)
    have HG1 := Lib.hid (HG0.out.trans (Chg.of_only o1))
    clear h0 o1 HC0 HG0
    go_wp2_with fail
    refine (HMB.out _).mono ?_
    rintro e w2 ⟨rfl, rfl⟩
    have HC3 := HC1
    have HG3 := HG1
    have I3 := Lib.hid i1
    clear i1 HC1 HG1
    go_wp2_with fail
    refine (HQ.out _).mono ?_
    rintro e w4 ⟨rfl, rfl⟩
    obtain ⟨⟨q0, q1, q2, q3, q4, q5, q6⟩, ⟨q7, q8, q9, q10, q11, q12, q13⟩, qf⟩ := cells14 HC3.out
    have hq := lt_of_block HC3.out
    go_wp2
    refine bodyPost_ret (v := .agg #[.bool b2, .int .u32 0, .slice none 0 0, .string ⟨#[]⟩, .bool b4, .slice none 0 0, .string ⟨#[]⟩, .string ⟨#[]⟩, .int .u8 q, .bool b32, .bool b128, .bool b64, .string ⟨#[]⟩, .string ⟨#[]⟩]) ?_ rfl ⟨by rw [HV.out], ?_, ?_⟩
    · simp [results, Tryd.results27, go_sem, q0, q1, q2, q3, q4, q5, q6, q7, q8, q9, q10, q11, q12, q13]
    · iterate 14 (refine InAt.far ?_ (Nat.ne_of_lt hp) _ _)
      exact I3.out
    · iterate 14 (refine Chg.setOwn ?_ (Nat.le_refl _) _ _)
      exact HG3.out

#print axioms flags_calls
end Go.Proofs.YtdhdjkpocdfjbabDoor
