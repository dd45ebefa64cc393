/-
  Flags, sizes and texts of packets. (No statement: contracts that the proofs of the statements use.)
-/
import Derived.Test.YtdhdjkpocdfjbaaPure2
import Derived.Laws.BitsAllLaws
import Derived.Test.YtdhdjkpocdfjbaaOpen
import Derived.Test.YtdhdjkpocdfjbaaRef1b
import Derived.Deep.RegionHeld3
namespace Go.Proofs.Ytdhdjkpocdfjbaa
open Go.RowKit

theorem ret_bool {a b : Bool} (h : a = b) : Ending.returned (.bool a) = .returned (.bool b) := by rw [h]
theorem ret_str {a b : List UInt8} (h : b = a) : Ending.returned (.string (str a)) = .returned (.string (str b)) := by rw [h]
theorem ret_int {k : IntKind} {a b : Int} (h : a = b) : Ending.returned (.int k a) = .returned (.int k b) := by rw [h]

theorem Step.drew {w w' : World} {o : Nat} {r r' : Option Nat} (h : Step w w' o r r') : Step w w'.drew o r r' := ⟨h.os, h.tape, h.output, h.size, h.block, h.row⟩
theorem row_other {w w' : World} {o b : Nat} {r r' : Option Nat} (h : Step w w' o r r') (hb : b < w.heap.size) (hne : some b ≠ r) : some b ≠ r' := by
  rcases h.row with e | ⟨g, e, hg⟩
  · rw [e]; exact hne
  · rw [e]; intro e'; injection e' with e'; omega

/-- May these be a Publish's flags? -/
def pubB (b : Int) : Bool := decide (0 ≤ b) && (decide (b < 16) && (if b / 2 % 4 = 0 then decide (b < 8) else decide (b / 2 % 4 ≤ 2)))
/-- May these be flags of a kind? -/
def arB (k b : Int) : Bool := if k = 3 then pubB b else if k = 6 ∨ k = 8 ∨ k = 10 then decide (b = 2) else decide (b = 0)
/-- May a first byte be? -/
def chkB (k b : Int) : Bool := decide (1 ≤ k) && (decide (k ≤ 15) && arB k b)

theorem i64_and15 (n : Int) : bits .and .i64 n 15 = n % 16 := by
  have h15 : (BitVec.ofInt 64 15).toNat = 2 ^ 4 - 1 := by decide
  have key : (BitVec.ofInt 64 n &&& BitVec.ofInt 64 15).toNat = (n % ((2 ^ 64 : Nat) : Int)).toNat % 2 ^ 4 := by
    rw [BitVec.toNat_and, BitVec.toNat_ofInt, h15, Nat.and_two_pow_sub_one_eq_mod]
  show IntKind.i64.wrap ((BitVec.ofInt 64 n &&& BitVec.ofInt 64 15).toNat : Nat) = n % 16
  rw [key, IntKind.wrap_i64]
  omega

theorem upto15 (b : Int) (h0 : 0 ≤ b) (h1 : b < 16) : b = 0 ∨ b = 1 ∨ b = 2 ∨ b = 3 ∨ b = 4 ∨ b = 5 ∨ b = 6 ∨ b = 7 ∨ b = 8 ∨ b = 9 ∨ b = 10 ∨ b = 11 ∨ b = 12 ∨ b = 13 ∨ b = 14 ∨ b = 15 := by omega

set_option maxHeartbeats 1000000 in
theorem pub_calls (w : World) (b : Int) :
    Calls Try.prog 38 #[.int .i64 b] w fun e w' => e = .returned (.bool (pubB b)) ∧ w = w' := by
  by_cases hb : 0 ≤ b ∧ b < 16
  · obtain ⟨h0, h1⟩ := hb
    rcases upto15 b h0 h1 with rfl | rfl | rfl | rfl | rfl | rfl | rfl | rfl | rfl | rfl | rfl | rfl | rfl | rfl | rfl | rfl
    all_goals
      clear h0 h1
      go_enter Try.func38, Try.ntmps38
      go_wp2
      go_ret
      exact ⟨ret_bool (by decide), rfl⟩
  · have e : pubB b = false := by unfold pubB; by_cases h : 0 ≤ b <;> simp [h]; omega
    have hn : (b != b % 16) = true := by simp; omega
    have hn' : (b != bits .and .i64 b 15) = true := by rw [i64_and15]; exact hn
    rw [e]
    clear e hb
    go_enter Try.func38, Try.ntmps38
    go_wp2
    go_ret
    exact ⟨rfl, rfl⟩

set_option maxHeartbeats 1000000 in
theorem are_calls (w : World) (k b : Int) :
    Calls Try.prog 24 #[.int .i64 k, .int .i64 b] w fun e w' => e = .returned (.bool (arB k b)) ∧ w = w' := by
  by_cases h3 : k = 3
  · subst h3
    rw [show arB 3 b = pubB b from rfl]
    generalize hv : pubB b = v
    have HV := Lib.hid hv
    clear hv
    go_enter Try.func24, Try.ntmps24
    go_wp2_with fail
    refine (pub_calls _ b).mono ?_
    rw [HV.out]
    rintro e w1 ⟨rfl, rfl⟩
    go_wp2
    go_ret
    exact ⟨rfl, rfl⟩
  by_cases h6 : k = 6 ∨ k = 8 ∨ k = 10
  · have e : arB k b = decide (b = 2) := by unfold arB; rw [if_neg h3, if_pos h6]
    rw [e]
    clear e h3
    rcases h6 with rfl | rfl | rfl
    all_goals
      go_enter Try.func24, Try.ntmps24
      go_wp2
      go_ret
      exact ⟨ret_bool (by rw [Bool.eq_iff_iff]; simp), rfl⟩
  · have e : arB k b = decide (b = 0) := by unfold arB; rw [if_neg h3, if_neg h6]
    rw [e]
    have k3 : (k == 3) = false := by simpa using h3
    have k6 : (k == 6) = false := by simp; omega
    have k8 : (k == 8) = false := by simp; omega
    have k10 : (k == 10) = false := by simp; omega
    clear e h3 h6
    go_enter Try.func24, Try.ntmps24
    go_wp2
    go_ret
    exact ⟨ret_bool (by rw [Bool.eq_iff_iff]; simp), rfl⟩

theorem check_calls (w : World) (k b : Int) :
    Calls Try.prog 16 #[.int .i64 k, .int .i64 b] w fun e w' => e = .returned (.int .i64 (if chkB k b = true then 0 else 2)) ∧ w = w' := by
  by_cases h1 : k < 1
  · have e : chkB k b = false := by unfold chkB; simp; omega
    rw [e]
    clear e
    go_enter Try.func16, Try.ntmps16
    go_wp2
    go_ret
    exact ⟨rfl, rfl⟩
  by_cases h15 : 15 < k
  · have e : chkB k b = false := by unfold chkB; simp; omega
    rw [e]
    clear e
    go_enter Try.func16, Try.ntmps16
    go_wp2
    go_ret
    exact ⟨rfl, rfl⟩
  have e : chkB k b = arB k b := by unfold chkB; rw [decide_eq_true (show 1 ≤ k by omega), decide_eq_true (show k ≤ 15 by omega)]; simp
  rw [e]
  clear e
  generalize hv : arB k b = v
  have HV := Lib.hid hv
  clear hv
  cases v
  all_goals
    go_enter Try.func16, Try.ntmps16
    go_wp2_with fail
    refine (are_calls _ k b).mono ?_
    rw [HV.out]
    rintro e w1 ⟨rfl, rfl⟩
    clear HV
    go_wp2
    go_ret
    exact ⟨rfl, rfl⟩

theorem number5_calls (w : World) (n : Nat) (hn : n ≤ 268435455) :
    Calls Try.prog 27 #[.int .i64 n] w fun e w' => e = .returned (.int .u32 n) ∧ w = w' := by
  have e1 : (if (n : Int) < 0 then 0 else (n : Int)) = n := if_neg (by omega)
  have e2 : (if (268435455 : Int) < (n : Int) then 268435455 else (n : Int)) = n := if_neg (by omega)
  go_enter Try.func27, Try.ntmps27
  go_wp2
  go_ret
  exact ⟨rfl, rfl⟩

theorem fsize_calls (w : World) (n : Nat) (hn : n ≤ 268435455) :
    Calls Try.prog 19 #[.int .i64 n] w fun e w' => e = .returned (.int .i64 ((1 + (varb 3 n).length + n : Nat) : Int)) ∧ w = w' := by
  have hl := varb_len 3 n
  generalize hm : (varb 3 n).length = m at *
  have HM := Lib.hid hm
  clear hm
  go_enter Try.func19, Try.ntmps19
  go_wp2_with fail
  refine (number5_calls _ n hn).mono ?_
  rintro e w1 ⟨rfl, rfl⟩
  go_wp2_with fail
  refine (size_calls _ n (by omega) (by omega)).mono ?_
  rw [Int.toNat_natCast, HM.out]
  rintro e w1 ⟨rfl, rfl⟩
  go_wp2
  go_ret
  exact ⟨ret_int (by omega), rfl⟩

theorem or_flags (k f : Nat) (hk : k ≤ 15) (hf : f ≤ 15) : bits .or .i64 ((k : Int) * 16) (f : Int) = (k : Int) * 16 + f := by
  have key : ∀ k : Fin 16, ∀ f : Fin 16, bits .or .i64 ((k.val : Int) * 16) (f.val : Int) = (k.val : Int) * 16 + f.val := by decide +kernel
  exact key ⟨k, by omega⟩ ⟨f, by omega⟩

/-- A packet's bytes. -/
def frameL (k f : Nat) (b : List UInt8) : List UInt8 := [UInt8.ofNat (k * 16 + f)] ++ varb 3 b.length ++ b

set_option maxRecDepth 100000 in
set_option maxHeartbeats 1000000 in
theorem ftext_calls (w : World) (k f : Nat) (hk : k ≤ 15) (hf : f ≤ 15) (b : List UInt8) (hb : b.length ≤ 268435455) :
    Calls Try.prog 18 #[.agg #[.int .i64 k, .int .i64 f, .string (str b)]] w fun e w' => e = .returned (.string (str (frameL k f b))) ∧ Below w.heap.size w w' := by
  have hor := or_flags k f hk hf
  have hsz := str_size b
  have hsd := str_data b
  have hand : bits .and .i64 (f : Int) 15 = (f : Int) := by rw [i64_and15]; omega
  have hmod : ((k : Int) * 16 + f) % 256 = (k : Int) * 16 + f := by omega
  have hto : ((k : Int) * 16 + f).toNat = k * 16 + f := by omega
  have hfl : frameL k f b = ([] ++ [UInt8.ofNat (k * 16 + f)] ++ varb 3 b.length) ++ b := by simp [frameL]
  have hlen := varb_len 3 b.length
  rw [hfl]
  clear hfl
  generalize hS : str b = S at *
  have HSD := Lib.hid hsd
  have HSZ := Lib.hid hsz
  have HTO := Lib.hid hto
  have hsb : S.size ≤ 268435455 := by omega
  clear hsd hsz hS hto
  go_enter Try.func18, Try.ntmps18
  go_wp2_with fail
  clear hand hor hmod
  refine (byte_calls _ (w.heap.size + 1) none [] _ (by omega) (by omega) ?_ (by simp)).mono ?_
  · have := OutAt.new (w.alloc (.cells #[.int .i64 k, .int .i64 f, .string S] 37))
    simpa using this
  rw [HTO.out]
  rintro e w2 ⟨rfl, r2, h2, s2⟩
  have hbox : w2.heap[w.heap.size]? = some (.cells #[.int .i64 k, .int .i64 f, .string S] 37) := by
    rw [s2.block w.heap.size (by simp; omega) (by omega) (by simp), Below.heap_alloc _ _ _ (by simp)]
    exact heap_alloc_new w _
  have bel2 : Below w.heap.size w w2 := (below_two w _ _).trans (s2.below (by simp; omega) (by omega) (fun g hg => by cases hg))
  have hrow2 : ∀ g, r2 = some g → w.heap.size + 2 ≤ g := s2.row_ge (by simp) (fun g hg => by cases hg)
  generalize hB0 : [] ++ [UInt8.ofNat (k * 16 + f)] = B0 at *
  have hB0l : B0.length = 1 := by rw [← hB0]; rfl
  generalize hV : varb 3 b.length = V at *
  have HV := Lib.hid hV
  have HB0 := Lib.hid hB0
  clear hB0 hV s2
  have HL := Lib.hid hB0l
  have hBl : B0.length ≤ 1 := by omega
  clear hB0l
  have c2 : w2.cell? ⟨w.heap.size, 2, none⟩ = some (.string S) := by simp [World.cell?, hbox]
  have HBOX := Lib.hid hbox
  have BEL := Lib.hid bel2
  clear hbox bel2
  go_wp2_with fail
  have OD := Lib.hid (show OutAt w2.drew (w.heap.size + 1) r2 B0 from h2)
  have HS0 := Lib.hid (show w2.drew.cell? ⟨w.heap.size, 2, none⟩ = some (.string S) from c2)
  have hbo : w.heap.size ≠ w.heap.size + 1 := by omega
  have hbr : some w.heap.size ≠ r2 := fun e => by have := hrow2 _ e.symm; omega
  have hlt2 : w.heap.size < w2.drew.heap.size := lt_of_block (show w2.drew.heap[w.heap.size]? = _ from HBOX.out)
  clear h2 c2
  go_region_held3 (fun wx => wx.cell? ⟨w.heap.size, 2, none⟩ = some (.string S))
    (first | exact HS0.out | exact K3.out | exact K4.out | exact K5.out | fail)
    (first
      | (go_at_call 27; (with_reducible refine (number5_calls _ S.size hsb).mono ?_); rintro e w' ⟨rfl, rfl⟩)
      | (go_at_call 26; (with_reducible refine (var_any _ (w.heap.size + 1) r2 B0 _ S.size hsb (.inl rfl) OD.out (by omega)).mono ?_); rw [HSZ.out, HV.out]; rintro e w3 ⟨rfl, r3, h3, s3⟩; have hbr3 := row_other s3 hlt2 hbr; have K3 := Lib.hid (show w3.cell? ⟨w.heap.size, 2, none⟩ = some (.string S) from (World.cell?_of_block (s3.block _ hlt2 hbo hbr)).trans HS0.out); have S3 := Lib.hid s3; clear s3)
      | (go_at_call 28; (with_reducible refine (raw_calls _ (w.heap.size + 1) r3 _ S h3 (by rw [List.length_append]; omega)).mono ?_); rw [HSD.out]; rintro e w4 ⟨rfl, r4, h4, s4⟩; have K4 := Lib.hid (show w4.cell? ⟨w.heap.size, 2, none⟩ = some (.string S) from (World.cell?_of_block (s4.block _ (Nat.lt_of_lt_of_le hlt2 S3.out.size) hbo hbr3)).trans K3.out); have S4 := Lib.hid s4; clear s4)
      | (go_at_call 29; (with_reducible refine (text_calls _ (w.heap.size + 1) r4 _ h4).mono ?_); rintro e w' ⟨rfl, rfl⟩))
  rename_i hHeld
  have hB : Below w.heap.size w w4 := by
    have h34 := (S3.out.trans S4.out)
    have hbl : Below w.heap.size w2.drew w4 := h34.below (Nat.le_of_lt hlt2) (by omega) (fun g hg => by have := hrow2 g hg; omega)
    exact BEL.out.drew.trans hbl
  have HB := Lib.hid hB
  clear hB hHeld h4 h3 S3 S4 K3 K4 OD HS0 hrow2 hbr3
  go_wp2
  go_ret
  exact ⟨ret_str (by rw [HV.out, ← HB0.out]; rfl), HB.out⟩

#print axioms ftext_calls
end Go.Proofs.Ytdhdjkpocdfjbaa
