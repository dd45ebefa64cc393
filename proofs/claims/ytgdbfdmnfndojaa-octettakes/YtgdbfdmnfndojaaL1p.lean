/-
  'put' of layer 1's statements: a thing on both. (No statement: a contract that the proofs of the statements use.)
-/
import Derived.Test.YtgdbfdmnfndojaaRef1
namespace Go.Proofs.Ytgdbfdmnfndojaa
open Go.RowKit

/-- The bytes of a thing. -/
def putB (k n : Int) (s : ByteArray) : List UInt8 :=
  if k = 1 then [UInt8.ofNat (n % 256).toNat] else if k = 2 then two n else if k = 3 then two (n / 65536) ++ two n else if k = 4 then varb 3 (min n.toNat 268435455)
  else if k = 5 then s.data.toList.take 50 else if k = 6 then two (s.data.toList.take 50).length ++ s.data.toList.take 50 else []

theorem putB_len (k n : Int) (s : ByteArray) : (putB k n s).length ≤ 52 := by
  have hv := varb_len 3 (min n.toNat 268435455)
  unfold putB
  repeat' split
  all_goals first | omega | (simp only [List.length_cons, List.length_nil, List.length_append, two_len, List.length_take]; omega) | simp

theorem min_clamp (n : Int) (h0 : 0 ≤ n) (h1 : n < 4294967296) : n = (min n.toNat 268435455 : Nat) ∨ (min n.toNat 268435455 = 268435455 ∧ 268435455 < n ∧ n < 4294967296) := by omega

section
variable {w w' : World} {o : Nat} {r r' : Option Nat} {bs : List UInt8} {ob : Obj}
theorem box_kept (h : OutAt w o r bs) (hs : Step (w.alloc ob) w' o r r') : w'.heap[w.heap.size]? = some ob := by
  rw [hs.block w.heap.size (by simp) (by have := h.lt; omega) (fun e => by have := h.row_lt _ e.symm; omega)]
  exact heap_alloc_new w ob
theorem step_box (w : World) (ob : Obj) (o : Nat) (r : Option Nat) : Step w (w.alloc ob) o r r := Step.of_below (below_one w ob) o r
theorem Put.below {w1 w2 : World} (h : Put w o r bs w1) (hb : Below w1.heap.size w1 w2) : Put w o r bs w2 := by
  obtain ⟨r1, h1, h2⟩ := h
  exact ⟨r1, h1.below hb, h2.trans (Step.of_below hb o r1)⟩
end

set_option maxHeartbeats 2000000 in
theorem put_calls (w : World) (o : Nat) (r : Option Nat) (bs : List UInt8) (k n : Int) (s : ByteArray) (h0 : 0 ≤ n) (h1 : n < 4294967296) (hs : s.size ≤ maxLen) (h : OutAt w o r bs) (hl : bs.length ≤ 100000) :
    Calls Try.prog 10 #[.pointer (some ⟨o, 0, none⟩), .agg #[.int .i64 k, .int .u32 n, .string s]] w fun e w' => e = .returned (.string (str (putB k n s))) ∧ Put w o r (bs ++ putB k n s) w' := by
  have hA := h.alloc (.cells #[.int .i64 k, .int .u32 n, .string s] 31)
  have HB : Hid (∀ w' r', Step (w.alloc (.cells #[.int .i64 k, .int .u32 n, .string s] 31)) w' o r r' → w'.cell? ⟨w.heap.size, 1, none⟩ = some (.int .u32 n)) := by
    intro w' r' hst
    have := box_kept h hst
    simp [World.cell?, this]
  have hst := step_box w (.cells #[.int .i64 k, .int .u32 n, .string s] 31) o r
  have hcut : s.extract 0 50 = str (s.data.toList.take 50) := ba_take s 50
  have hcl : (str (s.data.toList.take 50)).size ≤ 50 := by rw [str_size]; simp; omega
  clear h
  by_cases k1 : k = 1
  · subst k1
    rw [show putB 1 n s = [UInt8.ofNat (n % 256).toNat] by simp [putB]]
    generalize hq : UInt8.ofNat (n % 256).toNat = q
    have HQ := Lib.hid hq
    clear hq
    go_enter Try.func10, Try.ntmps10
    go_wp2_with fail
    refine (cut_calls _ s 50 hs).mono ?_
    rintro e w2 ⟨rfl, rfl⟩
    clear hcut hcl
    go_wp2_with fail
    refine (byte_calls _ o r bs _ (by omega) (by omega) hA (by omega)).mono ?_
    rintro e w3 ⟨rfl, r3, h3, s3⟩
    rw [HQ.out] at h3
    have hc := HB.out w3 r3 s3
    have hcv := conv1 w3 (n % 256)
    rw [HQ.out] at hcv
    have HP := Lib.hid (show Put w o r _ w3 from ⟨r3, h3, hst.trans s3⟩)
    clear HB h3 s3 hst hA
    go_wp2
    go_ret
    exact ⟨rfl, HP.out.below (below_one _ _)⟩
  by_cases k2 : k = 2
  · subst k2
    rw [show putB 2 n s = two n by simp [putB]]
    go_enter Try.func10, Try.ntmps10
    go_wp2_with fail
    refine (cut_calls _ s 50 hs).mono ?_
    rintro e w2 ⟨rfl, rfl⟩
    clear hcut hcl
    go_wp2_with fail
    refine (two_calls _ o r bs n h0 h1 hA (by omega)).mono ?_
    rintro e w3 ⟨rfl, r3, h3, s3⟩
    have hc := HB.out w3 r3 s3
    have HP := Lib.hid (show Put w o r _ w3 from ⟨r3, h3, hst.trans s3⟩)
    clear HB h3 s3 hst hA
    go_wp2_with fail
    refine (r1two_calls _ n h0 h1).mono ?_
    rintro e w4 ⟨rfl, b4⟩
    have HP4 := Lib.hid (HP.out.below b4)
    clear b4 HP hc
    go_wp2
    go_ret
    exact ⟨rfl, HP4.out⟩
  by_cases k3 : k = 3
  · subst k3
    rw [show putB 3 n s = two (n / 65536) ++ two n by simp [putB]]
    go_enter Try.func10, Try.ntmps10
    go_wp2_with fail
    refine (cut_calls _ s 50 hs).mono ?_
    rintro e w2 ⟨rfl, rfl⟩
    clear hcut hcl
    go_wp2_with fail
    refine (four_calls _ o r bs n h0 h1 hA (by omega)).mono ?_
    rintro e w3 ⟨rfl, r3, h3, s3⟩
    have hc := HB.out w3 r3 s3
    have HP := Lib.hid (show Put w o r _ w3 from ⟨r3, h3, hst.trans s3⟩)
    clear HB h3 s3 hst hA
    go_wp2_with fail
    refine (r1four_calls _ n h0 h1).mono ?_
    rintro e w4 ⟨rfl, b4⟩
    have HP4 := Lib.hid (HP.out.below b4)
    clear b4 HP hc
    go_wp2
    go_ret
    exact ⟨rfl, HP4.out⟩
  by_cases k4 : k = 4
  · subst k4
    rw [show putB 4 n s = varb 3 (min n.toNat 268435455) by simp [putB]]
    have HM := Lib.hid (min_clamp n h0 h1)
    have hN : min n.toNat 268435455 ≤ 268435455 := by omega
    generalize min n.toNat 268435455 = N at *
    go_enter Try.func10, Try.ntmps10
    go_wp2_with fail
    refine (cut_calls _ s 50 hs).mono ?_
    rintro e w2 ⟨rfl, rfl⟩
    clear hcut hcl
    go_wp2_with fail
    refine (var_any _ o r bs n N hN HM.out hA (by omega)).mono ?_
    rintro e w3 ⟨rfl, r3, h3, s3⟩
    have hc := HB.out w3 r3 s3
    have HP := Lib.hid (show Put w o r _ w3 from ⟨r3, h3, hst.trans s3⟩)
    clear HB h3 s3 hst hA
    go_wp2_with fail
    refine (r1var_any _ n N hN HM.out).mono ?_
    rintro e w4 ⟨rfl, b4⟩
    have HP4 := Lib.hid (HP.out.below b4)
    clear b4 HP hc
    go_wp2
    go_ret
    exact ⟨rfl, HP4.out⟩
  by_cases k5 : k = 5
  · subst k5
    rw [show putB 5 n s = s.data.toList.take 50 by simp [putB]]
    generalize s.data.toList.take 50 = L at *
    go_enter Try.func10, Try.ntmps10
    go_wp2_with fail
    refine (cut_calls _ s 50 hs).mono ?_
    rintro e w2 ⟨rfl, rfl⟩
    rw [hcut]
    clear hcut
    go_wp2_with fail
    refine (raw_calls _ o r bs (str L) hA (by omega)).mono ?_
    rw [str_data]
    rintro e w3 ⟨rfl, r3, h3, s3⟩
    have HP := Lib.hid (show Put w o r _ w3 from ⟨r3, h3, hst.trans s3⟩)
    clear HB h3 s3 hst hA
    go_wp2
    go_ret
    exact ⟨rfl, HP.out⟩
  by_cases k6 : k = 6
  · subst k6
    rw [show putB 6 n s = two (s.data.toList.take 50).length ++ s.data.toList.take 50 by simp [putB]]
    generalize s.data.toList.take 50 = L at *
    go_enter Try.func10, Try.ntmps10
    go_wp2_with fail
    refine (cut_calls _ s 50 hs).mono ?_
    rintro e w2 ⟨rfl, rfl⟩
    rw [hcut]
    clear hcut
    go_wp2_with fail
    refine (data_calls _ o r bs (str L) hA (by omega) (by omega)).mono ?_
    rw [str_data, str_size]
    rintro e w3 ⟨rfl, r3, h3, s3⟩
    have HP := Lib.hid (show Put w o r _ w3 from ⟨r3, h3, hst.trans s3⟩)
    clear HB h3 s3 hst hA
    go_wp2_with fail
    refine (r1data_calls _ (str L) (by omega)).mono ?_
    rw [str_data, str_size]
    rintro e w4 ⟨rfl, b4⟩
    have HP4 := Lib.hid (HP.out.below b4)
    clear b4 HP
    go_wp2
    go_ret
    exact ⟨rfl, HP4.out⟩
  have e1 : (k == 1) = false := by simp [k1]
  have e2 : (k == 2) = false := by simp [k2]
  have e3 : (k == 3) = false := by simp [k3]
  have e4 : (k == 4) = false := by simp [k4]
  have e5 : (k == 5) = false := by simp [k5]
  have e6 : (k == 6) = false := by simp [k6]
  rw [show putB k n s = [] by simp [putB, k1, k2, k3, k4, k5, k6], List.append_nil]
  clear k1 k2 k3 k4 k5 k6
  have HP := Lib.hid (show Put w o r bs (w.alloc (.cells #[.int .i64 k, .int .u32 n, .string s] 31)) from ⟨r, hA, hst⟩)
  clear HB hst hA hcl
  go_enter Try.func10, Try.ntmps10
  go_wp2_with fail
  refine (cut_calls _ s 50 hs).mono ?_
  rintro e w2 ⟨rfl, rfl⟩
  clear hcut
  go_wp2
  go_ret
  exact ⟨rfl, HP.out⟩

#print axioms put_calls
end Go.Proofs.Ytgdbfdmnfndojaa
