/-
  The calls of octet.In, second part. (No statement: contracts that the proofs of the statements use.)
-/
import Derived.Test.YtdhdjkpocdfjbabDoorIn
namespace Go.Proofs.YtdhdjkpocdfjbabDoor
open Go.RowKit

theorem num_lt1 (s : ByteArray) (x : Int) (t s' : ByteArray) (x' : Int) (hr : rawT s x 1 = (t, s', x')) : numL t.data.toList < 256 := by
  have hsz : t.size ≤ 1 := by have := rawT_size s x 1; rw [hr] at this; dsimp only at this; omega
  exact Nat.lt_of_lt_of_le (numL_lt _) (Nat.le_trans (Nat.pow_le_pow_right (by omega) (show t.data.toList.length ≤ 1 by simpa using hsz)) (by omega))
theorem num_lt2 (s : ByteArray) (x : Int) (t s' : ByteArray) (x' : Int) (hr : rawT s x 2 = (t, s', x')) : numL t.data.toList < 65536 := by
  have hsz : t.size ≤ 2 := by have := rawT_size s x 2; rw [hr] at this; dsimp only at this; omega
  exact Nat.lt_of_lt_of_le (numL_lt _) (Nat.le_trans (Nat.pow_le_pow_right (by omega) (show t.data.toList.length ≤ 2 by simpa using hsz)) (by omega))

theorem byteIn_calls (w : World) (p : Nat) (s : ByteArray) (x : Int) (t s' : ByteArray) (x' : Int) (hr : rawT s x 1 = (t, s', x')) (h : InAt w p s x) :
    Calls Tryd.prog 39 #[.pointer (some ⟨p, 0, none⟩)] w fun e w' => e = .returned (.int .u8 (numL t.data.toList)) ∧ Took w p s' x' w' := by
  have hb := num_lt1 s x t s' x' hr
  have HR := Lib.hid hr
  clear hr
  go_enter Tryd.func39, Tryd.ntmps39
  go_wp2_with fail
  refine (number_calls _ p s x 1 t s' x' HR.out h (by omega)).mono ?_
  rintro e w1 ⟨rfl, ht⟩
  have HT := Lib.hid ht
  clear ht h
  go_wp2
  go_ret
  exact ⟨rfl, HT.out⟩

theorem twoIn_calls (w : World) (p : Nat) (s : ByteArray) (x : Int) (t s' : ByteArray) (x' : Int) (hr : rawT s x 2 = (t, s', x')) (h : InAt w p s x) :
    Calls Tryd.prog 28 #[.pointer (some ⟨p, 0, none⟩)] w fun e w' => e = .returned (.int .u32 (numL t.data.toList)) ∧ Took w p s' x' w' := by
  have HR := Lib.hid hr
  clear hr
  go_enter Tryd.func28, Tryd.ntmps28
  go_wp2_with fail
  refine (number_calls _ p s x 2 t s' x' HR.out h (by omega)).mono ?_
  rintro e w1 ⟨rfl, ht⟩
  have HT := Lib.hid ht
  clear ht h
  go_wp2
  go_ret
  exact ⟨rfl, HT.out⟩

theorem fourIn_calls (w : World) (p : Nat) (s : ByteArray) (x : Int) (t s' : ByteArray) (x' : Int) (hr : rawT s x 4 = (t, s', x')) (h : InAt w p s x) :
    Calls Tryd.prog 94 #[.pointer (some ⟨p, 0, none⟩)] w fun e w' => e = .returned (.int .u32 (numL t.data.toList)) ∧ Took w p s' x' w' := by
  have HR := Lib.hid hr
  clear hr
  go_enter Tryd.func94, Tryd.ntmps94
  go_wp2_with fail
  refine (number_calls _ p s x 4 t s' x' HR.out h (by omega)).mono ?_
  rintro e w1 ⟨rfl, ht⟩
  have HT := Lib.hid ht
  clear ht h
  go_wp2
  go_ret
  exact ⟨rfl, HT.out⟩

theorem Took.trans {w1 w2 w3 : World} {p : Nat} {s s' : ByteArray} {x x' : Int} (h : Took w1 p s x w2) (k : Took w2 p s' x' w3) : Took w1 p s' x' w3 := ⟨k.1, h.2.trans k.2⟩

theorem dataIn_calls (w : World) (p : Nat) (s : ByteArray) (x : Int) (t s1 : ByteArray) (x1 : Int) (hr : rawT s x 2 = (t, s1, x1)) (t2 s2 : ByteArray) (x2 : Int) (hr2 : rawT s1 x1 (numL t.data.toList) = (t2, s2, x2)) (h : InAt w p s x) :
    Calls Tryd.prog 31 #[.pointer (some ⟨p, 0, none⟩)] w fun e w' => e = .returned (.string t2) ∧ Took w p s2 x2 w' := by
  have hb := num_lt2 s x t s1 x1 hr
  have HR := Lib.hid hr
  have HR2 := Lib.hid hr2
  clear hr hr2
  go_enter Tryd.func31, Tryd.ntmps31
  go_wp2_with fail
  refine (twoIn_calls _ p s x t s1 x1 HR.out h).mono ?_
  rintro e w1 ⟨rfl, ht⟩
  generalize numL t.data.toList = c at *
  go_wp2_with fail
  refine (rawIn_calls _ p s1 x1 _ ht.1).mono ?_
  rw [HR2.out]
  rintro e w2 ⟨rfl, ht2⟩
  have HT := Lib.hid (ht.trans ht2)
  clear ht ht2 h
  go_wp2
  go_ret
  exact ⟨rfl, HT.out⟩

/-- How a packet ended. -/
def endT (s : ByteArray) (x : Int) : Int := if x = 1 ∨ (x = 0 ∧ s.size ≠ 0) then 2 else x

theorem end_calls (w : World) (p : Nat) (s : ByteArray) (x : Int) (h : InAt w p s x) :
    Calls Tryd.prog 32 #[.pointer (some ⟨p, 0, none⟩)] w fun e w' => e = .returned (.int .i64 (endT s x)) ∧ w = w' := by
  have h0 := h.cell0
  have h1 := h.cell1
  clear h
  by_cases hx1 : x = 1
  · subst hx1
    have e : endT s 1 = 2 := by simp [endT]
    rw [e]
    go_enter Tryd.func32, Tryd.ntmps32
    go_wp2
    go_ret
    exact ⟨rfl, rfl⟩
  · have b1 : (x == 1) = false := by simp [hx1]
    by_cases hx0 : x = 0
    · subst hx0
      by_cases hs : s.size = 0
      · have e : endT s 0 = 0 := by simp [endT, hs]
        rw [e]
        have hs1 : s.toList = [] := by
          rw [ByteArray.toList_eq]
          exact List.eq_nil_of_length_eq_zero hs
        have hs2 : s.toList.isEmpty = true := by rw [hs1]; rfl
        have hs3 : (!s.toList.isEmpty) = false := by rw [hs2]; rfl
        go_enter Tryd.func32, Tryd.ntmps32
        go_wp2
        go_ret
        exact ⟨rfl, rfl⟩
      · have e : endT s 0 = 2 := by simp [endT, hs]
        rw [e]
        have hs1 : ¬ s.toList = [] := by
          intro h
          rw [ByteArray.toList_eq] at h
          exact hs (congrArg List.length h)
        have hs2 : s.toList.isEmpty = false := by cases hh : s.toList.isEmpty <;> simp_all
        have hs3 : (!s.toList.isEmpty) = true := by rw [hs2]; rfl
        go_enter Tryd.func32, Tryd.ntmps32
        go_wp2
        go_ret
        exact ⟨rfl, rfl⟩
    · have b0 : (x == 0) = false := by simp [hx0]
      have e : endT s x = x := by simp [endT, hx1, hx0]
      rw [e]
      go_enter Tryd.func32, Tryd.ntmps32
      go_wp2
      go_ret
      exact ⟨rfl, rfl⟩

/-- What Var answers behind its last byte c: the number, what is left, the error. -/
def varEnd (i n c : Nat) (s : ByteArray) (x : Int) : Nat × ByteArray × Int :=
  let x2 := if 128 ≤ c ∨ (c = 0 ∧ 0 < i) then failed x 2 else x
  (if x2 = 0 then n else 0, s, x2)

/-- What Var takes from its byte i on, n being what it has. -/
def varT : Nat → Nat → Nat → ByteArray → Int → Nat × ByteArray × Int
  | 0, i, n, s, x => varEnd i (n + numL (rawT s x 1).1.data.toList % 128 * 128 ^ i) (numL (rawT s x 1).1.data.toList) (rawT s x 1).2.1 (rawT s x 1).2.2
  | k + 1, i, n, s, x =>
    if 128 ≤ numL (rawT s x 1).1.data.toList then varT k (i + 1) (n + numL (rawT s x 1).1.data.toList % 128 * 128 ^ i) (rawT s x 1).2.1 (rawT s x 1).2.2
    else varEnd i (n + numL (rawT s x 1).1.data.toList % 128 * 128 ^ i) (numL (rawT s x 1).1.data.toList) (rawT s x 1).2.1 (rawT s x 1).2.2

section
variable {k i m : Nat} {s1 t s2 : ByteArray} {x1 x2 : Int}
theorem varT_go (hr : rawT s1 x1 1 = (t, s2, x2)) (hc : 128 ≤ numL t.data.toList) : varT (k + 1) i m s1 x1 = varT k (i + 1) (m + numL t.data.toList % 128 * 128 ^ i) s2 x2 := by
  rw [varT, hr]; simp only; rw [if_pos hc]
theorem varT_end (hr : rawT s1 x1 1 = (t, s2, x2)) (hc : k = 0 ∨ numL t.data.toList < 128) : varT k i m s1 x1 = varEnd i (m + numL t.data.toList % 128 * 128 ^ i) (numL t.data.toList) s2 x2 := by
  cases k with
  | zero => rw [varT, hr]
  | succ k =>
    have : ¬ 128 ≤ numL t.data.toList := by rcases hc with h | h <;> omega
    rw [varT, hr]; simp only; rw [if_neg this]
theorem failed_ne (x : Int) : failed x 2 ≠ 0 := by unfold failed; split <;> omega
theorem varT_bad (hr : rawT s1 x1 1 = (t, s2, x2)) (hc : k = 0 ∨ numL t.data.toList < 128) (hb : 128 ≤ numL t.data.toList ∨ (numL t.data.toList = 0 ∧ 0 < i)) : varT k i m s1 x1 = (0, s2, failed x2 2) := by
  rw [varT_end hr hc, varEnd, if_pos hb, if_neg (failed_ne _)]
theorem varT_ok (hr : rawT s1 x1 1 = (t, s2, x2)) (hb : ¬ (128 ≤ numL t.data.toList ∨ (numL t.data.toList = 0 ∧ 0 < i))) : varT k i m s1 x1 = (if x2 = 0 then m + numL t.data.toList % 128 * 128 ^ i else 0, s2, x2) := by
  rw [varT_end hr (.inr (by omega)), varEnd, if_neg hb]
end

theorem or_shift (m c K j : Nat) (hK : K = 2 ^ j) (hm : m < K) (hj : K ≤ 2097152) : bits .or .u32 (m : Int) ((c : Int) % 128 * K) = (m : Int) + c % 128 * K := by
  have e : ((c : Int) % 128 * K) = ((c % 128 * K : Nat) : Int) := by simp
  have hb : c % 128 * K ≤ 127 * 2097152 := Nat.mul_le_mul (by omega) hj
  rw [e, u32_or_nat _ _ (by omega) (by omega)]
  have h := Nat.two_pow_add_eq_or_of_lt (i := j) (b := m) (by omega) (c % 128)
  have e2 : m ||| c % 128 * K = m + c % 128 * K := by
    rw [Nat.or_comm, hK, Nat.mul_comm (c % 128), ← h, Nat.add_comm]
  rw [e2, Int.natCast_add]

def VarI (w : World) (p : Nat) (r : Nat × ByteArray × Int) (a' : Act) (w' : World) : Prop :=
  ∃ (k i n : Nat) (s' : ByteArray) (x' : Int) (u5 u6 u7 u8 u9 u10 u11 u12 u13 u14 u15 u16 u17 u18 u19 u20 u21 u22 u23 u24 u25 u26 u27 u28 u29 u30 u31 u32 u33 u34 u35 u36 u37 u38 u39 u40 : Value),
    a' = { tmps := #[.pointer (some ⟨p, 0, none⟩), undef, .int .u32 0, .int .u32 n, .int .i64 ((7 * i : Nat) : Int), u5, u6, u7, u8, u9, u10, u11, u12, u13, u14, u15, u16, u17, u18, u19, u20, u21, u22, u23, u24, u25, u26, u27, u28, u29, u30, u31, u32, u33, u34, u35, u36, u37, u38, u39, u40], defers := [] } ∧
    InAt w' p s' x' ∧ Only p w w' ∧ r = varT k i n s' x' ∧ k + i = 3 ∧ n < 128 ^ i

set_option maxRecDepth 100000 in
set_option maxHeartbeats 1600000 in
theorem varIn_calls (w : World) (p : Nat) (s : ByteArray) (x : Int) (n : Nat) (s' : ByteArray) (x' : Int) (hr : varT 3 0 0 s x = (n, s', x')) (h : InAt w p s x) :
    Calls Tryd.prog 60 #[.pointer (some ⟨p, 0, none⟩)] w fun e w' => e = .returned (.int .u32 n) ∧ Took w p s' x' w' := by
  have HR := Lib.hid hr
  clear hr
  go_enter Tryd.func60, Tryd.ntmps60
  go_wp2_with fail
  refine wp_scope_head 0 (VarI w p (n, s', x')) (fun a' _ => (28 - intOf (a'.tmps.getD 4 undef)).toNat) rfl ?_ ?_
  · have HJ := Lib.hid h
    clear h
    go_wp2
    exact ⟨3, 0, 0, s, x, _, _, _, _, _, _, _, _, _, _, _, _, _, _, _, _, _, _, _, _, _, _, _, _, _, _, _, _, _, _, _, _, _, _, _, _, rfl, HJ.out, Only.refl _ _, HR.out.symm, rfl, by decide⟩
  · clear h HR
    rintro a' w1 ⟨k, i, m, s1, x1, u5, u6, u7, u8, u9, u10, u11, u12, u13, u14, u15, u16, u17, u18, u19, u20, u21, u22, u23, u24, u25, u26, u27, u28, u29, u30, u31, u32, u33, u34, u35, u36, u37, u38, u39, u40, rfl, hi, ho, hv, hk, hm⟩
    have HV := Lib.hid hv
    have HO := Lib.hid ho
    clear hv ho
    obtain ⟨t, s2, x2, ht⟩ : ∃ t s2 x2, rawT s1 x1 1 = (t, s2, x2) := ⟨_, _, _, rfl⟩
    have hc := num_lt1 s1 x1 t s2 x2 ht
    have HT := Lib.hid ht
    clear ht
    rcases (show i = 0 ∨ i = 1 ∨ i = 2 ∨ i = 3 by omega) with rfl | rfl | rfl | rfl
    · obtain rfl : k = 3 := by omega
      clear hk
      have hm' : m < 1 := by simpa using hm
      clear hm
      obtain rfl : m = 0 := by omega
      clear hm'
      go_wp2_with fail
      refine (byteIn_calls _ p s1 x1 t s2 x2 HT.out hi).mono ?_
      rintro e w2 ⟨rfl, htk⟩
      have HK := Lib.hid (show Took w p s2 x2 w2 from ⟨htk.1, HO.out.trans htk.2⟩)
      clear htk hi
      have hor : bits .or .u32 0 ((numL t.data.toList : Int) % 128) = (numL t.data.toList : Int) % 128 := by
        have := or_shift 0 (numL t.data.toList) 1 0 (by decide) (by decide) (by decide)
        simpa using this
      by_cases h128 : 128 ≤ numL t.data.toList
      · have HE := Lib.hid (HV.out.trans (varT_go HT.out h128))
        go_wp2
        go_step3
        have e3 : (numL t.data.toList : Int) % 128 = ((0 + numL t.data.toList % 128 * 128 ^ 0 : Nat) : Int) := by simp
        rw [e3]
        refine ⟨rfl, ⟨2, 1, _, s2, x2, _, _, _, _, _, _, _, _, _, _, _, _, _, _, _, _, _, _, _, _, _, _, _, _, _, _, _, _, _, _, _, _, _, _, _, _, rfl, HK.out.1, HK.out.2, HE.out, rfl, ?_⟩, ?_⟩
        · have hlt := Nat.mod_lt (numL t.data.toList) (show 128 > 0 by omega)
          generalize numL t.data.toList % 128 = q at *
          simp; omega
        · simp [intOf]
      · have HE := Lib.hid (HV.out.trans (varT_ok HT.out (by omega)))
        by_cases h0 : numL t.data.toList = 0
        · have hbz : ((numL t.data.toList : Int) == 0) = true := by rw [h0]; rfl
          have c1 := HK.out.1.cell1
          by_cases hx : x2 = 0
          · rw [if_pos hx] at HE
            subst hx
            go_wp2
            simp only [Exit.jump]
            go_ret
            have HE' := HE.out
            injection HE' with E1 E23
            injection E23 with E2 E3
            refine ⟨?_, ?_⟩
            · rw [E1]
              exact congrArg (fun z => Ending.returned (.int .u32 z)) (show (0 : Int) = ((0 + numL t.data.toList % 128 * 128 ^ 0 : Nat) : Int) by rw [h0]; rfl)
            · rw [E2, E3]
              exact HK.out
          · rw [if_neg hx] at HE
            have hb1 : (x2 != 0) = true := by simp [hx]
            have hb2 : (x2 == 0) = false := by simp [hx]
            go_wp2
            simp only [Exit.jump]
            go_ret
            have HE' := HE.out
            injection HE' with E1 E23
            injection E23 with E2 E3
            refine ⟨by rw [E1]; rfl, ?_⟩
            rw [E2, E3]
            exact HK.out
        · have hbz : ((numL t.data.toList : Int) == 0) = false := by simp [h0]
          have c1 := HK.out.1.cell1
          by_cases hx : x2 = 0
          · rw [if_pos hx] at HE
            subst hx
            go_wp2
            simp only [Exit.jump]
            go_ret
            have HE' := HE.out
            injection HE' with E1 E23
            injection E23 with E2 E3
            refine ⟨?_, ?_⟩
            · rw [E1]
              exact congrArg (fun z => Ending.returned (.int .u32 z)) (show (numL t.data.toList : Int) % 128 = ((0 + numL t.data.toList % 128 * 128 ^ 0 : Nat) : Int) by simp)
            · rw [E2, E3]
              exact HK.out
          · rw [if_neg hx] at HE
            have hb1 : (x2 != 0) = true := by simp [hx]
            have hb2 : (x2 == 0) = false := by simp [hx]
            go_wp2
            simp only [Exit.jump]
            go_ret
            have HE' := HE.out
            injection HE' with E1 E23
            injection E23 with E2 E3
            refine ⟨by rw [E1]; rfl, ?_⟩
            rw [E2, E3]
            exact HK.out
    · obtain rfl : k = 2 := by omega
      clear hk
      have hm' : m < 128 := by simpa using hm
      clear hm
      go_wp2_with fail
      refine (byteIn_calls _ p s1 x1 t s2 x2 HT.out hi).mono ?_
      rintro e w2 ⟨rfl, htk⟩
      have HK := Lib.hid (show Took w p s2 x2 w2 from ⟨htk.1, HO.out.trans htk.2⟩)
      clear htk hi
      have hor : bits .or .u32 (m : Int) ((numL t.data.toList : Int) % 128 * 128) = (m : Int) + (numL t.data.toList : Int) % 128 * 128 := by
        have := or_shift m (numL t.data.toList) 128 7 (by decide) hm' (by decide)
        simpa using this
      by_cases h128 : 128 ≤ numL t.data.toList
      · have HE := Lib.hid (HV.out.trans (varT_go HT.out h128))
        go_wp2
        go_step3
        have e3 : (m : Int) + (numL t.data.toList : Int) % 128 * 128 = ((m + numL t.data.toList % 128 * 128 ^ 1 : Nat) : Int) := by simp
        rw [e3]
        refine ⟨rfl, ⟨1, 2, _, s2, x2, _, _, _, _, _, _, _, _, _, _, _, _, _, _, _, _, _, _, _, _, _, _, _, _, _, _, _, _, _, _, _, _, _, _, _, _, rfl, HK.out.1, HK.out.2, HE.out, rfl, ?_⟩, ?_⟩
        · have hlt := Nat.mod_lt (numL t.data.toList) (show 128 > 0 by omega)
          generalize numL t.data.toList % 128 = q at *
          omega
        · simp [intOf]
      · by_cases h0 : numL t.data.toList = 0
        · have HE := Lib.hid (HV.out.trans (varT_bad HT.out (.inr (by omega)) (.inr ⟨h0, by omega⟩)))
          go_wp2_with fail
          refine (fail_calls _ p s2 x2 2 HK.out.1).mono ?_
          rintro e w3 ⟨rfl, hi3, ho3⟩
          have hfn := failed_ne x2
          have hb1 : (failed x2 2 != 0) = true := by simp [hfn]
          have hb2 : (failed x2 2 == 0) = false := by simp [hfn]
          have c1 := hi3.cell1
          have HF := Lib.hid (show Took w p s2 (failed x2 2) w3 from ⟨hi3, HK.out.2.trans ho3⟩)
          clear hi3 ho3 hfn
          generalize failed x2 2 = xf at *
          go_wp2
          simp only [Exit.jump]
          go_ret
          have HE' := HE.out
          injection HE' with E1 E23
          injection E23 with E2 E3
          refine ⟨by rw [E1]; rfl, ?_⟩
          rw [E2, E3]
          exact HF.out
        · have HE := Lib.hid (HV.out.trans (varT_ok HT.out (by omega)))
          have c1 := HK.out.1.cell1
          by_cases hx : x2 = 0
          · rw [if_pos hx] at HE
            subst hx
            go_wp2
            simp only [Exit.jump]
            go_ret
            have HE' := HE.out
            injection HE' with E1 E23
            injection E23 with E2 E3
            refine ⟨?_, ?_⟩
            · rw [E1]
              exact congrArg (fun z => Ending.returned (.int .u32 z)) (show (m : Int) + (numL t.data.toList : Int) % 128 * 128 = ((m + numL t.data.toList % 128 * 128 ^ 1 : Nat) : Int) by simp)
            · rw [E2, E3]
              exact HK.out
          · rw [if_neg hx] at HE
            have hb1 : (x2 != 0) = true := by simp [hx]
            have hb2 : (x2 == 0) = false := by simp [hx]
            go_wp2
            simp only [Exit.jump]
            go_ret
            have HE' := HE.out
            injection HE' with E1 E23
            injection E23 with E2 E3
            refine ⟨by rw [E1]; rfl, ?_⟩
            rw [E2, E3]
            exact HK.out
    · obtain rfl : k = 1 := by omega
      clear hk
      have hm' : m < 16384 := by simpa using hm
      clear hm
      go_wp2_with fail
      refine (byteIn_calls _ p s1 x1 t s2 x2 HT.out hi).mono ?_
      rintro e w2 ⟨rfl, htk⟩
      have HK := Lib.hid (show Took w p s2 x2 w2 from ⟨htk.1, HO.out.trans htk.2⟩)
      clear htk hi
      have hor : bits .or .u32 (m : Int) ((numL t.data.toList : Int) % 128 * 16384) = (m : Int) + (numL t.data.toList : Int) % 128 * 16384 := by
        have := or_shift m (numL t.data.toList) 16384 14 (by decide) hm' (by decide)
        simpa using this
      by_cases h128 : 128 ≤ numL t.data.toList
      · have HE := Lib.hid (HV.out.trans (varT_go HT.out h128))
        go_wp2
        go_step3
        have e3 : (m : Int) + (numL t.data.toList : Int) % 128 * 16384 = ((m + numL t.data.toList % 128 * 128 ^ 2 : Nat) : Int) := by simp
        rw [e3]
        refine ⟨rfl, ⟨0, 3, _, s2, x2, _, _, _, _, _, _, _, _, _, _, _, _, _, _, _, _, _, _, _, _, _, _, _, _, _, _, _, _, _, _, _, _, _, _, _, _, rfl, HK.out.1, HK.out.2, HE.out, rfl, ?_⟩, ?_⟩
        · have hlt := Nat.mod_lt (numL t.data.toList) (show 128 > 0 by omega)
          generalize numL t.data.toList % 128 = q at *
          omega
        · simp [intOf]
      · by_cases h0 : numL t.data.toList = 0
        · have HE := Lib.hid (HV.out.trans (varT_bad HT.out (.inr (by omega)) (.inr ⟨h0, by omega⟩)))
          go_wp2_with fail
          refine (fail_calls _ p s2 x2 2 HK.out.1).mono ?_
          rintro e w3 ⟨rfl, hi3, ho3⟩
          have hfn := failed_ne x2
          have hb1 : (failed x2 2 != 0) = true := by simp [hfn]
          have hb2 : (failed x2 2 == 0) = false := by simp [hfn]
          have c1 := hi3.cell1
          have HF := Lib.hid (show Took w p s2 (failed x2 2) w3 from ⟨hi3, HK.out.2.trans ho3⟩)
          clear hi3 ho3 hfn
          generalize failed x2 2 = xf at *
          go_wp2
          simp only [Exit.jump]
          go_ret
          have HE' := HE.out
          injection HE' with E1 E23
          injection E23 with E2 E3
          refine ⟨by rw [E1]; rfl, ?_⟩
          rw [E2, E3]
          exact HF.out
        · have HE := Lib.hid (HV.out.trans (varT_ok HT.out (by omega)))
          have c1 := HK.out.1.cell1
          by_cases hx : x2 = 0
          · rw [if_pos hx] at HE
            subst hx
            go_wp2
            simp only [Exit.jump]
            go_ret
            have HE' := HE.out
            injection HE' with E1 E23
            injection E23 with E2 E3
            refine ⟨?_, ?_⟩
            · rw [E1]
              exact congrArg (fun z => Ending.returned (.int .u32 z)) (show (m : Int) + (numL t.data.toList : Int) % 128 * 16384 = ((m + numL t.data.toList % 128 * 128 ^ 2 : Nat) : Int) by simp)
            · rw [E2, E3]
              exact HK.out
          · rw [if_neg hx] at HE
            have hb1 : (x2 != 0) = true := by simp [hx]
            have hb2 : (x2 == 0) = false := by simp [hx]
            go_wp2
            simp only [Exit.jump]
            go_ret
            have HE' := HE.out
            injection HE' with E1 E23
            injection E23 with E2 E3
            refine ⟨by rw [E1]; rfl, ?_⟩
            rw [E2, E3]
            exact HK.out
    · obtain rfl : k = 0 := by omega
      clear hk
      have hm' : m < 2097152 := by simpa using hm
      clear hm
      go_wp2_with fail
      refine (byteIn_calls _ p s1 x1 t s2 x2 HT.out hi).mono ?_
      rintro e w2 ⟨rfl, htk⟩
      have HK := Lib.hid (show Took w p s2 x2 w2 from ⟨htk.1, HO.out.trans htk.2⟩)
      clear htk hi
      have hor : bits .or .u32 (m : Int) ((numL t.data.toList : Int) % 128 * 2097152) = (m : Int) + (numL t.data.toList : Int) % 128 * 2097152 := by
        have := or_shift m (numL t.data.toList) 2097152 21 (by decide) hm' (by decide)
        simpa using this
      by_cases h128 : 128 ≤ numL t.data.toList
      · have HE := Lib.hid (HV.out.trans (varT_bad HT.out (.inl rfl) (.inl h128)))
        go_wp2_with fail
        refine (fail_calls _ p s2 x2 2 HK.out.1).mono ?_
        rintro e w3 ⟨rfl, hi3, ho3⟩
        have hfn := failed_ne x2
        have hb1 : (failed x2 2 != 0) = true := by simp [hfn]
        have hb2 : (failed x2 2 == 0) = false := by simp [hfn]
        have c1 := hi3.cell1
        have HF := Lib.hid (show Took w p s2 (failed x2 2) w3 from ⟨hi3, HK.out.2.trans ho3⟩)
        clear hi3 ho3 hfn
        generalize failed x2 2 = xf at *
        go_wp2
        simp only [Exit.jump]
        go_ret
        have HE' := HE.out
        injection HE' with E1 E23
        injection E23 with E2 E3
        refine ⟨by rw [E1]; rfl, ?_⟩
        rw [E2, E3]
        exact HF.out
      · by_cases h0 : numL t.data.toList = 0
        · have HE := Lib.hid (HV.out.trans (varT_bad HT.out (.inr (by omega)) (.inr ⟨h0, by omega⟩)))
          go_wp2_with fail
          refine (fail_calls _ p s2 x2 2 HK.out.1).mono ?_
          rintro e w3 ⟨rfl, hi3, ho3⟩
          have hfn := failed_ne x2
          have hb1 : (failed x2 2 != 0) = true := by simp [hfn]
          have hb2 : (failed x2 2 == 0) = false := by simp [hfn]
          have c1 := hi3.cell1
          have HF := Lib.hid (show Took w p s2 (failed x2 2) w3 from ⟨hi3, HK.out.2.trans ho3⟩)
          clear hi3 ho3 hfn
          generalize failed x2 2 = xf at *
          go_wp2
          simp only [Exit.jump]
          go_ret
          have HE' := HE.out
          injection HE' with E1 E23
          injection E23 with E2 E3
          refine ⟨by rw [E1]; rfl, ?_⟩
          rw [E2, E3]
          exact HF.out
        · have HE := Lib.hid (HV.out.trans (varT_ok HT.out (by omega)))
          have c1 := HK.out.1.cell1
          by_cases hx : x2 = 0
          · rw [if_pos hx] at HE
            subst hx
            go_wp2
            simp only [Exit.jump]
            go_ret
            have HE' := HE.out
            injection HE' with E1 E23
            injection E23 with E2 E3
            refine ⟨?_, ?_⟩
            · rw [E1]
              exact congrArg (fun z => Ending.returned (.int .u32 z)) (show (m : Int) + (numL t.data.toList : Int) % 128 * 2097152 = ((m + numL t.data.toList % 128 * 128 ^ 3 : Nat) : Int) by simp)
            · rw [E2, E3]
              exact HK.out
          · rw [if_neg hx] at HE
            have hb1 : (x2 != 0) = true := by simp [hx]
            have hb2 : (x2 == 0) = false := by simp [hx]
            go_wp2
            simp only [Exit.jump]
            go_ret
            have HE' := HE.out
            injection HE' with E1 E23
            injection E23 with E2 E3
            refine ⟨by rw [E1]; rfl, ?_⟩
            rw [E2, E3]
            exact HK.out

#print axioms end_calls
end Go.Proofs.YtdhdjkpocdfjbabDoor
