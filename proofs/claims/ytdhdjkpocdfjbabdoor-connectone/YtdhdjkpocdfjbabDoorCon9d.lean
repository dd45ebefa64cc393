/-
  Text of a connect. (No statement: contracts that the proofs of the statements use.)
-/
import Derived.Test.YtdhdjkpocdfjbabDoorCon8
namespace Go.Proofs.YtdhdjkpocdfjbabDoor
open Go.RowKit

set_option maxRecDepth 100000 in
set_option maxHeartbeats 4000000 in
theorem text_110 (w : World) (cl : Bool) (keep : Int) (ps : List Pr) (id : ByteArray) (wp : List Pr) (tp py : ByteArray) (q : Int) (rt : Bool) (us pw : ByteArray) (va : Option Addr) (vn vc : Nat) (ua : Option Addr) (un uc : Nat) (hok : Cn.ok (⟨cl, keep, ps, id, true, wp, tp, py, q, rt, true, false, us, pw⟩ : Cn)) (hv : PropsAt w (.slice va vn vc) ps) (hu : PropsAt w (.slice ua un uc) wp) :
    Calls Tryd.prog 20 #[.agg #[.bool cl, .int .u32 keep, .slice va vn vc, .string id, .bool true, .slice ua un uc, .string tp, .string py, .int .u8 q, .bool rt, .bool true, .bool false, .string us, .string pw]] w fun e w' => e = .returned (.string (str (textL (⟨cl, keep, ps, id, true, wp, tp, py, q, rt, true, false, us, pw⟩ : Cn)))) ∧ Below w.heap.size w w' := by
  have T0 := Lib.hid (TxC.start w (⟨cl, keep, ps, id, true, wp, tp, py, q, rt, true, false, us, pw⟩ : Cn) (.slice va vn vc) (.slice ua un uc))
  have hfr := flagsN_range _ hok
  obtain ⟨k0, k1, q0, q1, hid', htp, hpy, hus, hpw, okp, okw, hpn, hwn⟩ := hok
  dsimp only at k0 k1 q0 q1 hid' htp hpy hus hpw okp okw hpn hwn
  have HFO := Lib.hid (fun W => flagsOf_calls W (⟨cl, keep, ps, id, true, wp, tp, py, q, rt, true, false, us, pw⟩ : Cn) (.slice va vn vc) (.slice ua un uc) q0 q1)
  have HFO' := Lib.hid (show ∀ W, Calls Tryd.prog 46 #[.agg #[.bool cl, .int .u32 keep, .slice va vn vc, .string id, .bool true, .slice ua un uc, .string tp, .string py, .int .u8 q, .bool rt, .bool true, .bool false, .string us, .string pw]] W (fun e w' => e = .returned (.int .u8 (flagsN (⟨cl, keep, ps, id, true, wp, tp, py, q, rt, true, false, us, pw⟩ : Cn))) ∧ Below W.heap.size W w') from HFO.out)
  have htl : textL (⟨cl, keep, ps, id, true, wp, tp, py, q, rt, true, false, us, pw⟩ : Cn) = [] ++ datL mqtt ++ [5] ++ [UInt8.ofNat (flagsN (⟨cl, keep, ps, id, true, wp, tp, py, q, rt, true, false, us, pw⟩ : Cn)).toNat] ++ two keep ++ propsL ps ++ datL id ++ propsL wp ++ datL tp ++ datL py ++ datL us := by
    simp [textL, headL, willL, userL, passL]
  rw [htl]
  have l0 : (datL mqtt).length = 6 := rfl
  have l1 := propsL_len ps okp hpn
  have l2 := datL_len id hid'
  have l3 := propsL_len wp okw hwn
  have l4 := datL_len tp htp
  have l5 := datL_len py hpy
  have l6 := datL_len us hus
  generalize hFN : flagsN (⟨cl, keep, ps, id, true, wp, tp, py, q, rt, true, false, us, pw⟩ : Cn) = FN at *
  obtain ⟨hf0, hf1⟩ := hfr
  have HV := Lib.hid hv
  have HU := Lib.hid hu
  clear HFO htl hFN hv hu
  go_enter Tryd.func20, Tryd.ntmps20
  go_wp2_with fail
  have hst : (w.alloc (.cells (cnC (⟨cl, keep, ps, id, true, wp, tp, py, q, rt, true, false, us, pw⟩ : Cn) (.slice va vn vc) (.slice ua un uc)) 29)).alloc (.cells #[.slice none 0 0] 90) = (w.alloc (.cells #[.bool cl, .int .u32 keep, .slice va vn vc, .string id, .bool true, .slice ua un uc, .string tp, .string py, .int .u8 q, .bool rt, .bool true, .bool false, .string us, .string pw] 29)).alloc (.cells #[.slice none 0 0] 90) := rfl
  rw [hst] at T0
  clear hst
  generalize (w.alloc (.cells #[.bool cl, .int .u32 keep, .slice va vn vc, .string id, .bool true, .slice ua un uc, .string tp, .string py, .int .u8 q, .bool rt, .bool true, .bool false, .string us, .string pw] 29)).alloc (.cells #[.slice none 0 0] 90) = W0 at *
  have TD := Lib.hid T0.out.drew
  have KC := Lib.hid (show ∀ r' bs' Wx, TxC w (⟨cl, keep, ps, id, true, wp, tp, py, q, rt, true, false, us, pw⟩ : Cn) (.slice va vn vc) (.slice ua un uc) r' bs' Wx → (Wx.cell? ⟨w.heap.size, 0, none⟩ = some (.bool cl) ∧ Wx.cell? ⟨w.heap.size, 1, none⟩ = some (.int .u32 keep) ∧ Wx.cell? ⟨w.heap.size, 2, none⟩ = some (.slice va vn vc) ∧ Wx.cell? ⟨w.heap.size, 3, none⟩ = some (.string id) ∧ Wx.cell? ⟨w.heap.size, 4, none⟩ = some (.bool true) ∧ Wx.cell? ⟨w.heap.size, 5, none⟩ = some (.slice ua un uc) ∧ Wx.cell? ⟨w.heap.size, 6, none⟩ = some (.string tp)) ∧ (Wx.cell? ⟨w.heap.size, 7, none⟩ = some (.string py) ∧ Wx.cell? ⟨w.heap.size, 8, none⟩ = some (.int .u8 q) ∧ Wx.cell? ⟨w.heap.size, 9, none⟩ = some (.bool rt) ∧ Wx.cell? ⟨w.heap.size, 10, none⟩ = some (.bool true) ∧ Wx.cell? ⟨w.heap.size, 11, none⟩ = some (.bool false) ∧ Wx.cell? ⟨w.heap.size, 12, none⟩ = some (.string us) ∧ Wx.cell? ⟨w.heap.size, 13, none⟩ = some (.string pw)) from fun r' bs' Wx h => ⟨(cells14 h.box).1, (cells14 h.box).2.1⟩)
  have K0 := Lib.hid (KC.out _ _ _ TD.out)
  clear T0
  have LG1 := Lib.hid (show ([] ++ datL mqtt).length < 999000000 by decide)
  have LG2 := Lib.hid (show ([] ++ datL mqtt ++ [5]).length < 999000000 by decide)
  have LG3 := Lib.hid (show ([] ++ datL mqtt ++ [5] ++ [UInt8.ofNat FN.toNat]).length < 999000000 by simp; omega)
  have LG1' := Lib.hid (show ([] ++ datL mqtt).length < 1000000000 by decide)
  have LG2' := Lib.hid (show ([] ++ datL mqtt ++ [5]).length < 1000000000 by decide)
  have LG3' := Lib.hid (show ([] ++ datL mqtt ++ [5] ++ [UInt8.ofNat FN.toNat]).length < 1000000000 by simp; omega)
  go_region_held3 (fun wx => (wx.cell? ⟨w.heap.size, 0, none⟩ = some (.bool cl) ∧ wx.cell? ⟨w.heap.size, 1, none⟩ = some (.int .u32 keep) ∧ wx.cell? ⟨w.heap.size, 2, none⟩ = some (.slice va vn vc) ∧ wx.cell? ⟨w.heap.size, 3, none⟩ = some (.string id) ∧ wx.cell? ⟨w.heap.size, 4, none⟩ = some (.bool true) ∧ wx.cell? ⟨w.heap.size, 5, none⟩ = some (.slice ua un uc) ∧ wx.cell? ⟨w.heap.size, 6, none⟩ = some (.string tp)) ∧ (wx.cell? ⟨w.heap.size, 7, none⟩ = some (.string py) ∧ wx.cell? ⟨w.heap.size, 8, none⟩ = some (.int .u8 q) ∧ wx.cell? ⟨w.heap.size, 9, none⟩ = some (.bool rt) ∧ wx.cell? ⟨w.heap.size, 10, none⟩ = some (.bool true) ∧ wx.cell? ⟨w.heap.size, 11, none⟩ = some (.bool false) ∧ wx.cell? ⟨w.heap.size, 12, none⟩ = some (.string us) ∧ wx.cell? ⟨w.heap.size, 13, none⟩ = some (.string pw)))
    (first | (with_reducible exact K0.out) | (with_reducible exact K1.out) | (with_reducible exact K2.out) | (with_reducible exact K3.out) | (with_reducible exact K4.out) | (with_reducible exact K5.out) | fail)
    (first
      | (go_at_call 44; (with_reducible refine (data_calls _ (w.heap.size + 1) none [] mqtt TD.out.out (by decide) (by simp)).mono ?_); rintro e V1 ⟨rfl, r1, h1, s1⟩; have T1 := Lib.hid (show TxC w (⟨cl, keep, ps, id, true, wp, tp, py, q, rt, true, false, us, pw⟩ : Cn) (.slice va vn vc) (.slice ua un uc) r1 ([] ++ datL mqtt) V1 from TD.out.put h1 s1); have K1 := Lib.hid (KC.out _ _ _ T1.out); clear h1 s1)
      | (go_at_call 45; (with_reducible refine (byte_calls _ (w.heap.size + 1) r1 _ 5 (by decide) (by decide) T1.out.out LG1'.out).mono ?_); rintro e V2 ⟨rfl, r2, h2, s2⟩; have T2 := Lib.hid (show TxC w (⟨cl, keep, ps, id, true, wp, tp, py, q, rt, true, false, us, pw⟩ : Cn) (.slice va vn vc) (.slice ua un uc) r2 ([] ++ datL mqtt ++ [5]) V2 from T1.out.put h2 s2); have K2 := Lib.hid (KC.out _ _ _ T2.out); clear h2 s2)
      | (go_at_call 46; (with_reducible refine (HFO'.out _).mono ?_); rintro e V3 ⟨rfl, b3⟩; have T3 := Lib.hid (T2.out.below b3); have K3 := Lib.hid (KC.out _ _ _ T3.out); clear b3)
      | (go_at_call 45; (with_reducible refine (byte_calls _ (w.heap.size + 1) r2 _ FN hf0 hf1 T3.out.out LG2'.out).mono ?_); rintro e V4 ⟨rfl, r4, h4, s4⟩; have T4 := Lib.hid (T3.out.put h4 s4); have K4 := Lib.hid (KC.out _ _ _ T4.out); clear h4 s4)
      | (go_at_call 47; (with_reducible refine (two_calls _ (w.heap.size + 1) r4 _ keep k0 k1 T4.out.out LG3'.out).mono ?_); rintro e V5 ⟨rfl, r5, h5, s5⟩; have T5 := Lib.hid (T4.out.put h5 s5); have K5 := Lib.hid (KC.out _ _ _ T5.out); clear h5 s5))
  rename_i hHeld
  clear hHeld K0 K1 K2 K3 K4 K5 TD T1 T2 T3 T4 HFO' LG1 LG2 LG3 LG1' LG2' LG3'
  have lG5 : ([] ++ datL mqtt ++ [5] ++ [UInt8.ofNat FN.toNat] ++ two keep).length = 10 := by simp [two_len]; omega
  generalize hG5 : [] ++ datL mqtt ++ [5] ++ [UInt8.ofNat FN.toNat] ++ two keep = G5 at *
  have lG5' : G5.length ≤ 10 := by omega
  have HG5 := Lib.hid hG5
  clear hG5 lG5
  obtain ⟨⟨d0, d1, d2, d3, d4, d5, d6⟩, d7, d8, d9, d10, d11, d12, d13⟩ := KC.out _ _ _ T5.out
  go_wp2_with fail
  refine (put3_calls _ (w.heap.size + 1) r5 _ (.slice va vn vc) ps (HV.out.below T5.out.bel) okp hpn T5.out.out (by (try simp only [List.length_append]); omega)).mono ?_
  rintro e V6 ⟨rfl, r6, h6, s6⟩
  have T6 := Lib.hid (T5.out.put h6 s6)
  clear h6 s6 d0 d1 d2 d3 d4 d5 d6 d7 d8 d9 d10 d11 d12 d13 T5
  obtain ⟨⟨d0, d1, d2, d3, d4, d5, d6⟩, d7, d8, d9, d10, d11, d12, d13⟩ := KC.out _ _ _ T6.out
  go_wp2_with fail
  refine (data_calls _ (w.heap.size + 1) r6 _ id T6.out.out hid' (by (try simp only [List.length_append]); omega)).mono ?_
  rintro e V7 ⟨rfl, r7, h7, s7⟩
  rw [show two id.size ++ id.data.toList = datL id from rfl] at h7
  have T7 := Lib.hid (T6.out.put h7 s7)
  clear h7 s7 d0 d1 d2 d3 d4 d5 d6 d7 d8 d9 d10 d11 d12 d13 T6
  obtain ⟨⟨d0, d1, d2, d3, d4, d5, d6⟩, d7, d8, d9, d10, d11, d12, d13⟩ := KC.out _ _ _ T7.out
  go_wp2_with fail
  refine (put3_calls _ (w.heap.size + 1) r7 _ (.slice ua un uc) wp (HU.out.below T7.out.bel) okw hwn T7.out.out (by (try simp only [List.length_append]); omega)).mono ?_
  rintro e V8 ⟨rfl, r8, h8, s8⟩
  have T8 := Lib.hid (T7.out.put h8 s8)
  clear h8 s8 d0 d1 d2 d3 d4 d5 d6 d7 d8 d9 d10 d11 d12 d13 T7
  obtain ⟨⟨d0, d1, d2, d3, d4, d5, d6⟩, d7, d8, d9, d10, d11, d12, d13⟩ := KC.out _ _ _ T8.out
  go_wp2_with fail
  have TD := Lib.hid T8.out.drew
  have K0 := Lib.hid (KC.out _ _ _ TD.out)
  have LA := Lib.hid (show (G5 ++ propsL ps ++ datL id ++ propsL wp).length < 999000000 by simp only [List.length_append]; omega)
  have LB := Lib.hid (show (G5 ++ propsL ps ++ datL id ++ propsL wp ++ datL tp).length < 999000000 by simp only [List.length_append]; omega)
  clear d0 d1 d2 d3 d4 d5 d6 d7 d8 d9 d10 d11 d12 d13 T8
  go_region_held3 (fun wx => (wx.cell? ⟨w.heap.size, 0, none⟩ = some (.bool cl) ∧ wx.cell? ⟨w.heap.size, 1, none⟩ = some (.int .u32 keep) ∧ wx.cell? ⟨w.heap.size, 2, none⟩ = some (.slice va vn vc) ∧ wx.cell? ⟨w.heap.size, 3, none⟩ = some (.string id) ∧ wx.cell? ⟨w.heap.size, 4, none⟩ = some (.bool true) ∧ wx.cell? ⟨w.heap.size, 5, none⟩ = some (.slice ua un uc) ∧ wx.cell? ⟨w.heap.size, 6, none⟩ = some (.string tp)) ∧ (wx.cell? ⟨w.heap.size, 7, none⟩ = some (.string py) ∧ wx.cell? ⟨w.heap.size, 8, none⟩ = some (.int .u8 q) ∧ wx.cell? ⟨w.heap.size, 9, none⟩ = some (.bool rt) ∧ wx.cell? ⟨w.heap.size, 10, none⟩ = some (.bool true) ∧ wx.cell? ⟨w.heap.size, 11, none⟩ = some (.bool false) ∧ wx.cell? ⟨w.heap.size, 12, none⟩ = some (.string us) ∧ wx.cell? ⟨w.heap.size, 13, none⟩ = some (.string pw)))
    (first | (with_reducible exact K0.out) | (with_reducible exact K1.out) | (with_reducible exact K2.out) | fail)
    (first
      | (go_at_call 44; (with_reducible refine (data_calls _ (w.heap.size + 1) r8 _ tp TD.out.out htp LA.out).mono ?_); rintro e V9 ⟨rfl, r9, h9, s9⟩; have T9 := Lib.hid (show TxC w (⟨cl, keep, ps, id, true, wp, tp, py, q, rt, true, false, us, pw⟩ : Cn) (.slice va vn vc) (.slice ua un uc) r9 (G5 ++ propsL ps ++ datL id ++ propsL wp ++ datL tp) V9 from TD.out.put h9 s9); have K1 := Lib.hid (KC.out _ _ _ T9.out); clear h9 s9)
      | (go_at_call 44; (with_reducible refine (data_calls _ (w.heap.size + 1) r9 _ py T9.out.out hpy LB.out).mono ?_); rintro e V10 ⟨rfl, r10, h10, s10⟩; have T10 := Lib.hid (show TxC w (⟨cl, keep, ps, id, true, wp, tp, py, q, rt, true, false, us, pw⟩ : Cn) (.slice va vn vc) (.slice ua un uc) r10 (G5 ++ propsL ps ++ datL id ++ propsL wp ++ datL tp ++ datL py) V10 from T9.out.put h10 s10); have K2 := Lib.hid (KC.out _ _ _ T10.out); clear h10 s10))
  rename_i hHeld
  clear hHeld K0 K1 K2 TD T9 LA LB
  obtain ⟨⟨d0, d1, d2, d3, d4, d5, d6⟩, d7, d8, d9, d10, d11, d12, d13⟩ := KC.out _ _ _ T10.out
  go_wp2_with fail
  refine (data_calls _ (w.heap.size + 1) r10 _ us T10.out.out hus (by (try simp only [List.length_append]); omega)).mono ?_
  rintro e V11 ⟨rfl, r11, h11, s11⟩
  rw [show two us.size ++ us.data.toList = datL us from rfl] at h11
  have T11 := Lib.hid (T10.out.put h11 s11)
  clear h11 s11 d0 d1 d2 d3 d4 d5 d6 d7 d8 d9 d10 d11 d12 d13 T10
  obtain ⟨⟨d0, d1, d2, d3, d4, d5, d6⟩, d7, d8, d9, d10, d11, d12, d13⟩ := KC.out _ _ _ T11.out
  go_wp2_with fail
  refine (text_calls _ (w.heap.size + 1) r11 _ T11.out.out).mono ?_
  rintro e w9 ⟨rfl, rfl⟩
  have BF := Lib.hid T11.out.bel
  clear T11 d0 d1 d2 d3 d4 d5 d6 d7 d8 d9 d10 d11 d12 d13
  go_wp2
  go_ret
  exact ⟨ret_str (by rw [← HG5.out]; simp), BF.out⟩

set_option maxRecDepth 100000 in
set_option maxHeartbeats 4000000 in
theorem text_111 (w : World) (cl : Bool) (keep : Int) (ps : List Pr) (id : ByteArray) (wp : List Pr) (tp py : ByteArray) (q : Int) (rt : Bool) (us pw : ByteArray) (va : Option Addr) (vn vc : Nat) (ua : Option Addr) (un uc : Nat) (hok : Cn.ok (⟨cl, keep, ps, id, true, wp, tp, py, q, rt, true, true, us, pw⟩ : Cn)) (hv : PropsAt w (.slice va vn vc) ps) (hu : PropsAt w (.slice ua un uc) wp) :
    Calls Tryd.prog 20 #[.agg #[.bool cl, .int .u32 keep, .slice va vn vc, .string id, .bool true, .slice ua un uc, .string tp, .string py, .int .u8 q, .bool rt, .bool true, .bool true, .string us, .string pw]] w fun e w' => e = .returned (.string (str (textL (⟨cl, keep, ps, id, true, wp, tp, py, q, rt, true, true, us, pw⟩ : Cn)))) ∧ Below w.heap.size w w' := by
  have T0 := Lib.hid (TxC.start w (⟨cl, keep, ps, id, true, wp, tp, py, q, rt, true, true, us, pw⟩ : Cn) (.slice va vn vc) (.slice ua un uc))
  have hfr := flagsN_range _ hok
  obtain ⟨k0, k1, q0, q1, hid', htp, hpy, hus, hpw, okp, okw, hpn, hwn⟩ := hok
  dsimp only at k0 k1 q0 q1 hid' htp hpy hus hpw okp okw hpn hwn
  have HFO := Lib.hid (fun W => flagsOf_calls W (⟨cl, keep, ps, id, true, wp, tp, py, q, rt, true, true, us, pw⟩ : Cn) (.slice va vn vc) (.slice ua un uc) q0 q1)
  have HFO' := Lib.hid (show ∀ W, Calls Tryd.prog 46 #[.agg #[.bool cl, .int .u32 keep, .slice va vn vc, .string id, .bool true, .slice ua un uc, .string tp, .string py, .int .u8 q, .bool rt, .bool true, .bool true, .string us, .string pw]] W (fun e w' => e = .returned (.int .u8 (flagsN (⟨cl, keep, ps, id, true, wp, tp, py, q, rt, true, true, us, pw⟩ : Cn))) ∧ Below W.heap.size W w') from HFO.out)
  have htl : textL (⟨cl, keep, ps, id, true, wp, tp, py, q, rt, true, true, us, pw⟩ : Cn) = [] ++ datL mqtt ++ [5] ++ [UInt8.ofNat (flagsN (⟨cl, keep, ps, id, true, wp, tp, py, q, rt, true, true, us, pw⟩ : Cn)).toNat] ++ two keep ++ propsL ps ++ datL id ++ propsL wp ++ datL tp ++ datL py ++ datL us ++ datL pw := by
    simp [textL, headL, willL, userL, passL]
  rw [htl]
  have l0 : (datL mqtt).length = 6 := rfl
  have l1 := propsL_len ps okp hpn
  have l2 := datL_len id hid'
  have l3 := propsL_len wp okw hwn
  have l4 := datL_len tp htp
  have l5 := datL_len py hpy
  have l6 := datL_len us hus
  generalize hFN : flagsN (⟨cl, keep, ps, id, true, wp, tp, py, q, rt, true, true, us, pw⟩ : Cn) = FN at *
  obtain ⟨hf0, hf1⟩ := hfr
  have HV := Lib.hid hv
  have HU := Lib.hid hu
  clear HFO htl hFN hv hu
  go_enter Tryd.func20, Tryd.ntmps20
  go_wp2_with fail
  have hst : (w.alloc (.cells (cnC (⟨cl, keep, ps, id, true, wp, tp, py, q, rt, true, true, us, pw⟩ : Cn) (.slice va vn vc) (.slice ua un uc)) 29)).alloc (.cells #[.slice none 0 0] 90) = (w.alloc (.cells #[.bool cl, .int .u32 keep, .slice va vn vc, .string id, .bool true, .slice ua un uc, .string tp, .string py, .int .u8 q, .bool rt, .bool true, .bool true, .string us, .string pw] 29)).alloc (.cells #[.slice none 0 0] 90) := rfl
  rw [hst] at T0
  clear hst
  generalize (w.alloc (.cells #[.bool cl, .int .u32 keep, .slice va vn vc, .string id, .bool true, .slice ua un uc, .string tp, .string py, .int .u8 q, .bool rt, .bool true, .bool true, .string us, .string pw] 29)).alloc (.cells #[.slice none 0 0] 90) = W0 at *
  have TD := Lib.hid T0.out.drew
  have KC := Lib.hid (show ∀ r' bs' Wx, TxC w (⟨cl, keep, ps, id, true, wp, tp, py, q, rt, true, true, us, pw⟩ : Cn) (.slice va vn vc) (.slice ua un uc) r' bs' Wx → (Wx.cell? ⟨w.heap.size, 0, none⟩ = some (.bool cl) ∧ Wx.cell? ⟨w.heap.size, 1, none⟩ = some (.int .u32 keep) ∧ Wx.cell? ⟨w.heap.size, 2, none⟩ = some (.slice va vn vc) ∧ Wx.cell? ⟨w.heap.size, 3, none⟩ = some (.string id) ∧ Wx.cell? ⟨w.heap.size, 4, none⟩ = some (.bool true) ∧ Wx.cell? ⟨w.heap.size, 5, none⟩ = some (.slice ua un uc) ∧ Wx.cell? ⟨w.heap.size, 6, none⟩ = some (.string tp)) ∧ (Wx.cell? ⟨w.heap.size, 7, none⟩ = some (.string py) ∧ Wx.cell? ⟨w.heap.size, 8, none⟩ = some (.int .u8 q) ∧ Wx.cell? ⟨w.heap.size, 9, none⟩ = some (.bool rt) ∧ Wx.cell? ⟨w.heap.size, 10, none⟩ = some (.bool true) ∧ Wx.cell? ⟨w.heap.size, 11, none⟩ = some (.bool true) ∧ Wx.cell? ⟨w.heap.size, 12, none⟩ = some (.string us) ∧ Wx.cell? ⟨w.heap.size, 13, none⟩ = some (.string pw)) from fun r' bs' Wx h => ⟨(cells14 h.box).1, (cells14 h.box).2.1⟩)
  have K0 := Lib.hid (KC.out _ _ _ TD.out)
  clear T0
  have LG1 := Lib.hid (show ([] ++ datL mqtt).length < 999000000 by decide)
  have LG2 := Lib.hid (show ([] ++ datL mqtt ++ [5]).length < 999000000 by decide)
  have LG3 := Lib.hid (show ([] ++ datL mqtt ++ [5] ++ [UInt8.ofNat FN.toNat]).length < 999000000 by simp; omega)
  have LG1' := Lib.hid (show ([] ++ datL mqtt).length < 1000000000 by decide)
  have LG2' := Lib.hid (show ([] ++ datL mqtt ++ [5]).length < 1000000000 by decide)
  have LG3' := Lib.hid (show ([] ++ datL mqtt ++ [5] ++ [UInt8.ofNat FN.toNat]).length < 1000000000 by simp; omega)
  go_region_held3 (fun wx => (wx.cell? ⟨w.heap.size, 0, none⟩ = some (.bool cl) ∧ wx.cell? ⟨w.heap.size, 1, none⟩ = some (.int .u32 keep) ∧ wx.cell? ⟨w.heap.size, 2, none⟩ = some (.slice va vn vc) ∧ wx.cell? ⟨w.heap.size, 3, none⟩ = some (.string id) ∧ wx.cell? ⟨w.heap.size, 4, none⟩ = some (.bool true) ∧ wx.cell? ⟨w.heap.size, 5, none⟩ = some (.slice ua un uc) ∧ wx.cell? ⟨w.heap.size, 6, none⟩ = some (.string tp)) ∧ (wx.cell? ⟨w.heap.size, 7, none⟩ = some (.string py) ∧ wx.cell? ⟨w.heap.size, 8, none⟩ = some (.int .u8 q) ∧ wx.cell? ⟨w.heap.size, 9, none⟩ = some (.bool rt) ∧ wx.cell? ⟨w.heap.size, 10, none⟩ = some (.bool true) ∧ wx.cell? ⟨w.heap.size, 11, none⟩ = some (.bool true) ∧ wx.cell? ⟨w.heap.size, 12, none⟩ = some (.string us) ∧ wx.cell? ⟨w.heap.size, 13, none⟩ = some (.string pw)))
    (first | (with_reducible exact K0.out) | (with_reducible exact K1.out) | (with_reducible exact K2.out) | (with_reducible exact K3.out) | (with_reducible exact K4.out) | (with_reducible exact K5.out) | fail)
    (first
      | (go_at_call 44; (with_reducible refine (data_calls _ (w.heap.size + 1) none [] mqtt TD.out.out (by decide) (by simp)).mono ?_); rintro e V1 ⟨rfl, r1, h1, s1⟩; have T1 := Lib.hid (show TxC w (⟨cl, keep, ps, id, true, wp, tp, py, q, rt, true, true, us, pw⟩ : Cn) (.slice va vn vc) (.slice ua un uc) r1 ([] ++ datL mqtt) V1 from TD.out.put h1 s1); have K1 := Lib.hid (KC.out _ _ _ T1.out); clear h1 s1)
      | (go_at_call 45; (with_reducible refine (byte_calls _ (w.heap.size + 1) r1 _ 5 (by decide) (by decide) T1.out.out LG1'.out).mono ?_); rintro e V2 ⟨rfl, r2, h2, s2⟩; have T2 := Lib.hid (show TxC w (⟨cl, keep, ps, id, true, wp, tp, py, q, rt, true, true, us, pw⟩ : Cn) (.slice va vn vc) (.slice ua un uc) r2 ([] ++ datL mqtt ++ [5]) V2 from T1.out.put h2 s2); have K2 := Lib.hid (KC.out _ _ _ T2.out); clear h2 s2)
      | (go_at_call 46; (with_reducible refine (HFO'.out _).mono ?_); rintro e V3 ⟨rfl, b3⟩; have T3 := Lib.hid (T2.out.below b3); have K3 := Lib.hid (KC.out _ _ _ T3.out); clear b3)
      | (go_at_call 45; (with_reducible refine (byte_calls _ (w.heap.size + 1) r2 _ FN hf0 hf1 T3.out.out LG2'.out).mono ?_); rintro e V4 ⟨rfl, r4, h4, s4⟩; have T4 := Lib.hid (T3.out.put h4 s4); have K4 := Lib.hid (KC.out _ _ _ T4.out); clear h4 s4)
      | (go_at_call 47; (with_reducible refine (two_calls _ (w.heap.size + 1) r4 _ keep k0 k1 T4.out.out LG3'.out).mono ?_); rintro e V5 ⟨rfl, r5, h5, s5⟩; have T5 := Lib.hid (T4.out.put h5 s5); have K5 := Lib.hid (KC.out _ _ _ T5.out); clear h5 s5))
  rename_i hHeld
  clear hHeld K0 K1 K2 K3 K4 K5 TD T1 T2 T3 T4 HFO' LG1 LG2 LG3 LG1' LG2' LG3'
  have lG5 : ([] ++ datL mqtt ++ [5] ++ [UInt8.ofNat FN.toNat] ++ two keep).length = 10 := by simp [two_len]; omega
  generalize hG5 : [] ++ datL mqtt ++ [5] ++ [UInt8.ofNat FN.toNat] ++ two keep = G5 at *
  have lG5' : G5.length ≤ 10 := by omega
  have HG5 := Lib.hid hG5
  clear hG5 lG5
  obtain ⟨⟨d0, d1, d2, d3, d4, d5, d6⟩, d7, d8, d9, d10, d11, d12, d13⟩ := KC.out _ _ _ T5.out
  go_wp2_with fail
  refine (put3_calls _ (w.heap.size + 1) r5 _ (.slice va vn vc) ps (HV.out.below T5.out.bel) okp hpn T5.out.out (by (try simp only [List.length_append]); omega)).mono ?_
  rintro e V6 ⟨rfl, r6, h6, s6⟩
  have T6 := Lib.hid (T5.out.put h6 s6)
  clear h6 s6 d0 d1 d2 d3 d4 d5 d6 d7 d8 d9 d10 d11 d12 d13 T5
  obtain ⟨⟨d0, d1, d2, d3, d4, d5, d6⟩, d7, d8, d9, d10, d11, d12, d13⟩ := KC.out _ _ _ T6.out
  go_wp2_with fail
  refine (data_calls _ (w.heap.size + 1) r6 _ id T6.out.out hid' (by (try simp only [List.length_append]); omega)).mono ?_
  rintro e V7 ⟨rfl, r7, h7, s7⟩
  rw [show two id.size ++ id.data.toList = datL id from rfl] at h7
  have T7 := Lib.hid (T6.out.put h7 s7)
  clear h7 s7 d0 d1 d2 d3 d4 d5 d6 d7 d8 d9 d10 d11 d12 d13 T6
  obtain ⟨⟨d0, d1, d2, d3, d4, d5, d6⟩, d7, d8, d9, d10, d11, d12, d13⟩ := KC.out _ _ _ T7.out
  go_wp2_with fail
  refine (put3_calls _ (w.heap.size + 1) r7 _ (.slice ua un uc) wp (HU.out.below T7.out.bel) okw hwn T7.out.out (by (try simp only [List.length_append]); omega)).mono ?_
  rintro e V8 ⟨rfl, r8, h8, s8⟩
  have T8 := Lib.hid (T7.out.put h8 s8)
  clear h8 s8 d0 d1 d2 d3 d4 d5 d6 d7 d8 d9 d10 d11 d12 d13 T7
  obtain ⟨⟨d0, d1, d2, d3, d4, d5, d6⟩, d7, d8, d9, d10, d11, d12, d13⟩ := KC.out _ _ _ T8.out
  go_wp2_with fail
  have TD := Lib.hid T8.out.drew
  have K0 := Lib.hid (KC.out _ _ _ TD.out)
  have LA := Lib.hid (show (G5 ++ propsL ps ++ datL id ++ propsL wp).length < 999000000 by simp only [List.length_append]; omega)
  have LB := Lib.hid (show (G5 ++ propsL ps ++ datL id ++ propsL wp ++ datL tp).length < 999000000 by simp only [List.length_append]; omega)
  clear d0 d1 d2 d3 d4 d5 d6 d7 d8 d9 d10 d11 d12 d13 T8
  go_region_held3 (fun wx => (wx.cell? ⟨w.heap.size, 0, none⟩ = some (.bool cl) ∧ wx.cell? ⟨w.heap.size, 1, none⟩ = some (.int .u32 keep) ∧ wx.cell? ⟨w.heap.size, 2, none⟩ = some (.slice va vn vc) ∧ wx.cell? ⟨w.heap.size, 3, none⟩ = some (.string id) ∧ wx.cell? ⟨w.heap.size, 4, none⟩ = some (.bool true) ∧ wx.cell? ⟨w.heap.size, 5, none⟩ = some (.slice ua un uc) ∧ wx.cell? ⟨w.heap.size, 6, none⟩ = some (.string tp)) ∧ (wx.cell? ⟨w.heap.size, 7, none⟩ = some (.string py) ∧ wx.cell? ⟨w.heap.size, 8, none⟩ = some (.int .u8 q) ∧ wx.cell? ⟨w.heap.size, 9, none⟩ = some (.bool rt) ∧ wx.cell? ⟨w.heap.size, 10, none⟩ = some (.bool true) ∧ wx.cell? ⟨w.heap.size, 11, none⟩ = some (.bool true) ∧ wx.cell? ⟨w.heap.size, 12, none⟩ = some (.string us) ∧ wx.cell? ⟨w.heap.size, 13, none⟩ = some (.string pw)))
    (first | (with_reducible exact K0.out) | (with_reducible exact K1.out) | (with_reducible exact K2.out) | fail)
    (first
      | (go_at_call 44; (with_reducible refine (data_calls _ (w.heap.size + 1) r8 _ tp TD.out.out htp LA.out).mono ?_); rintro e V9 ⟨rfl, r9, h9, s9⟩; have T9 := Lib.hid (show TxC w (⟨cl, keep, ps, id, true, wp, tp, py, q, rt, true, true, us, pw⟩ : Cn) (.slice va vn vc) (.slice ua un uc) r9 (G5 ++ propsL ps ++ datL id ++ propsL wp ++ datL tp) V9 from TD.out.put h9 s9); have K1 := Lib.hid (KC.out _ _ _ T9.out); clear h9 s9)
      | (go_at_call 44; (with_reducible refine (data_calls _ (w.heap.size + 1) r9 _ py T9.out.out hpy LB.out).mono ?_); rintro e V10 ⟨rfl, r10, h10, s10⟩; have T10 := Lib.hid (show TxC w (⟨cl, keep, ps, id, true, wp, tp, py, q, rt, true, true, us, pw⟩ : Cn) (.slice va vn vc) (.slice ua un uc) r10 (G5 ++ propsL ps ++ datL id ++ propsL wp ++ datL tp ++ datL py) V10 from T9.out.put h10 s10); have K2 := Lib.hid (KC.out _ _ _ T10.out); clear h10 s10))
  rename_i hHeld
  clear hHeld K0 K1 K2 TD T9 LA LB
  obtain ⟨⟨d0, d1, d2, d3, d4, d5, d6⟩, d7, d8, d9, d10, d11, d12, d13⟩ := KC.out _ _ _ T10.out
  go_wp2_with fail
  refine (data_calls _ (w.heap.size + 1) r10 _ us T10.out.out hus (by (try simp only [List.length_append]); omega)).mono ?_
  rintro e V11 ⟨rfl, r11, h11, s11⟩
  rw [show two us.size ++ us.data.toList = datL us from rfl] at h11
  have T11 := Lib.hid (T10.out.put h11 s11)
  clear h11 s11 d0 d1 d2 d3 d4 d5 d6 d7 d8 d9 d10 d11 d12 d13 T10
  obtain ⟨⟨d0, d1, d2, d3, d4, d5, d6⟩, d7, d8, d9, d10, d11, d12, d13⟩ := KC.out _ _ _ T11.out
  go_wp2_with fail
  refine (data_calls _ (w.heap.size + 1) r11 _ pw T11.out.out hpw (by (try simp only [List.length_append]); omega)).mono ?_
  rintro e V12 ⟨rfl, r12, h12, s12⟩
  rw [show two pw.size ++ pw.data.toList = datL pw from rfl] at h12
  have T12 := Lib.hid (T11.out.put h12 s12)
  clear h12 s12 d0 d1 d2 d3 d4 d5 d6 d7 d8 d9 d10 d11 d12 d13 T11
  obtain ⟨⟨d0, d1, d2, d3, d4, d5, d6⟩, d7, d8, d9, d10, d11, d12, d13⟩ := KC.out _ _ _ T12.out
  go_wp2_with fail
  refine (text_calls _ (w.heap.size + 1) r12 _ T12.out.out).mono ?_
  rintro e w9 ⟨rfl, rfl⟩
  have BF := Lib.hid T12.out.bel
  clear T12 d0 d1 d2 d3 d4 d5 d6 d7 d8 d9 d10 d11 d12 d13
  go_wp2
  go_ret
  exact ⟨ret_str (by rw [← HG5.out]; simp), BF.out⟩

end Go.Proofs.YtdhdjkpocdfjbabDoor
