/-
  Packets go as bytes, one behind the other, and come back (switchboardlaw05.FrameBack answers true for every input).
  Its conditions: none beside those of the row itself.
-/
import Derived.Test.YtdhdjkpocdfjbaaFr14
import Derived.ProofKit
import Derived.OpenShut
import Derived.ShutString
import Derived.ChangeOld
namespace Go.Proofs.Ytdhdjkpocdfjbaa.frameBack
open Go.ChangeShapes Go.WideShapes Go.ChangeAt Go.RowKit
open Go.ChangeMaps (open_string shut_string)
set_option linter.unusedVariables false

theorem own : ownKnob Try.prog.godebug = none := by kernel_rfl
theorem laidOut : laidOutB Try.prog = true := by kernel_rfl

/-- Flags that no byte has. -/
theorem chk_out (k f : Int) (h : f < 0 ∨ 16 ≤ f) : chkB k f = false := by
  unfold chkB arB pubB
  by_cases h3 : k = 3
  · rw [if_pos h3]; rcases h with h | h <;> simp <;> omega
  · rw [if_neg h3]
    by_cases h6 : k = 6 ∨ k = 8 ∨ k = 10
    · rw [if_pos h6]; rcases h with h | h <;> simp <;> omega
    · rw [if_neg h6]; rcases h with h | h <;> simp <;> omega

/-- What holds at the loop's head. -/
structure BackJ (w : World) (v : Value) (wr : World) (k : Nat) (L : List Fm) : Prop where
  own : OwnF w.heap.size 47 wr v L
  bel : Below w.heap.size w wr
  ok : ∀ F ∈ L, frOk F
  cnt : L.length ≤ k

set_option maxRecDepth 100000 in
set_option maxHeartbeats 4000000 in
theorem walk (v0 : Value) (T : List (Int × Int × ByteArray)) (w : World) (hz : FrsIn w v0 T) :
    Calls Try.prog 5 #[v0] w fun e w' => e = .returned (.bool true) ∧ Below w.heap.size w w' := by
  obtain ⟨A, cap, rfl, hTl, hTc⟩ := hz
  have HTC := Lib.hid hTc
  unfold maxLen at hTl
  clear hTc
  go_enter Try.func5, Try.ntmps5
  go_wp2_with fail
  refine (awake5_calls _).mono ?_
  rintro e w3 ⟨rfl, b3⟩
  have hs3 := b3.size
  have hJ : BackJ w (.slice (some ⟨w3.heap.size, 0, none⟩) 0 0) (w3.alloc (.cells #[] 47)) 0 [] := ⟨(OwnF.empty w3 47).mono hs3, b3.alloc hs3 _, (fun F hF => by cases hF), by simp⟩
  have HJ := Lib.hid hJ
  clear b3 hJ
  go_wp2
  go_loopw [3, 4, 5, 6] (fun s u z i wr => ∃ (k : Nat) (L : List Fm) (a : Option Addr) (c : Nat), s = .string (str (catL L)) ∧ u = .slice a L.length c ∧ z = .int .i64 (catL L).length ∧ i = .int .i64 k ∧ k ≤ 8 ∧ BackJ w (.slice a L.length c) wr k L) (fun _ _ _ i _ => 8 - (intOf i).toNat)
  case atStart => exact ⟨0, [], _, 0, rfl, rfl, rfl, rfl, by omega, HJ.out⟩
  case round =>
    clear HJ
    obtain ⟨k, L, a, c, rfl, rfl, rfl, rfl, hk, hj⟩ := hrel
    have HJ := Lib.hid hj
    have hws := hj.bel.size
    clear hj
    by_cases hlt : k < T.length ∧ k < 8
    · obtain ⟨hl1, hl2⟩ := hlt
      obtain ⟨x, hx⟩ : ∃ x, T[k]? = some x := ⟨_, List.getElem?_eq_getElem hl1⟩
      obtain ⟨b, off, hA, hbl, c0, c1, c2, hf0, hf1, hsz⟩ := HTC.out k x hx
      rw [← HJ.out.bel.cell (p := ⟨b, _, none⟩) hbl] at c0 c1 c2
      subst hA
      clear hx
      obtain ⟨xk, xf, xs⟩ := x
      dsimp only at c0 c1 c2 hf0 hf1 hsz
      have hlI : (k : Int) < T.length := by omega
      have hbl2 : b < wr.heap.size := by omega
      have hcut := ba_take xs 150
      have hbody : (xs.data.toList.take 150).length ≤ 150 := by rw [List.length_take]; omega
      generalize xs.data.toList.take 150 = body at hcut hbody
      have hcall : ∀ wx, Calls Try.prog 7 #[.string xs, .int .i64 150] wx (fun e w' => e = .returned (.string (str body)) ∧ wx = w') := by
        intro wx
        have := cut_calls wx xs 150 hsz
        rw [hcut] at this
        exact this
      have HCALL := Lib.hid hcall
      clear hcut hcall
      go_wp2_with fail
      have HS0 := Lib.hid (show wr.drew.cell? ⟨b, off + k * 3, none⟩ = some (.int .i64 xk) ∧ wr.drew.cell? ⟨b, off + k * 3 + 1, none⟩ = some (.int .i64 xf) ∧ wr.drew.cell? ⟨b, off + k * 3 + 2, none⟩ = some (.string xs) from ⟨c0, c1, c2⟩)
      go_region_held3 (fun wx => wx.cell? ⟨b, off + k * 3, none⟩ = some (.int .i64 xk) ∧ wx.cell? ⟨b, off + k * 3 + 1, none⟩ = some (.int .i64 xf) ∧ wx.cell? ⟨b, off + k * 3 + 2, none⟩ = some (.string xs))
        (first | (with_reducible exact HS0.out) | go_keep | fail)
        (first
          | (go_at_call 7; (with_reducible refine (HCALL.out _).mono ?_); rintro e w' ⟨rfl, rfl⟩))
      all_goals
        clear HS0 HCALL c0 c1 c2
        rename_i hHeld
        clear hHeld
        have HO := Lib.hid (HJ.out.own.below ((below_one wr (.cells #[.int .i64 xk, .int .i64 xf, .string (str body)] 37)).drew))
        have HB := Lib.hid ((HJ.out.bel.alloc hws (.cells #[.int .i64 xk, .int .i64 xf, .string (str body)] 37)).drew)
        have HCF := Lib.hid (show (wr.alloc (.cells #[.int .i64 xk, .int .i64 xf, .string (str body)] 37)).drew.heap[wr.heap.size]? = some (.cells #[.int .i64 xk, .int .i64 xf, .string (str body)] 37 (0, 0)) from heap_alloc_new wr _)
        generalize (wr.alloc (.cells #[.int .i64 xk, .int .i64 xf, .string (str body)] 37)).drew = Wb at *
        obtain ⟨⟨d0, d1, d2⟩, -⟩ := three_cells HCF.out
        have hfb : w.heap.size ≤ wr.heap.size := hws
        have hfbl := lt_of_block HCF.out
        generalize wr.heap.size = fb at *
        by_cases hlo : xf < 0
        · have hchk := chk_out xk xf (.inl hlo)
          have hd0 : decide (0 ≤ xf) = false := by simp; omega
          cases hr5 : r5B xk xf
          · skip
            have HCK := Lib.hid (show ∀ wx, Calls Try.prog 16 #[.int .i64 xk, .int .i64 xf] wx (fun e w' => e = .returned (.int .i64 2) ∧ w' = wx) from fun wx => (check_calls wx xk xf).mono (fun e w' h => ⟨by rw [h.1, hchk]; rfl, h.2.symm⟩))
            have HR5 := Lib.hid (show ∀ wx, Calls Try.prog 17 #[.int .i64 xk, .int .i64 xf] wx (fun e w' => e = .returned (.bool false) ∧ wx = w') from fun wx => (r5check_calls wx xk xf hf0 hf1).mono (fun e w' h => ⟨by rw [h.1, hr5], h.2⟩))
            have HR5Q := Lib.hid (show ∀ wx, Calls Try.prog 17 #[.int .i64 xk, .int .i64 xf] wx (fun e w' => e = .returned (.bool false) ∧ w' = wx) from fun wx => (HR5.out wx).mono (fun e w' h => ⟨h.1, h.2.symm⟩))
            clear hchk hr5
            go_wp2_with fail
            go_quiet (first | (go_at_call 16; exact Calls.quiet_of_same (HCK.out _)) | (go_at_call 17; exact Calls.quiet_of_same (HR5Q.out _)))
            rename_i nq
            have hcf : (Wb.drewN nq).heap[fb]? = some (.cells #[.int .i64 xk, .int .i64 xf, .string (str body)] 37 (0, 0)) := HCF.out
            have HJN := Lib.hid (show BackJ w (.slice a L.length c) (Wb.drewN nq) (k + 1) L from ⟨HO.out, drewN_below HB.out nq, HJ.out.ok, by have := HJ.out.cnt; omega⟩)
            have hszN : (Wb.drewN nq).heap.size = Wb.heap.size := rfl
            generalize Wb.drewN nq = Wq at *
            obtain ⟨⟨g0, g1, g2⟩, -⟩ := three_cells hcf
            clear hcf
            by_cases hk1 : xk < 1
            · skip
              go_wp2_with ((go_at_call 17; (with_reducible refine (HR5.out _).mono ?_); rintro e w' ⟨rfl, rfl⟩))
              go_roundw
              case rel => exact ⟨k + 1, L, a, c, rfl, rfl, rfl, by go_num, by omega, HJN.out⟩
              case measure => simp [intOf]; omega
            by_cases hk15 : 15 < xk
            · skip
              go_wp2_with ((go_at_call 17; (with_reducible refine (HR5.out _).mono ?_); rintro e w' ⟨rfl, rfl⟩))
              go_roundw
              case rel => exact ⟨k + 1, L, a, c, rfl, rfl, rfl, by go_num, by omega, HJN.out⟩
              case measure => simp [intOf]; omega
            go_wp2_with ((go_at_call 17; (with_reducible refine (HR5.out _).mono ?_); rintro e w' ⟨rfl, rfl⟩))
            go_roundw
            case rel => exact ⟨k + 1, L, a, c, rfl, rfl, rfl, by go_num, by omega, HJN.out⟩
            case measure => simp [intOf]; omega
          · skip
            have HCK := Lib.hid (show ∀ wx, Calls Try.prog 16 #[.int .i64 xk, .int .i64 xf] wx (fun e w' => e = .returned (.int .i64 2) ∧ w' = wx) from fun wx => (check_calls wx xk xf).mono (fun e w' h => ⟨by rw [h.1, hchk]; rfl, h.2.symm⟩))
            have HR5 := Lib.hid (show ∀ wx, Calls Try.prog 17 #[.int .i64 xk, .int .i64 xf] wx (fun e w' => e = .returned (.bool true) ∧ wx = w') from fun wx => (r5check_calls wx xk xf hf0 hf1).mono (fun e w' h => ⟨by rw [h.1, hr5], h.2⟩))
            have HR5Q := Lib.hid (show ∀ wx, Calls Try.prog 17 #[.int .i64 xk, .int .i64 xf] wx (fun e w' => e = .returned (.bool true) ∧ w' = wx) from fun wx => (HR5.out wx).mono (fun e w' h => ⟨h.1, h.2.symm⟩))
            clear hchk hr5
            go_wp2_with fail
            go_quiet (first | (go_at_call 16; exact Calls.quiet_of_same (HCK.out _)) | (go_at_call 17; exact Calls.quiet_of_same (HR5Q.out _)))
            rename_i nq
            have hcf : (Wb.drewN nq).heap[fb]? = some (.cells #[.int .i64 xk, .int .i64 xf, .string (str body)] 37 (0, 0)) := HCF.out
            have HJN := Lib.hid (show BackJ w (.slice a L.length c) (Wb.drewN nq) (k + 1) L from ⟨HO.out, drewN_below HB.out nq, HJ.out.ok, by have := HJ.out.cnt; omega⟩)
            have hszN : (Wb.drewN nq).heap.size = Wb.heap.size := rfl
            generalize Wb.drewN nq = Wq at *
            obtain ⟨⟨g0, g1, g2⟩, -⟩ := three_cells hcf
            clear hcf
            by_cases hk1 : xk < 1
            · skip
              go_wp2_with ((go_at_call 17; (with_reducible refine (HR5.out _).mono ?_); rintro e w' ⟨rfl, rfl⟩))
              go_roundw
              case rel => exact ⟨k + 1, L, a, c, rfl, rfl, rfl, by go_num, by omega, HJN.out⟩
              case measure => simp [intOf]; omega
            by_cases hk15 : 15 < xk
            · skip
              go_wp2_with ((go_at_call 17; (with_reducible refine (HR5.out _).mono ?_); rintro e w' ⟨rfl, rfl⟩))
              go_roundw
              case rel => exact ⟨k + 1, L, a, c, rfl, rfl, rfl, by go_num, by omega, HJN.out⟩
              case measure => simp [intOf]; omega
            go_wp2_with ((go_at_call 17; (with_reducible refine (HR5.out _).mono ?_); rintro e w' ⟨rfl, rfl⟩))
            go_roundw
            case rel => exact ⟨k + 1, L, a, c, rfl, rfl, rfl, by go_num, by omega, HJN.out⟩
            case measure => simp [intOf]; omega
        by_cases hhi : 16 ≤ xf
        · have hchk := chk_out xk xf (.inr hhi)
          have hd1 : decide (xf < 16) = false := by simp; omega
          have hlo0 : 0 ≤ xf := by omega
          cases hr5 : r5B xk xf
          · skip
            have HCK := Lib.hid (show ∀ wx, Calls Try.prog 16 #[.int .i64 xk, .int .i64 xf] wx (fun e w' => e = .returned (.int .i64 2) ∧ w' = wx) from fun wx => (check_calls wx xk xf).mono (fun e w' h => ⟨by rw [h.1, hchk]; rfl, h.2.symm⟩))
            have HR5 := Lib.hid (show ∀ wx, Calls Try.prog 17 #[.int .i64 xk, .int .i64 xf] wx (fun e w' => e = .returned (.bool false) ∧ wx = w') from fun wx => (r5check_calls wx xk xf hf0 hf1).mono (fun e w' h => ⟨by rw [h.1, hr5], h.2⟩))
            have HR5Q := Lib.hid (show ∀ wx, Calls Try.prog 17 #[.int .i64 xk, .int .i64 xf] wx (fun e w' => e = .returned (.bool false) ∧ w' = wx) from fun wx => (HR5.out wx).mono (fun e w' h => ⟨h.1, h.2.symm⟩))
            clear hchk hr5
            go_wp2_with fail
            go_quiet (first | (go_at_call 16; exact Calls.quiet_of_same (HCK.out _)) | (go_at_call 17; exact Calls.quiet_of_same (HR5Q.out _)))
            rename_i nq
            have hcf : (Wb.drewN nq).heap[fb]? = some (.cells #[.int .i64 xk, .int .i64 xf, .string (str body)] 37 (0, 0)) := HCF.out
            have HJN := Lib.hid (show BackJ w (.slice a L.length c) (Wb.drewN nq) (k + 1) L from ⟨HO.out, drewN_below HB.out nq, HJ.out.ok, by have := HJ.out.cnt; omega⟩)
            have hszN : (Wb.drewN nq).heap.size = Wb.heap.size := rfl
            generalize Wb.drewN nq = Wq at *
            obtain ⟨⟨g0, g1, g2⟩, -⟩ := three_cells hcf
            clear hcf
            by_cases hk1 : xk < 1
            · skip
              go_wp2_with ((go_at_call 17; (with_reducible refine (HR5.out _).mono ?_); rintro e w' ⟨rfl, rfl⟩))
              go_roundw
              case rel => exact ⟨k + 1, L, a, c, rfl, rfl, rfl, by go_num, by omega, HJN.out⟩
              case measure => simp [intOf]; omega
            by_cases hk15 : 15 < xk
            · skip
              go_wp2_with ((go_at_call 17; (with_reducible refine (HR5.out _).mono ?_); rintro e w' ⟨rfl, rfl⟩))
              go_roundw
              case rel => exact ⟨k + 1, L, a, c, rfl, rfl, rfl, by go_num, by omega, HJN.out⟩
              case measure => simp [intOf]; omega
            go_wp2_with ((go_at_call 17; (with_reducible refine (HR5.out _).mono ?_); rintro e w' ⟨rfl, rfl⟩))
            go_roundw
            case rel => exact ⟨k + 1, L, a, c, rfl, rfl, rfl, by go_num, by omega, HJN.out⟩
            case measure => simp [intOf]; omega
          · skip
            have HCK := Lib.hid (show ∀ wx, Calls Try.prog 16 #[.int .i64 xk, .int .i64 xf] wx (fun e w' => e = .returned (.int .i64 2) ∧ w' = wx) from fun wx => (check_calls wx xk xf).mono (fun e w' h => ⟨by rw [h.1, hchk]; rfl, h.2.symm⟩))
            have HR5 := Lib.hid (show ∀ wx, Calls Try.prog 17 #[.int .i64 xk, .int .i64 xf] wx (fun e w' => e = .returned (.bool true) ∧ wx = w') from fun wx => (r5check_calls wx xk xf hf0 hf1).mono (fun e w' h => ⟨by rw [h.1, hr5], h.2⟩))
            have HR5Q := Lib.hid (show ∀ wx, Calls Try.prog 17 #[.int .i64 xk, .int .i64 xf] wx (fun e w' => e = .returned (.bool true) ∧ w' = wx) from fun wx => (HR5.out wx).mono (fun e w' h => ⟨h.1, h.2.symm⟩))
            clear hchk hr5
            go_wp2_with fail
            go_quiet (first | (go_at_call 16; exact Calls.quiet_of_same (HCK.out _)) | (go_at_call 17; exact Calls.quiet_of_same (HR5Q.out _)))
            rename_i nq
            have hcf : (Wb.drewN nq).heap[fb]? = some (.cells #[.int .i64 xk, .int .i64 xf, .string (str body)] 37 (0, 0)) := HCF.out
            have HJN := Lib.hid (show BackJ w (.slice a L.length c) (Wb.drewN nq) (k + 1) L from ⟨HO.out, drewN_below HB.out nq, HJ.out.ok, by have := HJ.out.cnt; omega⟩)
            have hszN : (Wb.drewN nq).heap.size = Wb.heap.size := rfl
            generalize Wb.drewN nq = Wq at *
            obtain ⟨⟨g0, g1, g2⟩, -⟩ := three_cells hcf
            clear hcf
            by_cases hk1 : xk < 1
            · skip
              go_wp2_with ((go_at_call 17; (with_reducible refine (HR5.out _).mono ?_); rintro e w' ⟨rfl, rfl⟩))
              go_roundw
              case rel => exact ⟨k + 1, L, a, c, rfl, rfl, rfl, by go_num, by omega, HJN.out⟩
              case measure => simp [intOf]; omega
            by_cases hk15 : 15 < xk
            · skip
              go_wp2_with ((go_at_call 17; (with_reducible refine (HR5.out _).mono ?_); rintro e w' ⟨rfl, rfl⟩))
              go_roundw
              case rel => exact ⟨k + 1, L, a, c, rfl, rfl, rfl, by go_num, by omega, HJN.out⟩
              case measure => simp [intOf]; omega
            go_wp2_with ((go_at_call 17; (with_reducible refine (HR5.out _).mono ?_); rintro e w' ⟨rfl, rfl⟩))
            go_roundw
            case rel => exact ⟨k + 1, L, a, c, rfl, rfl, rfl, by go_num, by omega, HJN.out⟩
            case measure => simp [intOf]; omega
        have hr5c := r5B_chk xk xf (by omega) (by omega)
        cases hchk : chkB xk xf
        · have hr5 : r5B xk xf = false := hr5c.trans hchk
          · skip
            have HCK := Lib.hid (show ∀ wx, Calls Try.prog 16 #[.int .i64 xk, .int .i64 xf] wx (fun e w' => e = .returned (.int .i64 2) ∧ w' = wx) from fun wx => (check_calls wx xk xf).mono (fun e w' h => ⟨by rw [h.1, hchk]; rfl, h.2.symm⟩))
            have HR5 := Lib.hid (show ∀ wx, Calls Try.prog 17 #[.int .i64 xk, .int .i64 xf] wx (fun e w' => e = .returned (.bool false) ∧ wx = w') from fun wx => (r5check_calls wx xk xf hf0 hf1).mono (fun e w' h => ⟨by rw [h.1, hr5], h.2⟩))
            have HR5Q := Lib.hid (show ∀ wx, Calls Try.prog 17 #[.int .i64 xk, .int .i64 xf] wx (fun e w' => e = .returned (.bool false) ∧ w' = wx) from fun wx => (HR5.out wx).mono (fun e w' h => ⟨h.1, h.2.symm⟩))
            clear hchk hr5
            go_wp2_with fail
            go_quiet (first | (go_at_call 16; exact Calls.quiet_of_same (HCK.out _)) | (go_at_call 17; exact Calls.quiet_of_same (HR5Q.out _)))
            rename_i nq
            have hcf : (Wb.drewN nq).heap[fb]? = some (.cells #[.int .i64 xk, .int .i64 xf, .string (str body)] 37 (0, 0)) := HCF.out
            have HJN := Lib.hid (show BackJ w (.slice a L.length c) (Wb.drewN nq) (k + 1) L from ⟨HO.out, drewN_below HB.out nq, HJ.out.ok, by have := HJ.out.cnt; omega⟩)
            have hszN : (Wb.drewN nq).heap.size = Wb.heap.size := rfl
            generalize Wb.drewN nq = Wq at *
            obtain ⟨⟨g0, g1, g2⟩, -⟩ := three_cells hcf
            clear hcf
            by_cases hk1 : xk < 1
            · skip
              go_wp2_with ((go_at_call 17; (with_reducible refine (HR5.out _).mono ?_); rintro e w' ⟨rfl, rfl⟩))
              go_roundw
              case rel => exact ⟨k + 1, L, a, c, rfl, rfl, rfl, by go_num, by omega, HJN.out⟩
              case measure => simp [intOf]; omega
            by_cases hk15 : 15 < xk
            · skip
              go_wp2_with ((go_at_call 17; (with_reducible refine (HR5.out _).mono ?_); rintro e w' ⟨rfl, rfl⟩))
              go_roundw
              case rel => exact ⟨k + 1, L, a, c, rfl, rfl, rfl, by go_num, by omega, HJN.out⟩
              case measure => simp [intOf]; omega
            go_wp2_with ((go_at_call 17; (with_reducible refine (HR5.out _).mono ?_); rintro e w' ⟨rfl, rfl⟩))
            go_roundw
            case rel => exact ⟨k + 1, L, a, c, rfl, rfl, rfl, by go_num, by omega, HJN.out⟩
            case measure => simp [intOf]; omega
        · have hr5 : r5B xk xf = true := hr5c.trans hchk
          have hk1 : 1 ≤ xk ∧ xk ≤ 15 := by
            unfold chkB at hchk
            simp at hchk
            omega
          have hchk' := hchk
          · skip
            have HCK := Lib.hid (show ∀ wx, Calls Try.prog 16 #[.int .i64 xk, .int .i64 xf] wx (fun e w' => e = .returned (.int .i64 0) ∧ w' = wx) from fun wx => (check_calls wx xk xf).mono (fun e w' h => ⟨by rw [h.1, hchk]; rfl, h.2.symm⟩))
            have HR5 := Lib.hid (show ∀ wx, Calls Try.prog 17 #[.int .i64 xk, .int .i64 xf] wx (fun e w' => e = .returned (.bool true) ∧ wx = w') from fun wx => (r5check_calls wx xk xf hf0 hf1).mono (fun e w' h => ⟨by rw [h.1, hr5], h.2⟩))
            have HR5Q := Lib.hid (show ∀ wx, Calls Try.prog 17 #[.int .i64 xk, .int .i64 xf] wx (fun e w' => e = .returned (.bool true) ∧ w' = wx) from fun wx => (HR5.out wx).mono (fun e w' h => ⟨h.1, h.2.symm⟩))
            clear hchk hr5
            go_wp2_with fail
            go_quiet (first | (go_at_call 16; exact Calls.quiet_of_same (HCK.out _)) | (go_at_call 17; exact Calls.quiet_of_same (HR5Q.out _)))
            rename_i nq
            have hcf : (Wb.drewN nq).heap[fb]? = some (.cells #[.int .i64 xk, .int .i64 xf, .string (str body)] 37 (0, 0)) := HCF.out
            have HJN := Lib.hid (show BackJ w (.slice a L.length c) (Wb.drewN nq) (k + 1) L from ⟨HO.out, drewN_below HB.out nq, HJ.out.ok, by have := HJ.out.cnt; omega⟩)
            have hszN : (Wb.drewN nq).heap.size = Wb.heap.size := rfl
            generalize Wb.drewN nq = Wq at *
            obtain ⟨⟨g0, g1, g2⟩, -⟩ := three_cells hcf
            obtain ⟨kk, rfl⟩ := Int.eq_ofNat_of_zero_le (show 0 ≤ xk by omega)
            obtain ⟨ff, rfl⟩ := Int.eq_ofNat_of_zero_le (show 0 ≤ xf by omega)
            have hkk : kk ≤ 15 := by omega
            have hff : ff ≤ 15 := by omega
            have hok : frOk (kk, ff, body) := ⟨hkk, hff, hchk', hbody⟩
            have hLok : ∀ F ∈ L ++ [(kk, ff, body)], frOk F := by
              intro F hF
              rcases List.mem_append.1 hF with h | h
              · exact HJN.out.ok F h
              · simp at h; subst h; exact hok
            have hcl : (catL L).length ≤ 155 * L.length := cat_len L HJN.out.ok
            have hLc := HJ.out.cnt
            have hcl2 : (catL L).length ≤ 1240 := by omega
            have hfrl := frB_len (kk, ff, body) hok
            have hfrn : (frameL kk ff body).length = 1 + (varb 3 body.length).length + body.length := frame_len kk ff body
            have hcs := catL_snoc L (kk, ff, body)
            have hsC : (str (catL L)).size = (catL L).length := str_size _
            have hsF : (str (frameL kk ff body)).size = (frameL kk ff body).length := str_size _
            have hsB : (str body).size = body.length := str_size _
            have hfrl' : (frameL kk ff body).length ≤ 155 := hfrl
            have hsum : str (catL L) ++ str (frameL kk ff body) = str (catL (L ++ [(kk, ff, body)])) := by rw [str_append, hcs]; rfl
            have hlen : (catL (L ++ [(kk, ff, body)])).length = (catL L).length + (frameL kk ff body).length := by rw [hcs, List.length_append]; rfl
            have HLOK := Lib.hid hLok
            have HLEN := Lib.hid hlen
            have HFRN := Lib.hid hfrn
            have hlo0 : 0 ≤ (ff : Int) := by omega
            have hhi0 : (ff : Int) ≤ 15 := by omega
            obtain ⟨hx1, hx2⟩ := hk1
            have HCFQ := Lib.hid hcf
            have hfbq := lt_of_block hcf
            clear hcf hLok hcl hfrl hcs hlen hfrn hok hchk' HCK HR5Q hlo hhi hr5c
            go_wp2_with ((go_at_call 17; (with_reducible refine (HR5.out _).mono ?_); rintro e w' ⟨rfl, rfl⟩))
            refine (ftext_calls _ kk ff hkk hff body (by omega)).mono ?_
            rintro e wA ⟨rfl, bA⟩
            have cfA := (bA.block _ hfbq).trans HCFQ.out
            have HOA := Lib.hid (HJN.out.own.below bA)
            have HBA := Lib.hid (HJN.out.bel.trans (bA.mono HJN.out.bel.size))
            have hzA := bA.size
            have HCFA := Lib.hid cfA
            obtain ⟨⟨a0, a1, a2⟩, -⟩ := three_cells cfA
            clear bA cfA g0 g1 g2
            go_wp2_with fail
            refine (fsize_calls _ body.length (by omega)).mono ?_
            rw [← HFRN.out]
            rintro e wA' ⟨rfl, rfl⟩
            have hn3 := three_new wA (.int .i64 kk) (.int .i64 ff) (.string (str body)) 47
            have bN := below_one wA (.cells #[.int .i64 kk, .int .i64 ff, .string (str body)] 47)
            have HON := Lib.hid (HOA.out.below bN)
            have hwA : w.heap.size ≤ wA.heap.size := HBA.out.size
            have HBN := Lib.hid (HBA.out.trans (bN.mono hwA))
            have hcfN := (bN.block fb (lt_of_block HCFA.out)).trans HCFA.out
            have HCFN := Lib.hid hcfN
            have hsN : w.heap.size ≤ (wA.alloc (.cells #[.int .i64 kk, .int .i64 ff, .string (str body)] 47)).heap.size := by simp; omega
            have HN3 := Lib.hid hn3
            obtain ⟨i0, hi, hz0', hz1, hz2⟩ := info_parts Try.infoRFrame
            have hLn : L.length ≤ 8 := by omega
            clear hn3 bN hcfN HOA HBA
            go_wp2_with ((at_builtin; refine wpList_append_own_at _ rfl _ _ 31 rfl w.heap.size 47 i0 (.agg #[.int .i64 0, .int .i64 0, .string ⟨#[]⟩]) 3 32 Try.underlying31 hi hz0' hz1 hz2 rfl (by decide) _ _ _ rfl HON.out ⟨wA.heap.size, 0, none⟩ 1 1 [.int .i64 kk, .int .i64 ff, .string (str body)] rfl rfl HN3.out (by simp [Value.oneCell']) (by unfold maxLen; omega) (by omega) hsN ?_))
            intro v' w7 hown8 hgrow _ _
            have hown9 : OwnF w.heap.size 47 w7 v' (L ++ [(kk, ff, body)]) := own_snocF hown8
            have hcne : (Value.slice a L.length c).ownBlock ≠ some fb := by
              intro hg
              rcases HON.out.2 with ⟨e, _⟩ | ⟨g', cap', cur', e, _, hh, _⟩
              · rw [e] at hg; simp [Value.ownBlock] at hg
              · rw [e] at hg
                obtain rfl : g' = fb := by simpa [Value.ownBlock] using hg
                rw [HCFN.out] at hh
                injection hh with hh
                injection hh with _ hh
                exact absurd hh (by decide)
            have hcf7 := (hgrow.block fb (lt_of_block HCFN.out) (fun e => hcne e.symm)).trans HCFN.out
            have HB7 := Lib.hid (HBN.out.grown hgrow hsN (fun g hg => (World.ownsRow.lt HON.out g hg).1))
            have HO7 := Lib.hid hown9
            obtain ⟨⟨p0, p1, p2⟩, -⟩ := three_cells hcf7
            have hl7 := lt_of_block hcf7
            obtain ⟨a', c', hv'⟩ := hown9.form
            rw [hv']
            clear hown8 hgrow hown9 hcne hcf7 HON HBN HCFN HN3 a0 a1 a2
            go_wp2_with fail
            have HS7 := Lib.hid (show w7.drew.cell? ⟨fb, 0, none⟩ = some (.int .i64 kk) ∧ w7.drew.cell? ⟨fb, 1, none⟩ = some (.int .i64 ff) ∧ w7.drew.cell? ⟨fb, 2, none⟩ = some (.string (str body)) from ⟨p0, p1, p2⟩)
            have hl7d : fb < w7.drew.heap.size := hl7
            go_region_held3 (fun wx => wx.cell? ⟨fb, 0, none⟩ = some (.int .i64 kk) ∧ wx.cell? ⟨fb, 1, none⟩ = some (.int .i64 ff) ∧ wx.cell? ⟨fb, 2, none⟩ = some (.string (str body)))
              (first | (with_reducible exact HS7.out) | (with_reducible exact K8.out) | (with_reducible exact K9.out) | fail)
              (first
                | (go_at_call 18; (with_reducible refine (ftext_calls _ kk ff hkk hff body (by omega)).mono ?_); rintro e w8 ⟨rfl, b8⟩; have K8 := Lib.hid (show w8.cell? ⟨fb, 0, none⟩ = some (.int .i64 kk) ∧ w8.cell? ⟨fb, 1, none⟩ = some (.int .i64 ff) ∧ w8.cell? ⟨fb, 2, none⟩ = some (.string (str body)) from ⟨(b8.cell (p := ⟨fb, 0, none⟩) hl7d).trans HS7.out.1, (b8.cell (p := ⟨fb, 1, none⟩) hl7d).trans HS7.out.2.1, (b8.cell (p := ⟨fb, 2, none⟩) hl7d).trans HS7.out.2.2⟩); have hl8 := Nat.lt_of_lt_of_le hl7d b8.size; have B8 := Lib.hid b8; clear b8)
                | (go_at_call 20; (with_reducible refine (r5text_calls _ kk ff hkk hff body (by omega)).mono ?_); rintro e w9 ⟨rfl, b9⟩; have K9 := Lib.hid (show w9.cell? ⟨fb, 0, none⟩ = some (.int .i64 kk) ∧ w9.cell? ⟨fb, 1, none⟩ = some (.int .i64 ff) ∧ w9.cell? ⟨fb, 2, none⟩ = some (.string (str body)) from ⟨(b9.cell (p := ⟨fb, 0, none⟩) hl8).trans K8.out.1, (b9.cell (p := ⟨fb, 1, none⟩) hl8).trans K8.out.2.1, (b9.cell (p := ⟨fb, 2, none⟩) hl8).trans K8.out.2.2⟩); have B9 := Lib.hid b9; clear b9))
            rename_i hHeld
            have b79 : Below w7.heap.size w7 w9 := Below.trans ((Below.refl _ w7).drew) (Below.next B8.out B9.out)
            have hJ9 : BackJ w (.slice a' (L ++ [(kk, ff, body)]).length c') w9 (k + 1) (L ++ [(kk, ff, body)]) := ⟨(hv' ▸ HO7.out).below b79, HB7.out.trans (b79.mono HB7.out.size), HLOK.out, by simp; omega⟩
            have HJ9 := Lib.hid hJ9
            clear hHeld K8 K9 B8 B9 HS7 b79 hJ9 HO7 HB7 hv' p0 p1 p2
            go_wp2
            go_roundw
            case rel => exact ⟨k + 1, L ++ [(kk, ff, body)], a', c', rfl, by rw [show (L ++ [(kk, ff, body)]).length = L.length + 1 by simp], by rw [HLEN.out]; go_num, by go_num, by omega, HJ9.out⟩
            case measure => simp [intOf]; omega
    · have hcase : ((k : Int) < (T.length : Int)) ∧ ¬ ((k : Int) < 8) ∨ ¬ ((k : Int) < (T.length : Int)) := by omega
      have hrun := cat_run L HJ.out.ok 400 (by have := HJ.out.cnt; omega)
      have hcl : (catL L).length ≤ 155 * L.length := cat_len L HJ.out.ok
      have hLc := HJ.out.cnt
      have hcl2 : (catL L).length ≤ 1240 := by omega
      have hLn : L.length ≤ 8 := by omega
      have hsC : (str (catL L)).size = (catL L).length := str_size _
      have hsd := str_data (catL L)
      have hrun' : runF 1000 400 (catL L) = (L, 1, []) := hrun
      have HRUN := Lib.hid hrun'
      have HOL := Lib.hid (show ∀ g, (Value.slice a L.length c).ownBlock = some g → g < wr.heap.size from fun g hg => (World.ownsRow.lt HJ.out.own g hg).2)
      have HSD := Lib.hid hsd
      clear hrun hcl hsd hlt HTC hrun'
      rcases hcase with ⟨q1, q2⟩ | q1
      all_goals
        go_wp2_with fail
        refine (new_calls _ 1000).mono ?_
        rintro e wn ⟨rfl, rfl⟩
        have h4 := RdAt.new wr 1000
        have O4 := Lib.hid (HJ.out.own.below (below_one wr (.cells #[.int .i64 1000, .slice none 0 0, .int .i64 0] 53)))
        have B4 := Lib.hid (HJ.out.bel.alloc hws (.cells #[.int .i64 1000, .slice none 0 0, .int .i64 0] 53))
        generalize wr.alloc (.cells #[.int .i64 1000, .slice none 0 0, .int .i64 0] 53) = W4 at *
        generalize wr.heap.size = q at *
        have hlt4 := h4.lt
        go_wp2_with fail
        refine (feed_ok _ q none 1000 [] _ h4 (by rw [hsC]; simp; omega)).mono ?_
        rintro e w5 ⟨rfl, r5, h5, s5⟩
        rw [List.nil_append, HSD.out] at h5
        have O5 := Lib.hid (O4.out.read h4 s5 (by decide) (by decide))
        have B5 := Lib.hid (B4.out.trans (s5.below (by omega) (by omega) (fun g hg => by cases hg)))
        have hr5 := Lib.hid (s5.row_ge (B := q) (by omega) (fun g hg => by cases hg))
        clear h4 s5 B4 O4
        have hlt5 := h5.lt
        go_wp2_with fail
        refine (all_calls q _ q r5 1000 (catL L) (.slice none 0 0) [] (OwnF.nil _ _ _) h5 (Nat.le_refl _) hr5.out (by omega) (by simp) L 1 [] HRUN.out (by decide)).mono ?_
        rintro e w6 ⟨v6, r6, rfl, o6, h6, hr6, b6⟩
        rw [List.nil_append] at o6
        have h6' : RdAt w6 q r6 1000 [] 0 := h6
        have F6 := Lib.hid o6.frs
        have O6 := Lib.hid (O5.out.keepC b6 HOL.out).frs
        have B6 := Lib.hid (B5.out.trans (b6.mono hws))
        have hlt6 := h6.lt
        clear h5 h6 b6 B5 hr5 O5 o6 hr6
        go_wp2_with fail
        refine (same5_calls _ _ _ L F6.out O6.out (by omega)).mono ?_
        rintro e w8 ⟨rfl, b8, k8, rfl⟩
        have h8 := h6'.below b8
        have B8 := Lib.hid (B6.out.trans (b8.mono (by omega)))
        clear b8 B6 F6 O6 h6'
        go_wp2_with fail
        refine (waits_calls _ q r6 1000 [] 0 h8).mono ?_
        rintro e w9 ⟨rfl, rfl⟩
        clear h8
        go_wp2
        go_ret
        exact ⟨rfl, B8.out⟩

set_option maxRecDepth 100000 in
theorem lifted (os : Os) (started : os.Started) (H : Type) (enc : TypeId × Value → H) :
    ReturnsInHanded {} Try.checked os 5 .any (Rows.frameBackSpec.pre6 enc Try.prog Try.f5 Rows.frameBackRow.domain false) (Rows.frameBackSpec.post enc Try.prog Try.f5 false true false false) := by
  refine returnsInHanded_of_change (C := Try.checked) own started (by kernel_rfl) Try.func5
    (ChangeSpec.witness6 (enc := enc) (C := Try.checked) false ⟨#[], #[.slice none 0 0], []⟩ 8 (by kernel_rfl) (by kernel_rfl) (by kernel_rfl) (by kernel_rfl)) ?_
  intro W base args ds gs before hval0 hW hcnd _
  have hval : ∀ (j : Nat) t v, Try.f5.params[j]? = some t → args[j]? = some v → Value.okWide Try.prog W .any base t v := hval0
  have hW' := hW
  obtain ⟨p, q, hA0, hV, rfl, hfz, hnd⟩ := hW
  have hA : DataW.TrodAll enc Try.prog W 0 (fun _ => true) true Try.f5.params.toList args.toList ds p := hA0
  rw [Try.params5] at hA hval
  obtain ⟨v0, vs0, d0, ds0, p0, q0, hargs, rfl, rfl, h0, r0⟩ := trodAll_cons hA
  obtain ⟨rfl, rfl, rfl⟩ := trodAll_nil r0
  obtain rfl : args = #[v0] := by cases args; simp_all
  obtain ⟨rfl, rfl⟩ := trodVars_none hV
  have k0 := h0
  have lt0 : ∀ x ∈ p0, x.block < W.heap.size := by obtain ⟨m, hm⟩ := k0; exact DataW.trod_lt m _ _ _ hm
  obtain ⟨a0, w0⟩ := open_frsIn (hval 0 27 v0 rfl rfl) h0
  clear hA0 hval0
  refine (walk v0 a0 W w0).mono fun e W' ⟨he, bel⟩ => ?_
  subst he
  exact ⟨_, rfl, _, _, _, [], _, [], hW', trodAll_mk1 (shut_bool Try.underlying4 _), (trodAll_cons_mk (Below.trod laidOut (by kernel_rfl) (of_decide_eq_true (by kernel_rfl)) k0 bel lt0) trodAll_mk0), rfl, bel.frame _, fun h => by cases h⟩

theorem over : Rows.frameBackRow.holds Try.pinned (OpenSpec.ofChange Rows.frameBackSpec) :=
  OpenClaim.holds_of_wide 5 Try.f5 rfl rfl rfl rfl rfl rfl rfl ⟨rfl, rfl, rfl, rfl, rfl⟩ rfl rfl rfl rfl rfl (by kernel_rfl) Try.func5 (by kernel_rfl)
    (of_decide_eq_true (by kernel_rfl)) (by unfold Func.isWrapper; first | (rw [if_pos (by decide +kernel)]; kernel_rfl) | (rw [if_neg (by decide +kernel)]; exact ⟨rfl, rfl⟩))
    (fun os started H enc _ => lifted os started H enc)

end Go.Proofs.Ytdhdjkpocdfjbaa.frameBack
namespace Go.Proofs.Ytdhdjkpocdfjbaa
/-- The statement. -/
theorem frameBack_holds : Rows.FrameBackSaid := frameBack.over
#print axioms frameBack_holds
end Go.Proofs.Ytdhdjkpocdfjbaa
