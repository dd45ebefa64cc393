/-
  The document's Text of a packet. (No statement: a contract that the proofs of the statements use.)
-/
import Derived.Test.YtdhdjkpocdfjbaaFr12
import Derived.Test.YtdhdjkpocdfjbaaRef1
namespace Go.Proofs.Ytdhdjkpocdfjbaa
open Go.RowKit
set_option linter.unusedSimpArgs false

/-- A stronger condition on the worlds serves. -/
theorem wpAnyH_strong {P : Program} {ops : Array Oper} {Q : Exit → Act → World → Prop} {md : Region.Mode} {S S' : World → Prop} (h : ∀ w, S' w → S w) : ∀ {fuel : Nat} {listed : Array Bool} {a : Act} {w : World}, wpAnyH P md ops Q S' fuel listed a w → wpAnyH P md ops Q S fuel listed a w
  | 0, _, _, _, H => H
  | _ + 1, _, _, _, H => ⟨H.1, fun i hi => wpOp_mono (fun _ _ h' => ⟨h _ h'.1, wpAnyH_strong h h'.2⟩) (H.2 i hi)⟩

theorem conv1_at {w : World} {g : Nat} {x : Int} (hh : w.heap[g]? = some (.cells #[.int .u8 x] 5 (0, 0))) : (convert 50 9 (.slice (some ⟨g, 0, none⟩) 1 1)).run Try.prog w = .ok (.string (str [UInt8.ofNat x.toNat])) w := by
  rw [run_convert_bytes_arg _ 50 5 Try.underlying50 Try.underlying5 g 0 1 1 [x] rfl ?_ 9 Try.underlying9]
  · rfl
  · intro i hi
    obtain rfl : i = 0 := by omega
    simp [World.cell?, hh]

set_option maxRecDepth 100000 in
set_option maxHeartbeats 1000000 in
theorem r5text_calls (w : World) (k f : Nat) (hk : k ≤ 15) (hf : f ≤ 15) (b : List UInt8) (hb : b.length ≤ 268435455) :
    Calls Try.prog 20 #[.agg #[.int .i64 k, .int .i64 f, .string (str b)]] w fun e w' => e = .returned (.string (str (frameL k f b))) ∧ Below w.heap.size w w' := by
  have hsz := str_size b
  have hfm : (f : Int).tmod 16 = (f : Int) := by rw [Int.tmod_eq_emod_of_nonneg (by omega)]; omega
  have hw1 : IntKind.i64.wrap ((k : Int) * 16) = (k : Int) * 16 := by rw [IntKind.wrap_i64]; omega
  have hw2 : IntKind.i64.wrap ((k : Int) * 16 + f) = (k : Int) * 16 + f := by rw [IntKind.wrap_i64]; omega
  have hw3 : IntKind.u8.wrap ((k : Int) * 16 + f) = (k : Int) * 16 + f := by rw [IntKind.wrap_u8']; omega
  have hmod : ((k : Int) * 16 + f) % 256 = (k : Int) * 16 + f := by omega
  have hto : ((k : Int) * 16 + f).toNat = k * 16 + f := by omega
  have hfl : str (frameL k f b) = (str [UInt8.ofNat (k * 16 + f)] ++ str (varb 3 b.length)) ++ str b := by rw [str_append, str_append]; rfl
  rw [hfl]
  have hvl := varb_len 3 b.length
  have hvs : (str (varb 3 b.length)).size ≤ 4 := by rw [str_size]; omega
  have h1s : (str [UInt8.ofNat (k * 16 + f)]).size ≤ 1 := by rw [str_size]; simp
  generalize hU : str [UInt8.ofNat (k * 16 + f)] = U at *
  have HU := Lib.hid hU
  clear hU
  generalize hS : str b = S at *
  generalize hV : str (varb 3 b.length) = V at *
  have HV := Lib.hid hV
  have HSZ := Lib.hid hsz
  have HTO := Lib.hid hto
  have hsb : S.size ≤ 268435455 := by omega
  have hsw : IntKind.u32.wrap (S.size : Int) = (S.size : Int) := by rw [IntKind.wrap_u32']; omega
  clear hfl hS hV hsz hto
  go_enter Try.func20, Try.ntmps20
  go_wp2_with fail
  have hbx := heap_alloc_new w (.cells #[.int .i64 k, .int .i64 f, .string S] 47)
  have b0 := below_one w (.cells #[.int .i64 k, .int .i64 f, .string S] 47)
  generalize w.alloc (.cells #[.int .i64 k, .int .i64 f, .string S] 47) = W at *
  obtain ⟨⟨c0, c1, c2⟩, -⟩ := three_cells hbx
  have hlt := lt_of_block hbx
  have HS0 := Lib.hid (show W.drew.cell? ⟨w.heap.size, 0, none⟩ = some (.int .i64 k) ∧ W.drew.cell? ⟨w.heap.size, 1, none⟩ = some (.int .i64 f) ∧ W.drew.cell? ⟨w.heap.size, 2, none⟩ = some (.string S) from ⟨c0, c1, c2⟩)
  have B0 := Lib.hid b0
  clear hbx b0
  refine wp_region_noPanic ?_
  refine wp_region_held_drew (S := fun wx => wx.cell? ⟨w.heap.size, 0, none⟩ = some (.int .i64 k) ∧ wx.cell? ⟨w.heap.size, 1, none⟩ = some (.int .i64 f) ∧ wx.cell? ⟨w.heap.size, 2, none⟩ = some (.string S)) (by kernel_rfl) HS0.out (fun hHeld => ?_)
  refine wpAnyH_take (i := 0) (oi := _) (v := ?_) rfl (by kernel_rfl) (by kernel_rfl) (by kernel_rfl) (fun _ _ _ h => h) (Or.inl ⟨by rfl, ?_⟩) (by assumption) ?_
  rotate_left
  · intro wx hSw
    obtain ⟨y0, y1, y2⟩ := hSw
    (go_simp) <;> (with_reducible rfl)
  simp only [Act.put, List.getElem_toArray, List.getElem_cons_zero, List.getElem_cons_succ, List.setIfInBounds_toArray, List.set_cons_zero, List.set_cons_succ]
  refine wpAnyH_take (i := 1) (oi := _) (v := ?_) rfl (by kernel_rfl) (by kernel_rfl) (by kernel_rfl) (fun _ _ _ h => h) (Or.inl ⟨by rfl, ?_⟩) (by assumption) ?_
  rotate_left
  · intro wx hSw
    obtain ⟨y0, y1, y2⟩ := hSw
    (go_simp) <;> (with_reducible rfl)
  simp only [Act.put, List.getElem_toArray, List.getElem_cons_zero, List.getElem_cons_succ, List.setIfInBounds_toArray, List.set_cons_zero, List.set_cons_succ]
  refine wpAnyH_take (i := 2) (oi := _) (v := ?_) rfl (by kernel_rfl) (by kernel_rfl) (by kernel_rfl) (fun _ _ _ h => h) (Or.inl ⟨by rfl, ?_⟩) (by assumption) ?_
  rotate_left
  · intro wx hSw
    obtain ⟨y0, y1, y2⟩ := hSw
    (go_simp) <;> (with_reducible rfl)
  simp only [Act.put, List.getElem_toArray, List.getElem_cons_zero, List.getElem_cons_succ, List.setIfInBounds_toArray, List.set_cons_zero, List.set_cons_succ]
  refine wpAnyH_take (i := 3) (oi := _) (v := ?_) rfl (by kernel_rfl) (by kernel_rfl) (by kernel_rfl) (fun _ _ _ h => h) (Or.inl ⟨by rfl, ?_⟩) (by assumption) ?_
  rotate_left
  · intro wx hSw
    obtain ⟨y0, y1, y2⟩ := hSw
    (go_simp) <;> (with_reducible rfl)
  simp only [Act.put, List.getElem_toArray, List.getElem_cons_zero, List.getElem_cons_succ, List.setIfInBounds_toArray, List.set_cons_zero, List.set_cons_succ]
  refine wpAnyH_take (i := 4) (oi := _) (v := ?_) rfl (by kernel_rfl) (by kernel_rfl) (by kernel_rfl) (fun _ _ _ h => h) (Or.inl ⟨by rfl, ?_⟩) (by assumption) ?_
  rotate_left
  · intro wx hSw
    obtain ⟨y0, y1, y2⟩ := hSw
    (go_simp) <;> (with_reducible rfl)
  simp only [Act.put, List.getElem_toArray, List.getElem_cons_zero, List.getElem_cons_succ, List.setIfInBounds_toArray, List.set_cons_zero, List.set_cons_succ]
  refine wpAnyH_take (i := 5) (oi := _) (v := ?_) rfl (by kernel_rfl) (by kernel_rfl) (by kernel_rfl) (fun _ _ _ h => h) (Or.inl ⟨by rfl, ?_⟩) (by assumption) ?_
  rotate_left
  · intro wx hSw
    obtain ⟨y0, y1, y2⟩ := hSw
    (go_simp) <;> (with_reducible rfl)
  simp only [Act.put, List.getElem_toArray, List.getElem_cons_zero, List.getElem_cons_succ, List.setIfInBounds_toArray, List.set_cons_zero, List.set_cons_succ]
  refine wpAnyH_take (i := 6) (oi := _) (v := ?_) rfl (by kernel_rfl) (by kernel_rfl) (by kernel_rfl) (fun _ _ _ h => h) (Or.inl ⟨by rfl, ?_⟩) (by assumption) ?_
  rotate_left
  · intro wx hSw
    obtain ⟨y0, y1, y2⟩ := hSw
    (go_simp) <;> (with_reducible rfl)
  simp only [Act.put, List.getElem_toArray, List.getElem_cons_zero, List.getElem_cons_succ, List.setIfInBounds_toArray, List.set_cons_zero, List.set_cons_succ]
  refine wpAnyH_take (i := 7) (oi := _) (v := ?_) rfl (by kernel_rfl) (by kernel_rfl) (by kernel_rfl) (fun _ _ _ h => h) (Or.inl ⟨by rfl, ?_⟩) (by assumption) ?_
  rotate_left
  · intro wx hSw
    obtain ⟨y0, y1, y2⟩ := hSw
    (go_simp) <;> (with_reducible rfl)
  simp only [Act.put, List.getElem_toArray, List.getElem_cons_zero, List.getElem_cons_succ, List.setIfInBounds_toArray, List.set_cons_zero, List.set_cons_succ]
  refine wpAnyH_take (i := 10) (oi := _) (v := ?_) rfl (by kernel_rfl) (by kernel_rfl) (by kernel_rfl) (fun _ _ _ h => h) (Or.inl ⟨by rfl, ?_⟩) (by assumption) ?_
  rotate_left
  · intro wx hSw
    obtain ⟨y0, y1, y2⟩ := hSw
    (go_simp) <;> (with_reducible rfl)
  simp only [Act.put, List.getElem_toArray, List.getElem_cons_zero, List.getElem_cons_succ, List.setIfInBounds_toArray, List.set_cons_zero, List.set_cons_succ]
  refine wpAnyH_take (i := 11) (oi := _) (v := ?_) rfl (by kernel_rfl) (by kernel_rfl) (by kernel_rfl) (fun _ _ _ h => h) (Or.inl ⟨by rfl, ?_⟩) (by assumption) ?_
  rotate_left
  · intro wx hSw
    obtain ⟨y0, y1, y2⟩ := hSw
    (go_simp) <;> (with_reducible rfl)
  simp only [Act.put, List.getElem_toArray, List.getElem_cons_zero, List.getElem_cons_succ, List.setIfInBounds_toArray, List.set_cons_zero, List.set_cons_succ]
  refine wpAnyH_take (i := 12) (oi := _) (v := ?_) rfl (by kernel_rfl) (by kernel_rfl) (by kernel_rfl) (fun _ _ _ h => h) (Or.inl ⟨by rfl, ?_⟩) (by assumption) ?_
  rotate_left
  · intro wx hSw
    obtain ⟨y0, y1, y2⟩ := hSw
    (go_simp) <;> (with_reducible rfl)
  simp only [Act.put, List.getElem_toArray, List.getElem_cons_zero, List.getElem_cons_succ, List.setIfInBounds_toArray, List.set_cons_zero, List.set_cons_succ]
  refine wpAnyH_take (i := 13) (oi := _) (v := ?_) rfl (by kernel_rfl) (by kernel_rfl) (by kernel_rfl) (fun _ _ _ h => h) (Or.inl ⟨by rfl, ?_⟩) (by assumption) ?_
  rotate_left
  · intro wx hSw
    obtain ⟨y0, y1, y2⟩ := hSw
    (go_simp) <;> (with_reducible rfl)
  simp only [Act.put, List.getElem_toArray, List.getElem_cons_zero, List.getElem_cons_succ, List.setIfInBounds_toArray, List.set_cons_zero, List.set_cons_succ]
  refine wpAnyH_take (i := 16) (oi := _) (v := ?_) rfl (by kernel_rfl) (by kernel_rfl) (by kernel_rfl) (fun _ _ _ h => h) (Or.inl ⟨by rfl, ?_⟩) (by assumption) ?_
  rotate_left
  · intro wx hSw
    obtain ⟨y0, y1, y2⟩ := hSw
    (go_simp) <;> (with_reducible rfl)
  simp only [Act.put, List.getElem_toArray, List.getElem_cons_zero, List.getElem_cons_succ, List.setIfInBounds_toArray, List.set_cons_zero, List.set_cons_succ]
  refine wpAnyH_take (i := 17) (oi := _) (v := ?_) rfl (by kernel_rfl) (by kernel_rfl) (by kernel_rfl) (fun _ _ _ h => h) (Or.inl ⟨by rfl, ?_⟩) (by assumption) ?_
  rotate_left
  · intro wx hSw
    obtain ⟨y0, y1, y2⟩ := hSw
    (go_simp) <;> (with_reducible rfl)
  simp only [Act.put, List.getElem_toArray, List.getElem_cons_zero, List.getElem_cons_succ, List.setIfInBounds_toArray, List.set_cons_zero, List.set_cons_succ]
  refine wpAnyH_ready (rs := [8, 14]) (by kernel_rfl) (by simp) ?_
  refine AllReadyH.cons (o := _) rfl (fun K hK => ?_) (AllReadyH.cons (o := _) rfl (fun K hK => ?_) (AllReadyH.nil))
  · simp only [Act.put, List.getElem_toArray, List.getElem_cons_zero, List.getElem_cons_succ, List.setIfInBounds_toArray, List.set_cons_zero, List.set_cons_succ]
    go_simp
    have hN : (W.alloc (.cells #[.int .u8 ((k : Int) * 16 + f)] 5)).drew.heap[W.heap.size]? = some (.cells #[.int .u8 ((k : Int) * 16 + f)] 5 (0, 0)) := heap_alloc_new W (.cells #[.int .u8 ((k : Int) * 16 + f)] 5)
    have hB : Below w.heap.size w (W.alloc (.cells #[.int .u8 ((k : Int) * 16 + f)] 5)).drew := (B0.out.alloc (by omega) (.cells #[.int .u8 ((k : Int) * 16 + f)] 5)).drew
    have hz : W.heap.size < (W.alloc (.cells #[.int .u8 ((k : Int) * 16 + f)] 5)).drew.heap.size := lt_of_block hN
    have hS1 : (W.alloc (.cells #[.int .u8 ((k : Int) * 16 + f)] 5)).drew.cell? ⟨w.heap.size, 0, none⟩ = some (.int .i64 k) ∧ (W.alloc (.cells #[.int .u8 ((k : Int) * 16 + f)] 5)).drew.cell? ⟨w.heap.size, 1, none⟩ = some (.int .i64 f) ∧ (W.alloc (.cells #[.int .u8 ((k : Int) * 16 + f)] 5)).drew.cell? ⟨w.heap.size, 2, none⟩ = some (.string S) := ⟨(World.cell?_alloc_lt W _ ⟨w.heap.size, 0, none⟩ hlt).trans c0, (World.cell?_alloc_lt W _ ⟨w.heap.size, 1, none⟩ hlt).trans c1, (World.cell?_alloc_lt W _ ⟨w.heap.size, 2, none⟩ hlt).trans c2⟩
    refine hK.out _ _ hS1 (fun hHeld => ?_)
    clear hK K hHeld
    (try simp only [Act.put, List.getElem_toArray, List.getElem_cons_zero, List.getElem_cons_succ, List.setIfInBounds_toArray, List.set_cons_zero, List.set_cons_succ])
    refine wpAnyH_strong (S' := fun wx => (wx.cell? ⟨w.heap.size, 0, none⟩ = some (.int .i64 k) ∧ wx.cell? ⟨w.heap.size, 1, none⟩ = some (.int .i64 f) ∧ wx.cell? ⟨w.heap.size, 2, none⟩ = some (.string S)) ∧ wx.heap[W.heap.size]? = some (.cells #[.int .u8 ((k : Int) * 16 + f)] 5 (0, 0))) (fun _ h => h.1) ?_
    have hS2 := And.intro hS1 hN
    have HS2 := Lib.hid hS2
    have HB := Lib.hid hB
    generalize (W.alloc (.cells #[.int .u8 ((k : Int) * 16 + f)] 5)).drew = W2 at *
    clear hB hS1 hN
    refine wpAnyH_take (i := 9) (oi := _) (v := ?_) rfl (by kernel_rfl) (by kernel_rfl) (by kernel_rfl) (fun _ _ _ h => h) (Or.inl ⟨by rfl, ?_⟩) (by assumption) ?_
    rotate_left
    · intro wx hSw
      obtain ⟨⟨y0, y1, y2⟩, y3⟩ := hSw
      have hcv := conv1_at y3
      rw [HTO.out, HU.out] at hcv
      (go_simp) <;> (with_reducible rfl)
    simp only [Act.put, List.getElem_toArray, List.getElem_cons_zero, List.getElem_cons_succ, List.setIfInBounds_toArray, List.set_cons_zero, List.set_cons_succ]
    clear hS2
    refine wpAnyH_ready (rs := [14]) (by kernel_rfl) (by simp) ?_
    refine AllReadyH.cons (o := _) rfl (fun K hK => ?_) (AllReadyH.nil)
    simp only [Act.put, List.getElem_toArray, List.getElem_cons_zero, List.getElem_cons_succ, List.setIfInBounds_toArray, List.set_cons_zero, List.set_cons_succ]
    go_simp
    refine (r1var_any _ _ S.size hsb (.inl rfl)).mono ?_
    rw [HSZ.out, HV.out]
    rintro e w3 ⟨rfl, b3⟩
    go_simp
    have hlt2 : w.heap.size < W2.heap.size := by omega
    have hS3 : (w3.cell? ⟨w.heap.size, 0, none⟩ = some (.int .i64 k) ∧ w3.cell? ⟨w.heap.size, 1, none⟩ = some (.int .i64 f) ∧ w3.cell? ⟨w.heap.size, 2, none⟩ = some (.string S)) ∧ w3.heap[W.heap.size]? = some (.cells #[.int .u8 ((k : Int) * 16 + f)] 5 (0, 0)) := ⟨⟨(b3.cell (p := ⟨w.heap.size, 0, none⟩) hlt2).trans HS2.out.1.1, (b3.cell (p := ⟨w.heap.size, 1, none⟩) hlt2).trans HS2.out.1.2.1, (b3.cell (p := ⟨w.heap.size, 2, none⟩) hlt2).trans HS2.out.1.2.2⟩, (b3.block _ hz).trans HS2.out.2⟩
    have BF := Lib.hid (HB.out.trans (b3.mono (Nat.le_of_lt hlt2)))
    refine hK.out _ _ hS3 (fun hHeld => ?_)
    clear hK K hHeld b3
    (try simp only [Act.put, List.getElem_toArray, List.getElem_cons_zero, List.getElem_cons_succ, List.setIfInBounds_toArray, List.set_cons_zero, List.set_cons_succ])
    refine wpAnyH_take (i := 15) (oi := _) (v := ?_) rfl (by kernel_rfl) (by kernel_rfl) (by kernel_rfl) (fun _ _ _ h => h) (Or.inl ⟨by rfl, ?_⟩) (by assumption) ?_
    rotate_left
    · intro wx hSw
      obtain ⟨⟨y0, y1, y2⟩, y3⟩ := hSw
      (go_simp; rw [if_neg (by omega)])
    simp only [Act.put, List.getElem_toArray, List.getElem_cons_zero, List.getElem_cons_succ, List.setIfInBounds_toArray, List.set_cons_zero, List.set_cons_succ]
    refine wpAnyH_take (i := 18) (oi := _) (v := ?_) rfl (by kernel_rfl) (by kernel_rfl) (by kernel_rfl) (fun _ _ _ h => h) (Or.inl ⟨by rfl, ?_⟩) (by assumption) ?_
    rotate_left
    · intro wx hSw
      obtain ⟨⟨y0, y1, y2⟩, y3⟩ := hSw
      (go_simp; rw [if_neg (by omega)])
    simp only [Act.put, List.getElem_toArray, List.getElem_cons_zero, List.getElem_cons_succ, List.setIfInBounds_toArray, List.set_cons_zero, List.set_cons_succ]
    refine wpAnyH_take (i := 19) (oi := _) (v := ?_) rfl (by kernel_rfl) (by kernel_rfl) (by kernel_rfl) (fun _ _ _ h => h) (Or.inl ⟨by rfl, ?_⟩) (by assumption) ?_
    rotate_left
    · intro wx hSw
      obtain ⟨⟨y0, y1, y2⟩, y3⟩ := hSw
      (go_simp) <;> (with_reducible rfl)
    simp only [Act.put, List.getElem_toArray, List.getElem_cons_zero, List.getElem_cons_succ, List.setIfInBounds_toArray, List.set_cons_zero, List.set_cons_succ]
    refine wpAnyH_done (by kernel_rfl) ?_ _
    refine NoPanic.normal ?_
    go_wp2
    go_ret
    exact ⟨rfl, BF.out⟩
  · simp only [Act.put, List.getElem_toArray, List.getElem_cons_zero, List.getElem_cons_succ, List.setIfInBounds_toArray, List.set_cons_zero, List.set_cons_succ]
    go_simp
    refine (r1var_any _ _ S.size hsb (.inl rfl)).mono ?_
    rw [HSZ.out, HV.out]
    rintro e w3 ⟨rfl, b3⟩
    go_simp
    have hlt2 : w.heap.size < W.drew.heap.size := hlt
    have hS3 : w3.cell? ⟨w.heap.size, 0, none⟩ = some (.int .i64 k) ∧ w3.cell? ⟨w.heap.size, 1, none⟩ = some (.int .i64 f) ∧ w3.cell? ⟨w.heap.size, 2, none⟩ = some (.string S) := ⟨(b3.cell (p := ⟨w.heap.size, 0, none⟩) hlt2).trans HS0.out.1, (b3.cell (p := ⟨w.heap.size, 1, none⟩) hlt2).trans HS0.out.2.1, (b3.cell (p := ⟨w.heap.size, 2, none⟩) hlt2).trans HS0.out.2.2⟩
    have HB := Lib.hid (B0.out.drew.trans (b3.mono (Nat.le_of_lt hlt2)))
    have hlt3 : w.heap.size < w3.heap.size := Nat.lt_of_lt_of_le hlt2 b3.size
    refine hK.out _ _ hS3 (fun hHeld => ?_)
    clear hK K hHeld b3
    (try simp only [Act.put, List.getElem_toArray, List.getElem_cons_zero, List.getElem_cons_succ, List.setIfInBounds_toArray, List.set_cons_zero, List.set_cons_succ])
    refine wpAnyH_ready (rs := [8]) (by kernel_rfl) (by simp) ?_
    refine AllReadyH.cons (o := _) rfl (fun K hK => ?_) (AllReadyH.nil)
    simp only [Act.put, List.getElem_toArray, List.getElem_cons_zero, List.getElem_cons_succ, List.setIfInBounds_toArray, List.set_cons_zero, List.set_cons_succ]
    go_simp
    have hN := heap_alloc_new w3 (.cells #[.int .u8 ((k : Int) * 16 + f)] 5)
    have BF := Lib.hid (HB.out.alloc (Nat.le_of_lt hlt3) (.cells #[.int .u8 ((k : Int) * 16 + f)] 5))
    have hS4 : (w3.alloc (.cells #[.int .u8 ((k : Int) * 16 + f)] 5)).cell? ⟨w.heap.size, 0, none⟩ = some (.int .i64 k) ∧ (w3.alloc (.cells #[.int .u8 ((k : Int) * 16 + f)] 5)).cell? ⟨w.heap.size, 1, none⟩ = some (.int .i64 f) ∧ (w3.alloc (.cells #[.int .u8 ((k : Int) * 16 + f)] 5)).cell? ⟨w.heap.size, 2, none⟩ = some (.string S) := ⟨(World.cell?_alloc_lt w3 _ ⟨w.heap.size, 0, none⟩ hlt3).trans hS3.1, (World.cell?_alloc_lt w3 _ ⟨w.heap.size, 1, none⟩ hlt3).trans hS3.2.1, (World.cell?_alloc_lt w3 _ ⟨w.heap.size, 2, none⟩ hlt3).trans hS3.2.2⟩
    refine hK.out _ _ hS4 (fun hHeld => ?_)
    clear hK K hHeld
    (try simp only [Act.put, List.getElem_toArray, List.getElem_cons_zero, List.getElem_cons_succ, List.setIfInBounds_toArray, List.set_cons_zero, List.set_cons_succ])
    refine wpAnyH_strong (S' := fun wx => (wx.cell? ⟨w.heap.size, 0, none⟩ = some (.int .i64 k) ∧ wx.cell? ⟨w.heap.size, 1, none⟩ = some (.int .i64 f) ∧ wx.cell? ⟨w.heap.size, 2, none⟩ = some (.string S)) ∧ wx.heap[w3.heap.size]? = some (.cells #[.int .u8 ((k : Int) * 16 + f)] 5 (0, 0))) (fun _ h => h.1) ?_
    have hS2 := And.intro hS4 hN
    generalize w3.alloc (.cells #[.int .u8 ((k : Int) * 16 + f)] 5) = W2 at *
    clear hS4 hN hS3
    refine wpAnyH_take (i := 9) (oi := _) (v := ?_) rfl (by kernel_rfl) (by kernel_rfl) (by kernel_rfl) (fun _ _ _ h => h) (Or.inl ⟨by rfl, ?_⟩) (by assumption) ?_
    rotate_left
    · intro wx hSw
      obtain ⟨⟨y0, y1, y2⟩, y3⟩ := hSw
      have hcv := conv1_at y3
      rw [HTO.out, HU.out] at hcv
      (go_simp) <;> (with_reducible rfl)
    simp only [Act.put, List.getElem_toArray, List.getElem_cons_zero, List.getElem_cons_succ, List.setIfInBounds_toArray, List.set_cons_zero, List.set_cons_succ]
    refine wpAnyH_take (i := 15) (oi := _) (v := ?_) rfl (by kernel_rfl) (by kernel_rfl) (by kernel_rfl) (fun _ _ _ h => h) (Or.inl ⟨by rfl, ?_⟩) (by assumption) ?_
    rotate_left
    · intro wx hSw
      obtain ⟨⟨y0, y1, y2⟩, y3⟩ := hSw
      (go_simp; rw [if_neg (by omega)])
    simp only [Act.put, List.getElem_toArray, List.getElem_cons_zero, List.getElem_cons_succ, List.setIfInBounds_toArray, List.set_cons_zero, List.set_cons_succ]
    refine wpAnyH_take (i := 18) (oi := _) (v := ?_) rfl (by kernel_rfl) (by kernel_rfl) (by kernel_rfl) (fun _ _ _ h => h) (Or.inl ⟨by rfl, ?_⟩) (by assumption) ?_
    rotate_left
    · intro wx hSw
      obtain ⟨⟨y0, y1, y2⟩, y3⟩ := hSw
      (go_simp; rw [if_neg (by omega)])
    simp only [Act.put, List.getElem_toArray, List.getElem_cons_zero, List.getElem_cons_succ, List.setIfInBounds_toArray, List.set_cons_zero, List.set_cons_succ]
    refine wpAnyH_take (i := 19) (oi := _) (v := ?_) rfl (by kernel_rfl) (by kernel_rfl) (by kernel_rfl) (fun _ _ _ h => h) (Or.inl ⟨by rfl, ?_⟩) (by assumption) ?_
    rotate_left
    · intro wx hSw
      obtain ⟨⟨y0, y1, y2⟩, y3⟩ := hSw
      (go_simp) <;> (with_reducible rfl)
    simp only [Act.put, List.getElem_toArray, List.getElem_cons_zero, List.getElem_cons_succ, List.setIfInBounds_toArray, List.set_cons_zero, List.set_cons_succ]
    refine wpAnyH_done (by kernel_rfl) ?_ _
    refine NoPanic.normal ?_
    go_wp2
    go_ret
    exact ⟨rfl, BF.out⟩

#print axioms r5text_calls
end Go.Proofs.Ytdhdjkpocdfjbaa
