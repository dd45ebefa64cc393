/-
  Tick and Few of layer 12's statements; a list of messages that came in. (No statement: contracts that the proofs of the statements use.)
-/
import Derived.Test.YteofjcmpelcmaaaJQue1
namespace Go.Proofs.Yteofjcmpelcmaaa
open Go.RowKit Go.ChangeShapes Go.WideShapes Go.Deep

/-- A tick. -/
def tickN (n : Int) : Int := n % 100000
theorem tickN_range (n : Int) : 0 ≤ tickN n ∧ tickN n < 100000 := by unfold tickN; omega

theorem tick_calls (w : World) (n : Int) :
    Calls Try.prog 36 #[.int .i64 n] w fun e w' => e = .returned (.int .i64 (tickN n)) ∧ w = w' := by
  have h1 : -100000 < n.tmod 100000 ∧ n.tmod 100000 < 100000 := ⟨by have := Int.lt_tmod_of_pos n (b := 100000) (by decide); omega, Int.tmod_lt_of_pos n (by decide)⟩
  have h2 : tickN n = (n.tmod 100000 + 100000) % 100000 := by
    unfold tickN
    have := Int.tmod_add_mul_tdiv n 100000
    omega
  rw [h2]
  generalize hq : n.tmod 100000 = q at *
  have w1 : IntKind.i64.wrap q = q := by rw [IntKind.wrap_i64]; omega
  have w2 : IntKind.i64.wrap (q + 100000) = q + 100000 := by rw [IntKind.wrap_i64]; omega
  go_enter Try.func36, Try.ntmps36
  go_wp2
  go_ret
  exact ⟨rfl, rfl⟩

/-- A message of short texts. -/
def fewM (m : Ms) : Ms := ⟨m.src.extract 0 10, tickN m.tick, m.q, m.rt, fewL m.ps, m.tp.extract 0 30, m.pl.extract 0 30⟩

/-- A message that came in. -/
structure MsIn (w : World) (m : Ms) (v : Value) : Prop where
  ps : PropsIn w v m.ps
  s0 : m.src.size ≤ maxLen
  s1 : m.tp.size ≤ maxLen
  s2 : m.pl.size ≤ maxLen
  t0 : -9223372036854775808 ≤ m.tick ∧ m.tick ≤ 9223372036854775807
  q0 : 0 ≤ m.q ∧ m.q < 256

set_option maxRecDepth 100000 in
set_option maxHeartbeats 4000000 in
theorem few12_calls (w : World) (m : Ms) (v : Value) (h : MsIn w m v) :
    Calls Try.prog 29 #[msV m v] w fun e w' => ∃ v', e = .returned (msV (fewM m) v') ∧ MsAt w' (fewM m) v' ∧ (∀ g, v'.ownBlock = some g → w.heap.size ≤ g) ∧ Below w.heap.size w w' := by
  obtain ⟨A, cap, hv, -⟩ := h.ps.at_
  subst hv
  obtain ⟨a0, a1, q, a3, P, a5, a6⟩ := m
  dsimp only at h ⊢
  have HP := Lib.hid h
  have z0 := h.s0
  have z1 := h.s1
  have z2 := h.s2
  have ht := h.t0
  dsimp only at z0 z1 z2 ht
  clear h
  generalize hPl : P.length = n
  have HPL := Lib.hid hPl
  have hb0 := (below_one w (.cells #[.string a0, .int .i64 a1, .int .u8 q, .bool a3, .slice A n cap, .string a5, .string a6] 50)).alloc (by simp) (.cells #[.string ⟨#[]⟩, .int .i64 0, .int .u8 0, .bool false, .slice none 0 0, .string ⟨#[]⟩, .string ⟨#[]⟩] 50)
  have hx0 := (Below.heap_alloc (w.alloc (.cells #[.string a0, .int .i64 a1, .int .u8 q, .bool a3, .slice A n cap, .string a5, .string a6] 50)) (.cells #[.string ⟨#[]⟩, .int .i64 0, .int .u8 0, .bool false, .slice none 0 0, .string ⟨#[]⟩, .string ⟨#[]⟩] 50) w.heap.size (by simp)).trans (heap_alloc_new w (.cells #[.string a0, .int .i64 a1, .int .u8 q, .bool a3, .slice A n cap, .string a5, .string a6] 50))
  have hx1 := seven_new (w.alloc (.cells #[.string a0, .int .i64 a1, .int .u8 q, .bool a3, .slice A n cap, .string a5, .string a6] 50)) (.string ⟨#[]⟩) (.int .i64 0) (.int .u8 0) (.bool false) (.slice none 0 0) (.string ⟨#[]⟩) (.string ⟨#[]⟩) 50 (w.heap.size + 1) (by simp)
  have hs0 : ((w.alloc (.cells #[.string a0, .int .i64 a1, .int .u8 q, .bool a3, .slice A n cap, .string a5, .string a6] 50)).alloc (.cells #[.string ⟨#[]⟩, .int .i64 0, .int .u8 0, .bool false, .slice none 0 0, .string ⟨#[]⟩, .string ⟨#[]⟩] 50)).heap.size = w.heap.size + 2 := by simp
  have HB0 := Lib.hid hb0
  have HX0 := Lib.hid hx0
  have HX1 := Lib.hid hx1
  have HS0 := Lib.hid hs0
  clear hPl hb0 hx0 hx1 hs0
  go_enter Try.func29, Try.ntmps29
  go_wp2_with fail
  generalize (w.alloc (.cells #[.string a0, .int .i64 a1, .int .u8 q, .bool a3, .slice A n cap, .string a5, .string a6] 50)).alloc (.cells #[.string ⟨#[]⟩, .int .i64 0, .int .u8 0, .bool false, .slice none 0 0, .string ⟨#[]⟩, .string ⟨#[]⟩] 50) = W0 at *
  have hx0d : W0.drew.heap[w.heap.size]? = some (.cells #[.string a0, .int .i64 a1, .int .u8 q, .bool a3, .slice A n cap, .string a5, .string a6] 50 (0, 0)) := HX0.out
  obtain ⟨c0, c1, c2, c3, c4, c5, c6, cf⟩ := cells7 HX0.out
  obtain ⟨d0, d1, d2, d3, d4, d5, d6, df⟩ := cells7 hx0d
  have HX0D := Lib.hid hx0d
  clear hx0d
  go_still_tail 10, (by kernel_rfl)
  still_call ((cut_calls _ a0 10 z0).mono (fun e w' h => ⟨h.1, h.2.symm⟩))
  repeat still_step
  still_call ((cut_calls _ a5 30 z1).mono (fun e w' h => ⟨h.1, h.2.symm⟩))
  repeat still_step
  still_call ((cut_calls _ a6 30 z2).mono (fun e w' h => ⟨h.1, h.2.symm⟩))
  repeat still_step
  refine wpStill_nil ?_
  change wpList _ _ _ _ _ W0.drew
  have hb1 := HB0.out.drew
  have hy1 : W0.drew.heap[w.heap.size + 1]? = some (.cells #[.string ⟨#[]⟩, .int .i64 0, .int .u8 0, .bool false, .slice none 0 0, .string ⟨#[]⟩, .string ⟨#[]⟩] 50 (0, 0)) := HX1.out
  have hs1 : W0.drew.heap.size = w.heap.size + 2 := HS0.out
  have HB1 := Lib.hid hb1
  have HY1 := Lib.hid hy1
  have HS1 := Lib.hid hs1
  clear hb1 hy1 hs1 HX1 HX0 HB0 HS0 c0 c1 c2 c3 c4 c5 c6 cf
  generalize W0.drew = W1 at *
  have hxa : ((((W1.setCell ⟨w.heap.size, 0, none⟩ (.string (a0.extract 0 10))).setCell ⟨w.heap.size, 5, none⟩ (.string (a5.extract 0 30))).setCell ⟨w.heap.size, 6, none⟩ (.string (a6.extract 0 30))).setCell ⟨w.heap.size, 1, none⟩ (.int .i64 (tickN a1))).heap[w.heap.size]? = some (.cells #[.string (a0.extract 0 10), .int .i64 (tickN a1), .int .u8 q, .bool a3, .slice A n cap, .string (a5.extract 0 30), .string (a6.extract 0 30)] 50 (0, 0)) := by
    have := HX0D.out
    simp [World.setCell, Array.getElem?_modify, this]
  have hya : ((((W1.setCell ⟨w.heap.size, 0, none⟩ (.string (a0.extract 0 10))).setCell ⟨w.heap.size, 5, none⟩ (.string (a5.extract 0 30))).setCell ⟨w.heap.size, 6, none⟩ (.string (a6.extract 0 30))).setCell ⟨w.heap.size, 1, none⟩ (.int .i64 (tickN a1))).heap[w.heap.size + 1]? = some (.cells #[.string ⟨#[]⟩, .int .i64 0, .int .u8 0, .bool false, .slice none 0 0, .string ⟨#[]⟩, .string ⟨#[]⟩] 50 (0, 0)) := by
    have := HY1.out
    simp [World.setCell, Array.getElem?_modify, this]
  have hba := (((HB1.out.setCell (show w.heap.size ≤ (⟨w.heap.size, 0, none⟩ : Addr).block from Nat.le_refl _) (.string (a0.extract 0 10))).setCell (show w.heap.size ≤ (⟨w.heap.size, 5, none⟩ : Addr).block from Nat.le_refl _) (.string (a5.extract 0 30))).setCell (show w.heap.size ≤ (⟨w.heap.size, 6, none⟩ : Addr).block from Nat.le_refl _) (.string (a6.extract 0 30))).setCell (show w.heap.size ≤ (⟨w.heap.size, 1, none⟩ : Addr).block from Nat.le_refl _) (.int .i64 (tickN a1))
  have hsa : ((((W1.setCell ⟨w.heap.size, 0, none⟩ (.string (a0.extract 0 10))).setCell ⟨w.heap.size, 5, none⟩ (.string (a5.extract 0 30))).setCell ⟨w.heap.size, 6, none⟩ (.string (a6.extract 0 30))).setCell ⟨w.heap.size, 1, none⟩ (.int .i64 (tickN a1))).heap.size = w.heap.size + 2 := by
    have := HS1.out
    simpa [World.setCell] using this
  have HXA := Lib.hid hxa
  have HYA := Lib.hid hya
  have HBA := Lib.hid hba
  have HSA := Lib.hid hsa
  clear hxa hya hba hsa
  generalize hx0 : a0.extract 0 10 = x0 at *
  generalize hx5 : a5.extract 0 30 = x5 at *
  generalize hx6 : a6.extract 0 30 = x6 at *
  have HTT := Lib.hid (show fewM ⟨a0, a1, q, a3, P, a5, a6⟩ = ⟨x0, tickN a1, q, a3, fewL P, x5, x6⟩ from by unfold fewM; simp only [hx0, hx5, hx6])
  clear hx0 hx5 hx6 z0 z1 z2
  go_wp2_with fail
  refine (tick_calls _ a1).mono ?_
  rintro e w' ⟨rfl, rfl⟩
  generalize tickN a1 = t at *
  have hlt : w.heap.size < W1.heap.size := by have := HS1.out; omega
  go_wp2_with fail
  generalize (((W1.setCell ⟨w.heap.size, 0, none⟩ (.string x0)).setCell ⟨w.heap.size, 5, none⟩ (.string x5)).setCell ⟨w.heap.size, 6, none⟩ (.string x6)).setCell ⟨w.heap.size, 1, none⟩ (.int .i64 t) = W2 at *
  have hps := HP.out.ps
  dsimp only at hps
  rw [HPL.out] at hps
  refine (few_calls W2 _ P ⟨hps.at_.keep (fun g _ hl => HBA.out.block g hl) HBA.out.size, hps.len, hps.num⟩).mono ?_
  rintro e w5 ⟨v5, rfl, hown, hb5⟩
  obtain ⟨A5, c5, rfl⟩ := hown.form
  have hx5 := (hb5.block _ (by have := HSA.out; omega)).trans HXA.out
  have hy5 := (hb5.block _ (by have := HSA.out; omega)).trans HYA.out
  have hbw := HBA.out.trans (hb5.mono (by have := HSA.out; omega))
  have hg5 : ∀ g, (Value.slice A5 (fewL P).length c5).ownBlock = some g → w.heap.size + 2 ≤ g ∧ g < w5.heap.size := fun g hg => by have := World.ownsRow.lt hown g hg; have := HSA.out; omega
  have H1 := Lib.hid hown.props
  have H2 := Lib.hid hg5
  have H3 := Lib.hid hbw
  have hz5 := hb5.size
  have hsa := HSA.out
  have hfl := Lib.hid (few_len P)
  clear hown hb5 hbw hg5 hps d0 d1 d2 d3 d4 d5 d6 df
  have hy6 : (w5.setCell ⟨w.heap.size, 4, none⟩ (.slice A5 (fewL P).length c5)).heap[w.heap.size + 1]? = _ := (Below.heap_setCell _ _ _ _ (by show w.heap.size + 1 ≠ w.heap.size; omega)).trans hy5
  obtain ⟨c0, c1, c2, c3, c4, c5', c6, cf⟩ := cells7 hx5
  obtain ⟨d0, d1, d2, d3, d4, d5, d6, df⟩ := cells7 hy5
  have HY6 := Lib.hid hy6
  clear hx5 hy5 hy6
  generalize hln : (fewL P).length = ln at *
  have HLN := Lib.hid hln
  clear hln
  go_wp2
  change bodyPost _ _ _ _ _ (put7 (w5.setCell ⟨w.heap.size, 4, none⟩ (.slice A5 ln c5)) (w.heap.size + 1) 0 _ _ _ _ _ _ _)
  have hfin := put7_block (a0 := .string x0) (a1 := .int .i64 t) (a2 := .int .u8 q) (a3 := .bool a3) (a4 := .slice A5 ln c5) (a5 := .string x5) (a6 := .string x6) HY6.out
  obtain ⟨e0, e1, e2, e3, e4, e5, e6, ef⟩ := cells7 hfin
  refine bodyPost_ret (v := msV ⟨x0, t, q, a3, fewL P, x5, x6⟩ (.slice A5 ln c5)) ?_ rfl ?_
  · simp [results, Try.results29, go_sem, e0, e1, e2, e3, e4, e5, e6]
  · rw [HTT.out]
    refine ⟨_, rfl, ⟨?_, ?_⟩, fun g hg => by have := (H2.out g hg).1; omega, put7_below (H3.out.setCell (Nat.le_refl _) _) (by omega)⟩
    · refine H1.out.keep (fun g hg _ => ?_) (by rw [put7_size]; simp [World.setCell])
      have := (H2.out g hg).1
      exact (put7_other (by omega)).trans (Below.heap_setCell _ _ _ _ (by show g ≠ w.heap.size; omega))
    · show (fewL P).length ≤ _
      have := hfl.out
      have := HLN.out
      omega

/-- A list of messages that came in. -/
def MsgsIn (W : World) (v : Value) (X : List (Ms × Value)) : Prop :=
  ∃ A cap, v = .slice A X.length cap ∧ X.length ≤ maxLen ∧ ∀ (i : Nat) (e : Ms × Value), X[i]? = some e → MsIn W e.1 e.2 ∧
    ∃ b off, A = some ⟨b, off, none⟩ ∧ b < W.heap.size ∧ ∀ j, j < 7 → W.cell? ⟨b, off + i * 7 + j, none⟩ = (msC e.1 e.2)[j]?

theorem bounds_i64 {n : Int} (h : (Lit.int .i64 n).wf = true) : -9223372036854775808 ≤ n ∧ n ≤ 9223372036854775807 := by
  have e1 : IntKind.i64.min = -9223372036854775808 := rfl
  have e2 : IntKind.i64.max = 9223372036854775807 := rfl
  simp [Lit.wf, e1, e2] at h
  omega

set_option maxRecDepth 100000 in
theorem open_msgsIn {H : Type} {enc : TypeId × Value → H} {W : World} {v : Value} {d : DataW H} {p : List MemPlace} {base : Nat} (hv : Value.okWide Try.prog W .any base 87 v) (h : DataW.Trod enc Try.prog W 0 (fun _ => true) true 87 v d p) :
    ∃ X, MsgsIn W v X := by
  obtain ⟨A, len, cap, rfl⟩ := okWide_slice Try.underlying87 hv
  obtain ⟨fuel, hf⟩ := h
  obtain ⟨hl, hm, hall⟩ := open_cellsF (e := 50) Try.underlying87 Try.underlying50 (by kernel_rfl) (by kernel_rfl) hf
  haveI : Inhabited (Ms × Value) := ⟨⟨⟨#[]⟩, 0, 0, false, [], ⟨#[]⟩, ⟨#[]⟩⟩, .slice none 0 0⟩
  obtain ⟨f, hf⟩ := choose_lt (α := Ms × Value) (n := len) (p := fun i e => MsIn W e.1 e.2 ∧ ∃ b off, A = some ⟨b, off, none⟩ ∧ b < W.heap.size ∧ ∀ j, j < 7 → W.cell? ⟨b, off + i * 7 + j, none⟩ = (msC e.1 e.2)[j]?) (by
    intro i hi
    obtain ⟨ad, rfl, hc⟩ := hall i hi
    obtain ⟨u0, n0, y0, c0, t0⟩ := hc 0 _ rfl
    obtain ⟨u1, n1, y1, c1, t1⟩ := hc 1 _ rfl
    obtain ⟨u2, n2, y2, c2, t2⟩ := hc 2 _ rfl
    obtain ⟨u3, n3, y3, c3, t3⟩ := hc 3 _ rfl
    obtain ⟨u4, n4, y4, c4, t4⟩ := hc 4 _ rfl
    obtain ⟨u5, n5, y5, c5, t5⟩ := hc 5 _ rfl
    obtain ⟨u6, n6, y6, c6, t6⟩ := hc 6 _ rfl
    obtain ⟨s0, e0, _, w0⟩ := DataW.trod_string Try.underlying9 t0
    obtain ⟨k, e1, _, w1⟩ := DataW.trod_int Try.underlying3 t1
    obtain ⟨q, e2, _, w2⟩ := DataW.trod_int Try.underlying5 t2
    obtain ⟨r, e3, _⟩ := DataW.trod_bool Try.underlying4 t3
    obtain ⟨a, l, c, e4⟩ := Go.Joins.slice_form Try.underlying48 t4
    obtain ⟨s5, e5, _, w5⟩ := DataW.trod_string Try.underlying9 t5
    obtain ⟨s6, e6, _, w6⟩ := DataW.trod_string Try.underlying9 t6
    simp only [List.cons.injEq, and_true] at e0 e1 e2 e3 e4 e5 e6
    subst e0 e1 e2 e3 e4 e5 e6
    obtain ⟨L, hL, hLn⟩ := open_listF (show DataW.trod enc Try.prog W 0 (fun _ => true) true n4 48 [.slice a l c] = some y4 from t4)
    obtain ⟨b, off, spot⟩ := ad
    have hsp : spot = none := by
      obtain ⟨ad', ea, hc'⟩ := hall 0 (by omega)
      injection ea with ea
      subst ea
      obtain ⟨u', _, _, c', _⟩ := hc' 0 _ rfl
      simpa [Addr.add] using World.cell?_spot c'
    subst hsp
    have hq := bounds_u8 w2
    simp only [Addr.add_lit] at c0 c1 c2 c3 c4 c5 c6
    refine ⟨(⟨s0, k, q, r, L, s5, s6⟩, .slice a l c), ⟨hL, w0, w5, w6, bounds_i64 w1, hq.1, Int.lt_of_le_of_lt hq.2 (by decide)⟩, b, off, rfl, World.block_lt_of_cell? W _ c0, fun j hj => ?_⟩
    rw [Nat.add_assoc]
    match j, hj with
    | 0, _ => exact c0
    | 1, _ => exact c1
    | 2, _ => exact c2
    | 3, _ => exact c3
    | 4, _ => exact c4
    | 5, _ => exact c5
    | 6, _ => exact c6)
  refine ⟨(List.range len).map f, A, cap, by simp, by simp; omega, fun i e he => ?_⟩
  simp only [List.getElem?_map, Option.map_eq_some_iff] at he
  obtain ⟨i', hi', rfl⟩ := he
  obtain ⟨hlt, he⟩ := List.getElem?_eq_some_iff.1 hi'
  simp at hlt he
  subst he
  exact hf i hlt

#print axioms few12_calls
end Go.Proofs.Yteofjcmpelcmaaa
