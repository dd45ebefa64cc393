/-
  Messages; their clone; what they weigh. (No statement: contracts that the proofs of the statements use.)
-/
import Derived.Test.YteofjcmpelcmaaaJMsg0
import Derived.WalkLawsBesides
namespace Go.Proofs.Yteofjcmpelcmaaa
open Go.RowKit

/-- A message. -/
structure Ms where
  src : ByteArray
  tick : Int
  q : Int
  rt : Bool
  ps : List Pr
  tp : ByteArray
  pl : ByteArray

/-- Its cells, with the value of its properties. -/
abbrev msC (m : Ms) (v : Value) : List Value := [.string m.src, .int .i64 m.tick, .int .u8 m.q, .bool m.rt, v, .string m.tp, .string m.pl]
abbrev msV (m : Ms) (v : Value) : Value := .agg #[.string m.src, .int .i64 m.tick, .int .u8 m.q, .bool m.rt, v, .string m.tp, .string m.pl]

/-- The message's value: a slice that reads as its properties. -/
structure MsAt (w : World) (m : Ms) (v : Value) : Prop where
  ps : PropsAt w v m.ps
  len : m.ps.length ≤ 1000000

theorem PropsAt.form {w : World} {v : Value} {P : List Pr} (h : PropsAt w v P) : ∃ A cap, v = .slice A P.length cap := by
  obtain ⟨A, cap, rfl, _⟩ := h
  exact ⟨A, cap, rfl⟩
theorem MsAt.below {w w' : World} {m : Ms} {v : Value} (h : MsAt w m v) (hb : Below w.heap.size w w') : MsAt w' m v := ⟨h.ps.below hb, h.len⟩

set_option maxRecDepth 100000 in
set_option maxHeartbeats 2000000 in
/-- slices.Clone of properties. -/
theorem clone_calls (w : World) (v : Value) (P : List Pr) (h : PropsAt w v P) (hn : P.length ≤ 1000000) :
    Calls Try.prog 76 #[v] w fun e w' => ∃ v', e = .returned v' ∧ PropsAt w' v' P ∧ (∀ g, v'.ownBlock = some g → w.heap.size ≤ g ∧ g < w'.heap.size) ∧ Below w.heap.size w w' := by
  obtain ⟨A, cap, rfl, hc⟩ := h
  cases A with
  | none =>
    have hP : P = [] := by
      cases P with
      | nil => rfl
      | cons p P => obtain ⟨b, off, e, _⟩ := hc 0 p rfl; cases e
    subst hP
    have hq : ∀ (w : World) (n c n' c' : Nat), (binOp .eql 48 (.slice none n c) (.slice none n' c')).run Try.prog w = .ok (.bool true) w := fun w n c n' c' => Lib.run_eql_slice_nil w _ _ none n c n' c' Try.underlying48
    clear hc
    go_enter Try.func76, Try.ntmps76
    go_wp2
    go_ret
    exact ⟨_, rfl, ⟨none, 0, rfl, fun i x hx => by simp at hx⟩, fun g hg => by simp [Value.ownBlock] at hg, Below.refl _ _⟩
  | some ad =>
    have hq : ∀ (w : World) (n c n' c' : Nat), (binOp .eql 48 (.slice (some ad) n c) (.slice none n' c')).run Try.prog w = .ok (.bool false) w := fun w n c n' c' => Lib.run_eql_slice_nil w _ _ (some ad) n c n' c' Try.underlying48
    have HN : Hid (∀ j u, (P.flatMap prC)[j]? = some u → w.cell? (ad.add j) = some u) := by
      intro j u hj
      have hjl : j < P.length * 4 := by
        have := (List.getElem?_eq_some_iff.1 hj).1
        rwa [prC_len] at this
      have hk := prC_at P (j / 4) (j % 4) (Nat.mod_lt _ (by omega))
      rw [show j / 4 * 4 + j % 4 = j by omega] at hk
      rw [hk] at hj
      obtain ⟨x, hx, hu⟩ := Option.bind_eq_some_iff.1 hj
      obtain ⟨b, off, e, hb, c0, c1, c2, c3⟩ := hc _ _ hx
      injection e with e
      subst e
      rw [Addr.add_lit]
      rcases (show j % 4 = 0 ∨ j % 4 = 1 ∨ j % 4 = 2 ∨ j % 4 = 3 by omega) with r | r | r | r
      all_goals (rw [r] at hu; simp [prC] at hu; subst hu)
      · rw [show off + j = off + j / 4 * 4 by omega]; exact c0
      · rw [show off + j = off + j / 4 * 4 + 1 by omega]; exact c1
      · rw [show off + j = off + j / 4 * 4 + 2 by omega]; exact c2
      · rw [show off + j = off + j / 4 * 4 + 3 by omega]; exact c3
    have hown0 := World.ownsRow_made w #[] 0 (Nat.le_refl w.heap.size) (Nat.zero_le _) rfl (e := 153) (size := 4)
    obtain ⟨i0, hi, hz0, hz1, hz2⟩ := info_parts Try.infoProp
    have HO := Lib.hid hown0
    have HL := Lib.hid (prC_len P)
    have H1 := Lib.hid (prC_one P)
    clear hc hown0
    go_enter Try.func76, Try.ntmps76
    go_wp2_with (at_builtin; refine wpList_append_own _ rfl _ _ 48 rfl w.heap.size 153 i0 (.agg #[.int .i64 0, .int .u32 0, .string ⟨#[]⟩, .string ⟨#[]⟩]) 4 48 Try.underlying48 hi hz0 hz1 hz2 rfl (by decide) _ _ _ rfl HO.out ad P.length cap (P.flatMap prC) rfl HL.out (fun j u hj => Lib.cell?_alloc_some _ (HN.out j u hj)) H1.out (by unfold maxLen; omega) (by omega) (by simp) ?_)
    intro v' w1 hown hgrow hnil
    have HOW := Lib.hid hown
    have HG := Lib.hid hgrow
    clear hown hgrow hnil
    go_wp2
    go_ret
    have hown : OwnP w.heap.size 153 w1 v' P := by
      have := HOW.out
      simpa [OwnP] using this
    refine ⟨v', rfl, hown.props, fun g hg => World.ownsRow.lt hown g hg, ?_⟩
    exact ((Below.refl _ w).alloc (Nat.le_refl _) _).grown HG.out (by simp) (by intro k hk; simp [Value.ownBlock] at hk; omega)

theorem seven_new (w : World) (a b c d e f g : Value) (t : TypeId) (n : Nat) (hn : n = w.heap.size) : (w.alloc (.cells #[a, b, c, d, e, f, g] t)).heap[n]? = some (.cells #[a, b, c, d, e, f, g] t (0, 0)) := by
  subst hn; exact heap_alloc_new w _

/-- The bits of a small number. -/
theorem fl_add : ∀ a : Fin 65, floatBits .add .f64 (floatOfInt .f64 a.1) 4607182418800017408 = some (floatOfInt .f64 (a.1 + 1 : Nat)) := by decide +kernel
theorem fl_add0 : ∀ a : Fin 65, floatBits .add .f64 (floatOfInt .f64 a.1) 0 = some (floatOfInt .f64 a.1) := by decide +kernel
theorem fl_sub : ∀ a : Fin 65, floatBits .sub .f64 (floatOfInt .f64 (a.1 + 1 : Nat)) 4607182418800017408 = some (floatOfInt .f64 a.1) := by decide +kernel
theorem fl_sub0 : ∀ a : Fin 65, floatBits .sub .f64 (floatOfInt .f64 a.1) 0 = some (floatOfInt .f64 a.1) := by decide +kernel
theorem fl_eq0 : ∀ a : Fin 65, (FloatKind.f64.format.order (floatOfInt .f64 a.1) 0 == some .eq) = decide (a.1 = 0) := by decide +kernel
theorem fl_32 : ∀ a : Fin 65, floatToFloatBits .f64 (floatOfInt .f64 a.1) .f32 = some (floatOfInt .f32 a.1) := by decide +kernel
theorem fl_int : ∀ a : Fin 65, floatToIntVal .f32 (floatOfInt .f32 a.1) .i64 = some (a.1 : Int) := by decide +kernel
theorem fl_32eq : ∀ a b : Fin 65, (FloatKind.f32.format.order (floatOfInt .f32 a.1) (floatOfInt .f32 b.1) == some .eq) = decide (a.1 = b.1) := by decide +kernel

/-- So many light ones, so many heavy ones, as one number. -/
def wV (a b : Nat) : Value := .complex .f64 (floatOfInt .f64 a) (floatOfInt .f64 b)
/-- What one message weighs. -/
def oneW (m : Ms) : Value := if m.q = 0 then .complex .f64 4607182418800017408 0 else .complex .f64 0 4607182418800017408
def lightL (X : List Ms) : Nat := (X.filter fun m => decide (m.q = 0)).length
def heavyL (X : List Ms) : Nat := (X.filter fun m => decide (m.q ≠ 0)).length
theorem light_heavy (X : List Ms) : lightL X + heavyL X = X.length := by
  induction X with
  | nil => rfl
  | cons m X ih =>
    unfold lightL heavyL at *
    by_cases h : m.q = 0 <;> simp [h] at ih ⊢ <;> omega
theorem light_app (X Y : List Ms) : lightL (X ++ Y) = lightL X + lightL Y := by simp [lightL]
theorem heavy_app (X Y : List Ms) : heavyL (X ++ Y) = heavyL X + heavyL Y := by simp [heavyL]

theorem run_add_w (w : World) (X : List Ms) (m : Ms) (hX : X.length ≤ 64) (t : TypeId) :
    (binOp .add t (wV (lightL X) (heavyL X)) (oneW m)).run Try.prog w = .ok (wV (lightL (X ++ [m])) (heavyL (X ++ [m]))) w := by
  have hlh := light_heavy X
  have e1 := fl_add ⟨lightL X, by omega⟩
  have e2 := fl_add0 ⟨lightL X, by omega⟩
  have e3 := fl_add ⟨heavyL X, by omega⟩
  have e4 := fl_add0 ⟨heavyL X, by omega⟩
  dsimp only at e1 e2 e3 e4
  rw [light_app, heavy_app]
  unfold oneW wV
  by_cases h : m.q = 0
  · rw [if_pos h, show lightL [m] = 1 by simp [lightL, h], show heavyL [m] = 0 by simp [heavyL, h]]
    exact run_complex_sum w .add (.inl rfl) t .f64 _ _ _ _ _ _ (by unfold cSumBits; simp only [Nat.add_zero]; rw [e1, e4]; rfl)
  · rw [if_neg h, show lightL [m] = 0 by simp [lightL, h], show heavyL [m] = 1 by simp [heavyL, h]]
    exact run_complex_sum w .add (.inl rfl) t .f64 _ _ _ _ _ _ (by unfold cSumBits; simp only [Nat.add_zero]; rw [e2, e3]; rfl)

theorem light_cut (X Y : List Ms) (m : Ms) : lightL (X ++ m :: Y) = lightL (X ++ Y) + lightL [m] := by simp [lightL, List.filter_cons]; split <;> simp <;> omega
theorem heavy_cut (X Y : List Ms) (m : Ms) : heavyL (X ++ m :: Y) = heavyL (X ++ Y) + heavyL [m] := by simp [heavyL, List.filter_cons]; split <;> simp <;> omega

theorem run_sub_w (w : World) (X Y : List Ms) (m : Ms) (hX : (X ++ Y).length ≤ 64) (t : TypeId) :
    (binOp .sub t (wV (lightL (X ++ m :: Y)) (heavyL (X ++ m :: Y))) (oneW m)).run Try.prog w = .ok (wV (lightL (X ++ Y)) (heavyL (X ++ Y))) w := by
  have hlh := light_heavy (X ++ Y)
  have e1 := fl_sub ⟨lightL (X ++ Y), by omega⟩
  have e2 := fl_sub0 ⟨lightL (X ++ Y), by omega⟩
  have e3 := fl_sub ⟨heavyL (X ++ Y), by omega⟩
  have e4 := fl_sub0 ⟨heavyL (X ++ Y), by omega⟩
  dsimp only at e1 e2 e3 e4
  rw [light_cut, heavy_cut]
  unfold oneW wV
  by_cases h : m.q = 0
  · rw [if_pos h, show lightL [m] = 1 by simp [lightL, h], show heavyL [m] = 0 by simp [heavyL, h]]
    exact run_complex_sum w .sub (.inr rfl) t .f64 _ _ _ _ _ _ (by unfold cSumBits; simp only [Nat.add_zero]; rw [e1, e4]; rfl)
  · rw [if_neg h, show lightL [m] = 0 by simp [lightL, h], show heavyL [m] = 1 by simp [heavyL, h]]
    exact run_complex_sum w .sub (.inr rfl) t .f64 _ _ _ _ _ _ (by unfold cSumBits; simp only [Nat.add_zero]; rw [e2, e3]; rfl)

set_option maxRecDepth 100000 in
theorem weight_calls (w : World) (m : Ms) (v : Value) (hv : ∃ A n c, v = .slice A n c) :
    Calls Try.prog 70 #[msV m v] w fun e w' => e = .returned (oneW m) ∧ Below w.heap.size w w' := by
  obtain ⟨A, n, c, rfl⟩ := hv
  obtain ⟨a0, a1, q, a3, a4, a5, a6⟩ := m
  unfold oneW
  dsimp only
  by_cases h : q = 0
  · subst h
    go_enter Try.func70, Try.ntmps70
    go_wp2
    go_ret
    exact ⟨rfl, below_one w _⟩
  · have hb : (q == 0) = false := by simpa using h
    rw [if_neg h]
    go_enter Try.func70, Try.ntmps70
    go_wp2
    go_ret
    exact ⟨rfl, below_one w _⟩

/-- Seven cells of a block are set. -/
def put7 (W : World) (b o : Nat) (a0 a1 a2 a3 a4 a5 a6 : Value) : World :=
  ((((((W.setCell ⟨b, o, none⟩ a0).setCell ⟨b, o + 1, none⟩ a1).setCell ⟨b, o + 2, none⟩ a2).setCell ⟨b, o + 3, none⟩ a3).setCell ⟨b, o + 4, none⟩ a4).setCell ⟨b, o + 5, none⟩ a5).setCell ⟨b, o + 6, none⟩ a6
section
variable {W : World} {b o : Nat} {a0 a1 a2 a3 a4 a5 a6 : Value}
theorem put7_block {u0 u1 u2 u3 u4 u5 u6 : Value} {t : TypeId} (h : W.heap[b]? = some (.cells #[u0, u1, u2, u3, u4, u5, u6] t (0, 0))) : (put7 W b 0 a0 a1 a2 a3 a4 a5 a6).heap[b]? = some (.cells #[a0, a1, a2, a3, a4, a5, a6] t (0, 0)) := by
  simp [put7, World.setCell, Array.getElem?_modify, h]
theorem put7_other {k : Nat} (h : k ≠ b) : (put7 W b o a0 a1 a2 a3 a4 a5 a6).heap[k]? = W.heap[k]? := by
  simp [put7, World.setCell, Array.getElem?_modify, Ne.symm h]
theorem put7_size : (put7 W b o a0 a1 a2 a3 a4 a5 a6).heap.size = W.heap.size := by simp [put7, World.setCell]
theorem put7_below {B : Nat} {w : World} (h : Below B w W) (hb : B ≤ b) : Below B w (put7 W b o a0 a1 a2 a3 a4 a5 a6) :=
  ((((((h.setCell hb _).setCell hb _).setCell hb _).setCell hb _).setCell hb _).setCell hb _).setCell hb _
end

theorem PropsAt.keep {w w' : World} {v : Value} {P : List Pr} (h : PropsAt w v P) (hk : ∀ g, v.ownBlock = some g → g < w.heap.size → w'.heap[g]? = w.heap[g]?) (hs : w.heap.size ≤ w'.heap.size) : PropsAt w' v P := by
  obtain ⟨A, cap, rfl, hc⟩ := h
  refine ⟨A, cap, rfl, fun i x hx => ?_⟩
  obtain ⟨b, off, rfl, hb, c0, c1, c2, c3⟩ := hc i x hx
  have hq := hk b rfl hb
  exact ⟨b, off, rfl, Nat.lt_of_lt_of_le hb hs, (World.cell?_of_block (a := ⟨b, _, none⟩) hq).trans c0, (World.cell?_of_block (a := ⟨b, _, none⟩) hq).trans c1, (World.cell?_of_block (a := ⟨b, _, none⟩) hq).trans c2, (World.cell?_of_block (a := ⟨b, _, none⟩) hq).trans c3⟩
theorem MsAt.keep {w w' : World} {m : Ms} {v : Value} (h : MsAt w m v) (hk : ∀ g, v.ownBlock = some g → g < w.heap.size → w'.heap[g]? = w.heap[g]?) (hs : w.heap.size ≤ w'.heap.size) : MsAt w' m v := ⟨h.ps.keep hk hs, h.len⟩

set_option maxRecDepth 100000 in
set_option maxHeartbeats 2000000 in
theorem own_calls (w : World) (m : Ms) (v : Value) (h : MsAt w m v) :
    Calls Try.prog 63 #[msV m v] w fun e w' => ∃ v', e = .returned (msV m v') ∧ MsAt w' m v' ∧ (∀ g, v'.ownBlock = some g → w.heap.size ≤ g ∧ g < w'.heap.size) ∧ Below w.heap.size w w' := by
  obtain ⟨A, cap, rfl⟩ := h.ps.form
  obtain ⟨a0, a1, q, a3, P, a5, a6⟩ := m
  dsimp only at h ⊢
  have HP := Lib.hid h
  clear h
  generalize hPl : P.length = n
  have HPL := Lib.hid hPl
  clear hPl
  go_enter Try.func63, Try.ntmps63
  go_wp2_with fail
  refine (clone_calls _ _ P (by have := HP.out.ps; dsimp only at this; rw [HPL.out] at this; exact this.below ((below_one w _).alloc (by simp) _)) HP.out.len).mono ?_
  rintro e w1 ⟨v', rfl, hp, hf, hb⟩
  obtain ⟨A', cap', rfl⟩ := hp.form
  have hx : w1.heap[w.heap.size]? = some (.cells #[.string a0, .int .i64 a1, .int .u8 q, .bool a3, .slice A n cap, .string a5, .string a6] 50 (0, 0)) :=
    (hb.block _ (by simp; omega)).trans ((Below.heap_alloc _ _ _ (by simp)).trans (heap_alloc_new w _))
  have hy : w1.heap[w.heap.size + 1]? = some (.cells #[.string ⟨#[]⟩, .int .i64 0, .int .u8 0, .bool false, .slice none 0 0, .string ⟨#[]⟩, .string ⟨#[]⟩] 50 (0, 0)) :=
    (hb.block _ (by simp)).trans (seven_new (w.alloc _) _ _ _ _ _ _ _ _ _ (by simp))
  have hb0 : Below w.heap.size w w1 := ((below_one w _).alloc (by simp) _).trans (hb.mono (by simp; omega))
  have hs : w.heap.size + 2 ≤ w1.heap.size := by have := hb.size; simpa using this
  have hf' : ∀ g, (Value.slice A' P.length cap').ownBlock = some g → w.heap.size + 2 ≤ g ∧ g < w1.heap.size := fun g hg => by have := hf g hg; simpa using this
  have H1 := Lib.hid hp
  have H2 := Lib.hid hf'
  have H3 := Lib.hid hb0
  have H5 := Lib.hid hx
  have H6 := Lib.hid hy
  rw [HPL.out]
  clear hp hf hf' hb hb0
  have hx2 := set_cells hx 4 (.slice A' n cap')
  have hy2 : (w1.setCell ⟨w.heap.size, 4, none⟩ (.slice A' n cap')).heap[w.heap.size + 1]? = _ := (Below.heap_setCell _ _ _ _ (by show w.heap.size + 1 ≠ w.heap.size; omega)).trans hy
  obtain ⟨c0, c1, c2, c3, c4, c5, c6, cf⟩ := cells7 hx
  obtain ⟨d0, d1, d2, d3, d4, d5, d6, df⟩ := cells7 hy
  have hl1 : w.heap.size < w1.heap.size := by omega
  have hl2 : w.heap.size + 1 < w1.heap.size := by omega
  clear hx hy
  go_wp2
  change bodyPost _ _ _ _ _ (put7 (w1.setCell ⟨w.heap.size, 4, none⟩ (.slice A' n cap')) (w.heap.size + 1) 0 _ _ _ _ _ _ _)
  have hfin := put7_block (a0 := .string a0) (a1 := .int .i64 a1) (a2 := .int .u8 q) (a3 := .bool a3) (a4 := .slice A' n cap') (a5 := .string a5) (a6 := .string a6) hy2
  obtain ⟨e0, e1, e2, e3, e4, e5, e6, ef⟩ := cells7 hfin
  have hown : ∀ g, (Value.slice A' n cap').ownBlock = some g → w.heap.size + 2 ≤ g ∧ g < w1.heap.size := by have := H2.out; rw [HPL.out] at this; exact this
  refine bodyPost_ret (v := msV ⟨a0, a1, q, a3, P, a5, a6⟩ (.slice A' n cap')) ?_ rfl ⟨_, rfl, ⟨?_, HP.out.len⟩, fun g hg => by have := hown g hg; rw [put7_size]; simp [World.setCell]; omega, put7_below (H3.out.setCell (Nat.le_refl _) _) (by omega)⟩
  · simp [results, Try.results63, go_sem, e0, e1, e2, e3, e4, e5, e6]
  · have h1 := H1.out
    rw [HPL.out] at h1
    refine h1.keep (fun g hg _ => ?_) (by rw [put7_size]; simp [World.setCell])
    have := hown g hg
    exact (put7_other (by omega)).trans (Below.heap_setCell _ _ _ _ (by show g ≠ w.heap.size; omega))

#print axioms own_calls
end Go.Proofs.Yteofjcmpelcmaaa
