/-
  The calls of queue.Queue: Push. (No statement: contracts that the proofs of the statements use.)
-/
import Derived.Test.YteofjcmpelcmaaaJQue5
namespace Go.Proofs.Yteofjcmpelcmaaa
open Go.RowKit

theorem qLen_quiet (w : World) (p b : Nat) (most : Int) (X : List Ms) (h : QAt w p b most X) (n : Nat) :
    Calls Try.prog 40 #[.pointer (some ⟨p, 0, none⟩)] (w.drewN n) fun e w' => e = .returned (.int .i64 X.length) ∧ w' = w.drewN n :=
  (qLen_calls (w.drewN n) p b most X (h.below ⟨rfl, rfl, rfl, Nat.le_refl _, fun _ _ => rfl⟩)).mono fun _ _ ⟨h1, h2⟩ => ⟨h1, h2.symm⟩

theorem QPut.front {w w1 w2 : World} {p b b' : Nat} {most : Int} {X : List Ms} (h : QPut w1 p b most X w2 b') (hb : Below w.heap.size w w1) : QPut w p b most X w2 b' :=
  ⟨h.at', (Mv.of_below hb).trans h.mv, h.new.imp id (fun e => Nat.le_trans hb.size e)⟩
theorem QPut.back {w w1 w2 : World} {p b b' : Nat} {most : Int} {X : List Ms} (h : QPut w p b most X w1 b') (hb : Below w1.heap.size w1 w2) : QPut w p b most X w2 b' :=
  ⟨h.at'.below hb, h.mv.trans (Mv.of_below hb), h.new⟩

/-- Block c holds the cells of a message: no list of properties lies there. -/
def BoxM (w : World) (c : Nat) : Prop := ∃ a0 a1 a2 a3 a4 a5 a6 t, w.heap[c]? = some (.cells #[.string a0, .int .i64 a1, .int .u8 a2, .bool a3, a4, .string a5, .string a6] t (0, 0))
theorem PropsAt.box {w w' : World} {c : Nat} {v : Value} {P : List Pr} (h : PropsAt w v P) (hc : BoxM w c) (hz : w'.heap.size = w.heap.size) (hk : ∀ k, k ≠ c → w'.heap[k]? = w.heap[k]?) : PropsAt w' v P := by
  obtain ⟨a0, a1, a2, a3, a4, a5, a6, t, hc⟩ := hc
  obtain ⟨A, cap, rfl, hp⟩ := h
  refine ⟨A, cap, rfl, fun i x hx => ?_⟩
  obtain ⟨b, off, rfl, hb, c0, c1, c2, c3⟩ := hp i x hx
  have hne : b ≠ c := by
    rintro rfl
    have e0 : (#[Value.string a0, .int .i64 a1, .int .u8 a2, .bool a3, a4, .string a5, .string a6])[off + i * 4]? = some (.int .i64 x.id) := by rw [← c0]; simp [World.cell?, hc]
    have e1 : (#[Value.string a0, .int .i64 a1, .int .u8 a2, .bool a3, a4, .string a5, .string a6])[off + i * 4 + 1]? = some (.int .u32 x.n) := by rw [← c1]; simp [World.cell?, hc]
    generalize off + i * 4 = q at *
    rcases (show q = 0 ∨ q = 1 ∨ q = 2 ∨ q = 3 ∨ q = 4 ∨ q = 5 ∨ 6 ≤ q by omega) with rfl | rfl | rfl | rfl | rfl | rfl | h
    · simp at e1
    · simp at e1
    · simp at e1
    · simp at e0
    · simp at e1
    · simp at e1
    · rw [Array.getElem?_eq_none (by simp; omega)] at e1; cases e1
  have hq := hk b hne
  exact ⟨b, off, rfl, by rw [hz]; exact hb, (World.cell?_of_block (a := ⟨b, _, none⟩) hq).trans c0, (World.cell?_of_block (a := ⟨b, _, none⟩) hq).trans c1, (World.cell?_of_block (a := ⟨b, _, none⟩) hq).trans c2, (World.cell?_of_block (a := ⟨b, _, none⟩) hq).trans c3⟩
theorem MsAt.box {w w' : World} {c : Nat} {m : Ms} {v : Value} (h : MsAt w m v) (hc : BoxM w c) (hz : w'.heap.size = w.heap.size) (hk : ∀ k, k ≠ c → w'.heap[k]? = w.heap[k]?) : MsAt w' m v := ⟨h.ps.box hc hz hk, h.len⟩
/-- .. so its cells may be set. -/
theorem QAt.box {w w' : World} {p b c : Nat} {most : Int} {X : List Ms} (h : QAt w p b most X) (hc : BoxM w c) (hz : w'.heap.size = w.heap.size) (hk : ∀ k, k ≠ c → w'.heap[k]? = w.heap[k]?) (h1 : c ≠ p) (h2 : c ≠ b) : QAt w' p b most X := by
  obtain ⟨L, A, off, cap, hX, h⟩ := h
  exact ⟨L, A, off, cap, hX, ⟨(hk p (Ne.symm h1)).trans h.cells, h.row.keep (fun _ => hk b (Ne.symm h2)), h.ne, by rw [hz]; exact h.lt, fun e he => (h.each e he).box hc hz hk, fun e he g hg => by rw [hz]; exact h.far e he g hg⟩⟩
theorem QPut.box {w w1 : World} {p b b' c : Nat} {most : Int} {X : List Ms} {o : Nat} {a0 a1 a2 a3 a4 a5 a6 : Value} (h : QPut w p b most X w1 b') (hc : BoxM w1 c) (h1 : c ≠ p) (h2 : c ≠ b') (h3 : w.heap.size ≤ c) : QPut w p b most X (put7 w1 c o a0 a1 a2 a3 a4 a5 a6) b' :=
  ⟨h.at'.box hc put7_size (fun _ hk => put7_other hk) h1 h2, h.mv.put7 (.inr h3), h.new⟩

/-- What Push answers, and leaves. -/
def QPush (w : World) (p b : Nat) (most : Int) (X : List Ms) (m : Ms) (e : Ending) (w' : World) : Prop :=
  (X.length < most ∧ e = .returned (.tuple #[msV ⟨⟨#[]⟩, 0, 0, false, [], ⟨#[]⟩, ⟨#[]⟩⟩ (.slice none 0 0), .bool false]) ∧ ∃ b', QPut w p b most (X ++ [m]) w' b') ∨
  (¬ X.length < most ∧ (m.q = 0 ∨ lightL X = 0) ∧ ∃ v, e = .returned (.tuple #[msV m v, .bool true]) ∧ MsAt w' m v ∧ QAt w' p b most X ∧ Mv (fun k => k = p ∨ k = b) w w') ∨
  (¬ X.length < most ∧ m.q ≠ 0 ∧ ∃ X1 y X2 v b', X = X1 ++ y :: X2 ∧ y.q = 0 ∧ (∀ x ∈ X1, x.q ≠ 0) ∧ e = .returned (.tuple #[msV y v, .bool true]) ∧ MsAt w' y v ∧ QPut w p b most (X1 ++ X2 ++ [m]) w' b')

set_option maxRecDepth 100000 in
set_option maxHeartbeats 4000000 in
theorem qPush_calls (w : World) (p b : Nat) (most : Int) (X : List Ms) (m : Ms) (v : Value) (h : QAt w p b most X) (hm : MsAt w m v) (hfar : ∀ g, v.ownBlock = some g → g ≠ p ∧ g ≠ b) (hX : X.length ≤ 59) :
    Calls Try.prog 30 #[.pointer (some ⟨p, 0, none⟩), msV m v] w (QPush w p b most X m) := by
  obtain ⟨A1, cap1, rfl⟩ := hm.ps.form
  have hb0 := (below_one w (.cells #[.string m.src, .int .i64 m.tick, .int .u8 m.q, .bool m.rt, .slice A1 m.ps.length cap1, .string m.tp, .string m.pl] 50)).alloc (by simp) (.cells #[.string ⟨#[]⟩, .int .i64 0, .int .u8 0, .bool false, .slice none 0 0, .string ⟨#[]⟩, .string ⟨#[]⟩] 50)
  have hx0 := (Below.heap_alloc (w.alloc (.cells #[.string m.src, .int .i64 m.tick, .int .u8 m.q, .bool m.rt, .slice A1 m.ps.length cap1, .string m.tp, .string m.pl] 50)) (.cells #[.string ⟨#[]⟩, .int .i64 0, .int .u8 0, .bool false, .slice none 0 0, .string ⟨#[]⟩, .string ⟨#[]⟩] 50) w.heap.size (by simp)).trans (heap_alloc_new w (.cells #[.string m.src, .int .i64 m.tick, .int .u8 m.q, .bool m.rt, .slice A1 m.ps.length cap1, .string m.tp, .string m.pl] 50))
  have hx1 := seven_new (w.alloc (.cells #[.string m.src, .int .i64 m.tick, .int .u8 m.q, .bool m.rt, .slice A1 m.ps.length cap1, .string m.tp, .string m.pl] 50)) (.string ⟨#[]⟩) (.int .i64 0) (.int .u8 0) (.bool false) (.slice none 0 0) (.string ⟨#[]⟩) (.string ⟨#[]⟩) 50 (w.heap.size + 1) (by simp)
  have hM := Lib.hid (hm.below hb0)
  have hQ := Lib.hid (h.below hb0)
  have hlt := h.lt
  have hsz : ((w.alloc (.cells #[.string m.src, .int .i64 m.tick, .int .u8 m.q, .bool m.rt, .slice A1 m.ps.length cap1, .string m.tp, .string m.pl] 50)).alloc (.cells #[.string ⟨#[]⟩, .int .i64 0, .int .u8 0, .bool false, .slice none 0 0, .string ⟨#[]⟩, .string ⟨#[]⟩] 50)).heap.size = w.heap.size + 2 := by simp
  have HSZ := Lib.hid hsz
  have HB0 := Lib.hid hb0
  have HX0 := Lib.hid hx0
  have HX1 := Lib.hid hx1
  obtain ⟨hp, hb⟩ := hlt
  clear h hm hb0 hx0 hx1 hsz
  have HFM := Lib.hid hfar
  clear hfar
  generalize hn1 : m.ps.length = n1 at *
  have HN1 := Lib.hid hn1
  clear hn1
  go_enter Try.func30, Try.ntmps30
  go_wp2_with fail
  generalize (w.alloc (.cells #[.string m.src, .int .i64 m.tick, .int .u8 m.q, .bool m.rt, .slice A1 n1 cap1, .string m.tp, .string m.pl] 50)).alloc (.cells #[.string ⟨#[]⟩, .int .i64 0, .int .u8 0, .bool false, .slice none 0 0, .string ⟨#[]⟩, .string ⟨#[]⟩] 50) = W0 at *
  have HC := Lib.hid hQ.out
  obtain ⟨L, A, off, cap, hLX, hql⟩ := hQ.out
  obtain ⟨⟨c0, c1, c2⟩, f0, f1, f2⟩ := three_c hql.cells
  obtain ⟨d0, d1, d2, d3, d4, d5, d6, df⟩ := cells7 HX0.out
  rw [hLX] at c2
  have HQL := Lib.hid hql
  have HLX := Lib.hid hLX
  clear hql hLX
  by_cases hlen : (X.length : Int) < most
  · go_quiet ((go_at_call 40; exact Calls.quiet_of_same (qLen_quiet W0 p b most X HC.out _)))
    rename_i nq
    have hB1 : Below W0.heap.size W0 (W0.drewN nq) := ⟨rfl, rfl, rfl, Nat.le_refl _, fun _ _ => rfl⟩
    clear c0 c1 c2 f0 f1 f2 d0 d1 d2 d3 d4 d5 d6 df
    have HB1 := Lib.hid hB1
    have hq1 := HC.out.below hB1
    have hm1 := hM.out.below hB1
    have hx0 := (hB1.block _ (lt_of_block HX0.out)).trans HX0.out
    have hx1 := (hB1.block _ (lt_of_block HX1.out)).trans HX1.out
    have hs1 : (W0.drewN nq).heap.size = w.heap.size + 2 := HSZ.out
    generalize W0.drewN nq = W1 at *
    obtain ⟨d0, d1, d2, d3, d4, d5, d6, df⟩ := cells7 hx0
    have HQ1 := Lib.hid hq1
    have HM1 := Lib.hid hm1
    have HY1 := Lib.hid hx1
    have HS1 := Lib.hid hs1
    have HLEN := Lib.hid hlen
    clear hB1 hq1 hm1 hx0 hx1 hs1
    go_wp2_with fail
    refine (own_calls W1 m _ HM1.out).mono ?_
    rintro e w2 ⟨v', rfl, hm2, hf2, hb2⟩
    obtain ⟨A2, cap2, rfl⟩ := hm2.ps.form
    have HM2 := Lib.hid hm2
    have HF2 := Lib.hid (show ∀ g, (Value.slice A2 m.ps.length cap2).ownBlock = some g → g < w2.heap.size ∧ g ≠ p ∧ g ≠ b from fun g hg => by have := hf2 g hg; have := HS1.out; omega)
    have HB2 := Lib.hid hb2
    have HQ2 := Lib.hid (HQ1.out.below hb2)
    have hy1 := (hb2.block _ (lt_of_block HY1.out)).trans HY1.out
    have HY2 := Lib.hid hy1
    clear hm2 hf2 hb2 hy1
    go_wp2_with fail
    refine (qAdd_calls w2 p b most X m _ HQ2.out HM2.out HF2.out (by omega)).mono ?_
    rintro e w3 ⟨rfl, b', hput⟩
    have hy3 := (hput.mv.block _ (lt_of_block HY2.out) (fun e => by omega)).trans HY2.out
    obtain ⟨e0, e1, e2, e3, e4, e5, e6, ef⟩ := cells7 hy3
    have HY3 := Lib.hid hy3
    have hnb : w.heap.size + 1 ≠ b' := by
      have := hput.new
      have := HB2.out.size
      have := HS1.out
      omega
    have HP := Lib.hid ((hput.front (Below.next HB0.out (Below.next HB1.out HB2.out))).box (o := 0) (a0 := .string ⟨#[]⟩) (a1 := .int .i64 0) (a2 := .int .u8 0) (a3 := .bool false) (a4 := .slice none 0 0) (a5 := .string ⟨#[]⟩) (a6 := .string ⟨#[]⟩) ⟨_, _, _, _, _, _, _, _, hy3⟩ (show w.heap.size + 1 ≠ p by omega) hnb (by omega))
    have HLN := Lib.hid hlen
    clear hput hy3
    go_wp2
    change bodyPost _ _ _ _ _ (put7 w3 (w.heap.size + 1) 0 _ _ _ _ _ _ _)
    have hfin := put7_block (a0 := .string ⟨#[]⟩) (a1 := .int .i64 0) (a2 := .int .u8 0) (a3 := .bool false) (a4 := .slice none 0 0) (a5 := .string ⟨#[]⟩) (a6 := .string ⟨#[]⟩) HY3.out
    obtain ⟨g0, g1, g2, g3, g4, g5, g6, gf⟩ := cells7 hfin
    refine bodyPost_ret (v := .tuple #[msV ⟨⟨#[]⟩, 0, 0, false, [], ⟨#[]⟩, ⟨#[]⟩⟩ (.slice none 0 0), .bool false]) ?_ rfl (.inl ⟨HLN.out, rfl, _, HP.out⟩)
    simp [results, Try.results30, go_sem, g0, g1, g2, g3, g4, g5, g6]
  · go_quiet ((go_at_call 40; exact Calls.quiet_of_same (qLen_quiet W0 p b most X HC.out _)))
    rename_i nq
    have hB1 : Below W0.heap.size W0 (W0.drewN nq) := ⟨rfl, rfl, rfl, Nat.le_refl _, fun _ _ => rfl⟩
    clear c0 c1 c2 f0 f1 f2 d0 d1 d2 d3 d4 d5 d6 df
    have HB1 := Lib.hid hB1
    have hq1 := HC.out.below hB1
    have hql1 := HQL.out.keep hB1
    have hm1 := hM.out.below hB1
    have hx0 := (hB1.block _ (lt_of_block HX0.out)).trans HX0.out
    have hx1 := (hB1.block _ (lt_of_block HX1.out)).trans HX1.out
    have hs1 : (W0.drewN nq).heap.size = w.heap.size + 2 := HSZ.out
    generalize W0.drewN nq = W1 at *
    obtain ⟨d0, d1, d2, d3, d4, d5, d6, df⟩ := cells7 hx0
    obtain ⟨⟨c0, c1, c2⟩, f0, f1, f2⟩ := three_c hql1.cells
    rw [HLX.out] at c2
    have HQ1 := Lib.hid hq1
    have HQL1 := Lib.hid hql1
    have HM1 := Lib.hid hm1
    have HX0' := Lib.hid hx0
    have HY1 := Lib.hid hx1
    have HS1 := Lib.hid hs1
    have hlh := light_heavy X
    have hcase : ((m.q == 0) = true ∧ Hid (m.q = 0 ∨ lightL X = 0)) ∨ ((m.q == 0) = false ∧ (FloatKind.f64.format.order (floatOfInt .f64 (lightL X)) 0 == some .eq) = true ∧ Hid (m.q = 0 ∨ lightL X = 0)) ∨ ((m.q == 0) = false ∧ (FloatKind.f64.format.order (floatOfInt .f64 (lightL X)) 0 == some .eq) = false ∧ Hid (m.q ≠ 0 ∧ 0 < lightL X)) := by
      have hfl := fl_eq0 ⟨lightL X, by omega⟩
      dsimp only at hfl
      by_cases h1 : m.q = 0
      · exact .inl ⟨by simp [h1], .inl h1⟩
      · by_cases h2 : lightL X = 0
        · exact .inr (.inl ⟨by simp [h1], by rw [hfl]; simp [h2], .inr h2⟩)
        · exact .inr (.inr ⟨by simp [h1], by rw [hfl]; simp [h2], h1, by omega⟩)
    unfold wV at c2
    generalize floatOfInt .f64 (lightL X) = xl at c2 hcase
    generalize floatOfInt .f64 (heavyL X) = xh at c2
    have HLN := Lib.hid (show ¬ ((X.length : Int) < most) from hlen)
    clear hB1 hq1 hm1 hx0 hx1 hs1 hql1 hlh
    have tail : ∀ (hm : m.q = 0 ∨ lightL X = 0) (w2 : World) (v' : Value), MsAt w2 m v' → (∀ g, v'.ownBlock = some g → W1.heap.size ≤ g ∧ g < w2.heap.size) → Below W1.heap.size W1 w2 → 
        QPush w p b most X m (.returned (.tuple #[msV m v', .bool true])) (put7 w2 (w.heap.size + 1) 0 (.string m.src) (.int .i64 m.tick) (.int .u8 m.q) (.bool m.rt) v' (.string m.tp) (.string m.pl)) := fun hm w2 v' h2 hf hb2 => by
      have hy2 := (hb2.block _ (lt_of_block HY1.out)).trans HY1.out
      have hbb := Below.next HB0.out (Below.next HB1.out hb2)
      refine .inr (.inl ⟨HLN.out, hm, v', rfl, h2.box ⟨_, _, _, _, _, _, _, _, hy2⟩ put7_size (fun k hk => put7_other hk), (HQ1.out.below hb2).box ⟨_, _, _, _, _, _, _, _, hy2⟩ put7_size (fun k hk => put7_other hk) (by omega) (by omega), (Mv.of_below hbb).put7 (.inr (by omega))⟩)
    have HT := Lib.hid tail
    clear tail
    rcases hcase with ⟨h1, h3⟩ | ⟨h1, h2, h3⟩ | ⟨h1, h2, h3⟩
    rotate_left 2
    · obtain ⟨L1, y, L2, hLs, hy, hl1⟩ := light1_split L (by rw [HLX.out]; exact h3.2)
      subst hLs
      obtain ⟨ym, yv⟩ := y
      dsimp only at hy
      have hXs : X = L1.map Prod.fst ++ ym :: L2.map Prod.fst := by rw [← HLX.out]; simp
      have hXl : X.length = L1.length + L2.length + 1 := by rw [hXs]; simp; omega
      have hl59 : (L1 ++ (ym, yv) :: L2).length ≤ 100 := by simp; omega
      have hl60 : (L1.map Prod.fst ++ L2.map Prod.fst).length ≤ 60 := by simp; omega
      have hsl : ∀ x ∈ L1 ++ (ym, yv) :: L2, ∃ A n c, x.2 = Value.slice A n c := fun x hx => by
        obtain ⟨A, c, h⟩ := (HQL1.out.each x hx).ps.form
        exact ⟨_, _, _, h⟩
      have HI := Lib.hid (sIdx_calls W1 A b off cap L1 L2 (ym, yv) HQL1.out.row (by have := HS1.out; omega) hy hl1 hsl hl59)
      have HXS := Lib.hid hXs
      have HL1 := Lib.hid hl1
      have HY := Lib.hid hy
      have HC3 := Lib.hid h3
      clear hXs hl1 hsl hy h3
      generalize hNL : (L1 ++ (ym, yv) :: L2).length = NL at *
      go_wp2_with fail
      refine HI.out.mono ?_
      rintro e w2 ⟨rfl, hb2⟩
      have hq2 := HQ1.out.below hb2
      rw [HXS.out] at hq2
      have hT := qTake_calls w2 p b most (L1.map Prod.fst) (L2.map Prod.fst) ym hq2 hl60
      rw [List.length_map] at hT
      have HB2 := Lib.hid hb2
      have hx2 := (hb2.block _ (lt_of_block HX0'.out)).trans HX0'.out
      have hy2 := (hb2.block _ (lt_of_block HY1.out)).trans HY1.out
      have hm2 := HM1.out.below hb2
      have HX2 := Lib.hid hx2
      have HY2 := Lib.hid hy2
      have HM2 := Lib.hid hm2
      have HT2 := Lib.hid hT
      have hz2 := hb2.size
      clear hb2 hq2 hT hx2 hy2 hm2 HI
      go_wp2_with fail
      refine HT2.out.mono ?_
      rintro e w3 ⟨v3, rfl, hm3, hf3, hq3, hmv3⟩
      obtain ⟨A3, cap3, rfl⟩ := hm3.ps.form
      have hx3 := (hmv3.block _ (lt_of_block HX2.out) (fun e => by omega)).trans HX2.out
      have hy3 := (hmv3.block _ (lt_of_block HY2.out) (fun e => by omega)).trans HY2.out
      have hmm3 := HM2.out.keep (fun g hg hl => hmv3.block g hl (fun e => by have := HFM.out g hg; omega)) hmv3.size
      have hz3 := hmv3.size
      have hb4 := below_one w3 (.cells #[.string ym.src, .int .i64 ym.tick, .int .u8 ym.q, .bool ym.rt, .slice A3 ym.ps.length cap3, .string ym.tp, .string ym.pl] 50)
      have hc4 := heap_alloc_new w3 (.cells #[.string ym.src, .int .i64 ym.tick, .int .u8 ym.q, .bool ym.rt, .slice A3 ym.ps.length cap3, .string ym.tp, .string ym.pl] 50)
      have hx4 := (hb4.block _ (lt_of_block hx3)).trans hx3
      have hy4 := (hb4.block _ (lt_of_block hy3)).trans hy3
      have hmm4 := hmm3.below hb4
      have hq4 := hq3.below hb4
      have hy4m := hm3.below hb4
      have hs4 := World.size_alloc w3 (.cells #[.string ym.src, .int .i64 ym.tick, .int .u8 ym.q, .bool ym.rt, .slice A3 ym.ps.length cap3, .string ym.tp, .string ym.pl] 50)
      have HMV3 := Lib.hid hmv3
      have HF3 := Lib.hid hf3
      have HB4 := Lib.hid hb4
      have HC4 := Lib.hid hc4
      have HX4 := Lib.hid hx4
      have HY4 := Lib.hid hy4
      have HMM4 := Lib.hid hmm4
      have HQ4 := Lib.hid hq4
      have HYM4 := Lib.hid hy4m
      have HS4 := Lib.hid hs4
      clear hm3 hf3 hq3 hmv3 hx3 hy3 hmm3 hb4 hc4 hx4 hy4 hmm4 hq4 hy4m hs4 c0 c1 c2 f0 f1 f2 d0 d1 d2 d3 d4 d5 d6 df
      obtain ⟨d0, d1, d2, d3, d4, d5, d6, df⟩ := cells7 HX4.out
      generalize ym.ps.length = ny at *
      go_wp2_with fail
      generalize w3.alloc (.cells #[.string ym.src, .int .i64 ym.tick, .int .u8 ym.q, .bool ym.rt, .slice A3 ny cap3, .string ym.tp, .string ym.pl] 50) = W4 at *
      have hq4' := HQ4.out
      rw [show L1.map Prod.fst ++ L2.map Prod.fst = L1.map Prod.fst ++ L2.map Prod.fst from rfl] at hq4'
      refine (own_calls W4 m _ HMM4.out).mono ?_
      rintro e w5 ⟨v5, rfl, hm5, hf5, hb5⟩
      obtain ⟨A5, cap5, rfl⟩ := hm5.ps.form
      have hq5 := hq4'.below hb5
      have hs5 := hb5.size
      have hs1 := HS1.out
      have hs4 := HS4.out
      have HF5 := Lib.hid (show ∀ g, (Value.slice A5 m.ps.length cap5).ownBlock = some g → g < w5.heap.size ∧ g ≠ p ∧ g ≠ b from fun g hg => by have := hf5 g hg; omega)
      have HM5 := Lib.hid hm5
      have HQ5 := Lib.hid hq5
      have HB5 := Lib.hid hb5
      have HC5 := Lib.hid ((hb5.block _ (lt_of_block HC4.out)).trans HC4.out)
      have HY5 := Lib.hid ((hb5.block _ (lt_of_block HY4.out)).trans HY4.out)
      have HYM5 := Lib.hid (HYM4.out.below hb5)
      clear hq4' hm5 hf5 hq5 hb5
      go_wp2_with fail
      refine (qAdd_calls w5 p b most (L1.map Prod.fst ++ L2.map Prod.fst) m _ HQ5.out HM5.out HF5.out hl60).mono ?_
      rintro e w6 ⟨rfl, b', hput⟩
      have hc6 := (hput.mv.block _ (lt_of_block HC5.out) (fun e => by omega)).trans HC5.out
      have hy6 := (hput.mv.block _ (lt_of_block HY5.out) (fun e => by omega)).trans HY5.out
      have hym6 := HYM5.out.keep (fun g hg hl => hput.mv.block g hl (fun e => by have := HF3.out g hg; omega)) hput.mv.size
      have hmv : Mv (fun k => k = p ∨ k = b) w w6 := (((((Mv.of_below (Below.next HB0.out (Below.next HB1.out HB2.out))).trans HMV3.out).trans (Mv.of_below HB4.out)).trans (Mv.of_below HB5.out)).trans hput.mv)
      have hbx : BoxM w6 (w.heap.size + 1) := ⟨_, _, _, _, _, _, _, _, hy6⟩
      have hnb : w.heap.size + 1 ≠ b' := by have := hput.new; omega
      have hP : QPush w p b most X m (.returned (.tuple #[msV ym (.slice A3 ny cap3), .bool true])) (put7 w6 (w.heap.size + 1) 0 (.string ym.src) (.int .i64 ym.tick) (.int .u8 ym.q) (.bool ym.rt) (.slice A3 ny cap3) (.string ym.tp) (.string ym.pl)) := by
        refine .inr (.inr ⟨by have := HLN.out; omega, HC3.out.1, L1.map Prod.fst, ym, L2.map Prod.fst, _, b', HXS.out, HY.out, fun x hx => ?_, rfl, hym6.box hbx put7_size (fun k hk => put7_other hk), ⟨hput.at'.box hbx put7_size (fun k hk => put7_other hk) (by omega) hnb, hmv.put7 (.inr (by omega)), hput.new.imp id (fun e => by omega)⟩⟩)
        obtain ⟨z, hz, rfl⟩ := List.mem_map.1 hx
        exact HL1.out z hz
      obtain ⟨e0, e1, e2, e3, e4, e5, e6, ef⟩ := cells7 hc6
      obtain ⟨g0, g1, g2, g3, g4, g5, g6, gf⟩ := cells7 hy6
      have HY6 := Lib.hid hy6
      have HP := Lib.hid hP
      have hlc := lt_of_block hc6
      clear hput hc6 hy6 hym6 hmv hbx hP d0 d1 d2 d3 d4 d5 d6 df h1 h2
      go_wp2
      change bodyPost _ _ _ _ _ (put7 w6 (w.heap.size + 1) 0 _ _ _ _ _ _ _)
      have hfin := put7_block (a0 := .string ym.src) (a1 := .int .i64 ym.tick) (a2 := .int .u8 ym.q) (a3 := .bool ym.rt) (a4 := .slice A3 ny cap3) (a5 := .string ym.tp) (a6 := .string ym.pl) HY6.out
      obtain ⟨t0, t1, t2, t3, t4, t5, t6, tf⟩ := cells7 hfin
      refine bodyPost_ret (v := .tuple #[msV ym (.slice A3 ny cap3), .bool true]) ?_ rfl HP.out
      simp [results, Try.results30, go_sem, t0, t1, t2, t3, t4, t5, t6]
    all_goals
      go_wp2_with fail
      refine (own_calls W1 m _ HM1.out).mono ?_
      rintro e w2 ⟨v', rfl, hm2, hf2, hb2⟩
      obtain ⟨A2, cap2, rfl⟩ := hm2.ps.form
      have hy2 := (hb2.block _ (lt_of_block HY1.out)).trans HY1.out
      obtain ⟨e0, e1, e2, e3, e4, e5, e6, ef⟩ := cells7 hy2
      have HY2 := Lib.hid hy2
      have HR := Lib.hid (HT.out h3 w2 _ hm2 hf2 hb2)
      clear hm2 hf2 hb2 hy2
      go_wp2
      change bodyPost _ _ _ _ _ (put7 w2 (w.heap.size + 1) 0 _ _ _ _ _ _ _)
      have hfin := put7_block (a0 := .string m.src) (a1 := .int .i64 m.tick) (a2 := .int .u8 m.q) (a3 := .bool m.rt) (a4 := .slice A2 m.ps.length cap2) (a5 := .string m.tp) (a6 := .string m.pl) HY2.out
      obtain ⟨g0, g1, g2, g3, g4, g5, g6, gf⟩ := cells7 hfin
      refine bodyPost_ret (v := .tuple #[msV m (.slice A2 m.ps.length cap2), .bool true]) ?_ rfl HR.out
      simp [results, Try.results30, go_sem, g0, g1, g2, g3, g4, g5, g6]

#print axioms qPush_calls
end Go.Proofs.Yteofjcmpelcmaaa
