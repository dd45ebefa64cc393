/-
  A property that may not be in a packet is told as malformed, and one that is there twice as forbidden.
  Its conditions: none beside those of the row itself (the two tables of unicode/utf8 start as the library's text lays them: the card ties them).
-/
import Derived.Test.YtephoadjnmmbnaaDoorCards
import Derived.Test.YtephoadjnmmbnaaDoorTie
import Derived.Test.YtephoadjnmmbnaaDoorJPropElsew
import Derived.Test.YtephoadjnmmbnaaDoorJPropElsef
import Derived.Test.YtephoadjnmmbnaaDoorJEls1
import Derived.Test.YtephoadjnmmbnaaDoorJOpenPr
import Derived.ProofKit
import Derived.OpenShut
import Derived.ShutString
import Derived.ChangeOld
import Derived.Deep.DeepHandedRow
import Derived.Deep.DeepWitnessRowRef
import Derived.Lib.LaidU8T
import Derived.Lib.LaidTab
import Derived.Lib.LaidIn
namespace Go.Proofs.YtephoadjnmmbnaaDoor.propElse
open Go.ChangeShapes Go.WideShapes Go.ChangeAt Go.RowKit Go.Lib
open Go.ChangeMaps (open_string shut_string)
set_option linter.unusedVariables false

/-- What lies where ahead of the last statements. -/
structure ElsJ (w : World) (pb : Nat) (c : Pr) (v : Value) (X : List Pr) (wr : World) : Prop where
  pc : wr.heap[pb]? = some (.cells #[.int .i64 c.id, .int .u32 c.n, .string c.s, .string c.t] 50 (0, 0))
  own : OwnP (pb + 1) 50 wr v X
  bel : Below w.heap.size w wr
theorem ownP_leE {B B' : Nat} {e : TypeId} {w : World} {v : Value} {P : List Pr} (h : OwnP B e w v P) (hb : B' ≤ B) : OwnP B' e w v P := by
  refine ⟨h.1, ?_⟩
  rcases h.2 with h | ⟨g, cap, cur, hv, hB, rest⟩
  · exact .inl h
  · exact .inr ⟨g, cap, cur, hv, Nat.le_trans hb hB, rest⟩
theorem ElsJ.below {w : World} {pb : Nat} {c : Pr} {v : Value} {X : List Pr} {x y : World} (h : ElsJ w pb c v X x) (hb : Below x.heap.size x y) : ElsJ w pb c v X y :=
  ⟨(hb.block _ (lt_of_block h.pc)).trans h.pc, h.own.below hb, Below.next h.bel hb⟩
theorem four_setE {w : World} {b j : Nat} {u0 u1 u2 u3 v : Value} {t : TypeId} (h : w.heap[b]? = some (.cells #[u0, u1, u2, u3] t (0, 0))) : (w.setCell ⟨b, j, none⟩ v).heap[b]? = some (.cells (#[u0, u1, u2, u3].setIfInBounds j v) t (0, 0)) := by
  have hb := lt_of_block h
  simp [World.setCell, Array.getElem?_modify, h]

set_option maxRecDepth 100000 in
set_option maxHeartbeats 4000000 in
theorem walk1 (v0 : Value) (k : Int) (isW : Bool) (i n : Int) (s t : ByteArray) (w : World) (P : List Pr) (hP : PropsIn w v0 P) (hn : 0 ≤ n ∧ n < 4294967296) (zs0 : s.size ≤ maxLen) (zt0 : t.size ≤ maxLen) (hT : Tabs w) (X : List Pr) (hX8 : X.length ≤ 8)
    (hR : ∀ W, PropsIn W v0 P → Calls Tryd.prog 35 #[v0, .int .i64 k, .bool isW] W (Made 50 W X))
    (hk : (ruleL i).kind ≠ 0)
    (hR1 : ∀ W v, PropsIn W v [⟨i, n, s, t⟩] → Calls Tryd.prog 35 #[v, .int .i64 k, .bool isW] W (Made 50 W []))
    (hrun : runA (placeN k isW) [] (str (bodyL (X ++ [⟨i, n, s.extract 0 20, t.extract 0 20⟩]))) = ([], 2)) (hoks : ∀ p ∈ X ++ [⟨i, n, s.extract 0 20, t.extract 0 20⟩], p.ok) :
    Calls Tryd.prog 6 #[v0, .int .i64 k, .bool isW, .agg #[.int .i64 i, .int .u32 n, .string s, .string t]] w fun e w' => e = .returned (.bool true) ∧ Below w.heap.size w w' := by
  have HT := Lib.hid hT
  have HRX := Lib.hid hR
  have HR1 := Lib.hid hR1
  have hbl := bodyL_len _ hoks
  rw [List.length_append, List.length_singleton] at hbl
  have htk := take_back (placeN k isW) (X ++ [⟨i, n, s.extract 0 20, t.extract 0 20⟩]) [] (by omega)
  rw [hrun, List.append_nil] at htk
  have HTK := Lib.hid htk
  clear hbl htk
  have HOKS := Lib.hid hoks
  have hsl : ∃ a l c, v0 = .slice a l c := by obtain ⟨A, cap, e, _⟩ := hP.at_; exact ⟨_, _, _, e⟩
  obtain ⟨sa, sl, sc, rfl⟩ := hsl
  have hkd : ((ruleL i).kind == 0) = false := by simpa using hk
  have HK := Lib.hid (show ∀ W, Calls Tryd.prog 34 #[.int .i64 i] W fun e w' => e = .returned (.int .i64 (ruleL i).kind) ∧ W = w' from fun W => r3kind_calls W i)
  generalize (ruleL i).kind = kd at *
  clear hT hR hR1 hrun hoks hk
  have hP0 : PropsIn (w.alloc (.cells #[.int .i64 i, .int .u32 n, .string s, .string t] 50)) (.slice sa sl sc) P := ⟨hP.at_.below (below_one w _), hP.len, hP.num⟩
  have HP0 := Lib.hid hP0
  have hbx := heap_alloc_new w (.cells #[.int .i64 i, .int .u32 n, .string s, .string t] 50)
  have B0 := Lib.hid (below_one w (.cells #[.int .i64 i, .int .u32 n, .string s, .string t] 50))
  clear hP hP0
  go_enter Tryd.func6, Tryd.ntmps6
  go_wp2_with fail
  generalize w.alloc (.cells #[.int .i64 i, .int .u32 n, .string s, .string t] 50) = W0 at *
  refine (awake3_calls _ (HT.out.below B0.out)).mono ?_
  rintro e W1 ⟨rfl, b1⟩
  have HX1 := Lib.hid ((b1.block _ (lt_of_block hbx)).trans hbx)
  have B1 := Lib.hid (Below.next B0.out b1)
  have HP1 := Lib.hid (show PropsIn W1 (.slice sa sl sc) P from ⟨HP0.out.at_.below b1, HP0.out.len, HP0.out.num⟩)
  clear b1 hbx HP0 B0
  obtain ⟨⟨e0, e1, e2, e3⟩, g0, g1, g2, g3⟩ := four_cells HX1.out
  have hl1 := lt_of_block HX1.out
  go_wp2_with fail
  refine (HK.out _).mono ?_
  rintro e W2 ⟨rfl, rfl⟩
  go_wp2_with fail
  refine (HRX.out _ HP1.out).mono ?_
  rintro e W3 ⟨v, rfl, hown, b3⟩
  obtain ⟨va, vc, rfl⟩ := hown.form
  have HX3 := Lib.hid ((b3.block _ hl1).trans HX1.out)
  have B3 := Lib.hid (Below.next B1.out b3)
  have HO3 := Lib.hid (ownP_leE hown (show w.heap.size + 1 ≤ W1.heap.size from hl1))
  clear b3 hown HX1 B1 HP1 e0 e1 e2 e3 g0 g1 g2 g3 hl1 HRX
  obtain ⟨⟨e0, e1, e2, e3⟩, g0, g1, g2, g3⟩ := four_cells HX3.out
  have hl3 := lt_of_block HX3.out
  have bn := below_one W3 (.cells #[.int .i64 i, .int .u32 n, .string s, .string t] 50)
  have hat : PropsAt (W3.alloc (.cells #[.int .i64 i, .int .u32 n, .string s, .string t] 50)) (.slice (some ⟨W3.heap.size, 0, none⟩) 1 1) [⟨i, n, s, t⟩] := PropsAt.lit W3 ⟨i, n, s, t⟩ 50 1
  have HP4 := Lib.hid (show PropsIn (W3.alloc (.cells #[.int .i64 i, .int .u32 n, .string s, .string t] 50)) (.slice (some ⟨W3.heap.size, 0, none⟩) 1 1) [⟨i, n, s, t⟩] from ⟨hat, by simp [maxLen], fun p hp => by simp at hp; subst hp; exact ⟨hn.1, hn.2, zs0, zt0⟩⟩)
  have HX4 := Lib.hid ((bn.block _ hl3).trans HX3.out)
  have B4 := Lib.hid (Below.next B3.out bn)
  have HO4 := Lib.hid (HO3.out.below bn)
  clear bn hat HX3 B3 HO3
  go_wp2_with fail
  clear e0 e1 e2 e3 g0 g1 g2 g3 hl3
  generalize W3.alloc (.cells #[.int .i64 i, .int .u32 n, .string s, .string t] 50) = W4 at *
  generalize W3.heap.size = lb at *
  refine (HR1.out _ _ HP4.out).mono ?_
  rintro e W5 ⟨u, rfl, hownu, b5⟩
  obtain ⟨ua, uc, rfl⟩ := hownu.form
  have HPC := Lib.hid ((b5.block _ (lt_of_block HX4.out)).trans HX4.out)
  have HB5 := Lib.hid (Below.next B4.out b5)
  have HOWN := Lib.hid (HO4.out.below b5)
  clear b5 hownu HX4 B4 HO4 HP4 HR1 HK
  obtain ⟨⟨e0, e1, e2, e3⟩, g0, g1, g2, g3⟩ := four_cells HPC.out
  have HP2 := Lib.hid (show W5.drew.heap[w.heap.size]? = some (.cells #[.int .i64 i, .int .u32 n, .string s, .string t] 50 (0, 0)) from HPC.out)
  have HO2 := Lib.hid (show OwnP (w.heap.size + 1) 50 W5.drew (.slice va X.length vc) X from HOWN.out)
  have HB2 := Lib.hid (HB5.out.drew)
  clear HPC HOWN HB5
  go_wp2_with fail
  go_still_tail 7, (by kernel_rfl)
  still_call ((cut_calls _ s 20 zs0).mono (fun e w' h => ⟨h.1, h.2.symm⟩))
  repeat still_step
  still_call ((cut_calls _ t 20 zt0).mono (fun e w' h => ⟨h.1, h.2.symm⟩))
  repeat still_step
  refine wpStill_nil ?_
  change wpList _ _ _ _ _ W5.drew
  clear e0 e1 e2 e3 g0 g1 g2 g3
  generalize W5.drew = W6 at *
  obtain ⟨⟨e0, e1, e2, e3⟩, g0, g1, g2, g3⟩ := four_cells HP2.out
  have hlb := lt_of_block HP2.out
  generalize s.extract 0 20 = ys at *
  generalize t.extract 0 20 = yt at *
  have HNE := Lib.hid (show (Value.slice va X.length vc).ownBlock ≠ some w.heap.size from fun e => by have := (World.ownsRow.lt HO2.out _ e).1; omega)
  have J := Lib.hid (show ElsJ w w.heap.size ⟨i, n, ys, yt⟩ (.slice va X.length vc) X ((W6.setCell ⟨w.heap.size, 2, none⟩ (.string ys)).setCell ⟨w.heap.size, 3, none⟩ (.string yt)) from ⟨four_setE (four_setE HP2.out), ownsRow_setCell_other (a := ⟨w.heap.size, 3, none⟩) (ownsRow_setCell_other (a := ⟨w.heap.size, 2, none⟩) HO2.out HNE.out _) HNE.out _, (HB2.out.setCell (Nat.le_refl _) _).setCell (Nat.le_refl _) _⟩)
  clear HP2 HO2 HB2 HNE
  go_wp2_with fail
  clear e0 e1 e2 e3 g0 g1 g2 g3 hlb
  have hsz : ((W6.setCell ⟨w.heap.size, 2, none⟩ (.string ys)).setCell ⟨w.heap.size, 3, none⟩ (.string yt)).heap.size = W6.heap.size := by simp [World.setCell]
  generalize (W6.setCell ⟨w.heap.size, 2, none⟩ (.string ys)).setCell ⟨w.heap.size, 3, none⟩ (.string yt) = W7 at *
  have O8 := Lib.hid (OutAt.new W7)
  have hol : W6.heap.size < (W7.alloc (.cells #[.slice none 0 0] 57)).heap.size := by simp; omega
  have J8 := Lib.hid (J.out.below (below_one W7 (.cells #[.slice none 0 0] 57)))
  have hob : w.heap.size ≤ W6.heap.size := hsz ▸ J.out.bel.size
  have hpo : w.heap.size < W6.heap.size := hsz ▸ lt_of_block J.out.pc
  rw [hsz] at O8
  clear J hsz
  generalize W7.alloc (.cells #[.slice none 0 0] 57) = W8 at *
  generalize W6.heap.size = o at *
  obtain ⟨⟨e0, e1, e2, e3⟩, -⟩ := four_cells J8.out.pc
  have hlt : w.heap.size < W8.heap.size := by omega
  obtain ⟨i0, hi, hz0, hz1, hz2⟩ := info_parts Tryd.infoProp
  have BA := Lib.hid (below_one W8 (.cells #[] 50)).drew
  have BAB := Lib.hid ((below_one W8 (.cells #[] 50)).alloc (by simp) (.cells #[.int .i64 i, .int .u32 n, .string ys, .string yt] 50)).drew
  have BBA := Lib.hid ((below_one W8 (.cells #[.int .i64 i, .int .u32 n, .string ys, .string yt] 50)).alloc (by simp) (.cells #[] 50)).drew
  have EA := Lib.hid (show ((W8.alloc (.cells #[] 50)).drew).ownsRow W8.heap.size 50 4 (.slice (some ⟨W8.heap.size, 0, none⟩) 0 0) 0 [] from OwnP.empty W8 _)
  have EAB := Lib.hid (show (((W8.alloc (.cells #[] 50)).alloc (.cells #[.int .i64 i, .int .u32 n, .string ys, .string yt] 50)).drew).ownsRow W8.heap.size 50 4 (.slice (some ⟨W8.heap.size, 0, none⟩) 0 0) 0 [] from World.ownsRow.alloc (OwnP.empty W8 _) _)
  have EBA := Lib.hid (show (((W8.alloc (.cells #[.int .i64 i, .int .u32 n, .string ys, .string yt] 50)).alloc (.cells #[] 50)).drew).ownsRow W8.heap.size 50 4 (.slice (some ⟨W8.heap.size + 1, 0, none⟩) 0 0) 0 [] from by
    have := ownP_leE (OwnP.empty (W8.alloc (.cells #[.int .i64 i, .int .u32 n, .string ys, .string yt] 50)) 50) (show W8.heap.size ≤ _ by simp)
    rw [World.size_alloc] at this
    exact this)
  have HAB := Lib.hid (show (((W8.alloc (.cells #[] 50)).alloc (.cells #[.int .i64 i, .int .u32 n, .string ys, .string yt] 50)).drew).heap[W8.heap.size + 1]? = some (.cells #[.int .i64 i, .int .u32 n, .string ys, .string yt] 50 (0, 0)) from by
    have := heap_alloc_new (W8.alloc (.cells #[] 50)) (.cells #[.int .i64 i, .int .u32 n, .string ys, .string yt] 50)
    rw [World.size_alloc] at this
    exact this)
  have HBA := Lib.hid (show (((W8.alloc (.cells #[.int .i64 i, .int .u32 n, .string ys, .string yt] 50)).alloc (.cells #[] 50)).drew).heap[W8.heap.size]? = some (.cells #[.int .i64 i, .int .u32 n, .string ys, .string yt] 50 (0, 0)) from by
    have := heap_alloc_new W8 (.cells #[.int .i64 i, .int .u32 n, .string ys, .string yt] 50)
    exact (Below.heap_alloc _ _ _ (by simp)).trans this)
  have hpr := J8.out.own.props
  have PA := Lib.hid (hpr.below BA.out)
  have PAB := Lib.hid (hpr.below BAB.out)
  have PBA := Lib.hid (hpr.below BBA.out)
  clear hpr
  have hXc : (X ++ [(⟨i, n, ys, yt⟩ : Pr)]).length = X.length + 1 := by simp
  have hXf : (X ++ [(⟨i, n, ys, yt⟩ : Pr)]).flatMap prC = X.flatMap prC ++ [.int .i64 i, .int .u32 n, .string ys, .string yt] := by simp [prC]
  have HOWNX := Lib.hid (show ∀ (V : World) (u : Value), V.ownsRow W8.heap.size 50 4 u (X.length + 1) (X.flatMap prC ++ [.int .i64 i, .int .u32 n, .string ys, .string yt]) → PropsAt V u (X ++ [⟨i, n, ys, yt⟩]) from fun V u h => by
    rw [← hXf, ← hXc] at h
    exact OwnP.props h)
  clear hXf
  go_region_law (first
    | ((with_reducible refine step_append_props (W8.alloc (.cells #[] 50)).drew rfl (.tmp 67) (.tmp 68) rfl W8.heap.size W8.heap.size (.slice va X.length vc) X (by simp [Act.eval]) (by simp [Act.eval]) EA.out PA.out (by omega) (by simp) ?_); intro v1 V1 hown hgrow; obtain ⟨va1, vc1, rfl⟩ := hown.form; have OO := Lib.hid (show V1.ownsRow W8.heap.size 50 4 (.slice va1 X.length vc1) X.length (X.flatMap prC) from hown); have OB := Lib.hid (World.ownsRow.alloc OO.out (.cells #[.int .i64 i, .int .u32 n, .string ys, .string yt] 50)); have BV := Lib.hid (BA.out.grown hgrow (by simp) (fun g hg => by injection hg with hg; omega)); clear hown hgrow; have JV := Lib.hid (J8.out.below BV.out); obtain ⟨⟨f0, f1, f2, f3⟩, -⟩ := four_cells JV.out.pc; have hlv := lt_of_block JV.out.pc; have hzv := BV.out.size)
    | ((with_reducible refine step_append_props ((W8.alloc (.cells #[] 50)).alloc (.cells #[.int .i64 i, .int .u32 n, .string ys, .string yt] 50)).drew rfl (.tmp 67) (.tmp 68) rfl W8.heap.size W8.heap.size (.slice va X.length vc) X (by simp [Act.eval]) (by simp [Act.eval]) EAB.out PAB.out (by omega) (by simp; omega) ?_); intro v1 V1 hown hgrow; obtain ⟨va1, vc1, rfl⟩ := hown.form; have OO := Lib.hid (show V1.ownsRow W8.heap.size 50 4 (.slice va1 X.length vc1) X.length (X.flatMap prC) from hown); have OB := Lib.hid (World.ownsRow.alloc OO.out (.cells #[.int .i64 i, .int .u32 n, .string ys, .string yt] 50)); have BV := Lib.hid (BAB.out.grown hgrow (by simp; omega) (fun g hg => by injection hg with hg; omega)); have HBL := Lib.hid ((hgrow.block (W8.heap.size + 1) (lt_of_block HAB.out) (by intro e; injection e with e; omega)).trans HAB.out); clear hown hgrow; have hzv := BV.out.size)
    | ((with_reducible refine step_append_props ((W8.alloc (.cells #[.int .i64 i, .int .u32 n, .string ys, .string yt] 50)).alloc (.cells #[] 50)).drew rfl (.tmp 67) (.tmp 68) rfl W8.heap.size (W8.heap.size + 1) (.slice va X.length vc) X (by simp [Act.eval]) (by simp [Act.eval]) EBA.out PBA.out (by omega) (by simp; omega) ?_); intro v1 V1 hown hgrow; obtain ⟨va1, vc1, rfl⟩ := hown.form; have OO := Lib.hid (show V1.ownsRow W8.heap.size 50 4 (.slice va1 X.length vc1) X.length (X.flatMap prC) from hown); have OB := Lib.hid (World.ownsRow.alloc OO.out (.cells #[.int .i64 i, .int .u32 n, .string ys, .string yt] 50)); have BV := Lib.hid (BBA.out.grown hgrow (by simp; omega) (fun g hg => by injection hg with hg; omega)); have HBL := Lib.hid ((hgrow.block W8.heap.size (lt_of_block HBA.out) (by intro e; injection e with e; omega)).trans HBA.out); clear hown hgrow; have hzv := BV.out.size)
    | ((with_reducible refine step_append_lies (V1.alloc (.cells #[.int .i64 i, .int .u32 n, .string ys, .string yt] 50)) rfl (.tmp 69) (.tmp 71) 36 rfl W8.heap.size 50 i0 (.agg #[.int .i64 0, .int .u32 0, .string ⟨#[]⟩, .string ⟨#[]⟩]) 4 48 Tryd.underlying36 hi hz0 hz1 hz2 rfl (by decide) (.slice va1 X.length vc1) X.length (X.flatMap prC) (by simp [Act.eval]) OB.out ⟨V1.heap.size, 0, none⟩ 1 1 [.int .i64 i, .int .u32 n, .string ys, .string yt] (by simp [Act.eval]) rfl (four_new V1 _ _ _ _ _) (by simp [Value.oneCell']) (by decide) (by unfold maxLen; omega) (by omega) (by simp; omega) _ rfl ?_); intro g cap V2 hown hgrow _ _; have P9 := Lib.hid (HOWNX.out _ _ hown); have B9 := Lib.hid ((BV.out.alloc hzv _).grown hgrow (by simp; omega) (fun g hg => (World.ownsRow.lt OO.out g hg).1)); clear hown hgrow)
    | ((with_reducible refine step_append_lies V1 rfl (.tmp 69) (.tmp 71) 36 rfl W8.heap.size 50 i0 (.agg #[.int .i64 0, .int .u32 0, .string ⟨#[]⟩, .string ⟨#[]⟩]) 4 48 Tryd.underlying36 hi hz0 hz1 hz2 rfl (by decide) (.slice va1 X.length vc1) X.length (X.flatMap prC) (by simp [Act.eval]) OO.out ⟨W8.heap.size + 1, 0, none⟩ 1 1 [.int .i64 i, .int .u32 n, .string ys, .string yt] (by simp [Act.eval]) rfl (World.news_of_block HBL.out) (by simp [Value.oneCell']) (by decide) (by unfold maxLen; omega) (by omega) hzv _ rfl ?_); intro g cap V2 hown hgrow _ _; have P9 := Lib.hid (HOWNX.out _ _ hown); have B9 := Lib.hid (BV.out.grown hgrow hzv (fun g hg => (World.ownsRow.lt OO.out g hg).1)); clear hown hgrow)
    | ((with_reducible refine step_append_lies V1 rfl (.tmp 69) (.tmp 71) 36 rfl W8.heap.size 50 i0 (.agg #[.int .i64 0, .int .u32 0, .string ⟨#[]⟩, .string ⟨#[]⟩]) 4 48 Tryd.underlying36 hi hz0 hz1 hz2 rfl (by decide) (.slice va1 X.length vc1) X.length (X.flatMap prC) (by simp [Act.eval]) OO.out ⟨W8.heap.size, 0, none⟩ 1 1 [.int .i64 i, .int .u32 n, .string ys, .string yt] (by simp [Act.eval]) rfl (World.news_of_block HBL.out) (by simp [Value.oneCell']) (by decide) (by unfold maxLen; omega) (by omega) hzv _ rfl ?_); intro g cap V2 hown hgrow _ _; have P9 := Lib.hid (HOWNX.out _ _ hown); have B9 := Lib.hid (BV.out.grown hgrow hzv (fun g hg => (World.ownsRow.lt OO.out g hg).1)); clear hown hgrow)
    | (go_simp; go_at_call 37; refine (put3_calls _ o none [] _ _ P9.out HOKS.out (by simp; omega) (O8.out.below B9.out) (by decide)).mono ?_; rintro e V3 ⟨rfl, r, h4, s4⟩; have H4 := Lib.hid h4; have B10 := Lib.hid ((Below.next J8.out.bel B9.out).trans (s4.below (Below.next J8.out.bel B9.out).size hob (fun g hg => by cases hg))); clear h4 s4))
  all_goals
    clear e0 e1 e2 e3
    rw [List.nil_append] at H4
    go_wp2_with fail
    refine (text_calls _ o r _ H4.out).mono ?_
    rintro e y6 ⟨rfl, rfl⟩
    go_wp2_with fail
    refine (over_calls _ _).mono ?_
    rintro e y6 ⟨rfl, rfl⟩
    have i6 := InAt.new V3 (str (propsL (X ++ [⟨i, n, ys, yt⟩])))
    have HB6 := Lib.hid (Below.next B10.out (below_one V3 (.cells #[.string (str (propsL (X ++ [⟨i, n, ys, yt⟩]))), .int .i64 0] 155)))
    have ht6 := HT.out.below HB6.out
    have hz6 := B10.out.size
    generalize V3.alloc (.cells #[.string (str (propsL (X ++ [⟨i, n, ys, yt⟩]))), .int .i64 0] 155) = y6 at *
    generalize V3.heap.size = p at *
    go_wp2_with fail
    refine (take3_calls _ p _ 0 k isW i6 ht6).mono ?_
    rw [HTK.out]
    rintro e y7 ⟨u, rfl, hownu, hnil, i7, c7⟩
    dsimp only at hownu hnil i7
    obtain rfl := hnil (by decide)
    have HB7 := Lib.hid (HB6.out.trans (c7.below HB6.out.size hz6))
    have hq := fun wx => Lib.run_eql_slice_nil (P := Tryd.prog) wx 36 50 none 0 0 0 0 Tryd.underlying36
    clear hownu hnil c7 i6 ht6 HB6 H4
    go_wp2_with fail
    refine (err_calls _ p (str []) 2 i7).mono ?_
    rintro e y8 ⟨rfl, rfl⟩
    clear i7
    go_wp2
    go_ret
    exact ⟨rfl, HB7.out⟩

set_option maxRecDepth 100000 in
set_option maxHeartbeats 4000000 in
theorem walk3 (v0 : Value) (k : Int) (isW : Bool) (i n : Int) (s t : ByteArray) (w : World) (P : List Pr) (hP : PropsIn w v0 P) (hn : 0 ≤ n ∧ n < 4294967296) (zs0 : s.size ≤ maxLen) (zt0 : t.size ≤ maxLen) (hT : Tabs w) (X : List Pr) (hX8 : X.length ≤ 8)
    (hR : ∀ W, PropsIn W v0 P → Calls Tryd.prog 35 #[v0, .int .i64 k, .bool isW] W (Made 50 W X))
    (hk : (ruleL i).kind ≠ 0) (yi yn : Int) (ya yb : ByteArray) (zya : ya.size ≤ maxLen) (zyb : yb.size ≤ maxLen)
    (hR1 : ∀ W v, PropsIn W v [⟨i, n, s, t⟩] → Calls Tryd.prog 35 #[v, .int .i64 k, .bool isW] W (Made 50 W [⟨yi, yn, ya, yb⟩]))
    (zi zn : Int) (za zb : ByteArray) (th : Bool) (hG : getV X yi = .tuple #[.agg #[.int .i64 zi, .int .u32 zn, .string za, .string zb], .bool th])
    (hth : th = false ∨ (th = true ∧ (yi == 38) = true) ∨ (th = true ∧ (yi == 38) = false ∧ (yi == 11) = true)) :
    Calls Tryd.prog 6 #[v0, .int .i64 k, .bool isW, .agg #[.int .i64 i, .int .u32 n, .string s, .string t]] w fun e w' => e = .returned (.bool true) ∧ Below w.heap.size w w' := by
  have HT := Lib.hid hT
  have HRX := Lib.hid hR
  have HR1 := Lib.hid hR1
  have HG := Lib.hid hG
  have hsl : ∃ a l c, v0 = .slice a l c := by obtain ⟨A, cap, e, _⟩ := hP.at_; exact ⟨_, _, _, e⟩
  obtain ⟨sa, sl, sc, rfl⟩ := hsl
  have hkd : ((ruleL i).kind == 0) = false := by simpa using hk
  have HK := Lib.hid (show ∀ W, Calls Tryd.prog 34 #[.int .i64 i] W fun e w' => e = .returned (.int .i64 (ruleL i).kind) ∧ W = w' from fun W => r3kind_calls W i)
  generalize (ruleL i).kind = kd at *
  clear hT hR hR1 hk hG
  have hP0 : PropsIn (w.alloc (.cells #[.int .i64 i, .int .u32 n, .string s, .string t] 50)) (.slice sa sl sc) P := ⟨hP.at_.below (below_one w _), hP.len, hP.num⟩
  have HP0 := Lib.hid hP0
  have hbx := heap_alloc_new w (.cells #[.int .i64 i, .int .u32 n, .string s, .string t] 50)
  have B0 := Lib.hid (below_one w (.cells #[.int .i64 i, .int .u32 n, .string s, .string t] 50))
  clear hP hP0
  go_enter Tryd.func6, Tryd.ntmps6
  go_wp2_with fail
  generalize w.alloc (.cells #[.int .i64 i, .int .u32 n, .string s, .string t] 50) = W0 at *
  refine (awake3_calls _ (HT.out.below B0.out)).mono ?_
  rintro e W1 ⟨rfl, b1⟩
  have HX1 := Lib.hid ((b1.block _ (lt_of_block hbx)).trans hbx)
  have B1 := Lib.hid (Below.next B0.out b1)
  have HP1 := Lib.hid (show PropsIn W1 (.slice sa sl sc) P from ⟨HP0.out.at_.below b1, HP0.out.len, HP0.out.num⟩)
  clear b1 hbx HP0 B0
  obtain ⟨⟨e0, e1, e2, e3⟩, g0, g1, g2, g3⟩ := four_cells HX1.out
  have hl1 := lt_of_block HX1.out
  go_wp2_with fail
  refine (HK.out _).mono ?_
  rintro e W2 ⟨rfl, rfl⟩
  go_wp2_with fail
  refine (HRX.out _ HP1.out).mono ?_
  rintro e W3 ⟨v, rfl, hown, b3⟩
  obtain ⟨va, vc, rfl⟩ := hown.form
  have HX3 := Lib.hid ((b3.block _ hl1).trans HX1.out)
  have B3 := Lib.hid (Below.next B1.out b3)
  have HO3 := Lib.hid (ownP_leE hown (show w.heap.size + 1 ≤ W1.heap.size from hl1))
  clear b3 hown HX1 B1 HP1 e0 e1 e2 e3 g0 g1 g2 g3 hl1 HRX
  obtain ⟨⟨e0, e1, e2, e3⟩, g0, g1, g2, g3⟩ := four_cells HX3.out
  have hl3 := lt_of_block HX3.out
  have bn := below_one W3 (.cells #[.int .i64 i, .int .u32 n, .string s, .string t] 50)
  have hat : PropsAt (W3.alloc (.cells #[.int .i64 i, .int .u32 n, .string s, .string t] 50)) (.slice (some ⟨W3.heap.size, 0, none⟩) 1 1) [⟨i, n, s, t⟩] := PropsAt.lit W3 ⟨i, n, s, t⟩ 50 1
  have HP4 := Lib.hid (show PropsIn (W3.alloc (.cells #[.int .i64 i, .int .u32 n, .string s, .string t] 50)) (.slice (some ⟨W3.heap.size, 0, none⟩) 1 1) [⟨i, n, s, t⟩] from ⟨hat, by simp [maxLen], fun p hp => by simp at hp; subst hp; exact ⟨hn.1, hn.2, zs0, zt0⟩⟩)
  have HX4 := Lib.hid ((bn.block _ hl3).trans HX3.out)
  have B4 := Lib.hid (Below.next B3.out bn)
  have HO4 := Lib.hid (HO3.out.below bn)
  clear bn hat HX3 B3 HO3
  go_wp2_with fail
  clear e0 e1 e2 e3 g0 g1 g2 g3 hl3
  generalize W3.alloc (.cells #[.int .i64 i, .int .u32 n, .string s, .string t] 50) = W4 at *
  generalize W3.heap.size = lb at *
  refine (HR1.out _ _ HP4.out).mono ?_
  rintro e W5 ⟨u, rfl, hownu, b5⟩
  have HX5 := Lib.hid ((b5.block _ (lt_of_block HX4.out)).trans HX4.out)
  have B5 := Lib.hid (Below.next B4.out b5)
  have HO5 := Lib.hid (HO4.out.below b5)
  obtain ⟨g, cap, rfl, hg1, hg2⟩ := World.ownsRow.form hownu (by simp)
  have hne : w.heap.size < g := Nat.lt_of_lt_of_le (lt_of_block HX4.out) hg1
  obtain ⟨A, cap', hA, hc⟩ := hownu.props
  injection hA with hA _ _
  subst hA
  obtain ⟨b, off, hA, _, k0, k1, k2, k3⟩ := hc 0 _ rfl
  injection hA with hA
  injection hA with hA1 hA2
  subst hA1 hA2
  simp only [Nat.zero_mul, Nat.add_zero, Nat.zero_add] at k0 k1 k2 k3
  have hl5 := lt_of_block HX5.out
  obtain ⟨⟨e0, e1, e2, e3⟩, g0, g1, g2, g3⟩ := four_cells HX5.out
  have HNE5 := Lib.hid (show (Value.slice va X.length vc).ownBlock ≠ some w.heap.size from fun e => by have := (World.ownsRow.lt HO5.out _ e).1; omega)
  clear b5 hownu HX4 B4 HO4 HP4 HR1 HK hc hg1
  have HX6 := Lib.hid (show ((((W5.setCell ⟨w.heap.size, 0, none⟩ (.int .i64 yi)).setCell ⟨w.heap.size, 1, none⟩ (.int .u32 yn)).setCell ⟨w.heap.size, 2, none⟩ (.string ya)).setCell ⟨w.heap.size, 3, none⟩ (.string yb)).heap[w.heap.size]? = some (.cells #[.int .i64 yi, .int .u32 yn, .string ya, .string yb] 50 (0, 0)) from four_setE (four_setE (four_setE (four_setE HX5.out))))
  have B6 := Lib.hid (((((B5.out.setCell (Nat.le_refl _) (.int .i64 yi) : Below w.heap.size w (W5.setCell ⟨w.heap.size, 0, none⟩ (.int .i64 yi))).setCell (Nat.le_refl _) (.int .u32 yn) : Below w.heap.size w ((W5.setCell ⟨w.heap.size, 0, none⟩ (.int .i64 yi)).setCell ⟨w.heap.size, 1, none⟩ (.int .u32 yn))).setCell (Nat.le_refl _) (.string ya) : Below w.heap.size w (((W5.setCell ⟨w.heap.size, 0, none⟩ (.int .i64 yi)).setCell ⟨w.heap.size, 1, none⟩ (.int .u32 yn)).setCell ⟨w.heap.size, 2, none⟩ (.string ya))).setCell (Nat.le_refl _) (.string yb) : Below w.heap.size w ((((W5.setCell ⟨w.heap.size, 0, none⟩ (.int .i64 yi)).setCell ⟨w.heap.size, 1, none⟩ (.int .u32 yn)).setCell ⟨w.heap.size, 2, none⟩ (.string ya)).setCell ⟨w.heap.size, 3, none⟩ (.string yb))))
  have HO6 := Lib.hid (show OwnP (w.heap.size + 1) 50 ((((W5.setCell ⟨w.heap.size, 0, none⟩ (.int .i64 yi)).setCell ⟨w.heap.size, 1, none⟩ (.int .u32 yn)).setCell ⟨w.heap.size, 2, none⟩ (.string ya)).setCell ⟨w.heap.size, 3, none⟩ (.string yb)) (.slice va X.length vc) X from ownsRow_setCell_other (a := ⟨w.heap.size, 3, none⟩) (ownsRow_setCell_other (a := ⟨w.heap.size, 2, none⟩) (ownsRow_setCell_other (a := ⟨w.heap.size, 1, none⟩) (ownsRow_setCell_other (a := ⟨w.heap.size, 0, none⟩) HO5.out HNE5.out _) HNE5.out _) HNE5.out _) HNE5.out _)
  go_wp2_with fail
  clear e0 e1 e2 e3 g0 g1 g2 g3 k0 k1 k2 k3 HX5 B5 HO5 HNE5 hl5
  generalize (((W5.setCell ⟨w.heap.size, 0, none⟩ (.int .i64 yi)).setCell ⟨w.heap.size, 1, none⟩ (.int .u32 yn)).setCell ⟨w.heap.size, 2, none⟩ (.string ya)).setCell ⟨w.heap.size, 3, none⟩ (.string yb) = W6 at *
  obtain ⟨⟨e0, e1, e2, e3⟩, g0, g1, g2, g3⟩ := four_cells HX6.out
  have hl6 := lt_of_block HX6.out
  go_wp2_with fail
  refine (get_calls _ _ X yi HO6.out.props (by omega)).mono ?_
  rw [HG.out]
  rintro e W7 ⟨rfl, b7⟩
  have bn := below_one W7 (.cells #[.int .i64 zi, .int .u32 zn, .string za, .string zb] 50)
  have b8 := b7.trans (bn.mono b7.size)
  have HPC := Lib.hid ((b8.block _ hl6).trans HX6.out)
  have HB5 := Lib.hid (Below.next B6.out b8)
  have HOWN := Lib.hid (HO6.out.below b8)
  clear b7 b8 bn HX6 B6 HO6 e0 e1 e2 e3 g0 g1 g2 g3 hl6 HG
  obtain ⟨⟨e0, e1, e2, e3⟩, g0, g1, g2, g3⟩ := four_cells HPC.out
  have hl8 := lt_of_block HPC.out
  rcases hth with rfl | ⟨rfl, h38⟩ | ⟨rfl, h38, h11⟩
  all_goals
    clear e1 e2 e3 g0 g1 g2 g3
    go_wp2
    go_ret
    exact ⟨rfl, HB5.out⟩

set_option maxRecDepth 100000 in
set_option maxHeartbeats 4000000 in
theorem walk2 (v0 : Value) (k : Int) (isW : Bool) (i n : Int) (s t : ByteArray) (w : World) (P : List Pr) (hP : PropsIn w v0 P) (hn : 0 ≤ n ∧ n < 4294967296) (zs0 : s.size ≤ maxLen) (zt0 : t.size ≤ maxLen) (hT : Tabs w) (X : List Pr) (hX8 : X.length ≤ 8)
    (hR : ∀ W, PropsIn W v0 P → Calls Tryd.prog 35 #[v0, .int .i64 k, .bool isW] W (Made 50 W X))
    (hk : (ruleL i).kind ≠ 0) (yi yn : Int) (ya yb : ByteArray) (zya : ya.size ≤ maxLen) (zyb : yb.size ≤ maxLen)
    (hR1 : ∀ W v, PropsIn W v [⟨i, n, s, t⟩] → Calls Tryd.prog 35 #[v, .int .i64 k, .bool isW] W (Made 50 W [⟨yi, yn, ya, yb⟩]))
    (zi zn : Int) (za zb : ByteArray) (th : Bool) (hG : getV X yi = .tuple #[.agg #[.int .i64 zi, .int .u32 zn, .string za, .string zb], .bool th])
    (hth : th = true) (h38 : (yi == 38) = false) (h11 : (yi == 11) = false)
    (hrun : runA (placeN k isW) [] (str (bodyL (X ++ [⟨yi, yn, ya.extract 0 20, yb.extract 0 20⟩]))) = ([], 3)) (hoks : ∀ p ∈ X ++ [⟨yi, yn, ya.extract 0 20, yb.extract 0 20⟩], p.ok) :
    Calls Tryd.prog 6 #[v0, .int .i64 k, .bool isW, .agg #[.int .i64 i, .int .u32 n, .string s, .string t]] w fun e w' => e = .returned (.bool true) ∧ Below w.heap.size w w' := by
  have HT := Lib.hid hT
  have HRX := Lib.hid hR
  have HR1 := Lib.hid hR1
  have hbl := bodyL_len _ hoks
  rw [List.length_append, List.length_singleton] at hbl
  have htk := take_back (placeN k isW) (X ++ [⟨yi, yn, ya.extract 0 20, yb.extract 0 20⟩]) [] (by omega)
  rw [hrun, List.append_nil] at htk
  have HTK := Lib.hid htk
  clear hbl htk
  have HOKS := Lib.hid hoks
  have HG := Lib.hid hG
  have hsl : ∃ a l c, v0 = .slice a l c := by obtain ⟨A, cap, e, _⟩ := hP.at_; exact ⟨_, _, _, e⟩
  obtain ⟨sa, sl, sc, rfl⟩ := hsl
  have hkd : ((ruleL i).kind == 0) = false := by simpa using hk
  have HK := Lib.hid (show ∀ W, Calls Tryd.prog 34 #[.int .i64 i] W fun e w' => e = .returned (.int .i64 (ruleL i).kind) ∧ W = w' from fun W => r3kind_calls W i)
  generalize (ruleL i).kind = kd at *
  clear hT hR hR1 hrun hoks hk hG
  have hP0 : PropsIn (w.alloc (.cells #[.int .i64 i, .int .u32 n, .string s, .string t] 50)) (.slice sa sl sc) P := ⟨hP.at_.below (below_one w _), hP.len, hP.num⟩
  have HP0 := Lib.hid hP0
  have hbx := heap_alloc_new w (.cells #[.int .i64 i, .int .u32 n, .string s, .string t] 50)
  have B0 := Lib.hid (below_one w (.cells #[.int .i64 i, .int .u32 n, .string s, .string t] 50))
  clear hP hP0
  go_enter Tryd.func6, Tryd.ntmps6
  go_wp2_with fail
  generalize w.alloc (.cells #[.int .i64 i, .int .u32 n, .string s, .string t] 50) = W0 at *
  refine (awake3_calls _ (HT.out.below B0.out)).mono ?_
  rintro e W1 ⟨rfl, b1⟩
  have HX1 := Lib.hid ((b1.block _ (lt_of_block hbx)).trans hbx)
  have B1 := Lib.hid (Below.next B0.out b1)
  have HP1 := Lib.hid (show PropsIn W1 (.slice sa sl sc) P from ⟨HP0.out.at_.below b1, HP0.out.len, HP0.out.num⟩)
  clear b1 hbx HP0 B0
  obtain ⟨⟨e0, e1, e2, e3⟩, g0, g1, g2, g3⟩ := four_cells HX1.out
  have hl1 := lt_of_block HX1.out
  go_wp2_with fail
  refine (HK.out _).mono ?_
  rintro e W2 ⟨rfl, rfl⟩
  go_wp2_with fail
  refine (HRX.out _ HP1.out).mono ?_
  rintro e W3 ⟨v, rfl, hown, b3⟩
  obtain ⟨va, vc, rfl⟩ := hown.form
  have HX3 := Lib.hid ((b3.block _ hl1).trans HX1.out)
  have B3 := Lib.hid (Below.next B1.out b3)
  have HO3 := Lib.hid (ownP_leE hown (show w.heap.size + 1 ≤ W1.heap.size from hl1))
  clear b3 hown HX1 B1 HP1 e0 e1 e2 e3 g0 g1 g2 g3 hl1 HRX
  obtain ⟨⟨e0, e1, e2, e3⟩, g0, g1, g2, g3⟩ := four_cells HX3.out
  have hl3 := lt_of_block HX3.out
  have bn := below_one W3 (.cells #[.int .i64 i, .int .u32 n, .string s, .string t] 50)
  have hat : PropsAt (W3.alloc (.cells #[.int .i64 i, .int .u32 n, .string s, .string t] 50)) (.slice (some ⟨W3.heap.size, 0, none⟩) 1 1) [⟨i, n, s, t⟩] := PropsAt.lit W3 ⟨i, n, s, t⟩ 50 1
  have HP4 := Lib.hid (show PropsIn (W3.alloc (.cells #[.int .i64 i, .int .u32 n, .string s, .string t] 50)) (.slice (some ⟨W3.heap.size, 0, none⟩) 1 1) [⟨i, n, s, t⟩] from ⟨hat, by simp [maxLen], fun p hp => by simp at hp; subst hp; exact ⟨hn.1, hn.2, zs0, zt0⟩⟩)
  have HX4 := Lib.hid ((bn.block _ hl3).trans HX3.out)
  have B4 := Lib.hid (Below.next B3.out bn)
  have HO4 := Lib.hid (HO3.out.below bn)
  clear bn hat HX3 B3 HO3
  go_wp2_with fail
  clear e0 e1 e2 e3 g0 g1 g2 g3 hl3
  generalize W3.alloc (.cells #[.int .i64 i, .int .u32 n, .string s, .string t] 50) = W4 at *
  generalize W3.heap.size = lb at *
  refine (HR1.out _ _ HP4.out).mono ?_
  rintro e W5 ⟨u, rfl, hownu, b5⟩
  have HX5 := Lib.hid ((b5.block _ (lt_of_block HX4.out)).trans HX4.out)
  have B5 := Lib.hid (Below.next B4.out b5)
  have HO5 := Lib.hid (HO4.out.below b5)
  obtain ⟨g, cap, rfl, hg1, hg2⟩ := World.ownsRow.form hownu (by simp)
  have hne : w.heap.size < g := Nat.lt_of_lt_of_le (lt_of_block HX4.out) hg1
  obtain ⟨A, cap', hA, hc⟩ := hownu.props
  injection hA with hA _ _
  subst hA
  obtain ⟨b, off, hA, _, k0, k1, k2, k3⟩ := hc 0 _ rfl
  injection hA with hA
  injection hA with hA1 hA2
  subst hA1 hA2
  simp only [Nat.zero_mul, Nat.add_zero, Nat.zero_add] at k0 k1 k2 k3
  have hl5 := lt_of_block HX5.out
  obtain ⟨⟨e0, e1, e2, e3⟩, g0, g1, g2, g3⟩ := four_cells HX5.out
  have HNE5 := Lib.hid (show (Value.slice va X.length vc).ownBlock ≠ some w.heap.size from fun e => by have := (World.ownsRow.lt HO5.out _ e).1; omega)
  clear b5 hownu HX4 B4 HO4 HP4 HR1 HK hc hg1
  have HX6 := Lib.hid (show ((((W5.setCell ⟨w.heap.size, 0, none⟩ (.int .i64 yi)).setCell ⟨w.heap.size, 1, none⟩ (.int .u32 yn)).setCell ⟨w.heap.size, 2, none⟩ (.string ya)).setCell ⟨w.heap.size, 3, none⟩ (.string yb)).heap[w.heap.size]? = some (.cells #[.int .i64 yi, .int .u32 yn, .string ya, .string yb] 50 (0, 0)) from four_setE (four_setE (four_setE (four_setE HX5.out))))
  have B6 := Lib.hid (((((B5.out.setCell (Nat.le_refl _) (.int .i64 yi) : Below w.heap.size w (W5.setCell ⟨w.heap.size, 0, none⟩ (.int .i64 yi))).setCell (Nat.le_refl _) (.int .u32 yn) : Below w.heap.size w ((W5.setCell ⟨w.heap.size, 0, none⟩ (.int .i64 yi)).setCell ⟨w.heap.size, 1, none⟩ (.int .u32 yn))).setCell (Nat.le_refl _) (.string ya) : Below w.heap.size w (((W5.setCell ⟨w.heap.size, 0, none⟩ (.int .i64 yi)).setCell ⟨w.heap.size, 1, none⟩ (.int .u32 yn)).setCell ⟨w.heap.size, 2, none⟩ (.string ya))).setCell (Nat.le_refl _) (.string yb) : Below w.heap.size w ((((W5.setCell ⟨w.heap.size, 0, none⟩ (.int .i64 yi)).setCell ⟨w.heap.size, 1, none⟩ (.int .u32 yn)).setCell ⟨w.heap.size, 2, none⟩ (.string ya)).setCell ⟨w.heap.size, 3, none⟩ (.string yb))))
  have HO6 := Lib.hid (show OwnP (w.heap.size + 1) 50 ((((W5.setCell ⟨w.heap.size, 0, none⟩ (.int .i64 yi)).setCell ⟨w.heap.size, 1, none⟩ (.int .u32 yn)).setCell ⟨w.heap.size, 2, none⟩ (.string ya)).setCell ⟨w.heap.size, 3, none⟩ (.string yb)) (.slice va X.length vc) X from ownsRow_setCell_other (a := ⟨w.heap.size, 3, none⟩) (ownsRow_setCell_other (a := ⟨w.heap.size, 2, none⟩) (ownsRow_setCell_other (a := ⟨w.heap.size, 1, none⟩) (ownsRow_setCell_other (a := ⟨w.heap.size, 0, none⟩) HO5.out HNE5.out _) HNE5.out _) HNE5.out _) HNE5.out _)
  go_wp2_with fail
  clear e0 e1 e2 e3 g0 g1 g2 g3 k0 k1 k2 k3 HX5 B5 HO5 HNE5 hl5
  generalize (((W5.setCell ⟨w.heap.size, 0, none⟩ (.int .i64 yi)).setCell ⟨w.heap.size, 1, none⟩ (.int .u32 yn)).setCell ⟨w.heap.size, 2, none⟩ (.string ya)).setCell ⟨w.heap.size, 3, none⟩ (.string yb) = W6 at *
  obtain ⟨⟨e0, e1, e2, e3⟩, g0, g1, g2, g3⟩ := four_cells HX6.out
  have hl6 := lt_of_block HX6.out
  go_wp2_with fail
  refine (get_calls _ _ X yi HO6.out.props (by omega)).mono ?_
  rw [HG.out]
  rintro e W7 ⟨rfl, b7⟩
  have bn := below_one W7 (.cells #[.int .i64 zi, .int .u32 zn, .string za, .string zb] 50)
  have b8 := b7.trans (bn.mono b7.size)
  have HPC := Lib.hid ((b8.block _ hl6).trans HX6.out)
  have HB5 := Lib.hid (Below.next B6.out b8)
  have HOWN := Lib.hid (HO6.out.below b8)
  clear b7 b8 bn HX6 B6 HO6 e0 e1 e2 e3 g0 g1 g2 g3 hl6 HG
  obtain ⟨⟨e0, e1, e2, e3⟩, g0, g1, g2, g3⟩ := four_cells HPC.out
  have hl8 := lt_of_block HPC.out
  subst hth
  go_wp2_with fail
  generalize W7.alloc (.cells #[.int .i64 zi, .int .u32 zn, .string za, .string zb] 50) = W5 at *

  have HP2 := Lib.hid (show W5.drew.heap[w.heap.size]? = some (.cells #[.int .i64 yi, .int .u32 yn, .string ya, .string yb] 50 (0, 0)) from HPC.out)
  have HO2 := Lib.hid (show OwnP (w.heap.size + 1) 50 W5.drew (.slice va X.length vc) X from HOWN.out)
  have HB2 := Lib.hid (HB5.out.drew)
  clear HPC HOWN HB5
  go_still_tail 7, (by kernel_rfl)
  still_call ((cut_calls _ ya 20 zya).mono (fun e w' h => ⟨h.1, h.2.symm⟩))
  repeat still_step
  still_call ((cut_calls _ yb 20 zyb).mono (fun e w' h => ⟨h.1, h.2.symm⟩))
  repeat still_step
  refine wpStill_nil ?_
  change wpList _ _ _ _ _ W5.drew
  clear e0 e1 e2 e3 g0 g1 g2 g3
  generalize W5.drew = W6 at *
  obtain ⟨⟨e0, e1, e2, e3⟩, g0, g1, g2, g3⟩ := four_cells HP2.out
  have hlb := lt_of_block HP2.out
  generalize ya.extract 0 20 = ys at *
  generalize yb.extract 0 20 = yt at *
  have HNE := Lib.hid (show (Value.slice va X.length vc).ownBlock ≠ some w.heap.size from fun e => by have := (World.ownsRow.lt HO2.out _ e).1; omega)
  have J := Lib.hid (show ElsJ w w.heap.size ⟨yi, yn, ys, yt⟩ (.slice va X.length vc) X ((W6.setCell ⟨w.heap.size, 2, none⟩ (.string ys)).setCell ⟨w.heap.size, 3, none⟩ (.string yt)) from ⟨four_setE (four_setE HP2.out), ownsRow_setCell_other (a := ⟨w.heap.size, 3, none⟩) (ownsRow_setCell_other (a := ⟨w.heap.size, 2, none⟩) HO2.out HNE.out _) HNE.out _, (HB2.out.setCell (Nat.le_refl _) _).setCell (Nat.le_refl _) _⟩)
  clear HP2 HO2 HB2 HNE
  go_wp2_with fail
  clear e0 e1 e2 e3 g0 g1 g2 g3 hlb
  have hsz : ((W6.setCell ⟨w.heap.size, 2, none⟩ (.string ys)).setCell ⟨w.heap.size, 3, none⟩ (.string yt)).heap.size = W6.heap.size := by simp [World.setCell]
  generalize (W6.setCell ⟨w.heap.size, 2, none⟩ (.string ys)).setCell ⟨w.heap.size, 3, none⟩ (.string yt) = W7 at *
  have O8 := Lib.hid (OutAt.new W7)
  have hol : W6.heap.size < (W7.alloc (.cells #[.slice none 0 0] 57)).heap.size := by simp; omega
  have J8 := Lib.hid (J.out.below (below_one W7 (.cells #[.slice none 0 0] 57)))
  have hob : w.heap.size ≤ W6.heap.size := hsz ▸ J.out.bel.size
  have hpo : w.heap.size < W6.heap.size := hsz ▸ lt_of_block J.out.pc
  rw [hsz] at O8
  clear J hsz
  generalize W7.alloc (.cells #[.slice none 0 0] 57) = W8 at *
  generalize W6.heap.size = o at *
  obtain ⟨⟨e0, e1, e2, e3⟩, -⟩ := four_cells J8.out.pc
  have hlt : w.heap.size < W8.heap.size := by omega
  obtain ⟨i0, hi, hz0, hz1, hz2⟩ := info_parts Tryd.infoProp
  have BA := Lib.hid (below_one W8 (.cells #[] 50)).drew
  have BAB := Lib.hid ((below_one W8 (.cells #[] 50)).alloc (by simp) (.cells #[.int .i64 yi, .int .u32 yn, .string ys, .string yt] 50)).drew
  have BBA := Lib.hid ((below_one W8 (.cells #[.int .i64 yi, .int .u32 yn, .string ys, .string yt] 50)).alloc (by simp) (.cells #[] 50)).drew
  have EA := Lib.hid (show ((W8.alloc (.cells #[] 50)).drew).ownsRow W8.heap.size 50 4 (.slice (some ⟨W8.heap.size, 0, none⟩) 0 0) 0 [] from OwnP.empty W8 _)
  have EAB := Lib.hid (show (((W8.alloc (.cells #[] 50)).alloc (.cells #[.int .i64 yi, .int .u32 yn, .string ys, .string yt] 50)).drew).ownsRow W8.heap.size 50 4 (.slice (some ⟨W8.heap.size, 0, none⟩) 0 0) 0 [] from World.ownsRow.alloc (OwnP.empty W8 _) _)
  have EBA := Lib.hid (show (((W8.alloc (.cells #[.int .i64 yi, .int .u32 yn, .string ys, .string yt] 50)).alloc (.cells #[] 50)).drew).ownsRow W8.heap.size 50 4 (.slice (some ⟨W8.heap.size + 1, 0, none⟩) 0 0) 0 [] from by
    have := ownP_leE (OwnP.empty (W8.alloc (.cells #[.int .i64 yi, .int .u32 yn, .string ys, .string yt] 50)) 50) (show W8.heap.size ≤ _ by simp)
    rw [World.size_alloc] at this
    exact this)
  have HAB := Lib.hid (show (((W8.alloc (.cells #[] 50)).alloc (.cells #[.int .i64 yi, .int .u32 yn, .string ys, .string yt] 50)).drew).heap[W8.heap.size + 1]? = some (.cells #[.int .i64 yi, .int .u32 yn, .string ys, .string yt] 50 (0, 0)) from by
    have := heap_alloc_new (W8.alloc (.cells #[] 50)) (.cells #[.int .i64 yi, .int .u32 yn, .string ys, .string yt] 50)
    rw [World.size_alloc] at this
    exact this)
  have HBA := Lib.hid (show (((W8.alloc (.cells #[.int .i64 yi, .int .u32 yn, .string ys, .string yt] 50)).alloc (.cells #[] 50)).drew).heap[W8.heap.size]? = some (.cells #[.int .i64 yi, .int .u32 yn, .string ys, .string yt] 50 (0, 0)) from by
    have := heap_alloc_new W8 (.cells #[.int .i64 yi, .int .u32 yn, .string ys, .string yt] 50)
    exact (Below.heap_alloc _ _ _ (by simp)).trans this)
  have hpr := J8.out.own.props
  have PA := Lib.hid (hpr.below BA.out)
  have PAB := Lib.hid (hpr.below BAB.out)
  have PBA := Lib.hid (hpr.below BBA.out)
  clear hpr
  have hXc : (X ++ [(⟨yi, yn, ys, yt⟩ : Pr)]).length = X.length + 1 := by simp
  have hXf : (X ++ [(⟨yi, yn, ys, yt⟩ : Pr)]).flatMap prC = X.flatMap prC ++ [.int .i64 yi, .int .u32 yn, .string ys, .string yt] := by simp [prC]
  have HOWNX := Lib.hid (show ∀ (V : World) (u : Value), V.ownsRow W8.heap.size 50 4 u (X.length + 1) (X.flatMap prC ++ [.int .i64 yi, .int .u32 yn, .string ys, .string yt]) → PropsAt V u (X ++ [⟨yi, yn, ys, yt⟩]) from fun V u h => by
    rw [← hXf, ← hXc] at h
    exact OwnP.props h)
  clear hXf
  go_region_law (first
    | ((with_reducible refine step_append_props (W8.alloc (.cells #[] 50)).drew rfl (.tmp 67) (.tmp 68) rfl W8.heap.size W8.heap.size (.slice va X.length vc) X (by simp [Act.eval]) (by simp [Act.eval]) EA.out PA.out (by omega) (by simp) ?_); intro v1 V1 hown hgrow; obtain ⟨va1, vc1, rfl⟩ := hown.form; have OO := Lib.hid (show V1.ownsRow W8.heap.size 50 4 (.slice va1 X.length vc1) X.length (X.flatMap prC) from hown); have OB := Lib.hid (World.ownsRow.alloc OO.out (.cells #[.int .i64 yi, .int .u32 yn, .string ys, .string yt] 50)); have BV := Lib.hid (BA.out.grown hgrow (by simp) (fun g hg => by injection hg with hg; omega)); clear hown hgrow; have JV := Lib.hid (J8.out.below BV.out); obtain ⟨⟨f0, f1, f2, f3⟩, -⟩ := four_cells JV.out.pc; have hlv := lt_of_block JV.out.pc; have hzv := BV.out.size)
    | ((with_reducible refine step_append_props ((W8.alloc (.cells #[] 50)).alloc (.cells #[.int .i64 yi, .int .u32 yn, .string ys, .string yt] 50)).drew rfl (.tmp 67) (.tmp 68) rfl W8.heap.size W8.heap.size (.slice va X.length vc) X (by simp [Act.eval]) (by simp [Act.eval]) EAB.out PAB.out (by omega) (by simp; omega) ?_); intro v1 V1 hown hgrow; obtain ⟨va1, vc1, rfl⟩ := hown.form; have OO := Lib.hid (show V1.ownsRow W8.heap.size 50 4 (.slice va1 X.length vc1) X.length (X.flatMap prC) from hown); have OB := Lib.hid (World.ownsRow.alloc OO.out (.cells #[.int .i64 yi, .int .u32 yn, .string ys, .string yt] 50)); have BV := Lib.hid (BAB.out.grown hgrow (by simp; omega) (fun g hg => by injection hg with hg; omega)); have HBL := Lib.hid ((hgrow.block (W8.heap.size + 1) (lt_of_block HAB.out) (by intro e; injection e with e; omega)).trans HAB.out); clear hown hgrow; have hzv := BV.out.size)
    | ((with_reducible refine step_append_props ((W8.alloc (.cells #[.int .i64 yi, .int .u32 yn, .string ys, .string yt] 50)).alloc (.cells #[] 50)).drew rfl (.tmp 67) (.tmp 68) rfl W8.heap.size (W8.heap.size + 1) (.slice va X.length vc) X (by simp [Act.eval]) (by simp [Act.eval]) EBA.out PBA.out (by omega) (by simp; omega) ?_); intro v1 V1 hown hgrow; obtain ⟨va1, vc1, rfl⟩ := hown.form; have OO := Lib.hid (show V1.ownsRow W8.heap.size 50 4 (.slice va1 X.length vc1) X.length (X.flatMap prC) from hown); have OB := Lib.hid (World.ownsRow.alloc OO.out (.cells #[.int .i64 yi, .int .u32 yn, .string ys, .string yt] 50)); have BV := Lib.hid (BBA.out.grown hgrow (by simp; omega) (fun g hg => by injection hg with hg; omega)); have HBL := Lib.hid ((hgrow.block W8.heap.size (lt_of_block HBA.out) (by intro e; injection e with e; omega)).trans HBA.out); clear hown hgrow; have hzv := BV.out.size)
    | ((with_reducible refine step_append_lies (V1.alloc (.cells #[.int .i64 yi, .int .u32 yn, .string ys, .string yt] 50)) rfl (.tmp 69) (.tmp 71) 36 rfl W8.heap.size 50 i0 (.agg #[.int .i64 0, .int .u32 0, .string ⟨#[]⟩, .string ⟨#[]⟩]) 4 48 Tryd.underlying36 hi hz0 hz1 hz2 rfl (by decide) (.slice va1 X.length vc1) X.length (X.flatMap prC) (by simp [Act.eval]) OB.out ⟨V1.heap.size, 0, none⟩ 1 1 [.int .i64 yi, .int .u32 yn, .string ys, .string yt] (by simp [Act.eval]) rfl (four_new V1 _ _ _ _ _) (by simp [Value.oneCell']) (by decide) (by unfold maxLen; omega) (by omega) (by simp; omega) _ rfl ?_); intro g cap V2 hown hgrow _ _; have P9 := Lib.hid (HOWNX.out _ _ hown); have B9 := Lib.hid ((BV.out.alloc hzv _).grown hgrow (by simp; omega) (fun g hg => (World.ownsRow.lt OO.out g hg).1)); clear hown hgrow)
    | ((with_reducible refine step_append_lies V1 rfl (.tmp 69) (.tmp 71) 36 rfl W8.heap.size 50 i0 (.agg #[.int .i64 0, .int .u32 0, .string ⟨#[]⟩, .string ⟨#[]⟩]) 4 48 Tryd.underlying36 hi hz0 hz1 hz2 rfl (by decide) (.slice va1 X.length vc1) X.length (X.flatMap prC) (by simp [Act.eval]) OO.out ⟨W8.heap.size + 1, 0, none⟩ 1 1 [.int .i64 yi, .int .u32 yn, .string ys, .string yt] (by simp [Act.eval]) rfl (World.news_of_block HBL.out) (by simp [Value.oneCell']) (by decide) (by unfold maxLen; omega) (by omega) hzv _ rfl ?_); intro g cap V2 hown hgrow _ _; have P9 := Lib.hid (HOWNX.out _ _ hown); have B9 := Lib.hid (BV.out.grown hgrow hzv (fun g hg => (World.ownsRow.lt OO.out g hg).1)); clear hown hgrow)
    | ((with_reducible refine step_append_lies V1 rfl (.tmp 69) (.tmp 71) 36 rfl W8.heap.size 50 i0 (.agg #[.int .i64 0, .int .u32 0, .string ⟨#[]⟩, .string ⟨#[]⟩]) 4 48 Tryd.underlying36 hi hz0 hz1 hz2 rfl (by decide) (.slice va1 X.length vc1) X.length (X.flatMap prC) (by simp [Act.eval]) OO.out ⟨W8.heap.size, 0, none⟩ 1 1 [.int .i64 yi, .int .u32 yn, .string ys, .string yt] (by simp [Act.eval]) rfl (World.news_of_block HBL.out) (by simp [Value.oneCell']) (by decide) (by unfold maxLen; omega) (by omega) hzv _ rfl ?_); intro g cap V2 hown hgrow _ _; have P9 := Lib.hid (HOWNX.out _ _ hown); have B9 := Lib.hid (BV.out.grown hgrow hzv (fun g hg => (World.ownsRow.lt OO.out g hg).1)); clear hown hgrow)
    | (go_simp; go_at_call 37; refine (put3_calls _ o none [] _ _ P9.out HOKS.out (by simp; omega) (O8.out.below B9.out) (by decide)).mono ?_; rintro e V3 ⟨rfl, r, h4, s4⟩; have H4 := Lib.hid h4; have B10 := Lib.hid ((Below.next J8.out.bel B9.out).trans (s4.below (Below.next J8.out.bel B9.out).size hob (fun g hg => by cases hg))); clear h4 s4))
  all_goals
    clear e0 e1 e2 e3
    rw [List.nil_append] at H4
    go_wp2_with fail
    refine (text_calls _ o r _ H4.out).mono ?_
    rintro e y6 ⟨rfl, rfl⟩
    go_wp2_with fail
    refine (over_calls _ _).mono ?_
    rintro e y6 ⟨rfl, rfl⟩
    have i6 := InAt.new V3 (str (propsL (X ++ [⟨yi, yn, ys, yt⟩])))
    have HB6 := Lib.hid (Below.next B10.out (below_one V3 (.cells #[.string (str (propsL (X ++ [⟨yi, yn, ys, yt⟩]))), .int .i64 0] 155)))
    have ht6 := HT.out.below HB6.out
    have hz6 := B10.out.size
    generalize V3.alloc (.cells #[.string (str (propsL (X ++ [⟨yi, yn, ys, yt⟩]))), .int .i64 0] 155) = y6 at *
    generalize V3.heap.size = p at *
    go_wp2_with fail
    refine (take3_calls _ p _ 0 k isW i6 ht6).mono ?_
    rw [HTK.out]
    rintro e y7 ⟨u, rfl, hownu, hnil, i7, c7⟩
    dsimp only at hownu hnil i7
    obtain rfl := hnil (by decide)
    have HB7 := Lib.hid (HB6.out.trans (c7.below HB6.out.size hz6))
    have hq := fun wx => Lib.run_eql_slice_nil (P := Tryd.prog) wx 36 50 none 0 0 0 0 Tryd.underlying36
    clear hownu hnil c7 i6 ht6 HB6 H4
    go_wp2_with fail
    refine (err_calls _ p (str []) 3 i7).mono ?_
    rintro e y8 ⟨rfl, rfl⟩
    clear i7
    go_wp2
    go_ret
    exact ⟨rfl, HB7.out⟩

set_option maxRecDepth 100000 in
theorem walk0 (v0 : Value) (k : Int) (isW : Bool) (i n : Int) (s t : ByteArray) (w : World) (hT : Tabs w) (hk : (ruleL i).kind = 0) :
    Calls Tryd.prog 6 #[v0, .int .i64 k, .bool isW, .agg #[.int .i64 i, .int .u32 n, .string s, .string t]] w fun e w' => e = .returned (.bool true) ∧ Below w.heap.size w w' := by
  have HT := Lib.hid hT
  have HK := Lib.hid (show ∀ W, Calls Tryd.prog 34 #[.int .i64 i] W fun e w' => e = .returned (.int .i64 0) ∧ W = w' from fun W => hk ▸ r3kind_calls W i)
  have hbx := heap_alloc_new w (.cells #[.int .i64 i, .int .u32 n, .string s, .string t] 50)
  have B0 := Lib.hid (below_one w (.cells #[.int .i64 i, .int .u32 n, .string s, .string t] 50))
  clear hT hk
  go_enter Tryd.func6, Tryd.ntmps6
  go_wp2_with fail
  generalize w.alloc (.cells #[.int .i64 i, .int .u32 n, .string s, .string t] 50) = W0 at *
  refine (awake3_calls _ (HT.out.below B0.out)).mono ?_
  rintro e W1 ⟨rfl, b1⟩
  have HX1 := Lib.hid ((b1.block _ (lt_of_block hbx)).trans hbx)
  have B1 := Lib.hid (Below.next B0.out b1)
  clear b1 hbx B0
  obtain ⟨⟨e0, e1, e2, e3⟩, g0, g1, g2, g3⟩ := four_cells HX1.out
  have hl1 := lt_of_block HX1.out
  go_wp2_with fail
  refine (HK.out _).mono ?_
  rintro e W2 ⟨rfl, rfl⟩
  go_wp2_with fail
  refine (awake3_calls _ (HT.out.below B1.out)).mono ?_
  rintro e W2 ⟨rfl, b2⟩
  have B2 := Lib.hid (Below.next B1.out b2)
  clear b2
  go_wp2
  go_ret
  exact ⟨rfl, B2.out⟩

theorem walk (v0 : Value) (P : List Pr) (a1 : Int) (w1 : (Lit.int .i64 a1).wf = true) (a2 : Bool) (v3 : Value) (x : Pr) (w : World) (hP : PropsIn w v0 P) (h3 : PrArg w v3 x) (hT : Tabs w) :
    Calls Tryd.prog 6 #[v0, .int .i64 a1, .bool a2, v3] w fun e w' => e = .returned (.bool true) ∧ Below w.heap.size w w' := by
  obtain ⟨i, n, s, t⟩ := x
  obtain ⟨rfl, n0, n1, s1, t1⟩ := h3
  dsimp only at n0 n1 s1 t1 ⊢
  by_cases hk : (ruleL i).kind = 0
  · exact walk0 v0 a1 a2 i n s t w hT hk
  · obtain ⟨hfine, hlen8⟩ := right_ok a1 a2 P hP.num
    have hXok := fine_ok _ _ [] hfine
    have hR := fun W hW => right_calls W v0 P a1 a2 hW
    have hR1 := fun W v hv => right_calls W v [⟨i, n, s, t⟩] a1 a2 hv
    have e1 := right_one a1 a2 ⟨i, n, s, t⟩
    dsimp only at e1
    have hok0 : Pr.ok (cutP ⟨i, n, s, t⟩) ∧ (cutP ⟨i, n, s, t⟩).s.size ≤ 20 ∧ (cutP ⟨i, n, s, t⟩).t.size ≤ 20 := few_ok [⟨i, n, s, t⟩] (fun p hp => by simp at hp; subst hp; exact ⟨n0, n1, s1, t1⟩) _ (by simp [fewL])
    generalize rightL a1 a2 P = X at *
    cases hm : mayP i a1 a2 with
    | false =>
      rw [hm, if_pos rfl] at e1
      rw [e1] at hR1
      have hin : bits .and .i64 (ruleL i).inn (placeN a1 a2) = 0 := by unfold mayP at hm; simpa using hm
      exact walk1 v0 a1 a2 i n s t w P hP ⟨n0, n1⟩ s1 t1 hT X hlen8 hR hk hR1 (else_run a1 a2 X ⟨i, n, s.extract 0 20, t.extract 0 20⟩ hfine hk 2 (.inl ⟨hin, rfl⟩)) (fun p hp => by
        rcases List.mem_append.1 hp with h | h
        · exact hXok p h
        · rw [List.mem_singleton.1 h]; exact hok0.1)
    | true =>
      rw [hm, if_neg (by simp)] at e1
      rw [e1] at hR1
      have hin := may_inn i a1 a2 hm
      have hfr := fix_right (placeN a1 a2) (cutP ⟨i, n, s, t⟩) hok0.1 hok0.2.1 hok0.2.2 hin
      have hid : (fixP (cutP ⟨i, n, s, t⟩)).id = i := fix_id _
      generalize fixP (cutP ⟨i, n, s, t⟩) = y at *
      obtain ⟨yi, yn, ya, yb⟩ := y
      dsimp only at hid
      subst hid
      have zya : ya.size ≤ maxLen := Nat.le_trans hfr.ok.s1 (by decide)
      have zyb : yb.size ≤ maxLen := Nat.le_trans hfr.ok.t1 (by decide)
      cases hf : firstP X yi with
      | none => exact walk3 v0 a1 a2 yi n s t w P hP ⟨n0, n1⟩ s1 t1 hT X hlen8 hR hk yi yn ya yb zya zyb hR1 0 0 ⟨#[]⟩ ⟨#[]⟩ false (by unfold getV; rw [hf]) (.inl rfl)
      | some z =>
        have hG : getV X yi = .tuple #[.agg #[.int .i64 z.id, .int .u32 z.n, .string z.s, .string z.t], .bool true] := by unfold getV; rw [hf]
        by_cases h38 : yi = 38
        · exact walk3 v0 a1 a2 yi n s t w P hP ⟨n0, n1⟩ s1 t1 hT X hlen8 hR hk yi yn ya yb zya zyb hR1 _ _ _ _ true hG (.inr (.inl ⟨rfl, by simpa using h38⟩))
        · by_cases h11 : yi = 11
          · exact walk3 v0 a1 a2 yi n s t w P hP ⟨n0, n1⟩ s1 t1 hT X hlen8 hR hk yi yn ya yb zya zyb hR1 _ _ _ _ true hG (.inr (.inr ⟨rfl, by simpa using h38, by simpa using h11⟩))
          · have hsev : bits .and .i64 (ruleL yi).sev (placeN a1 a2) = 0 := by
              have := sev_ofE yi a1 a2 hm
              simpa [h38, h11] using this
            have hhas : hasP X yi = true := by
              unfold firstP at hf
              have h1 := List.mem_of_find?_eq_some hf
              have h2 := List.find?_some hf
              unfold hasP
              rw [List.any_eq_true]
              exact ⟨z, h1, h2⟩
            exact walk2 v0 a1 a2 yi n s t w P hP ⟨n0, n1⟩ s1 t1 hT X hlen8 hR hk yi yn ya yb zya zyb hR1 _ _ _ _ true hG rfl (by simpa using h38) (by simpa using h11) (else_run a1 a2 X ⟨yi, yn, ya.extract 0 20, yb.extract 0 20⟩ hfine hk 3 (.inr ⟨hin, hhas, hsev, rfl⟩)) (fun p hp => by
              rcases List.mem_append.1 hp with h | h
              · exact hXok p h
              · rw [List.mem_singleton.1 h]; exact ok_cut _ hfr.ok)

set_option maxRecDepth 100000 in
set_option maxHeartbeats 2000000 in
theorem lifted (os : Os) (started : os.Started) (H : Type) (enc : TypeId × Value → H) (F : Stop.Interp) :
    ReturnsInHanded {} Tryd.checked os 6 .any ((OpenSpec.ofChange Rows.propElseSpec).preRow enc Tryd.prog Tryd.f6 Rows.propElseRow.domain false Rows.propElseRow.laid) (((OpenSpec.ofChange Rows.propElseSpec).at F).post enc Tryd.prog Tryd.f6 false true false false) := by
  obtain ⟨places, hx⟩ := reads os enc
  refine returnsInHanded_of_row (C := Tryd.checked) (s := OpenSpec.ofChange Rows.propElseSpec) own started (by kernel_rfl) Tryd.func6
    (witness_row_at (enc := enc) (C := Tryd.checked) false (laidWorld os) #[.slice none 0 0, .int .i64 0, .bool false, .agg #[.int .i64 0, .int .u32 0, .string ByteArray.empty, .string ByteArray.empty]] rfl (by kernel_rfl) (by kernel_rfl) (by kernel_rfl)
      (OpenSpec.preRow_of_cond 8 hx (by kernel_rfl) (fun k hk => by cases hk) (by kernel_rfl) (laid_met os))) ?_
  intro W base args ds gs before hval0 hW _ _ _ hL hShp _
  have hval : ∀ (j : Nat) t v, Tryd.f6.params[j]? = some t → args[j]? = some v → Value.okWide Tryd.prog W .any base t v := hval0
  have hW' := hW
  obtain ⟨p, q, hA0, hV, rfl, hfz, hnd⟩ := hW
  have hA : DataW.TrodAll enc Tryd.prog W 0 (fun _ => true) true Tryd.f6.params.toList args.toList ds p := hA0
  rw [Tryd.params6] at hA hval
  obtain ⟨v0, vs0, d0, ds0, p0, q0, hargs, rfl, rfl, h0, r0⟩ := trodAll_cons hA
  obtain ⟨v1, vs1, d1, ds1, p1, q1, rfl, rfl, rfl, h1, r1⟩ := trodAll_cons r0
  obtain ⟨v2, vs2, d2, ds2, p2, q2, rfl, rfl, rfl, h2, r2⟩ := trodAll_cons r1
  obtain ⟨v3, vs3, d3, ds3, p3, q3, rfl, rfl, rfl, h3, r3⟩ := trodAll_cons r2
  obtain ⟨rfl, rfl, rfl⟩ := trodAll_nil r3
  obtain rfl : args = #[v0, v1, v2, v3] := by cases args; simp_all
  obtain ⟨rfl, rfl⟩ := trodVars_none hV
  have k0 := h0
  have lt0 : ∀ x ∈ p0, x.block < W.heap.size := by obtain ⟨m, hm⟩ := k0; exact DataW.trod_lt m _ _ _ hm
  obtain ⟨a0, w0⟩ := open_props (hval 0 35 v0 rfl rfl) h0
  obtain ⟨a1, rfl, rfl, rfl, w1⟩ := open_int Tryd.underlying3 (hval 1 3 v1 rfl rfl) h1
  obtain ⟨a2, rfl, rfl, rfl⟩ := open_bool Tryd.underlying4 (hval 2 4 v2 rfl rfl) h2
  have k3 := h3
  have lt3 : ∀ x ∈ p3, x.block < W.heap.size := by obtain ⟨m, hm⟩ := k3; exact DataW.trod_lt m _ _ _ hm
  obtain ⟨a3, w3⟩ := open_prarg (hval 3 50 v3 rfl rfl) h3
  clear hA0 hval0
  have hT : Tabs W := utf8Tabs_of_readsT (U8Types.of196 Tryd.lays196) ⟨by kernel_rfl, by kernel_rfl, by kernel_rfl, by kernel_rfl, by kernel_rfl, by kernel_rfl, by kernel_rfl⟩ (first_eq ▸ Lib.laidMet.reads hL (.tail _ (.head _))) (accept_eq ▸ Lib.laidMet.reads hL (.head _))
  refine (walk v0 a0 a1 w1 a2 v3 a3 W w0 w3 hT).mono fun e W' ⟨he, bel⟩ => ?_
  subst he
  exact ⟨_, rfl, _, _, _, [], _, [], hW', trodAll_mk1 (shut_bool Tryd.underlying4 _), (trodAll_cons_mk (Below.trod laidOut (by kernel_rfl) (of_decide_eq_true (by kernel_rfl)) k0 bel lt0) (trodAll_cons_mk (shut_int Tryd.underlying3 w1) (trodAll_cons_mk (shut_bool Tryd.underlying4 a2) (trodAll_cons_mk (Below.trod laidOut (by kernel_rfl) (of_decide_eq_true (by kernel_rfl)) k3 bel lt3) trodAll_mk0)))), rfl, bel.frame _, fun h => by cases h⟩

theorem said : Rows.PropElseSaid :=
  OpenClaim.holds_of_cond 6 Tryd.f6 rfl rfl rfl rfl rfl rfl rfl ⟨rfl, rfl, rfl, rfl, rfl⟩ rfl rfl rfl rfl rfl (by kernel_rfl) Tryd.func6 closed
    (of_decide_eq_true (by kernel_rfl)) (by unfold Func.isWrapper; first | (rw [if_pos (by decide +kernel)]; kernel_rfl) | (rw [if_neg (by decide +kernel)]; exact ⟨rfl, rfl⟩))
    (fun os started H enc _ F => by rw [OpenClaim.pre_eq_preRow]; exact lifted os started H enc F)

theorem plain (f : FuncId) (fn : Func) (hf : Tryd.pinned.checked.prog.funcNamed Tryd.f6.name = some f) (hfn : Tryd.pinned.checked.prog.funcs[f]? = some fn) :
    false = Tryd.pinned.checked.prog.looks [] ∧ ∀ (j : Nat) t, fn.params[j]? = some t → Tryd.pinned.checked.prog.wantsStandIn t = false := by
  obtain rfl : f = 6 := Option.some.inj ((show Tryd.prog.funcNamed Tryd.f6.name = some 6 by kernel_rfl).symm.trans hf) |>.symm
  obtain rfl : fn = Tryd.f6 := (Option.some.inj (Tryd.func6.symm.trans hfn)).symm
  refine ⟨fac_looks, fun j t ht => ?_⟩
  rw [Tryd.params6] at ht
  have hm : t = 35 ∨ t = 3 ∨ t = 4 ∨ t = 50 := by simpa using Array.mem_of_getElem? ht
  rcases hm with rfl | rfl | rfl | rfl
  · exact (show Tryd.prog.wantsStandIn 35 = false by kernel_rfl)
  · exact (show Tryd.prog.wantsStandIn 3 = false by kernel_rfl)
  · exact (show Tryd.prog.wantsStandIn 4 = false by kernel_rfl)
  · exact (show Tryd.prog.wantsStandIn 50 = false by kernel_rfl)

end Go.Proofs.YtephoadjnmmbnaaDoor.propElse
namespace Go.Proofs.YtephoadjnmmbnaaDoor
/-- The statement. -/
theorem propElse_holds : Rows.PropElseCardSaid :=
  Claim7.holds_tied_plain_at .later [] _ _ _ _ propElse.said (fun _ h => by cases h) propElse.wft (fun _ h => by cases h) propElse_row_tie rfl ⟨rfl, rfl⟩ fac_main rfl propElse.plain propElse.goes
#print axioms propElse_holds
end Go.Proofs.YtephoadjnmmbnaaDoor
