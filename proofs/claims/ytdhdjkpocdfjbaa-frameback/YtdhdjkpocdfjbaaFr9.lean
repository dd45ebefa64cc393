/-
  All packets of a stream: the walk. (No statement: contracts that the proofs of the statements use.)
-/
import Derived.Test.YtdhdjkpocdfjbaaFr8
namespace Go.Proofs.Ytdhdjkpocdfjbaa
open Go.RowKit

/-- What all answers, and leaves: the packets P, the error y; the Reader has bs left, and the error x. -/
def AllR (B : Nat) (w : World) (q : Nat) (most : Int) (P : List Fm) (y : Int) (bs : List UInt8) (x : Int) (e : Ending) (w' : World) : Prop :=
  ∃ v r, e = .returned (.tuple #[v, .int .i64 y]) ∧ OwnF B 37 w' v P ∧ RdAt w' q r most bs x ∧ (∀ g, r = some g → B ≤ g) ∧ Below B w w'

/-- What waits behind an error. -/
def waitsR (y : Int) (left : List UInt8) : List UInt8 := if y = 1 then left else []

/-- What holds at the loop's head. -/
structure AllJ (B : Nat) (w : World) (q : Nat) (most : Int) (R : List Fm × Int × List UInt8) (L : List Fm) (v : Value) (wr : World) (k : Nat) (acc : List Fm) (bs : List UInt8) (r : Option Nat) : Prop where
  own : OwnF B 37 wr v acc
  rd : RdAt wr q r most bs 0
  row : ∀ g, r = some g → B ≤ g
  bel : Below B w wr
  run : (acc ++ (runF most (400 - k) bs).1, (runF most (400 - k) bs).2) = R
  len : bs.length ≤ 100000
  cnt : acc.length = L.length + k

set_option maxRecDepth 100000 in
set_option maxHeartbeats 1000000 in
theorem all_calls (B : Nat) (w : World) (q : Nat) (r : Option Nat) (most : Int) (bs : List UInt8) (v : Value) (L : List Fm) (hown : OwnF B 37 w v L) (h : RdAt w q r most bs 0) (hq : B ≤ q) (hr : ∀ g, r = some g → B ≤ g) (hbs : bs.length ≤ 100000) (hL : L.length ≤ 100000)
    (P : List Fm) (y : Int) (left : List UInt8) (hR : runF most 400 bs = (P, y, left)) (hy0 : y ≠ 0) :
    Calls Try.prog 11 #[.pointer (some ⟨q, 0, none⟩), v] w (AllR B w q most (L ++ P) y (waitsR y left) (stayR y)) := by
  have hB : B ≤ w.heap.size := by have := h.lt; omega
  have hJ : AllJ B w q most (L ++ P, y, left) L v w 0 L bs r := ⟨hown, h, hr, Below.refl _ _, by rw [hR], hbs, by omega⟩
  have HY0 := Lib.hid hy0
  clear hy0
  have HJ := Lib.hid hJ
  obtain ⟨a, c, rfl⟩ := hown.form
  generalize hRR : (L ++ P, y, left) = R at HJ
  have HRR := Lib.hid hRR
  clear hJ hown h hr hR hRR
  go_enter Try.func11, Try.ntmps11
  go_wp2
  go_loopw [1, 6] (fun u i wr => ∃ (k : Nat) (acc : List Fm) (a : Option Addr) (c : Nat) (bs1 : List UInt8) (r1 : Option Nat), u = .slice a acc.length c ∧ i = .int .i64 k ∧ AllJ B w q most R L (.slice a acc.length c) wr k acc bs1 r1) (fun _ i _ => 400 - (intOf i).toNat)
  case atStart => exact ⟨0, L, a, c, bs, r, rfl, rfl, HJ.out⟩
  case round =>
    clear HJ
    obtain ⟨k, acc, a1, c1, bs1, r1, rfl, rfl, hj⟩ := hrel
    have hk : k < 400 := by
      refine Nat.lt_of_not_le fun hge => ?_
      have := hj.run
      rw [show 400 - k = 0 by omega, runF, ← HRR.out] at this
      injection this with _ this
      injection this with this _
      exact HY0.out this.symm
    generalize hF : nextF most bs1 = NF
    obtain ⟨F, y1⟩ := NF
    have HF := Lib.hid hF
    have HJ := Lib.hid hj
    have hrd := hj.rd
    have hbl := hj.len
    clear hF hj
    go_wp2_with fail
    refine (next_calls _ q r1 most bs1 F y1 HF.out (by omega) hrd).mono ?_
    rintro e w2 ⟨rfl, r2, h2, s2⟩
    have hwr := hrd.lt
    have HOWN2 := Lib.hid (HJ.out.own.read hrd s2 (by decide) (by decide))
    have HBEL2 := Lib.hid (HJ.out.bel.trans (s2.below (by omega) hq HJ.out.row))
    have HROW2 := Lib.hid (s2.row_ge (B := B) (by omega) HJ.out.row)
    have H2 := Lib.hid h2
    have hs2 := s2.size
    clear hrd h2 s2
    by_cases hy : y1 = 0
    · subst hy
      have hrun := HJ.out.run
      rw [show 400 - k = (399 - k) + 1 by omega, runF_go most (399 - k) bs1 F HF.out] at hrun
      have hcnt := HJ.out.cnt
      have hlft := left_lt most bs1 F HF.out
      have HLFT := Lib.hid hlft
      have HRUN := Lib.hid hrun
      have HCNT := Lib.hid hcnt
      have haccl : acc.length ≤ 100400 := by omega
      clear hrun hcnt hlft HJ HF
      obtain ⟨fk, ff, fb⟩ := F
      have h3 := H2.out.below (below_two w2 (.cells #[.int .i64 fk, .int .i64 ff, .string (str fb)] 37) (.cells #[.int .i64 fk, .int .i64 ff, .string (str fb)] 37))
      have hown3 := HOWN2.out.below (below_two w2 (.cells #[.int .i64 fk, .int .i64 ff, .string (str fb)] 37) (.cells #[.int .i64 fk, .int .i64 ff, .string (str fb)] 37))
      have HBEL3 := Lib.hid (HBEL2.out.trans ((below_two w2 (.cells #[.int .i64 fk, .int .i64 ff, .string (str fb)] 37) (.cells #[.int .i64 fk, .int .i64 ff, .string (str fb)] 37)).mono (by omega)))
      have hn3 := three_new (w2.alloc (.cells #[.int .i64 fk, .int .i64 ff, .string (str fb)] 37)) (.int .i64 fk) (.int .i64 ff) (.string (str fb)) 37
      simp only [World.size_alloc] at hn3
      have hs3 : B ≤ ((w2.alloc (.cells #[.int .i64 fk, .int .i64 ff, .string (str fb)] 37)).alloc (.cells #[.int .i64 fk, .int .i64 ff, .string (str fb)] 37)).heap.size := by simp; omega
      obtain ⟨i0, hi, hz0, hz1, hz2⟩ := info_parts Try.infoFrame
      have H3 := Lib.hid h3
      have HN3 := Lib.hid hn3
      have HOWN3 := Lib.hid hown3
      clear h3 hn3 hown3 H2 HOWN2 HBEL2
      go_wp2_with ((at_builtin; refine wpList_append_own_at _ rfl _ _ 27 rfl B 37 i0 (.agg #[.int .i64 0, .int .i64 0, .string ⟨#[]⟩]) 3 32 Try.underlying27 hi hz0 hz1 hz2 rfl (by decide) _ _ _ rfl HOWN3.out ⟨w2.heap.size + 1, 0, none⟩ 1 1 [.int .i64 fk, .int .i64 ff, .string (str fb)] rfl rfl HN3.out (by simp [Value.oneCell']) (by unfold maxLen; omega) (by omega) hs3 ?_))
      intro v' w7 hown8 hgrow _ _
      have hown9 : OwnF B 37 w7 v' (acc ++ [(fk, ff, fb)]) := own_snocF hown8
      have hne : ∀ g, (Value.slice a1 acc.length c1).ownBlock = some g → g ≠ q ∧ some g ≠ r2 := by
        intro g hg
        rcases HOWN3.out.2 with ⟨e, _⟩ | ⟨g', cap', cur', e, _, hh, _⟩
        · rw [e] at hg; simp [Value.ownBlock] at hg
        · rw [e] at hg
          obtain rfl : g' = g := by simpa [Value.ownBlock] using hg
          exact H3.out.far hh (by decide) (by decide)
      have hrd9 : RdAt w7 q r2 most (leftR (fk, ff, fb) 0 bs1) 0 := by
        obtain ⟨a5, c5, e1, e2, e3, e4⟩ := H3.out
        refine ⟨a5, c5, (hgrow.block q (lt_of_block e1) (fun e => (hne q e.symm).1 rfl)).trans e1, e2.keep (fun g hg => hgrow.block g (e2.lt g hg) (fun e => (hne g e.symm).2 (by rw [← e3, hg]))), e3, e4⟩
      have hbel9 : Below B w w7 := HBEL3.out.grown hgrow hs3 (fun g hg => (World.ownsRow.lt HOWN3.out g hg).1)
      obtain ⟨a', c', hv'⟩ := hown9.form
      have hJ9 : AllJ B w q most R L (.slice a' (acc ++ [(fk, ff, fb)]).length c') w7 (k + 1) (acc ++ [(fk, ff, fb)]) (leftR (fk, ff, fb) 0 bs1) r2 := by
        refine ⟨hv' ▸ hown9, hrd9, HROW2.out, hbel9, ?_, ?_, ?_⟩
        · have := HRUN.out
          rw [← this, show 400 - (k + 1) = 399 - k by omega, List.append_assoc]
          rfl
        · have := HLFT.out; omega
        · have := HCNT.out; simp; omega
      have HJ9 := Lib.hid hJ9
      rw [hv']
      clear hJ9 hv' hbel9 hrd9 hne hown9 hown8 hgrow HBEL3 HOWN3 H3 HN3 HROW2 HRUN HLFT HCNT
      go_wp2
      go_roundw
      case rel => exact ⟨k + 1, _, a', c', _, r2, rfl, by go_num, HJ9.out⟩
      case measure => simp [intOf]; omega
    · have hyb : (y1 != 0) = true := by simpa using hy
      have hrun := HJ.out.run
      rw [show 400 - k = (399 - k) + 1 by omega, runF_end most (399 - k) bs1 F y1 HF.out hy, List.append_nil, ← HRR.out] at hrun
      injection hrun with e1 hrun
      injection hrun with e2 e3
      subst e2 e3
      have H3 := Lib.hid (H2.out.below (below_one w2 (.cells #[.int .i64 F.1, .int .i64 F.2.1, .string (str F.2.2)] 37)))
      have HOWN3 := Lib.hid (HOWN2.out.below (below_one w2 (.cells #[.int .i64 F.1, .int .i64 F.2.1, .string (str F.2.2)] 37)))
      have HBEL3 := Lib.hid (HBEL2.out.alloc (by omega) (.cells #[.int .i64 F.1, .int .i64 F.2.1, .string (str F.2.2)] 37))
      have HY := Lib.hid hy
      have E1 := Lib.hid e1
      clear hy e1 H2 HOWN2 HBEL2
      go_wp2
      go_ret2
      refine ⟨_, r2, rfl, by rw [← E1.out]; exact HOWN3.out, ?_, HROW2.out, HBEL3.out⟩
      have := H3.out
      unfold leftR at this
      rw [if_neg HY.out] at this
      exact this

/-- Behind an error that stays all answers it. -/
theorem all_err (B : Nat) (w : World) (q : Nat) (r : Option Nat) (most : Int) (bs : List UInt8) (x : Int) (hx : x ≠ 0) (v : Value) (L : List Fm) (hown : OwnF B 37 w v L) (h : RdAt w q r most bs x) (hq : B ≤ q) (hr : ∀ g, r = some g → B ≤ g) :
    Calls Try.prog 11 #[.pointer (some ⟨q, 0, none⟩), v] w (AllR B w q most L x bs x) := by
  have hlt := h.lt
  obtain ⟨a, c, rfl⟩ := hown.form
  have HOWN := Lib.hid hown
  have HR := Lib.hid hr
  have hxb : (x != 0) = true := by simpa using hx
  clear hown hr
  go_enter Try.func11, Try.ntmps11
  go_wp2
  go_loopw [1, 6] (fun u i wr => u = .slice a L.length c ∧ i = .int .i64 0 ∧ wr = w) (fun _ _ _ => 0)
  case atStart => exact ⟨rfl, rfl, rfl⟩
  case round =>
    obtain ⟨rfl, rfl, rfl⟩ := hrel
    go_wp2_with fail
    refine (next_err _ q r most bs x hx h).mono ?_
    rintro e w2 ⟨rfl, r2, h2, s2⟩
    have HOWN3 := Lib.hid ((HOWN.out.read h s2 (by decide) (by decide)).below (below_one w2 (.cells #[.int .i64 ((0 : Nat) : Int), .int .i64 ((0 : Nat) : Int), .string (str [])] 37)))
    have H3 := Lib.hid (h2.below (below_one w2 (.cells #[.int .i64 ((0 : Nat) : Int), .int .i64 ((0 : Nat) : Int), .string (str [])] 37)))
    have hs2 := s2.size
    have HBEL3 := Lib.hid ((s2.below (B := B) (by omega) hq HR.out).alloc (by omega) (.cells #[.int .i64 ((0 : Nat) : Int), .int .i64 ((0 : Nat) : Int), .string (str [])] 37))
    have HROW2 := Lib.hid (s2.row_ge (B := B) (by omega) HR.out)
    clear h2 s2 h HOWN HR hx
    go_wp2
    go_ret2
    exact ⟨_, r2, rfl, HOWN3.out, H3.out, HROW2.out, HBEL3.out⟩

theorem Try.structRFrame : Try.prog.underlying 47 = some (.struct (Try.prog.fieldsOf 47)) := by kernel_rfl
theorem Try.standRFrame : Try.prog.stoodInHeld 47 = false := by kernel_rfl
theorem Try.guardRFrame : Try.prog.eqGuardType Try.prog.depth 47 = false := by kernel_rfl
set_option maxRecDepth 100000 in
theorem eq_rframe (x : Fm) (w : World) : (Op.equalIn 10000 47 (frV x) (frV x)).run Try.prog w = .ok true w := by
  rw [frV, run_equalIn_agg w 9999 47 _ _ Try.structRFrame Try.standRFrame]
  simp [Op.eqFields, go_sem]
theorem neq_rframe (x : Fm) (w : World) : (binOp .neq 47 (frV x) (frV x)).run Try.prog w = .ok (.bool false) w := by
  rw [frV, run_neq_struct, ← frV, eq_rframe]; rfl

theorem drewN_below {B : Nat} {a w : World} (h : Below B a w) (n : Nat) : Below B a (w.drewN n) := ⟨h.os, h.tape, h.output, h.size, h.block⟩

set_option maxRecDepth 100000 in
set_option maxHeartbeats 1000000 in
theorem same5_calls (w : World) (v u : Value) (P : List Fm) (hv : FrsAt w v P) (hu : FrsAt w u P) (hn : P.length ≤ 1000000) :
    Calls Try.prog 13 #[v, u] w fun e w' => e = .returned (.int .i64 0) ∧ Below w.heap.size w w' ∧ ∃ n, w' = w.drewN n := by
  obtain ⟨A, cap, rfl, hc⟩ := hv
  obtain ⟨A2, cap2, rfl, hc2⟩ := hu
  have HC := Lib.hid hc
  have HC2 := Lib.hid hc2
  clear hc hc2
  go_enter Try.func13, Try.ntmps13
  go_wp2
  go_loopw [13] (fun j wr => ∃ k n : Nat, k ≤ P.length ∧ j = .int .i64 k ∧ wr = w.drewN n) (fun j _ => P.length - (intOf j).toNat)
  case atStart => exact ⟨0, 0, by omega, rfl, rfl⟩
  case round =>
    obtain ⟨k, n, hk, rfl, rfl⟩ := hrel
    by_cases hlt : k < P.length
    · obtain ⟨x, hx⟩ : ∃ x, P[k]? = some x := ⟨_, List.getElem?_eq_getElem hlt⟩
      obtain ⟨b, off, hA, hbl, c0, c1, c2⟩ := HC.out k x hx
      obtain ⟨b', off', hA', hbl', d0, d1, d2⟩ := HC2.out k x hx
      subst hA hA'
      have hq := neq_rframe x
      have hltI : (k : Int) < P.length := by omega
      clear HC HC2 hx
      go_wp2_with fail
      go_quiet (fail)
      go_wp2
      go_roundw
      case rel => exact ⟨k + 1, _, by omega, by go_num, rfl⟩
      case measure => simp [intOf]; omega
    · obtain rfl : k = P.length := by omega
      clear HC HC2
      go_wp2
      go_ret
      exact ⟨rfl, drewN_below (Below.refl _ _) n, n, rfl⟩

#print axioms all_calls

end Go.Proofs.Ytdhdjkpocdfjbaa
