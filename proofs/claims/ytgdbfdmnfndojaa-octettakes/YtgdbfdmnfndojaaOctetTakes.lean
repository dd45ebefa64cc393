/-
  any bytes are taken as any things as the document says: each answer, the error, what is left.
  Its conditions: none beside those of the row itself.
-/
import Derived.Test.YtgdbfdmnfndojaaTake2
import Derived.ProofKit
import Derived.OpenShut
import Derived.ShutString
import Derived.ChangeOld
namespace Go.Proofs.Ytgdbfdmnfndojaa.octetTakes
open Go.ChangeShapes Go.WideShapes Go.ChangeAt Go.RowKit
open Go.ChangeMaps (open_string shut_string)
set_option linter.unusedVariables false

theorem own : ownKnob Try.prog.godebug = none := by kernel_rfl
theorem laidOut : laidOutB Try.prog = true := by kernel_rfl

theorem drewN_below {B : Nat} {a w : World} (h : Below B a w) (n : Nat) : Below B a (w.drewN n) := ⟨h.os, h.tape, h.output, h.size, h.block⟩
theorem drewN_in {w : World} {p : Nat} {s : ByteArray} {x : Int} (h : InAt w p s x) (n : Nat) : InAt (w.drewN n) p s x := h

theorem Chg1.two (m : Nat) (W : World) (u v : Value) : Chg1 m W ((W.setCell ⟨m, 0, none⟩ u).setCell ⟨m, 1, none⟩ v) :=
  ⟨rfl, rfl, rfl, by simp [World.setCell], fun k _ hk => (Below.heap_setCell _ _ _ _ (fun e => hk (by rw [e]))).trans (Below.heap_setCell _ _ _ _ (fun e => hk (by rw [e])))⟩

theorem left0_calls (w : World) (p : Nat) (h : InAt w p (str []) 0) :
    Calls Try.prog 17 #[.pointer (some ⟨p, 0, none⟩)] w fun e w' => e = .returned (.int .i64 0) ∧ w = w' := left_calls w p (str []) 0 h

/-- Five cells stay where block p alone turns. -/
theorem keep5 {W W' : World} {p q b o : Nat} {v1 v2 v3 v4 v5 : Value} (c : Chg1 p W W') (hq : q ≠ p) (hb : b ≠ p) (h : W.cell? ⟨q, 0, none⟩ = some v1 ∧ W.cell? ⟨q, 1, none⟩ = some v2 ∧ W.cell? ⟨b, o, none⟩ = some v3 ∧ W.cell? ⟨b, o + 1, none⟩ = some v4 ∧ W.cell? ⟨b, o + 2, none⟩ = some v5) :
    W'.cell? ⟨q, 0, none⟩ = some v1 ∧ W'.cell? ⟨q, 1, none⟩ = some v2 ∧ W'.cell? ⟨b, o, none⟩ = some v3 ∧ W'.cell? ⟨b, o + 1, none⟩ = some v4 ∧ W'.cell? ⟨b, o + 2, none⟩ = some v5 := by
  have kq := c.block q (World.block_lt_of_cell? W _ h.1) (fun e => hq (by injection e))
  have kb := c.block b (World.block_lt_of_cell? W _ h.2.2.1) (fun e => hb (by injection e))
  exact ⟨(World.cell?_of_block (w := W) kq).trans h.1, (World.cell?_of_block (w := W) kq).trans h.2.1, (World.cell?_of_block (w := W) kb).trans h.2.2.1, (World.cell?_of_block (w := W) kb).trans h.2.2.2.1, (World.cell?_of_block (w := W) kb).trans h.2.2.2.2⟩

set_option maxHeartbeats 4000000 in
set_option maxRecDepth 100000 in
theorem walk (a0 : ByteArray) (w0 : a0.size ≤ maxLen) (v1 : Value) (T : List (Int × Int × ByteArray)) (w : World) (hT : Things w v1 T) :
    Calls Try.prog 4 #[.string a0, v1] w fun e w' => e = .returned (.bool true) ∧ Below w.heap.size w w' := by
  obtain ⟨A, cap, rfl, hTl, hcells⟩ := hT
  unfold maxLen at hTl
  have HC := Lib.hid hcells
  clear hcells
  go_enter Try.func4, Try.ntmps4
  go_wp2_with fail
  refine (cut_calls _ a0 200 w0).mono ?_
  rintro e v3 ⟨rfl, rfl⟩
  generalize a0.extract 0 200 = s at *
  clear w0
  go_wp2_with fail
  refine (over_calls _ _).mono ?_
  rintro e x8 ⟨rfl, rfl⟩
  have i0 := (InAt.new w s).kept (below_one _ (.cells #[.string s, .int .i64 0] 39))
  have q0 : CurAt ((w.alloc (.cells #[.string s, .int .i64 0] 60)).alloc (.cells #[.string s, .int .i64 0] 39)) (w.heap.size + 1) s 0 := by
    have := heap_alloc_new (w.alloc (.cells #[.string s, .int .i64 0] 60)) (.cells #[.string s, .int .i64 0] 39)
    unfold CurAt
    simpa using this
  have b0 := below_two w (.cells #[.string s, .int .i64 0] 60) (.cells #[.string s, .int .i64 0] 39)
  go_wp2_with fail
  refine (awake_calls _).mono ?_
  rintro e w2 ⟨rfl, hb⟩
  have I2 := Lib.hid (i0.kept hb)
  have Q2 : Hid (CurAt w2 (w.heap.size + 1) s 0) := (hb.block _ (by simp)).trans q0
  have B2 := Lib.hid (Below.next b0 hb)
  clear i0 q0 b0 hb
  go_wp2_with fail
  go_loopw [7] (fun c wr => ∃ (k : Nat) (s' : ByteArray) (x' : Int), c = .int .i64 k ∧ k ≤ T.length ∧ k ≤ 15 ∧ InAt wr w.heap.size s' x' ∧ CurAt wr (w.heap.size + 1) s' x' ∧ Below w.heap.size w wr) (fun c _ => 15 - (intOf c).toNat)
  case atStart => exact ⟨0, s, 0, rfl, Nat.zero_le _, Nat.zero_le _, I2.out, Q2.out, B2.out⟩
  case round =>
    clear I2 Q2 B2
    obtain ⟨k, s', x', rfl, hk1, hk2, hi, hq, hb⟩ := hrel
    have hrec : ∀ x : Int, x = 0 ∨ ((x == 0) = false ∧ ¬ x = 0) := fun x => by by_cases h : x = 0; (· exact .inl h); exact .inr ⟨by simpa using h, h⟩
    by_cases hc : k < T.length ∧ k < 15
    · obtain ⟨c1, c2⟩ := hc
      obtain ⟨x, hx⟩ : ∃ x, T[k]? = some x := ⟨_, List.getElem?_eq_getElem c1⟩
      obtain ⟨b, off, hA, hbl, d0, d1, d2, n0, n1, ns⟩ := HC.out k x hx
      rw [← hb.cell (p := ⟨b, off + k * 3, none⟩) hbl] at d0
      rw [← hb.cell (p := ⟨b, off + k * 3 + 1, none⟩) hbl] at d1
      rw [← hb.cell (p := ⟨b, off + k * 3 + 2, none⟩) hbl] at d2
      clear hx
      subst hA
      obtain ⟨kd, n, z⟩ := x
      simp only at d0 d1 d2 n0 n1 ns
      obtain ⟨e0, e1, f0, f1⟩ := hq.cells
      have HI := Lib.hid hi
      have HQ := Lib.hid hq
      have HB := Lib.hid hb
      clear hi hq hb f0 f1
      go_wp2_with fail
      have hq1 : w.heap.size + 1 ≠ w.heap.size := by omega
      have hb1 : b ≠ w.heap.size := by omega
      have ID : Hid (InAt wr.drew w.heap.size s' x') := HI.out
      have hql : w.heap.size + 1 < wr.heap.size := World.block_lt_of_cell? wr _ e0
      have hqm : w.heap.size + 1 ≠ wr.heap.size := by omega
      have hbm : b ≠ wr.heap.size := by omega
      have hpm : wr.heap.size ≠ w.heap.size := by omega
      have hS0 := show (wr.drew.cell? ⟨w.heap.size + 1, 0, none⟩ = some (.string s') ∧ wr.drew.cell? ⟨w.heap.size + 1, 1, none⟩ = some (.int .i64 x') ∧ wr.drew.cell? ⟨b, off + k * 3, none⟩ = some (.int .i64 kd) ∧ wr.drew.cell? ⟨b, off + k * 3 + 1, none⟩ = some (.int .u32 n) ∧ wr.drew.cell? ⟨b, off + k * 3 + 2, none⟩ = some (.string z)) from ⟨e0, e1, d0, d1, d2⟩
      have HS0 := Lib.hid hS0
      clear hS0
      go_region_held3 (fun wx => wx.cell? ⟨w.heap.size + 1, 0, none⟩ = some (.string s') ∧ wx.cell? ⟨w.heap.size + 1, 1, none⟩ = some (.int .i64 x') ∧ wx.cell? ⟨b, off + k * 3, none⟩ = some (.int .i64 kd) ∧ wx.cell? ⟨b, off + k * 3 + 1, none⟩ = some (.int .u32 n) ∧ wx.cell? ⟨b, off + k * 3 + 2, none⟩ = some (.string z))
        (first | exact HS0.out | exact K3.out | exact keep5 (Chg1.of_below (below_one _ _)) hq1 hb1 K3.out | exact keep5 (Chg1.two _ _ _ _) hqm hbm K3.out | exact keep5 (Chg1.of_below (below_one _ _)) hq1 hb1 HS0.out | fail)
        (first
          | (go_at_call 15; refine (take_calls _ w.heap.size s' x' kd n z n0 n1 ID.out).mono ?_; rintro e w3 ⟨s2, x2, rfl, i3, c3⟩; have K3 := Lib.hid (keep5 c3 hq1 hb1 HS0.out))
          | (go_at_call 15; refine (take_calls _ w.heap.size s' x' kd n z n0 n1 (ID.out.kept (below_one wr.drew _))).mono ?_; rintro e w3 ⟨s2, x2, rfl, i3, c3⟩; have K3 := Lib.hid (keep5 c3 hq1 hb1 (keep5 (Chg1.of_below (below_one _ _)) hq1 hb1 HS0.out)); have km := (c3.block wr.heap.size (by simp) (fun e => hpm (by injection e))).trans (heap_alloc_new wr.drew _); obtain ⟨m0, m1, g0, g1⟩ := pair_cells km; have KM := Lib.hid km; clear km))
      all_goals (rename_i hHeld; clear hHeld)
      · have q3 : CurAt w3 (w.heap.size + 1) s' x' := (c3.block _ hql (fun e => hq1 (by injection e))).trans HQ.out
        have b3 : Below w.heap.size w w3 := HB.out.drew.trans (c3.below HB.out.drew.size (Nat.le_refl _))
        have i5 := i3.kept (below_one w3 (.cells #[.string s2, .int .i64 x2] 39))
        have q5 : CurAt (w3.alloc (.cells #[.string s2, .int .i64 x2] 39)) (w.heap.size + 1) s' x' := ((below_one w3 (.cells #[.string s2, .int .i64 x2] 39)).block _ (lt_of_block q3)).trans q3
        have b5 := Below.next b3 (below_one w3 (.cells #[.string s2, .int .i64 x2] 39))
        obtain ⟨m0, m1, g0, g1⟩ := pair_cells (heap_alloc_new w3 (.cells #[.string s2, .int .i64 x2] 39))
        have hmq : w.heap.size + 1 ≠ w3.heap.size := Nat.ne_of_lt (lt_of_block q3)
        clear q3 b3 i3 c3 K3 HS0 ID HI HQ HB e0 e1 d0 d1 d2 g0 g1 hqm hpm hbm hql
        generalize w3.alloc (.cells #[.string s2, .int .i64 x2] 39) = W5 at *
        generalize w3.heap.size = m at *
        have i6 := CurAt.in_apart (s' := s2) (x' := x2) i5 (show w.heap.size ≠ w.heap.size + 1 by omega)
        have q6 := q5.set (s' := s2) (x' := x2)
        have b6 : Below w.heap.size w ((W5.setCell ⟨w.heap.size + 1, 0, none⟩ (.string s2)).setCell ⟨w.heap.size + 1, 1, none⟩ (.int .i64 x2)) := (b5.setCell (Nat.le_succ _) _).setCell (Nat.le_succ _) _
        obtain ⟨e0, e1, f0, f1⟩ := q5.cells
        obtain ⟨r0, r1, r2, r3⟩ := q6.cells
        have I6 := Lib.hid i6
        have Q6 := Lib.hid q6
        have B6 := Lib.hid b6
        clear i5 q5 b5 i6 q6 b6 r2 r3
        go_wp2_with fail
        generalize (W5.setCell ⟨w.heap.size + 1, 0, none⟩ (.string s2)).setCell ⟨w.heap.size + 1, 1, none⟩ (.int .i64 x2) = W6 at *
        clear e0 e1 f0 f1 m0 m1
        rcases hrec x2 with hy | ⟨hy, hy'⟩
        all_goals try subst hy
        all_goals
          go_quiet (first
            | exact (err_calls _ w.heap.size s2 _ (drewN_in I6.out _)).mono (fun e w' h => ⟨h.1, _, h.2.symm⟩)
            | exact (left_calls _ w.heap.size s2 _ (drewN_in I6.out _)).mono (fun e w' h => ⟨h.1, _, h.2.symm⟩))
          have I7 : Hid (InAt (W6.drewN nq) w.heap.size s2 _) := I6.out
          have Q7 : Hid (CurAt (W6.drewN nq) (w.heap.size + 1) s2 _) := Q6.out
          have B7 : Hid (Below w.heap.size w (W6.drewN nq)) := drewN_below B6.out nq
          generalize W6.drewN nq = W7 at *
          clear I6 Q6 B6 r0 r1
          go_wp2
          go_roundw
          case rel => exact ⟨k + 1, s2, _, by go_num, by omega, by omega, I7.out, Q7.out, B7.out⟩
          case measure => simp [intOf]; omega
      · have q3 : CurAt w3 (w.heap.size + 1) s' x' := (c3.block _ (by simp; omega) (fun e => hq1 (by injection e))).trans (((below_one wr.drew _).block _ hql).trans HQ.out)
        have hbd := Below.next HB.out.drew (below_one wr.drew (.cells #[.string ⟨#[]⟩, .int .i64 0] 39))
        have b3 : Below w.heap.size w w3 := hbd.trans (c3.below hbd.size (Nat.le_refl _))
        have hwl : w.heap.size < wr.heap.size := by omega
        have i5 := CurAt.in_apart (s' := s2) (x' := x2) i3 (show w.heap.size ≠ wr.heap.size by omega)
        have q5 : CurAt ((w3.setCell ⟨wr.heap.size, 0, none⟩ (.string s2)).setCell ⟨wr.heap.size, 1, none⟩ (.int .i64 x2)) (w.heap.size + 1) s' x' := ((Below.heap_setCell _ _ _ _ hqm).trans (Below.heap_setCell _ _ _ _ hqm)).trans q3
        have b5 : Below w.heap.size w ((w3.setCell ⟨wr.heap.size, 0, none⟩ (.string s2)).setCell ⟨wr.heap.size, 1, none⟩ (.int .i64 x2)) := (b3.setCell (Nat.le_of_lt hwl) _).setCell (Nat.le_of_lt hwl) _
        obtain ⟨t0, t1, _, _⟩ := CurAt.cells (CurAt.set (s' := s2) (x' := x2) (show CurAt w3 wr.heap.size ⟨#[]⟩ 0 from KM.out))
        clear m0 m1
        have m0 := t0
        have m1 := t1
        have hmq : w.heap.size + 1 ≠ wr.heap.size := hqm
        clear q3 b3 i3 c3 K3 HS0 ID HI HQ HB e0 e1 d0 d1 d2 g0 g1 KM t0 t1 hbd
        generalize (w3.setCell ⟨wr.heap.size, 0, none⟩ (.string s2)).setCell ⟨wr.heap.size, 1, none⟩ (.int .i64 x2) = W5 at *
        clear hqm hpm hbm hql hwl
        generalize wr.heap.size = m at *
        have i6 := CurAt.in_apart (s' := s2) (x' := x2) i5 (show w.heap.size ≠ w.heap.size + 1 by omega)
        have q6 := q5.set (s' := s2) (x' := x2)
        have b6 : Below w.heap.size w ((W5.setCell ⟨w.heap.size + 1, 0, none⟩ (.string s2)).setCell ⟨w.heap.size + 1, 1, none⟩ (.int .i64 x2)) := (b5.setCell (Nat.le_succ _) _).setCell (Nat.le_succ _) _
        obtain ⟨e0, e1, f0, f1⟩ := q5.cells
        obtain ⟨r0, r1, r2, r3⟩ := q6.cells
        have I6 := Lib.hid i6
        have Q6 := Lib.hid q6
        have B6 := Lib.hid b6
        clear i5 q5 b5 i6 q6 b6 r2 r3
        go_wp2_with fail
        generalize (W5.setCell ⟨w.heap.size + 1, 0, none⟩ (.string s2)).setCell ⟨w.heap.size + 1, 1, none⟩ (.int .i64 x2) = W6 at *
        clear e0 e1 f0 f1 m0 m1
        rcases hrec x2 with hy | ⟨hy, hy'⟩
        all_goals try subst hy
        all_goals
          go_quiet (first
            | exact (err_calls _ w.heap.size s2 _ (drewN_in I6.out _)).mono (fun e w' h => ⟨h.1, _, h.2.symm⟩)
            | exact (left_calls _ w.heap.size s2 _ (drewN_in I6.out _)).mono (fun e w' h => ⟨h.1, _, h.2.symm⟩))
          have I7 : Hid (InAt (W6.drewN nq) w.heap.size s2 _) := I6.out
          have Q7 : Hid (CurAt (W6.drewN nq) (w.heap.size + 1) s2 _) := Q6.out
          have B7 : Hid (Below w.heap.size w (W6.drewN nq)) := drewN_below B6.out nq
          generalize W6.drewN nq = W7 at *
          clear I6 Q6 B6 r0 r1
          go_wp2
          go_roundw
          case rel => exact ⟨k + 1, s2, _, by go_num, by omega, by omega, I7.out, Q7.out, B7.out⟩
          case measure => simp [intOf]; omega
    · have hex : (k < T.length ∧ ¬ k < 15) ∨ ¬ k < T.length := by omega
      have hqp : w.heap.size + 1 ≠ w.heap.size := by omega
      obtain ⟨l, rfl⟩ : ∃ l, s' = str l := ⟨_, ba_str s'⟩
      obtain ⟨e0, e1, f0, f1⟩ := hq.cells
      have HB := Lib.hid hb
      have HQ := Lib.hid hq
      clear hc f0 f1 hb hq hrec
      by_cases hx0 : x' = 0
      · subst hx0
        have hE : ∃ v, endT (str l) 0 = v ∧ ((l = [] ∧ v = 0) ∨ (¬ l = [] ∧ v = 2)) := by
          unfold endT
          by_cases h1 : l = []
          · exact ⟨0, if_neg (by rw [str_size, h1]; simp), .inl ⟨h1, rfl⟩⟩
          · exact ⟨2, if_pos (.inr ⟨rfl, by rw [str_size]; exact fun e => h1 (List.eq_nil_of_length_eq_zero e)⟩), .inr ⟨h1, rfl⟩⟩
        obtain ⟨v, hE, hv⟩ := hE
        have HE := Lib.hid hE
        clear hE
        have hv' : ((str l).toList.isEmpty = true ∧ (str l).toList = [] ∧ v = 0) ∨ ((str l).toList.isEmpty = false ∧ ¬ (str l).toList = [] ∧ v = 2) := by
          rw [str_list]
          rcases hv with ⟨rfl, h⟩ | ⟨h, h'⟩
          · exact .inl ⟨rfl, rfl, h⟩
          · exact .inr ⟨by cases l <;> simp_all, h, h'⟩
        clear hv
        have ID : Hid (InAt wr.drew w.heap.size (str l) 0) := hi
        have E0 : Hid (wr.drew.cell? ⟨w.heap.size + 1, 0, none⟩ = some (.string (str l))) := e0
        rcases hex with ⟨c1, c2⟩ | c1
        all_goals
          rcases hv' with ⟨z1, z2, rfl⟩ | ⟨z1, z2, rfl⟩
        all_goals
          go_wp2_with fail
          refine (end_calls _ w.heap.size (str l) 0 hi).mono ?_
          rw [HE.out]
          rintro e y1 ⟨rfl, rfl⟩
          clear HE hi
          go_wp2_with fail
          go_region_held3 (fun wx => wx.cell? ⟨w.heap.size + 1, 0, none⟩ = some (.string (str l)))
            (first | exact E0.out | exact K3.out | fail)
            (first
              | (go_at_call 19; refine (rest0_calls _ w.heap.size l ID.out).mono ?_; rintro e y3 ⟨rfl, i3, o3⟩; have K3 := Lib.hid ((World.cell?_of_block (o3.block _ hqp)).trans E0.out))
              | (go_at_call 17; refine (left0_calls _ w.heap.size i3).mono ?_; rintro e y4 ⟨rfl, rfl⟩)
              | (go_at_call 16; refine (err_calls _ w.heap.size (str []) 0 i3).mono ?_; rintro e y4 ⟨rfl, rfl⟩))
          have B3 : Hid (Below w.heap.size w y3) := HB.out.drew.trans ((Chg1.of_only o3).below HB.out.drew.size (Nat.le_refl _))
          rename_i hHeld
          clear hHeld o3 i3 K3 E0 ID e0 e1
          go_wp2
          go_ret
          exact ⟨rfl, B3.out⟩
      · have hE : ∃ v, endT (str l) x' = v ∧ ((x' = 1 ∧ v = 2) ∨ (¬ x' = 1 ∧ v = x')) := by
          unfold endT
          by_cases h1 : x' = 1
          · exact ⟨2, if_pos (.inl h1), .inl ⟨h1, rfl⟩⟩
          · exact ⟨x', if_neg (by rintro (h | h); (· exact h1 h); exact hx0 h.1), .inr ⟨h1, rfl⟩⟩
        obtain ⟨v, hE, hv⟩ := hE
        have HE := Lib.hid hE
        have hF : failed x' 4 = x' := if_neg hx0
        have HF := Lib.hid hF
        have d0 : (x' == 0) = false := by simpa using hx0
        clear hE hF
        rcases hex with ⟨c1, c2⟩ | c1
        all_goals
          rcases hv with ⟨h1, rfl⟩ | ⟨h1, hv⟩
        all_goals try subst h1
        all_goals try subst hv
        all_goals
          go_wp2_with fail
          refine (end_calls _ w.heap.size (str l) _ hi).mono ?_
          rw [HE.out]
          rintro e y1 ⟨rfl, rfl⟩
          go_wp2_with fail
          refine (fail_calls _ w.heap.size (str l) _ 4 hi).mono ?_
          rw [HF.out]
          rintro e y2 ⟨rfl, i2, o2⟩
          have F2 := Lib.hid (show Fell w w.heap.size (w.heap.size + 1) (str l) _ y2 from ⟨i2, (o2.block _ hqp).trans HQ.out, HB.out.trans ((Chg1.of_only o2).below HB.out.size (Nat.le_refl _))⟩)
          clear i2 o2 e0 e1 hi HE HF HQ HB
          go_wp2_with fail
          refine wp_region_quiet_cls (fun wx => Fell w w.heap.size (w.heap.size + 1) (str l) _ wx) (by kernel_rfl) (by kernel_rfl) ⟨F2.out.at', F2.out.cur', F2.out.bel.drew⟩ ?_
          iterate 31
            refine wpQuiet_step (fun K hK => ?_)
            go_simp
            first
              | (refine hK _ ?_; clear hK K)
              | (apply Exists.intro
                 refine ⟨fun wx hwx => ?_, hK _ ?_⟩
                 · first
                     | exact rfl
                     | exact (restE_calls wx _ _ _ hx0 hwx.at').mono (fun e w2 h => And.intro h.1 (hwx.took (Nat.le_refl _) hqp h.2))
                     | exact (byteE_calls wx _ _ _ hx0 hwx.at').mono (fun e w2 h => And.intro h.1 (hwx.took (Nat.le_refl _) hqp h.2))
                     | exact (twoE_calls wx _ _ _ hx0 hwx.at').mono (fun e w2 h => And.intro h.1 (hwx.took (Nat.le_refl _) hqp h.2))
                     | exact (varE_calls wx _ _ _ hx0 hwx.at').mono (fun e w2 h => And.intro h.1 (hwx.took (Nat.le_refl _) hqp h.2))
                     | exact (dataE_calls wx _ _ _ hx0 hwx.at').mono (fun e w2 h => And.intro h.1 (hwx.took (Nat.le_refl _) hqp h.2))
                     | exact (err_calls wx _ _ _ hwx.at').mono (fun e w2 h => And.intro h.1 (h.2 ▸ hwx))
                     | (rw [hwx.cur'.cells.2.1]; exact And.intro rfl rfl)
                 clear hK K)
          refine wpQuiet_nil ?_
          intro w2 F3
          have B3 := Lib.hid F3.bel
          clear F3 F2
          go_wp2
          go_ret
          exact ⟨rfl, B3.out⟩

set_option maxRecDepth 100000 in
theorem lifted (os : Os) (started : os.Started) (H : Type) (enc : TypeId × Value → H) :
    ReturnsInHanded {} Try.checked os 4 .any (Rows.octetTakesSpec.pre6 enc Try.prog Try.f4 Rows.octetTakesRow.domain false) (Rows.octetTakesSpec.post enc Try.prog Try.f4 false true false false) := by
  refine returnsInHanded_of_change (C := Try.checked) own started (by kernel_rfl) Try.func4
    (ChangeSpec.witness6 (enc := enc) (C := Try.checked) false ⟨#[], #[.string ByteArray.empty, .slice none 0 0], []⟩ 8 (by kernel_rfl) (by kernel_rfl) (by kernel_rfl) (by kernel_rfl)) ?_
  intro W base args ds gs before hval0 hW hcnd _
  have hval : ∀ (j : Nat) t v, Try.f4.params[j]? = some t → args[j]? = some v → Value.okWide Try.prog W .any base t v := hval0
  have hW' := hW
  obtain ⟨p, q, hA0, hV, rfl, hfz, hnd⟩ := hW
  have hA : DataW.TrodAll enc Try.prog W 0 (fun _ => true) true Try.f4.params.toList args.toList ds p := hA0
  rw [Try.params4] at hA hval
  obtain ⟨v0, vs0, d0, ds0, p0, q0, hargs, rfl, rfl, h0, r0⟩ := trodAll_cons hA
  obtain ⟨v1, vs1, d1, ds1, p1, q1, rfl, rfl, rfl, h1, r1⟩ := trodAll_cons r0
  obtain ⟨rfl, rfl, rfl⟩ := trodAll_nil r1
  obtain rfl : args = #[v0, v1] := by cases args; simp_all
  obtain ⟨rfl, rfl⟩ := trodVars_none hV
  obtain ⟨a0, rfl, rfl, rfl, w0⟩ := open_string Try.underlying9 (hval 0 9 v0 rfl rfl) h0
  have k1 := h1
  have lt1 : ∀ x ∈ p1, x.block < W.heap.size := by obtain ⟨m, hm⟩ := k1; exact DataW.trod_lt m _ _ _ hm
  obtain ⟨a1, w1⟩ := open_things (hval 1 22 v1 rfl rfl) h1
  clear hA0 hval0
  refine (walk a0 w0 v1 a1 W w1).mono fun e W' ⟨he, bel⟩ => ?_
  subst he
  exact ⟨_, rfl, _, _, _, [], _, [], hW', trodAll_mk1 (shut_bool Try.underlying4 _), (trodAll_cons_mk (shut_string Try.underlying9 w0) (trodAll_cons_mk (Below.trod laidOut (by kernel_rfl) (of_decide_eq_true (by kernel_rfl)) k1 bel lt1) trodAll_mk0)), rfl, bel.frame _, fun h => by cases h⟩

theorem over : Rows.octetTakesRow.holds Try.pinned (OpenSpec.ofChange Rows.octetTakesSpec) :=
  OpenClaim.holds_of_wide 4 Try.f4 rfl rfl rfl rfl rfl rfl rfl ⟨rfl, rfl, rfl, rfl, rfl⟩ rfl rfl rfl rfl rfl (by kernel_rfl) Try.func4 (by kernel_rfl)
    (of_decide_eq_true (by kernel_rfl)) (by unfold Func.isWrapper; first | (rw [if_pos (by decide +kernel)]; kernel_rfl) | (rw [if_neg (by decide +kernel)]; exact ⟨rfl, rfl⟩))
    (fun os started H enc _ => lifted os started H enc)

end Go.Proofs.Ytgdbfdmnfndojaa.octetTakes
namespace Go.Proofs.Ytgdbfdmnfndojaa
/-- The statement. -/
theorem octetTakes_holds : Rows.OctetTakesSaid := octetTakes.over
#print axioms octetTakes_holds
end Go.Proofs.Ytgdbfdmnfndojaa
