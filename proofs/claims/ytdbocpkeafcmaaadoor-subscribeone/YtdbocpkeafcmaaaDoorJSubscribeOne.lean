/-
  A body that is read is written as it was (switchboardlaw08.SubscribeOne answers true for every input).
  Its conditions: none beside those of the row itself (the two tables of unicode/utf8 start as the library's text lays them: the card ties them).
-/
import Derived.Test.YtdbocpkeafcmaaaDoorCards
import Derived.Test.YtdbocpkeafcmaaaDoorTie
import Derived.Test.YtdbocpkeafcmaaaDoorJSubscribeOnew
import Derived.Test.YtdbocpkeafcmaaaDoorJSubscribeOnef
import Derived.Test.YtdbocpkeafcmaaaDoorJSub10
import Derived.ProofKit
import Derived.OpenShut
import Derived.ShutString
import Derived.ChangeOld
import Derived.Deep.DeepHandedRow
import Derived.Deep.DeepWitnessRowRef
import Derived.Lib.LaidU8T
import Derived.Lib.LaidTab
import Derived.Lib.LaidIn
namespace Go.Proofs.YtdbocpkeafcmaaaDoor.subscribeOne
open Go.ChangeShapes Go.WideShapes Go.ChangeAt Go.RowKit Go.Lib
open Go.ChangeMaps (open_string shut_string)
set_option linter.unusedVariables false

set_option maxRecDepth 100000 in
set_option maxHeartbeats 4000000 in
theorem walk1 (a0 : Int) (a1 : ByteArray) (w1 : a1.size ≤ maxLen) (w : World) (hT : Tabs w) (s : ByteArray) (hs : a1.extract 0 200 = s)
    (N1 : Int) (P1 : List Pr) (L1 : List Sb) (E1 : Int) (hP1 : ∀ W, Tabs W → Calls Tryd.prog 68 #[.string s] W (SubscR W N1 P1 L1 E1)) (h1 : E1 = 0 → ∀ W va vc ua uc, PropsAt W (.slice va P1.length vc) P1 → SubsAt W (.slice ua L1.length uc) L1 → Calls Tryd.prog 83 #[.agg #[.int .u32 N1, .slice va P1.length vc, .slice ua L1.length uc]] W (fun e w' => e = .returned (.string s) ∧ Below W.heap.size W w'))
    (N2 : Int) (P2 : List Pr) (L2 : List ByteArray) (E2 : Int) (hP2 : ∀ W, Tabs W → Calls Tryd.prog 70 #[.string s] W (UnsubR W N2 P2 L2 E2)) (h2 : E2 = 0 → ∀ W va vc ua uc, PropsAt W (.slice va P2.length vc) P2 → FilsAt W (.slice ua L2.length uc) L2 → Calls Tryd.prog 85 #[.agg #[.int .u32 N2, .slice va P2.length vc, .slice ua L2.length uc]] W (fun e w' => e = .returned (.string s) ∧ Below W.heap.size W w'))
    (C : Sk) (E3 : Int) (hP3 : ∀ W, Tabs W → Calls Tryd.prog 72 #[.int .i64 a0, .string s] W (SackR W C E3)) (h3 : E3 = 0 → ∀ W va vc, PropsAt W (.slice va C.ps.length vc) C.ps → Calls Tryd.prog 87 #[.agg #[.int .i64 C.k, .int .u32 C.id, .slice va C.ps.length vc, .string C.cs]] W (fun e w' => e = .returned (.string s) ∧ Below W.heap.size W w')) :
    Calls Tryd.prog 17 #[.int .i64 a0, .string a1] w fun e w' => e = .returned (.bool true) ∧ Below w.heap.size w w' := by
  have HT := Lib.hid hT
  have HS := Lib.hid hs
  have HP1 := Lib.hid hP1
  have HP2 := Lib.hid hP2
  have HP3 := Lib.hid hP3
  have H1 := Lib.hid h1
  have H2 := Lib.hid h2
  have H3 := Lib.hid h3
  clear hT hs hP1 hP2 hP3 h1 h2 h3
  go_enter Tryd.func17, Tryd.ntmps17
  go_wp2_with fail
  refine (cut_calls _ a1 200 w1).mono ?_
  rw [HS.out]
  rintro e w2 ⟨rfl, rfl⟩
  go_wp2_with fail
  refine (HP1.out _ HT.out).mono ?_
  rintro e W1 ⟨xa, xc, ya, yc, rfl, o1, q1, b1⟩
  have PX1 := Lib.hid o1.props
  have SX1 := Lib.hid q1.at
  have b2 := below_one W1 (.cells #[.int .u32 N1, .slice xa P1.length xc, .slice ya L1.length yc] 119)
  have X2 := Lib.hid (heap_alloc_new W1 (.cells #[.int .u32 N1, .slice xa P1.length xc, .slice ya L1.length yc] 119))
  have PX2 := Lib.hid (PX1.out.below b2)
  have SX2 := Lib.hid (SX1.out.below b2)
  have B2 := Lib.hid (Below.next b1 b2)
  clear o1 q1 b1 b2 PX1 SX1 HP1
  go_wp2_with fail
  generalize W1.alloc (.cells #[.int .u32 N1, .slice xa P1.length xc, .slice ya L1.length yc] 119) = W2 at *
  generalize W1.heap.size = xb at *
  refine (HP2.out _ (HT.out.below B2.out)).mono ?_
  rintro e W3 ⟨ua, uc, va, vc, rfl, o3, q3, b3⟩
  have PU3 := Lib.hid o3.props
  have FU3 := Lib.hid q3.at
  have X3 := Lib.hid ((b3.block _ (lt_of_block X2.out)).trans X2.out)
  have PX3 := Lib.hid (PX2.out.below b3)
  have SX3 := Lib.hid (SX2.out.below b3)
  have B3 := Lib.hid (Below.next B2.out b3)
  have b4 := below_one W3 (.cells #[.int .u32 N2, .slice ua P2.length uc, .slice va L2.length vc] 129)
  have U4 := Lib.hid (heap_alloc_new W3 (.cells #[.int .u32 N2, .slice ua P2.length uc, .slice va L2.length vc] 129))
  have X4 := Lib.hid ((b4.block _ (lt_of_block X3.out)).trans X3.out)
  have PX4 := Lib.hid (PX3.out.below b4)
  have SX4 := Lib.hid (SX3.out.below b4)
  have PU4 := Lib.hid (PU3.out.below b4)
  have FU4 := Lib.hid (FU3.out.below b4)
  have B4 := Lib.hid (Below.next B3.out b4)
  clear o3 q3 b3 b4 PU3 FU3 X2 X3 PX2 PX3 SX2 SX3 B2 B3 HP2
  go_wp2_with fail
  generalize W3.alloc (.cells #[.int .u32 N2, .slice ua P2.length uc, .slice va L2.length vc] 129) = W4 at *
  generalize W3.heap.size = ub at *
  refine (HP3.out _ (HT.out.below B4.out)).mono ?_
  rintro e W5 ⟨v5, rfl, o5, b5⟩
  have PA5 := Lib.hid o5.props
  obtain ⟨za, zc, rfl⟩ := o5.form
  have X5 := Lib.hid ((b5.block _ (lt_of_block X4.out)).trans X4.out)
  have U5 := Lib.hid ((b5.block _ (lt_of_block U4.out)).trans U4.out)
  have PX5 := Lib.hid (PX4.out.below b5)
  have SX5 := Lib.hid (SX4.out.below b5)
  have PU5 := Lib.hid (PU4.out.below b5)
  have FU5 := Lib.hid (FU4.out.below b5)
  have B5 := Lib.hid (Below.next B4.out b5)
  obtain ⟨ck, ci, cp, cc⟩ := C
  unfold skV
  dsimp only at *
  have b6 := below_one W5 (.cells #[.int .i64 ck, .int .u32 ci, .slice za cp.length zc, .string cc] 137)
  have A6 := Lib.hid (heap_alloc_new W5 (.cells #[.int .i64 ck, .int .u32 ci, .slice za cp.length zc, .string cc] 137))
  have X6 := Lib.hid ((b6.block _ (lt_of_block X5.out)).trans X5.out)
  have U6 := Lib.hid ((b6.block _ (lt_of_block U5.out)).trans U5.out)
  have PX6 := Lib.hid (PX5.out.below b6)
  have SX6 := Lib.hid (SX5.out.below b6)
  have PU6 := Lib.hid (PU5.out.below b6)
  have FU6 := Lib.hid (FU5.out.below b6)
  have PA6 := Lib.hid (PA5.out.below b6)
  have B6 := Lib.hid (Below.next B5.out b6)
  clear o5 b5 b6 X4 X5 U4 U5 PX4 PX5 SX4 SX5 PU4 PU5 FU4 FU5 PA5 B4 B5 HP3
  go_wp2_with fail
  generalize W5.alloc (.cells #[.int .i64 ck, .int .u32 ci, .slice za cp.length zc, .string cc] 137) = W6 at *
  generalize W5.heap.size = ab at *
  refine (awake8_calls _ (HT.out.below B6.out)).mono ?_
  rintro e W7 ⟨rfl, b7⟩
  have X7 := Lib.hid ((b7.block _ (lt_of_block X6.out)).trans X6.out)
  have U7 := Lib.hid ((b7.block _ (lt_of_block U6.out)).trans U6.out)
  have A7 := Lib.hid ((b7.block _ (lt_of_block A6.out)).trans A6.out)
  have PX7 := Lib.hid (PX6.out.below b7)
  have SX7 := Lib.hid (SX6.out.below b7)
  have PU7 := Lib.hid (PU6.out.below b7)
  have FU7 := Lib.hid (FU6.out.below b7)
  have PA7 := Lib.hid (PA6.out.below b7)
  have B7 := Lib.hid (Below.next B6.out b7)
  clear b7 X6 U6 A6 PX6 SX6 PU6 FU6 PA6 B6
  by_cases e1 : E1 = 0
  · subst e1
    obtain ⟨d0, d1, d2, df⟩ := cells3 X7.out
    go_wp2_with fail
    refine (H1.out (by first | rfl | trivial) _ xa xc ya yc PX7.out SX7.out).mono ?_
    rintro e W8 ⟨rfl, b8⟩
    have U8 := Lib.hid ((b8.block _ (lt_of_block U7.out)).trans U7.out)
    have A8 := Lib.hid ((b8.block _ (lt_of_block A7.out)).trans A7.out)
    have PU8 := Lib.hid (PU7.out.below b8)
    have FU8 := Lib.hid (FU7.out.below b8)
    have PA8 := Lib.hid (PA7.out.below b8)
    have B8 := Lib.hid (Below.next B7.out b8)
    clear d0 d1 d2 df b8 X7 U7 A7 PX7 SX7 PU7 FU7 PA7 B7 H1
    by_cases e2 : E2 = 0
    · subst e2
      obtain ⟨d0, d1, d2, df⟩ := cells3 U8.out
      go_wp2_with fail
      refine (H2.out (by first | rfl | trivial) _ ua uc va vc PU8.out FU8.out).mono ?_
      rintro e W9 ⟨rfl, b9⟩
      have A9 := Lib.hid ((b9.block _ (lt_of_block A8.out)).trans A8.out)
      have PA9 := Lib.hid (PA8.out.below b9)
      have B9 := Lib.hid (Below.next B8.out b9)
      clear d0 d1 d2 df b9 U8 A8 PU8 FU8 PA8 B8 H2
      by_cases e3 : E3 = 0
      · subst e3
        obtain ⟨d0, d1, d2, d3, df⟩ := cells4 A9.out
        go_wp2_with fail
        refine (H3.out (by first | rfl | trivial) _ za zc PA9.out).mono ?_
        rintro e WA ⟨rfl, ba⟩
        have BA := Lib.hid (Below.next B9.out ba)
        clear d0 d1 d2 d3 df ba A9 PA9 B9 H3
        go_wp2
        go_ret
        exact ⟨rfl, BA.out⟩
      · have e3b : (E3 != 0) = true := by simpa using e3
        clear A9 PA9 H3
        go_wp2
        go_ret
        exact ⟨rfl, B9.out⟩
    · have e2b : (E2 != 0) = true := by simpa using e2
      have A9 := A8
      have PA9 := PA8
      have B9 := B8
      clear U8 A8 PU8 FU8 PA8 B8 H2
      by_cases e3 : E3 = 0
      · subst e3
        obtain ⟨d0, d1, d2, d3, df⟩ := cells4 A9.out
        go_wp2_with fail
        refine (H3.out (by first | rfl | trivial) _ za zc PA9.out).mono ?_
        rintro e WA ⟨rfl, ba⟩
        have BA := Lib.hid (Below.next B9.out ba)
        clear d0 d1 d2 d3 df ba A9 PA9 B9 H3
        go_wp2
        go_ret
        exact ⟨rfl, BA.out⟩
      · have e3b : (E3 != 0) = true := by simpa using e3
        clear A9 PA9 H3
        go_wp2
        go_ret
        exact ⟨rfl, B9.out⟩
  · have e1b : (E1 != 0) = true := by simpa using e1
    have U8 := U7
    have A8 := A7
    have PU8 := PU7
    have FU8 := FU7
    have PA8 := PA7
    have B8 := B7
    clear X7 U7 A7 PX7 SX7 PU7 FU7 PA7 B7 H1
    by_cases e2 : E2 = 0
    · subst e2
      obtain ⟨d0, d1, d2, df⟩ := cells3 U8.out
      go_wp2_with fail
      refine (H2.out (by first | rfl | trivial) _ ua uc va vc PU8.out FU8.out).mono ?_
      rintro e W9 ⟨rfl, b9⟩
      have A9 := Lib.hid ((b9.block _ (lt_of_block A8.out)).trans A8.out)
      have PA9 := Lib.hid (PA8.out.below b9)
      have B9 := Lib.hid (Below.next B8.out b9)
      clear d0 d1 d2 df b9 U8 A8 PU8 FU8 PA8 B8 H2
      by_cases e3 : E3 = 0
      · subst e3
        obtain ⟨d0, d1, d2, d3, df⟩ := cells4 A9.out
        go_wp2_with fail
        refine (H3.out (by first | rfl | trivial) _ za zc PA9.out).mono ?_
        rintro e WA ⟨rfl, ba⟩
        have BA := Lib.hid (Below.next B9.out ba)
        clear d0 d1 d2 d3 df ba A9 PA9 B9 H3
        go_wp2
        go_ret
        exact ⟨rfl, BA.out⟩
      · have e3b : (E3 != 0) = true := by simpa using e3
        clear A9 PA9 H3
        go_wp2
        go_ret
        exact ⟨rfl, B9.out⟩
    · have e2b : (E2 != 0) = true := by simpa using e2
      have A9 := A8
      have PA9 := PA8
      have B9 := B8
      clear U8 A8 PU8 FU8 PA8 B8 H2
      by_cases e3 : E3 = 0
      · subst e3
        obtain ⟨d0, d1, d2, d3, df⟩ := cells4 A9.out
        go_wp2_with fail
        refine (H3.out (by first | rfl | trivial) _ za zc PA9.out).mono ?_
        rintro e WA ⟨rfl, ba⟩
        have BA := Lib.hid (Below.next B9.out ba)
        clear d0 d1 d2 d3 df ba A9 PA9 B9 H3
        go_wp2
        go_ret
        exact ⟨rfl, BA.out⟩
      · have e3b : (E3 != 0) = true := by simpa using e3
        clear A9 PA9 H3
        go_wp2
        go_ret
        exact ⟨rfl, B9.out⟩

theorem takeR_left (q : Int) (s : ByteArray) (x : Int) : (takeR q s x).2.1.size ≤ s.size := by
  have hvl := (var_left 3 0 0 s x).1
  rcases hv : varT 3 0 0 s x with ⟨n, s1, x1⟩
  rcases hr : rawT s1 x1 n with ⟨t, s2, x2⟩
  have h2 := rawT_left s1 x1 n
  rw [hv] at hvl
  rw [hr] at h2
  dsimp only at hvl h2
  rw [takeR_parts q s x n s1 x1 t s2 x2 hv hr]
  split
  · exact Nat.le_trans h2 hvl
  · exact Nat.le_trans h2 hvl
theorem head_left {k : Int} {s : ByteArray} {n : Int} {ps : List Pr} {s1 : ByteArray} {x1 : Int} {t1 : ByteArray} {y1 y2 : Int} (hh : HeadOf k s 0 n ps s1 x1 t1 y1 y2) : s1.size ≤ s.size := by
  obtain ⟨hi, hp, he⟩ := hh
  have h1 : t1.size ≤ s.size := by
    have := rawT_left s 0 2
    unfold idT at hi
    injection hi with _ hi
    injection hi with hi _
    rw [← hi]
    exact this
  have h2 := takeR_left (placeN k false) t1 y1
  rw [hp] at h2
  exact Nat.le_trans h2 h1

theorem walk (a0 : Int) (w0 : (Lit.int .i64 a0).wf = true) (a1 : ByteArray) (w1 : a1.size ≤ maxLen) (w : World) (hT : Tabs w) :
    Calls Tryd.prog 17 #[.int .i64 a0, .string a1] w fun e w' => e = .returned (.bool true) ∧ Below w.heap.size w w' := by
  have hz : (a1.extract 0 200).size ≤ 200 := by simp; omega
  generalize hs : a1.extract 0 200 = s at hz
  obtain ⟨n, ps, s1, x1, t1, y1, y2, hh⟩ := head_of 8 s 0
  rcases hr : runA8 [] s1 x1 with ⟨R, s2, x2⟩
  obtain ⟨N1, P1, L1, hC1⟩ : ∃ N P L, (if endT s2 x2 = 0 then (n, ps, R) else (0, [], [])) = (N, P, L) := ⟨_, _, _, rfl⟩
  obtain ⟨n', ps', s1', x1', t1', y1', y2', hh'⟩ := head_of 10 s 0
  rcases hr' : runF [] s1' x1' with ⟨R', s2', x2'⟩
  obtain ⟨N2, P2, L2, hC2⟩ : ∃ N P L, (if endT s2' x2' = 0 then (n', ps', R') else (0, [], [])) = (N, P, L) := ⟨_, _, _, rfl⟩
  have ack : ∃ (C : Sk) (E : Int), (∀ W, Tabs W → Calls Tryd.prog 72 #[.int .i64 a0, .string s] W (SackR W C E)) ∧ (E = 0 → str (sackL C) = s ∧ C.ok) := by
    by_cases hk : a0 = 9 ∨ a0 = 11
    · obtain ⟨m, qs, cs, E, v1, z1, u1, g1, g2, v2, z2, ho⟩ := sack_of a0 s
      have hv1 := head_left ho.h
      have hcs : cs.size ≤ 1000000000 := by
        have := rawT_size v1 z1 v1.size
        rw [ho.r] at this
        dsimp only at this
        omega
      refine ⟨_, E, fun W hW => sack_calls W a0 s hW hk hcs ho _ rfl, fun hE => ?_⟩
      rw [if_pos hE]
      obtain ⟨h1, h2, h3⟩ := ho
      rw [hE] at h3
      obtain ⟨e1, e2⟩ := end_zero h3
      have hz2 : z2 = 0 := by
        split at e1
        · exact e1
        · exact absurd e1 (failed_ne z2)
      subst hz2
      obtain ⟨rfl, f1, f2⟩ := raw_invX (n := v1.size) h2
      obtain ⟨i1, i2, i3, i4, i5, i6⟩ := head_inv h1
      have hv2 : v2.data.toList = [] := List.eq_nil_of_length_eq_zero (by rw [ba_size]; exact e2)
      rw [hv2, List.append_nil] at f1
      have hcz : cs.size ≤ 65535 := by
        have := congrArg List.length f1
        rw [ba_size, ba_size] at this
        omega
      refine ⟨?_, ⟨i2, by show m < 4294967296; omega, hcz, i4, by show qs.length ≤ 1000; omega⟩⟩
      rw [ba_str s, i1, f1]
      unfold sackL
      simp
    · exact ⟨skZ, 5, fun W _ => sack_arg W a0 s (fun h => hk (.inl h)) (fun h => hk (.inr h)), fun h => absurd h (by decide)⟩
  obtain ⟨C, E3, hP3, h3⟩ := ack
  refine walk1 a0 a1 w1 w hT s hs N1 P1 L1 _ (fun W hW => sparse_calls W s hW (by omega) hh (head_left hh) R s2 x2 hr _ rfl N1 P1 L1 hC1) ?_ N2 P2 L2 _ (fun W hW => unparse_calls W s hW (by omega) hh' (head_left hh') R' s2' x2' hr' _ rfl N2 P2 L2 hC2) ?_ C E3 hP3 ?_
  · intro hE W va vc ua uc hv hu
    rw [if_pos hE] at hC1
    injection hC1 with g1 hC1
    injection hC1 with g2 g3
    subst g1 g2 g3
    obtain ⟨rfl, e2⟩ := end_zero hE
    obtain ⟨rfl, L, hRL, f2, f3, f4⟩ := run_inv8 _ [] s1 x1 R s2 (Nat.le_refl _) e2 hr
    rw [List.nil_append] at hRL
    rw [← hRL] at f2 f3 f4
    obtain ⟨i1, i2, i3, i4, i5, i6⟩ := head_inv hh
    have := stext_calls W n ps R va ps.length vc ua uc i2 (by omega) i4 (by omega) f3 (by omega) hv hu
    have e : str (subscL n ps R) = s := by
      rw [ba_str s, i1, f2]
      unfold subscL
      simp
    rw [e] at this
    exact this
  · intro hE W va vc ua uc hv hu
    rw [if_pos hE] at hC2
    injection hC2 with g1 hC2
    injection hC2 with g2 g3
    subst g1 g2 g3
    obtain ⟨rfl, e2⟩ := end_zero hE
    obtain ⟨rfl, L, hRL, f2, f3, f4⟩ := run_invF _ [] s1' x1' R' s2' (Nat.le_refl _) e2 hr'
    rw [List.nil_append] at hRL
    rw [← hRL] at f2 f3 f4
    obtain ⟨i1, i2, i3, i4, i5, i6⟩ := head_inv hh'
    have := untext_calls W n' ps' R' va ps'.length vc ua uc i2 (by omega) i4 (by omega) f3 (by omega) hv hu
    have e : str (unsubL n' ps' R') = s := by
      rw [ba_str s, i1, f2]
      unfold unsubL
      simp
    rw [e] at this
    exact this
  · intro hE W va vc hv
    obtain ⟨e, ok⟩ := h3 hE
    have := sacktext_calls W C va C.ps.length vc ok hv
    rw [e] at this
    exact this

set_option maxRecDepth 100000 in
set_option maxHeartbeats 2000000 in
theorem lifted (os : Os) (started : os.Started) (H : Type) (enc : TypeId × Value → H) (F : Stop.Interp) :
    ReturnsInHanded {} Tryd.checked os 17 .any ((OpenSpec.ofChange Rows.subscribeOneSpec).preRow enc Tryd.prog Tryd.f17 Rows.subscribeOneRow.domain false Rows.subscribeOneRow.laid) (((OpenSpec.ofChange Rows.subscribeOneSpec).at F).post enc Tryd.prog Tryd.f17 false true false false) := by
  obtain ⟨places, hx⟩ := reads os enc
  refine returnsInHanded_of_row (C := Tryd.checked) (s := OpenSpec.ofChange Rows.subscribeOneSpec) own started (by kernel_rfl) Tryd.func17
    (witness_row_at (enc := enc) (C := Tryd.checked) false (laidWorld os) #[.int .i64 0, .string ByteArray.empty] rfl (by kernel_rfl) (by kernel_rfl) (by kernel_rfl)
      (OpenSpec.preRow_of_cond 8 hx (by kernel_rfl) (fun k hk => by cases hk) (by kernel_rfl) (laid_met os))) ?_
  intro W base args ds gs before hval0 hW _ _ _ hL _ _
  have hval : ∀ (j : Nat) t v, Tryd.f17.params[j]? = some t → args[j]? = some v → Value.okWide Tryd.prog W .any base t v := hval0
  have hW' := hW
  obtain ⟨p, q, hA0, hV, rfl, hfz, hnd⟩ := hW
  have hA : DataW.TrodAll enc Tryd.prog W 0 (fun _ => true) true Tryd.f17.params.toList args.toList ds p := hA0
  rw [Tryd.params17] at hA hval
  obtain ⟨v0, vs0, d0, ds0, p0, q0, hargs, rfl, rfl, h0, r0⟩ := trodAll_cons hA
  obtain ⟨v1, vs1, d1, ds1, p1, q1, rfl, rfl, rfl, h1, r1⟩ := trodAll_cons r0
  obtain ⟨rfl, rfl, rfl⟩ := trodAll_nil r1
  obtain rfl : args = #[v0, v1] := by cases args; simp_all
  obtain ⟨rfl, rfl⟩ := trodVars_none hV
  obtain ⟨a0, rfl, rfl, rfl, w0⟩ := open_int Tryd.underlying3 (hval 0 3 v0 rfl rfl) h0
  obtain ⟨a1, rfl, rfl, rfl, w1⟩ := open_string Tryd.underlying9 (hval 1 9 v1 rfl rfl) h1
  clear hA0 hval0
  have hT : Tabs W := utf8Tabs_of_readsT (U8Types.of196 Tryd.lays196) ⟨by kernel_rfl, by kernel_rfl, by kernel_rfl, by kernel_rfl, by kernel_rfl, by kernel_rfl, by kernel_rfl⟩ (first_eq ▸ Lib.laidMet.reads hL (.tail _ (.head _))) (accept_eq ▸ Lib.laidMet.reads hL (.head _))
  refine (walk a0 w0 a1 w1 W  hT).mono fun e W' ⟨he, bel⟩ => ?_
  subst he
  exact ⟨_, rfl, _, _, _, [], _, [], hW', trodAll_mk1 (shut_bool Tryd.underlying4 _), (trodAll_cons_mk (shut_int Tryd.underlying3 w0) (trodAll_cons_mk (shut_string Tryd.underlying9 w1) trodAll_mk0)), rfl, bel.frame _, fun h => by cases h⟩

theorem said : Rows.SubscribeOneSaid :=
  OpenClaim.holds_of_cond 17 Tryd.f17 rfl rfl rfl rfl rfl rfl rfl ⟨rfl, rfl, rfl, rfl, rfl⟩ rfl rfl rfl rfl rfl (by kernel_rfl) Tryd.func17 closed
    (of_decide_eq_true (by kernel_rfl)) (by unfold Func.isWrapper; first | (rw [if_pos (by decide +kernel)]; kernel_rfl) | (rw [if_neg (by decide +kernel)]; exact ⟨rfl, rfl⟩))
    (fun os started H enc _ F => by rw [OpenClaim.pre_eq_preRow]; exact lifted os started H enc F)

theorem plain (f : FuncId) (fn : Func) (hf : Tryd.pinned.checked.prog.funcNamed Tryd.f17.name = some f) (hfn : Tryd.pinned.checked.prog.funcs[f]? = some fn) :
    false = Tryd.pinned.checked.prog.looks [] ∧ ∀ (j : Nat) t, fn.params[j]? = some t → Tryd.pinned.checked.prog.wantsStandIn t = false := by
  obtain rfl : f = 17 := Option.some.inj ((show Tryd.prog.funcNamed Tryd.f17.name = some 17 by kernel_rfl).symm.trans hf) |>.symm
  obtain rfl : fn = Tryd.f17 := (Option.some.inj (Tryd.func17.symm.trans hfn)).symm
  refine ⟨fac_looks, fun j t ht => ?_⟩
  rw [Tryd.params17] at ht
  have hm : t = 3 ∨ t = 9 := by simpa using Array.mem_of_getElem? ht
  rcases hm with rfl | rfl
  · exact (show Tryd.prog.wantsStandIn 3 = false by kernel_rfl)
  · exact (show Tryd.prog.wantsStandIn 9 = false by kernel_rfl)

end Go.Proofs.YtdbocpkeafcmaaaDoor.subscribeOne
namespace Go.Proofs.YtdbocpkeafcmaaaDoor
/-- The statement. -/
theorem subscribeOne_holds : Rows.SubscribeOneCardSaid :=
  Claim7.holds_tied_plain_at .later [] _ _ _ _ subscribeOne.said (fun _ h => by cases h) subscribeOne.wft (fun _ h => by cases h) subscribeOne_row_tie rfl ⟨rfl, rfl⟩ fac_main rfl subscribeOne.plain subscribeOne.goes
#print axioms subscribeOne_holds
end Go.Proofs.YtdbocpkeafcmaaaDoor
