/-
  Answers of subscribe: mayAll, ParseAck, Text. (No statement: contracts that the proofs of the statements use.)
-/
import Derived.Test.YtephoadjnmmbnaaDoorJSub7
namespace Go.Proofs.YtephoadjnmmbnaaDoor
open Go.RowKit

/-- May all codes be said? -/
def allB (k : Int) (l : List UInt8) : Bool := l.all fun c => mayB k c.toNat
theorem allB_step (k : Int) (l : List UInt8) (j : Nat) (h : j < l.length) (ha : allB k (l.take j) = true) : allB k (l.take (j + 1)) = mayB k (l[j]).toNat := by
  unfold allB at *
  rw [List.take_succ_eq_append_getElem h, List.all_append, ha]
  simp
theorem allB_no (k : Int) (l : List UInt8) (j : Nat) (h : j < l.length) (hm : mayB k (l[j]).toNat = false) : allB k l = false := by
  unfold allB
  rw [List.all_eq_false]
  exact ⟨l[j], List.getElem_mem h, by rw [hm]; simp⟩

set_option maxHeartbeats 1000000 in
theorem mayAll_calls (w : World) (k : Int) (s : ByteArray) (hsz : s.size ≤ 1000000000) : Calls Tryd.prog 144 #[.int .i64 k, .string s] w fun e w' => e = .returned (.bool (allB k s.data.toList)) ∧ w = w' := by
  generalize hB : allB k s.data.toList = B
  have HB := Lib.hid hB
  clear hB
  go_enter Tryd.func144, Tryd.ntmps144
  go_wp2
  go_loopw [5, 8] (fun _ j wr => ∃ n : Nat, n ≤ s.size ∧ j = .int .i64 n ∧ allB k (s.data.toList.take n) = true ∧ wr = w) (fun _ j _ => s.size - (intOf j).toNat)
  case atStart => exact ⟨0, by omega, rfl, rfl, rfl⟩
  case round =>
    obtain ⟨n, hn, rfl, ha, rfl⟩ := hrel
    by_cases hlt : n < s.size
    · have hl : n < s.data.toList.length := by rw [ba_size]; exact hlt
      have hs := allB_step k s.data.toList n hl ha
      have hno := allB_no k s.data.toList n hl
      have hidx : s.data.toList[n] = s[n] := rfl
      rw [hidx] at hs hno
      have HS := Lib.hid hs
      have HNO := Lib.hid hno
      have HM := Lib.hid (fun W => may_calls W k (s[n].toNat : Int))
      clear hs hno ha hidx
      cases hm : mayB k (s[n].toNat : Int)
      · have hBf := HNO.out hm
        rw [HB.out] at hBf
        subst hBf
        have HMM := Lib.hid hm
        clear hm HNO HS
        go_wp2_with fail
        refine (HM.out _).mono ?_
        rw [HMM.out]
        rintro e w1 ⟨rfl, rfl⟩
        go_wp2
        go_ret
        exact ⟨rfl, rfl⟩
      · have HMM := Lib.hid hm
        have HN := Lib.hid (HS.out.trans hm)
        clear hm HNO HS
        go_wp2_with fail
        refine (HM.out _).mono ?_
        rw [HMM.out]
        rintro e w1 ⟨rfl, rfl⟩
        go_wp2
        go_roundw
        case rel => exact ⟨n + 1, by omega, by go_num, HN.out, by first | rfl | trivial⟩
        case measure => simp [intOf]; omega
    · obtain rfl : n = s.size := by omega
      have ht : s.data.toList.take s.size = s.data.toList := List.take_of_length_le (by rw [ba_size]; exact Nat.le_refl _)
      rw [ht, HB.out] at ha
      subst ha
      go_wp2
      go_ret
      exact ⟨rfl, rfl⟩

/-- An answer. -/
structure Sk where
  k : Int
  id : Int
  ps : List Pr
  cs : ByteArray
def skV (c : Sk) (v : Value) : Value := .agg #[.int .i64 c.k, .int .u32 c.id, v, .string c.cs]
def skZ : Sk := ⟨0, 0, [], ⟨#[]⟩⟩
abbrev sk0 : Array Value := #[.int .i64 0, .int .u32 0, .slice none 0 0, .string ⟨#[]⟩]
/-- The error is told, or the answer. -/
def SackR (w : World) (c : Sk) (E : Int) (e : Ending) (w' : World) : Prop :=
  ∃ v, e = .returned (.tuple #[skV c v, .int .i64 E]) ∧ OwnP w.heap.size 50 w' v c.ps ∧ Below w.heap.size w w'

set_option maxHeartbeats 1000000 in
theorem sack_arg (w : World) (k : Int) (body : ByteArray) (h9 : k ≠ 9) (h11 : k ≠ 11) : Calls Tryd.prog 81 #[.int .i64 k, .string body] w (SackR w skZ 5) := by
  have g9 : (k != 9) = true := by simpa using h9
  have g11 : (k != 11) = true := by simpa using h11
  have B1 := Lib.hid (below_one w (.cells sk0 113))
  unfold skZ
  go_enter Tryd.func81, Tryd.ntmps81
  go_wp2
  refine bodyPost_ret (v := .tuple #[.agg #[.int .i64 0, .int .u32 0, .slice none 0 0, .string ⟨#[]⟩], .int .i64 5]) ?_ rfl ⟨.slice none 0 0, rfl, World.ownsRow_nil _ _ _ _, ?_⟩
  · simp [results, Tryd.results81, go_sem]
  · exact B1.out

/-- The parts of an answer's body, as they are taken. -/
structure SackOf (k : Int) (body : ByteArray) (n : Int) (ps : List Pr) (cs : ByteArray) (E : Int) (s1 : ByteArray) (x1 : Int) (t1 : ByteArray) (y1 y2 : Int) (s2 : ByteArray) (x2 : Int) : Prop where
  h : HeadOf k body 0 n ps s1 x1 t1 y1 y2
  r : rawT s1 x1 s1.size = (cs, s2, x2)
  e : endT s2 (if allB k cs.data.toList = true then x2 else failed x2 2) = E
theorem sack_of (k : Int) (body : ByteArray) : ∃ n ps cs E s1 x1 t1 y1 y2 s2 x2, SackOf k body n ps cs E s1 x1 t1 y1 y2 s2 x2 := by
  obtain ⟨n, ps, s1, x1, t1, y1, y2, hh⟩ := head_of k body 0
  rcases hr : rawT s1 x1 s1.size with ⟨cs, s2, x2⟩
  exact ⟨n, ps, cs, _, s1, x1, t1, y1, y2, s2, x2, ⟨hh, hr, rfl⟩⟩

set_option maxRecDepth 100000 in
set_option maxHeartbeats 4000000 in
theorem sack_calls (w : World) (k : Int) (body : ByteArray) (hT : Tabs w) (hk : k = 9 ∨ k = 11) {n : Int} {ps : List Pr} {cs : ByteArray} {E : Int} {s1 : ByteArray} {x1 : Int} {t1 : ByteArray} {y1 y2 : Int} {s2 : ByteArray} {x2 : Int} (hcs : cs.size ≤ 1000000000) (ho : SackOf k body n ps cs E s1 x1 t1 y1 y2 s2 x2) (C : Sk) (hC : (if E = 0 then ⟨k, n, ps, cs⟩ else skZ) = C) :
    Calls Tryd.prog 81 #[.int .i64 k, .string body] w (SackR w C E) := by
  obtain ⟨hh, hr, he⟩ := ho
  have HH := Lib.hid hh
  have HRR := Lib.hid hr
  have HC := Lib.hid hC
  have HT := Lib.hid hT
  clear hh hr hC hT
  have g : ((k != 9) = false) ∨ ((k != 9) = true ∧ (k != 11) = false) := by
    rcases hk with rfl | rfl
    · exact .inl rfl
    · exact .inr ⟨rfl, rfl⟩
  cases hall : allB k cs.data.toList
  · rw [hall] at he
    have HA := Lib.hid hall
    rw [if_neg (by simp)] at he
    have HE := Lib.hid he
    clear hall he
    rcases g with g9 | ⟨g9, g11⟩
    all_goals
      go_enter Tryd.func81, Tryd.ntmps81
      go_wp2_with fail
      refine (over_calls _ _).mono ?_
      rintro e W1 ⟨rfl, rfl⟩
      have i1 := InAt.new (w.alloc (.cells sk0 113)) body
      have R1 := Lib.hid ((Below.heap_alloc (w.alloc (.cells sk0 113)) (.cells #[.string body, .int .i64 0] 155) w.heap.size (by simp)).trans (heap_alloc_new w (.cells sk0 113)))
      have B1 := Lib.hid (below_two w (.cells sk0 113) (.cells #[.string body, .int .i64 0] 155))
      rw [World.size_alloc] at i1 ⊢
      generalize ((w.alloc (.cells sk0 113)).alloc (.cells #[.string body, .int .i64 0] 155)) = W1 at *
      generalize hp : w.heap.size + 1 = p at *
      have hpl : w.heap.size < p := by omega
      clear hp
      have N1 := Lib.hid (Ps.start w 113 sk0 p #[.int .i64 k, .int .u32 0, .slice none 0 0, .string ⟨#[]⟩] body 0 W1 i1 R1.out B1.out hpl)
      clear i1 R1 B1
      go_wp2_with fail
      generalize W1.alloc (.cells #[.int .i64 k, .int .u32 0, .slice none 0 0, .string ⟨#[]⟩] 113) = U1 at *
      generalize W1.heap.size = cb at *
      refine (takeHead_calls _ p body 0 k HH.out N1.out.inn (HT.out.below N1.out.bel)).mono ?_
      rintro e V2 ⟨pa, pc, rfl, own2, j2, c2⟩
      have K2 := Lib.hid (N1.out.took j2 c2)
      have OO := Lib.hid (own2.mono (show cb + 1 ≤ _ from lt_of_block N1.out.loc))
      clear own2 j2 c2 N1
      obtain ⟨d0, d1, d2, d3, df⟩ := cells4 K2.out.loc
      have hcb0 := K2.out.hc
      have N2 := Lib.hid ((K2.out.put (A' := #[.int .i64 k, .int .u32 n, .slice none 0 0, .string ⟨#[]⟩]) 1 (.int .u32 n) rfl).putv (A' := #[.int .i64 k, .int .u32 n, .slice pa ps.length pc, .string ⟨#[]⟩]) 2 (.slice pa ps.length pc) (OO.out.set (by omega)) rfl)
      go_wp2_with fail
      generalize (V2.setCell ⟨cb, 1, none⟩ (.int .u32 n)).setCell ⟨cb, 2, none⟩ (.slice pa ps.length pc) = U2 at *
      clear d0 d1 d2 d3 df K2 OO
      refine (rest_calls _ p s1 x1 N2.out.inn).mono ?_
      rw [HRR.out]
      rintro e V3 ⟨rfl, i3, o3⟩
      have K3 := Lib.hid (N2.out.took i3 (Chg.of_only o3))
      obtain ⟨d0, d1, d2, d3, df⟩ := cells4 K3.out.loc
      clear i3 o3 N2
      have N3 := Lib.hid (K3.out.put (A' := #[.int .i64 k, .int .u32 n, .slice pa ps.length pc, .string cs]) 3 (.string cs) rfl)
      have dl := lt_of_block K3.out.loc
      go_wp2_with fail
      generalize V3.setCell ⟨cb, 3, none⟩ (.string cs) = U3 at *
      clear d0 d1 d2 d3 df K3 dl
      obtain ⟨d0, d1, d2, d3, df⟩ := cells4 N3.out.loc
      try go_wp2_with fail
      refine (mayAll_calls _ k cs hcs).mono ?_
      rw [HA.out]
      rintro e V4 ⟨rfl, rfl⟩
      clear d0 d1 d2 d3 df
      go_wp2_with fail
      refine (fail_calls _ p s2 x2 2 N3.out.inn).mono ?_
      rintro e V5 ⟨rfl, i5, o5⟩
      have N4 := Lib.hid (N3.out.took i5 (Chg.of_only o5))
      clear i5 o5 N3
      go_wp2_with fail
      refine (end_calls _ p s2 (failed x2 2) N4.out.inn).mono ?_
      rw [HE.out]
      rintro e w9 ⟨rfl, rfl⟩
      obtain ⟨r0, r1, r2, r3, rf⟩ := cells4 N4.out.res
      have rl := lt_of_block N4.out.res
      have hcb : w.heap.size < cb := Nat.lt_trans N4.out.hp N4.out.hc
      by_cases hE : E = 0
      · subst hE
        have hCC := HC.out
        rw [if_pos rfl] at hCC
        subst hCC
        obtain ⟨d0, d1, d2, d3, df⟩ := cells4 N4.out.loc
        have dl := lt_of_block N4.out.loc
        go_wp2
        refine bodyPost_ret (v := .tuple #[.agg #[.int .i64 k, .int .u32 n, .slice pa ps.length pc, .string cs], .int .i64 0]) ?_ rfl ⟨.slice pa ps.length pc, rfl, ?_, ?_⟩
        · simp [results, Tryd.results81, go_sem, r0, r1, r2, r3]
        · refine OwnP.mono ?_ (show w.heap.size ≤ cb + 1 by omega)
          iterate 4 (refine OwnP.set ?_ (Nat.lt_succ_of_lt hcb))
          exact N4.out.own
        · iterate 4 (refine below_set ?_ (Nat.le_refl _) _ _)
          exact N4.out.bel
      · have hEb : (E != 0) = true := by simpa using hE
        have hCC := HC.out
        rw [if_neg hE] at hCC
        subst hCC
        go_wp2
        refine bodyPost_ret (v := .tuple #[.agg #[.int .i64 0, .int .u32 0, .slice none 0 0, .string ⟨#[]⟩], .int .i64 E]) ?_ rfl ⟨.slice none 0 0, rfl, World.ownsRow_nil _ _ _ _, ?_⟩
        · simp [results, Tryd.results81, go_sem, r0, r1, r2, r3]
        · iterate 4 (refine below_set ?_ (Nat.le_refl _) _ _)
          exact N4.out.bel
  · rw [hall] at he
    have HA := Lib.hid hall
    rw [if_pos rfl] at he
    have HE := Lib.hid he
    clear hall he
    rcases g with g9 | ⟨g9, g11⟩
    all_goals
      go_enter Tryd.func81, Tryd.ntmps81
      go_wp2_with fail
      refine (over_calls _ _).mono ?_
      rintro e W1 ⟨rfl, rfl⟩
      have i1 := InAt.new (w.alloc (.cells sk0 113)) body
      have R1 := Lib.hid ((Below.heap_alloc (w.alloc (.cells sk0 113)) (.cells #[.string body, .int .i64 0] 155) w.heap.size (by simp)).trans (heap_alloc_new w (.cells sk0 113)))
      have B1 := Lib.hid (below_two w (.cells sk0 113) (.cells #[.string body, .int .i64 0] 155))
      rw [World.size_alloc] at i1 ⊢
      generalize ((w.alloc (.cells sk0 113)).alloc (.cells #[.string body, .int .i64 0] 155)) = W1 at *
      generalize hp : w.heap.size + 1 = p at *
      have hpl : w.heap.size < p := by omega
      clear hp
      have N1 := Lib.hid (Ps.start w 113 sk0 p #[.int .i64 k, .int .u32 0, .slice none 0 0, .string ⟨#[]⟩] body 0 W1 i1 R1.out B1.out hpl)
      clear i1 R1 B1
      go_wp2_with fail
      generalize W1.alloc (.cells #[.int .i64 k, .int .u32 0, .slice none 0 0, .string ⟨#[]⟩] 113) = U1 at *
      generalize W1.heap.size = cb at *
      refine (takeHead_calls _ p body 0 k HH.out N1.out.inn (HT.out.below N1.out.bel)).mono ?_
      rintro e V2 ⟨pa, pc, rfl, own2, j2, c2⟩
      have K2 := Lib.hid (N1.out.took j2 c2)
      have OO := Lib.hid (own2.mono (show cb + 1 ≤ _ from lt_of_block N1.out.loc))
      clear own2 j2 c2 N1
      obtain ⟨d0, d1, d2, d3, df⟩ := cells4 K2.out.loc
      have hcb0 := K2.out.hc
      have N2 := Lib.hid ((K2.out.put (A' := #[.int .i64 k, .int .u32 n, .slice none 0 0, .string ⟨#[]⟩]) 1 (.int .u32 n) rfl).putv (A' := #[.int .i64 k, .int .u32 n, .slice pa ps.length pc, .string ⟨#[]⟩]) 2 (.slice pa ps.length pc) (OO.out.set (by omega)) rfl)
      go_wp2_with fail
      generalize (V2.setCell ⟨cb, 1, none⟩ (.int .u32 n)).setCell ⟨cb, 2, none⟩ (.slice pa ps.length pc) = U2 at *
      clear d0 d1 d2 d3 df K2 OO
      refine (rest_calls _ p s1 x1 N2.out.inn).mono ?_
      rw [HRR.out]
      rintro e V3 ⟨rfl, i3, o3⟩
      have K3 := Lib.hid (N2.out.took i3 (Chg.of_only o3))
      obtain ⟨d0, d1, d2, d3, df⟩ := cells4 K3.out.loc
      clear i3 o3 N2
      have N3 := Lib.hid (K3.out.put (A' := #[.int .i64 k, .int .u32 n, .slice pa ps.length pc, .string cs]) 3 (.string cs) rfl)
      have dl := lt_of_block K3.out.loc
      go_wp2_with fail
      generalize V3.setCell ⟨cb, 3, none⟩ (.string cs) = U3 at *
      clear d0 d1 d2 d3 df K3 dl
      obtain ⟨d0, d1, d2, d3, df⟩ := cells4 N3.out.loc
      try go_wp2_with fail
      refine (mayAll_calls _ k cs hcs).mono ?_
      rw [HA.out]
      rintro e V4 ⟨rfl, rfl⟩
      clear d0 d1 d2 d3 df
      have N4 := N3
      clear N3
      go_wp2_with fail
      refine (end_calls _ p s2 x2 N4.out.inn).mono ?_
      rw [HE.out]
      rintro e w9 ⟨rfl, rfl⟩
      obtain ⟨r0, r1, r2, r3, rf⟩ := cells4 N4.out.res
      have rl := lt_of_block N4.out.res
      have hcb : w.heap.size < cb := Nat.lt_trans N4.out.hp N4.out.hc
      by_cases hE : E = 0
      · subst hE
        have hCC := HC.out
        rw [if_pos rfl] at hCC
        subst hCC
        obtain ⟨d0, d1, d2, d3, df⟩ := cells4 N4.out.loc
        have dl := lt_of_block N4.out.loc
        go_wp2
        refine bodyPost_ret (v := .tuple #[.agg #[.int .i64 k, .int .u32 n, .slice pa ps.length pc, .string cs], .int .i64 0]) ?_ rfl ⟨.slice pa ps.length pc, rfl, ?_, ?_⟩
        · simp [results, Tryd.results81, go_sem, r0, r1, r2, r3]
        · refine OwnP.mono ?_ (show w.heap.size ≤ cb + 1 by omega)
          iterate 4 (refine OwnP.set ?_ (Nat.lt_succ_of_lt hcb))
          exact N4.out.own
        · iterate 4 (refine below_set ?_ (Nat.le_refl _) _ _)
          exact N4.out.bel
      · have hEb : (E != 0) = true := by simpa using hE
        have hCC := HC.out
        rw [if_neg hE] at hCC
        subst hCC
        go_wp2
        refine bodyPost_ret (v := .tuple #[.agg #[.int .i64 0, .int .u32 0, .slice none 0 0, .string ⟨#[]⟩], .int .i64 E]) ?_ rfl ⟨.slice none 0 0, rfl, World.ownsRow_nil _ _ _ _, ?_⟩
        · simp [results, Tryd.results81, go_sem, r0, r1, r2, r3]
        · iterate 4 (refine below_set ?_ (Nat.le_refl _) _ _)
          exact N4.out.bel

/-- An answer's body. -/
def sackL (c : Sk) : List UInt8 := [] ++ two c.id ++ propsL c.ps ++ c.cs.data.toList
structure Sk.ok (c : Sk) : Prop where
  i0 : 0 ≤ c.id
  i1 : c.id < 4294967296
  cs : c.cs.size ≤ 65535
  ps : ∀ p ∈ c.ps, p.ok
  pn : c.ps.length ≤ 1000

set_option maxRecDepth 100000 in
set_option maxHeartbeats 4000000 in
theorem sacktext_calls (w : World) (c : Sk) (va : Option Addr) (vn vc : Nat) (ok : c.ok) (hv : PropsAt w (.slice va vn vc) c.ps) :
    Calls Tryd.prog 73 #[skV c (.slice va vn vc)] w fun e w' => e = .returned (.string (str (sackL c))) ∧ Below w.heap.size w w' := by
  obtain ⟨i0, i1, zc, okp, hpn⟩ := ok
  obtain ⟨k, i, ps, cs⟩ := c
  dsimp only at *
  unfold sackL skV
  dsimp only
  have T0 := Lib.hid (Tx.start w 113 #[.int .i64 k, .int .u32 i, .slice va vn vc, .string cs])
  have l1 := propsL_len ps okp hpn
  have HV := Lib.hid hv
  clear hv
  go_enter Tryd.func73, Tryd.ntmps73
  go_wp2_with fail
  generalize (w.alloc (.cells #[.int .i64 k, .int .u32 i, .slice va vn vc, .string cs] 113)).alloc (.cells #[.slice none 0 0] 57) = W0 at *
  obtain ⟨d0, d1, d2, d3, df⟩ := cells4 T0.out.box
  go_wp2_with fail
  refine (putHead_calls w _ (w.heap.size + 1) none [] i i0 i1 va vn vc ps HV.out T0.out.bel (by omega) (fun g hg => by cases hg) okp hpn T0.out.out (by simp)).mono ?_
  rintro e V1 ⟨rfl, r1, h1, s1⟩
  have T1 := Lib.hid (T0.out.put h1 s1)
  have lH : ([] ++ two i ++ propsL ps).length ≤ 140000010 := by rw [List.length_append, List.nil_append, two_len]; omega
  generalize hG : [] ++ two i ++ propsL ps = G at *
  have HG := Lib.hid hG
  clear h1 s1 d0 d1 d2 d3 df T0 hG
  obtain ⟨d0, d1, d2, d3, df⟩ := cells4 T1.out.box
  go_wp2_with fail
  refine (raw_calls _ (w.heap.size + 1) r1 G cs T1.out.out (by omega)).mono ?_
  rintro e V2 ⟨rfl, r2, h2, s2⟩
  have T2 := Lib.hid (T1.out.put h2 s2)
  clear h2 s2 d0 d1 d2 d3 df T1
  go_wp2_with fail
  refine (text_calls _ (w.heap.size + 1) r2 _ T2.out.out).mono ?_
  rintro e V4 ⟨rfl, rfl⟩
  have BF := Lib.hid T2.out.bel
  clear T2
  go_wp2
  go_ret
  exact ⟨ret_str (by rw [← HG.out]; simp), BF.out⟩

#print axioms sacktext_calls
end Go.Proofs.YtephoadjnmmbnaaDoor
