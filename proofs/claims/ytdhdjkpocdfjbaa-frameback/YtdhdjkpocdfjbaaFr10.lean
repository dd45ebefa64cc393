/-
  The document's packets of a stream. (No statement: a contract that the proofs of the statements use.)
-/
import Derived.Test.YtdhdjkpocdfjbaaFr9
import Derived.Test.YtdhdjkpocdfjbaaRef1c
namespace Go.Proofs.Ytdhdjkpocdfjbaa
open Go.RowKit

theorem runF_left (most : Int) : ∀ (n : Nat) (bs : List UInt8), (runF most n bs).2.2.length ≤ bs.length
  | 0, bs => Nat.le_refl _
  | n + 1, bs => by
    generalize hF : nextF most bs = R
    obtain ⟨F, y⟩ := R
    by_cases hy : y = 0
    · subst hy
      rw [runF_go most n bs F hF]
      have h1 := runF_left most n (leftR F 0 bs)
      have h2 := left_lt most bs F hF
      show (runF most n (leftR F 0 bs)).2.2.length ≤ bs.length
      omega
    · rw [runF_end most n bs F y hF hy]
      exact Nat.le_refl _

/-- What holds at the loop's head of All. -/
structure RefJ (w : World) (most : Int) (R : List Fm × Int × List UInt8) (N : Nat) (v : Value) (wr : World) (k : Nat) (acc : List Fm) (l : List UInt8) : Prop where
  own : OwnF w.heap.size 47 wr v acc
  bel : Below w.heap.size w wr
  run : (acc ++ (runF most (N + 1 - k) l).1, (runF most (N + 1 - k) l).2) = R
  len : l.length + k ≤ N
  cnt : acc.length ≤ k

/-- What All answers, and leaves. -/
def AllD (w : World) (N : Nat) (R : List Fm × Int × List UInt8) (e : Ending) (w' : World) : Prop :=
  ∃ v, e = .returned (.tuple #[v, .int .i64 R.2.1, .int .i64 ((N : Int) - R.2.2.length)]) ∧ OwnF w.heap.size 47 w' v R.1 ∧ Below w.heap.size w w'

set_option maxRecDepth 100000 in
set_option maxHeartbeats 1000000 in
theorem r5all_calls (w : World) (s : List UInt8) (most : Int) (hs : s.length ≤ 300) (R : List Fm × Int × List UInt8) (hR : runF most (s.length + 1) s = R) :
    Calls Try.prog 12 #[.string (str s), .int .i64 most] w (AllD w s.length R) := by
  have hJ : RefJ w most R s.length (.slice (some ⟨w.heap.size, 0, none⟩) 0 0) (w.alloc (.cells #[] 47)) 0 [] s := ⟨OwnF.empty w 47, below_one w _, by rw [List.nil_append]; exact hR, by omega, by simp⟩
  have HJ := Lib.hid hJ
  have hsz := str_size s
  generalize hN : s.length = N at *
  have hNs : (str s).size = N := hsz
  clear hJ hR hsz hN
  go_enter Try.func12, Try.ntmps12
  go_wp2
  go_loopw [7, 8, 9] (fun u lf i wr => ∃ (k : Nat) (acc : List Fm) (a : Option Addr) (c : Nat) (l : List UInt8), u = .slice a acc.length c ∧ lf = .string (str l) ∧ i = .int .i64 k ∧ RefJ w most R N (.slice a acc.length c) wr k acc l) (fun _ _ i _ => N + 1 - (intOf i).toNat)
  case atStart => exact ⟨0, [], _, 0, s, rfl, rfl, rfl, HJ.out⟩
  case round =>
    clear HJ
    obtain ⟨k, acc, a1, c1, l, rfl, rfl, rfl, hj⟩ := hrel
    have hk : k ≤ N := by have := hj.len; omega
    have hbl := hj.len
    have HJ := Lib.hid hj
    clear hj
    cases l with
    | nil =>
      have hrun := HJ.out.run
      rw [show N + 1 - k = (N - k) + 1 by omega, runF_end most (N - k) [] (0, 0, []) 1 rfl (by decide), List.append_nil] at hrun
      subst hrun
      clear hbl
      have hO := HJ.out.own
      have hB := HJ.out.bel
      have HO := Lib.hid hO
      have HB := Lib.hid hB
      rw [show str [] = ⟨#[]⟩ from rfl]
      clear hO hB HJ
      go_wp2
      go_ret3
      exact ⟨_, by simp, HO.out, HB.out⟩
    | cons c t =>
      have hc := c.toNat_lt
      have hSz : (str (c :: t)).size = t.length + 1 := by rw [str_size, List.length_cons]
      have hS1 : (str (c :: t)).toList.isEmpty = false := by rw [str_list]; rfl
      have hS2 : ¬ (str (c :: t)).toList = [] := by rw [str_list]; simp
      have hS3 : (str (c :: t)).extract 1 (t.length + 1) = str t := by have := ba_drop (str (c :: t)) 1; rw [hSz, str_data] at this; exact this
      have hS4 : (str (c :: t))[0]'(by rw [hSz]; omega) = c := rfl
      have hpos : (0 : Int) < ((t.length + 1 : Nat) : Int) := by omega
      rw [List.length_cons] at hbl
      have hr5 := r5B_chk ((c.toNat : Int) / 16) ((c.toNat : Int) % 16) (by omega) (by omega)
      have hcd : ((c.toNat / 16 : Nat) : Int) = (c.toNat : Int) / 16 := by omega
      have hcm : ((c.toNat % 16 : Nat) : Int) = (c.toNat : Int) % 16 := by omega
      rw [← hcd, ← hcm] at hr5
      generalize hV : varT 3 0 0 (str t) 0 = V
      obtain ⟨n, s', x⟩ := V
      have hnb := varT_small t 0 rfl n s' x hV
      have hfu : N + 1 - k = (N - k) + 1 := by omega
      have HR5 := Lib.hid hr5
      have HV := Lib.hid hV
      have HFU := Lib.hid hfu
      have HCD := Lib.hid hcd
      have HCM := Lib.hid hcm
      clear hr5 hV hfu hcd hcm
      generalize hK : chkB ((c.toNat / 16 : Nat) : Int) ((c.toNat % 16 : Nat) : Int) = K
      have HK := Lib.hid hK
      clear hK
      generalize hS : str (c :: t) = S at *
      clear hS
      go_wp2_with fail
      refine (r5check_calls _ _ _ (by omega) (by omega)).mono ?_
      rw [← HCD.out, ← HCM.out, HR5.out, HK.out]
      rintro e w2 ⟨rfl, rfl⟩
      rw [HCD.out, HCM.out]
      cases K
      · have hrun := HJ.out.run
        rw [HFU.out, runF_end most (N - k) (c :: t) (0, 0, []) 2 (next_bad HK.out) (by decide), List.append_nil] at hrun
        subst hrun
        have HO := Lib.hid HJ.out.own
        have HB := Lib.hid HJ.out.bel
        clear HJ HV HK
        go_wp2
        go_ret3
        exact ⟨_, by simp, HO.out, HB.out⟩
      · go_wp2_with fail
        refine (r1takevar_calls _ (str t) 0 n s' x HV.out).mono ?_
        rintro e w3 ⟨rfl, b3⟩
        have hz0 := HJ.out.bel.size
        have hz3 := b3.size
        have b4 := b3.alloc b3.size (.cells #[.string s', .int .i64 x] 55)
        have HO := Lib.hid (HJ.out.own.below b4)
        have HB := Lib.hid (Below.trans HJ.out.bel (b4.mono hz0))
        have hcu := heap_alloc_new w3 (.cells #[.string s', .int .i64 x] 55)
        have hz4 : (w3.alloc (.cells #[.string s', .int .i64 x] 55)).heap.size = w3.heap.size + 1 := World.size_alloc ..
        clear b3 b4
        by_cases hx : x = 0
        · subst hx
          obtain ⟨m, e1, e2, e3, _⟩ := varT_one 3 0 0 t n s' HV.out
          obtain rfl : n = m := by simpa using e1
          have hlen : (varb 3 n).length + s'.size = t.length := by have := congrArg List.length e3; rw [List.length_append, ba_size] at this; omega
          have E3 := Lib.hid e3
          clear e1 e2 e3
          obtain ⟨u0, u1, uf0, uf1⟩ := pair_cells hcu
          clear hcu
          by_cases hm : most < ((1 + (varb 3 n).length + n : Nat) : Int)
          · have hrun := HJ.out.run
            rw [HFU.out, runF_end most (N - k) (c :: t) (0, 0, []) 4 (next_big HK.out HV.out hm) (by decide), List.append_nil] at hrun
            subst hrun
            have hm' : most < ((t.length + 1 : Nat) : Int) - (s'.size : Int) + (n : Int) := by omega
            clear HJ HV HK hm
            generalize (varb 3 n).length = vl at *
            go_wp2
            go_ret3
            exact ⟨_, by simp, HO.out, HB.out⟩
          · have hm' : ((t.length + 1 : Nat) : Int) - (s'.size : Int) + (n : Int) ≤ most := by omega
            by_cases hl : s'.size < n
            · have hrun := HJ.out.run
              rw [HFU.out, runF_end most (N - k) (c :: t) (0, 0, []) 1 (next_cut HK.out HV.out hm (by rw [List.length_cons]; omega)) (by decide), List.append_nil] at hrun
              subst hrun
              clear HJ HV HK hm
              generalize (varb 3 n).length = vl at *
              go_wp2
              go_ret3
              exact ⟨_, by simp, HO.out, HB.out⟩
            · have hnx := next_ok HK.out HV.out hm (by rw [List.length_cons]; omega)
              have hrun := HJ.out.run
              rw [HFU.out, runF_go most (N - k) (c :: t) _ hnx] at hrun
              have hcnt := HJ.out.cnt
              have htk : (t.drop (varb 3 n).length).take n = s'.data.toList.take n := by
                conv => lhs; rw [E3.out]
                rw [List.drop_left]
              have hlf : leftR (c.toNat / 16, c.toNat % 16, (t.drop (varb 3 n).length).take n) 0 (c :: t) = s'.data.toList.drop n := by
                unfold leftR
                rw [if_pos rfl]
                dsimp only
                have hn : ((t.drop (varb 3 n).length).take n).length = n := by rw [htk, List.length_take, ba_size]; omega
                rw [hn, show 1 + (varb 3 n).length + n = ((varb 3 n).length + n) + 1 by omega, List.drop_succ_cons, ← List.drop_drop]
                conv => lhs; rw [E3.out]
                rw [List.drop_left]
              rw [hlf, htk] at hrun
              have hex1 : s'.extract 0 n = str (s'.data.toList.take n) := ba_take s' n
              have hex2 : s'.extract n s'.size = str (s'.data.toList.drop n) := ba_drop s' n
              have hll : (s'.data.toList.drop n).length + (k + 1) ≤ N := by rw [List.length_drop, ba_size]; omega
              have HLL := Lib.hid hll
              have HRUN := Lib.hid hrun
              have hsn : n ≤ s'.size := by omega
              clear hrun hnx hlf htk HJ HV HK hm hll E3
              generalize s'.data.toList.take n = body at *
              generalize s'.data.toList.drop n = rest at *
              generalize (varb 3 n).length = vl at *
              have haccl : acc.length ≤ 300 := by omega
              obtain ⟨i0, hi, hz0', hz1, hz2⟩ := info_parts Try.infoRFrame
              have hn3 := three_new (w3.alloc (.cells #[.string s', .int .i64 0] 55)) (.int .i64 ((c.toNat : Int) / 16)) (.int .i64 ((c.toNat : Int) % 16)) (.string (str body)) 47
              simp only [World.size_alloc] at hn3
              have b5 := below_one (w3.alloc (.cells #[.string s', .int .i64 0] 55)) (.cells #[.int .i64 ((c.toNat : Int) / 16), .int .i64 ((c.toNat : Int) % 16), .string (str body)] 47)
              have HO5 := Lib.hid (HO.out.below b5)
              have HB5 := Lib.hid (HB.out.trans (b5.mono (by omega)))
              have hs5 : w.heap.size ≤ ((w3.alloc (.cells #[.string s', .int .i64 0] 55)).alloc (.cells #[.int .i64 ((c.toNat : Int) / 16), .int .i64 ((c.toNat : Int) % 16), .string (str body)] 47)).heap.size := by simp; omega
              have hcu5 := (b5.block w3.heap.size (by omega)).trans (heap_alloc_new w3 (.cells #[.string s', .int .i64 0] 55))
              have HCU5 := Lib.hid hcu5
              have HN3 := Lib.hid hn3
              clear b5 hcu5 hn3 HO HB
              go_wp2_with ((at_builtin; refine wpList_append_own_at _ rfl _ _ 31 rfl w.heap.size 47 i0 (.agg #[.int .i64 0, .int .i64 0, .string ⟨#[]⟩]) 3 32 Try.underlying31 hi hz0' hz1 hz2 rfl (by decide) _ _ _ rfl HO5.out ⟨w3.heap.size + 1, 0, none⟩ 1 1 [.int .i64 ((c.toNat : Int) / 16), .int .i64 ((c.toNat : Int) % 16), .string (str body)] rfl rfl HN3.out (by simp [Value.oneCell']) (by unfold maxLen; omega) (by omega) hs5 ?_))
              intro v' w7 hown8 hgrow _ _
              rw [← HCD.out, ← HCM.out] at hown8
              have hown9 : OwnF w.heap.size 47 w7 v' (acc ++ [(c.toNat / 16, c.toNat % 16, body)]) := own_snocF hown8
              have hcne : (Value.slice a1 acc.length c1).ownBlock ≠ some w3.heap.size := by
                intro hg
                rcases HO5.out.2 with ⟨e, _⟩ | ⟨g', cap', cur', e, _, hh, _⟩
                · rw [e] at hg; simp [Value.ownBlock] at hg
                · rw [e] at hg
                  obtain rfl : g' = w3.heap.size := by simpa [Value.ownBlock] using hg
                  rw [HCU5.out] at hh
                  injection hh with hh
                  injection hh with _ hh
                  exact absurd hh (by decide)
              have hcu7 := (hgrow.block w3.heap.size (lt_of_block HCU5.out) (fun e => hcne e.symm)).trans HCU5.out
              obtain ⟨v0, v1, vf0, vf1⟩ := pair_cells hcu7
              have hbel9 : Below w.heap.size w w7 := HB5.out.grown hgrow hs5 (fun g hg => (World.ownsRow.lt HO5.out g hg).1)
              obtain ⟨a', c', hv'⟩ := hown9.form
              have hJ9 : RefJ w most R N (.slice a' (acc ++ [(c.toNat / 16, c.toNat % 16, body)]).length c') w7 (k + 1) (acc ++ [(c.toNat / 16, c.toNat % 16, body)]) rest := by
                refine ⟨hv' ▸ hown9, hbel9, ?_, HLL.out, by simp; omega⟩
                have := HRUN.out
                rw [← this, show N + 1 - (k + 1) = N - k by omega, List.append_assoc]
                rfl
              have HJ9 := Lib.hid hJ9
              rw [hv']
              clear hJ9 hv' hbel9 hcu7 hcne hown9 hown8 hgrow HB5 HO5 HCU5 HN3 HRUN HLL u0 u1 uf0 uf1
              go_wp2
              go_roundw
              case rel => exact ⟨k + 1, _, a', c', rest, rfl, rfl, by go_num, HJ9.out⟩
              case measure => simp [intOf]; omega
        · have hrun := HJ.out.run
          rw [HFU.out, runF_end most (N - k) (c :: t) (0, 0, []) x (next_num HK.out HV.out hx) hx, List.append_nil] at hrun
          subst hrun
          have hxb : (x != 0) = true := by simpa using hx
          clear HJ HV HK hx
          go_wp2_with fail
          obtain ⟨u0, u1, uf0, uf1⟩ := pair_cells hcu
          clear hcu
          go_quiet (fail)
          go_wp2
          go_ret3
          exact ⟨_, by simp, HO.out, drewN_below HB.out _⟩

end Go.Proofs.Ytdhdjkpocdfjbaa
