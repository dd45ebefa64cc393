/-
  The document's take of layer 3: numbers. (No statement: contracts that the proofs of the statements use.)
-/
import Derived.Test.YtacffjimkplieaaDoorJProp28
import Derived.Deep.CutRange
import Derived.BigRegion
namespace Go.Proofs.YtacffjimkplieaaDoor
open Go.RowKit

set_option maxRecDepth 100000 in
set_option maxHeartbeats 4000000 in
theorem r3take_3 (w : World) (s : ByteArray) (i : Int) (t s2 : ByteArray) (x2 : Int) (hr : rawT s 0 4 = (t, s2, x2)) (hk : (ruleL i).kind = 3) (C : Int) (hC : (if x2 ≠ 0 then x2 else if saysB i (numL t.data.toList) = false then 3 else 0) = C) :
    Calls Tryd.prog 126 #[cur s 0, .int .i64 i] w (TookR w s2 C ⟨i, numL t.data.toList, ⟨#[]⟩, ⟨#[]⟩⟩) := by
  have hT0 := TkC.start w s i
  have HN := Lib.hid (show ∀ W, Calls Tryd.prog 75 #[cur s 0, .int .i64 4] W fun e w' => e = .returned (.tuple #[cur s2 x2, .int .u32 (numL t.data.toList)]) ∧ Below W.heap.size W w' from fun W => r1number_calls W s 0 4 t s2 x2 hr (by decide))
  have HK := Lib.hid (show ∀ W, Calls Tryd.prog 132 #[.int .i64 i] W fun e w' => e = .returned (.int .i64 3) ∧ W = w' from fun W => hk ▸ r3kind_calls W i)
  generalize numL t.data.toList = N at *
  clear hr hk
  have HC := Lib.hid hC
  clear hC
  go_enter Tryd.func126, Tryd.ntmps126
  go_wp2_with fail
  refine (HK.out _).mono ?_
  rintro e y1 ⟨rfl, hy1⟩
  rw [hy1] at hT0
  clear hy1
  have HT0 := Lib.hid hT0
  clear hT0
  go_upto_region 6 with fail
  go_cut [7, 8] from 27 (fun v7 v8 wx => NumC w s i s2 x2 N v7 v8 wx)
  case first =>
    obtain ⟨c0, c1, -, -⟩ := pair_cells HT0.out.c2
    have hl0 := lt_of_block HT0.out.c6
    have hl1 : w.heap.size < y1.heap.size := by omega
    have hl2 : w.heap.size + 1 + 1 + 1 < y1.heap.size := hl0
    have HB := Lib.hid (show ∀ V o, TkC w s 0 i 0 ⟨#[]⟩ ⟨#[]⟩ V → TkC w s 0 i 0 ⟨#[]⟩ ⟨#[]⟩ (V.alloc o) from fun V o h => h.next (below_one V o))
    have T1 := Lib.hid (HB.out y1 (.cells #[.int .i64 0, .int .i64 1, .int .i64 2, .int .i64 4] 3) HT0.out).drew
    have T2 := Lib.hid (HB.out _ (.cells #[.int .i64 0, .int .i64 1, .int .i64 2, .int .i64 4] 3) (HB.out y1 (.cells #[.string ⟨#[]⟩, .int .i64 0] 140) HT0.out)).drew
    have T3 := Lib.hid (HB.out _ (.cells #[.string ⟨#[]⟩, .int .i64 0] 140) (HB.out y1 (.cells #[.int .i64 0, .int .i64 1, .int .i64 2, .int .i64 4] 3) HT0.out)).drew
    have Q2 := Lib.hid (show ((y1.alloc (.cells #[.string ⟨#[]⟩, .int .i64 0] 140)).alloc (.cells #[.int .i64 0, .int .i64 1, .int .i64 2, .int .i64 4] 3)).drew.heap[y1.heap.size]? = some (.cells #[.string ⟨#[]⟩, .int .i64 0] 140 (0, 0)) from (Below.heap_alloc (y1.alloc (.cells #[.string ⟨#[]⟩, .int .i64 0] 140)) _ _ (by simp)).trans (heap_alloc_new y1 (.cells #[.string ⟨#[]⟩, .int .i64 0] 140)))
    have Q3 := Lib.hid (show ((y1.alloc (.cells #[.int .i64 0, .int .i64 1, .int .i64 2, .int .i64 4] 3)).alloc (.cells #[.string ⟨#[]⟩, .int .i64 0] 140)).drew.heap[y1.heap.size + 1]? = some (.cells #[.string ⟨#[]⟩, .int .i64 0] 140 (0, 0)) from by
      have := heap_alloc_new (y1.alloc (.cells #[.int .i64 0, .int .i64 1, .int .i64 2, .int .i64 4] 3)) (.cells #[.string ⟨#[]⟩, .int .i64 0] 140)
      rw [World.size_alloc] at this
      exact this)
    have Z2 := Lib.hid (show y1.heap.size < ((y1.alloc (.cells #[.string ⟨#[]⟩, .int .i64 0] 140)).alloc (.cells #[.int .i64 0, .int .i64 1, .int .i64 2, .int .i64 4] 3)).drew.heap.size from lt_of_block Q2.out)
    have Z3 := Lib.hid (show y1.heap.size + 1 < ((y1.alloc (.cells #[.int .i64 0, .int .i64 1, .int .i64 2, .int .i64 4] 3)).alloc (.cells #[.string ⟨#[]⟩, .int .i64 0] 140)).drew.heap.size from lt_of_block Q3.out)
    clear HB
    go_region_law (first
      | (go_simp; go_at_call 132; refine (HK.out _).mono ?_; rintro e V ⟨rfl, rfl⟩)
      | (go_simp; go_at_call 75; refine (HN.out _).mono ?_; rintro e V ⟨rfl, b⟩; (first
        | ((with_reducible have TV := Lib.hid (T1.out.next b)); clear b)
        | ((with_reducible have TV := Lib.hid (T2.out.next b)); (with_reducible have XB := Lib.hid ((b.block y1.heap.size Z2.out).trans Q2.out)); have XL := Lib.hid hl2; obtain ⟨xc0, xc1, xf0, xf1⟩ := pair_cells XB.out; have xlt := lt_of_block XB.out; clear b)
        | ((with_reducible have TV := Lib.hid (T3.out.next b)); (with_reducible have XB := Lib.hid ((b.block (y1.heap.size + 1) Z3.out).trans Q3.out)); have XL := Lib.hid (Nat.lt_succ_of_lt hl2); obtain ⟨xc0, xc1, xf0, xf1⟩ := pair_cells XB.out; have xlt := lt_of_block XB.out; clear b))))
    all_goals
      go_wp2_with fail
      go_meet
      first | (with_reducible exact NumC.new TV.out) | (with_reducible exact NumC.old TV.out XB.out XL.out)
  case rest =>
    obtain ⟨xb, rfl, rfl, hxb, hxl, hT1⟩ := hcut
    obtain ⟨k0, k1, kf0, kf1⟩ := pair_cells hxb
    have hzb := lt_of_block hxb
    obtain ⟨⟨⟨c0, c1, cf0, cf1⟩, q0, q1, qf0, qf1⟩, ⟨⟨r0, r1, r2, r3⟩, rf0, rf1, rf2, rf3⟩, ⟨⟨p0, p1, p2, p3⟩, pf0, pf1, pf2, pf3⟩, z2, z4, z5, z6⟩ := hT1.cells
    have HT2 := Lib.hid hT1
    clear hT1 HT0 hxb
    by_cases hx : x2 = 0
    · subst hx
      have hC2 := HC.out
      rw [if_neg (by simp)] at hC2
      cases hs : saysB i N with
      | true =>
        rw [hs, if_neg (by simp)] at hC2
        have HS := Lib.hid hs
        subst hC2
        clear hs HC
        go_wp2_with fail
        refine (HK.out _).mono ?_
        rintro e y3 ⟨rfl, rfl⟩
        clear HK
        go_wp2_with fail
        refine (says_calls _ i N).mono ?_
        rw [HS.out]
        rintro e y3 ⟨rfl, rfl⟩
        clear HS
        go_wp2_with fail
        have hT3 := (HT2.out.setc s2 0).setn N
        clear c0 c1 cf0 cf1 q0 q1 qf0 qf1 r0 r1 r2 r3 rf0 rf1 rf2 rf3 p0 p1 p2 p3 pf0 pf1 pf2 pf3 z2 z4 z5 z6 HT2 k0 k1 kf0 kf1 hzb
        generalize ((wc.setCell ⟨w.heap.size, 0, none⟩ (.string s2)).setCell ⟨w.heap.size, 1, none⟩ (.int .i64 0)).setCell ⟨w.heap.size + 1 + 1 + 1, 1, none⟩ (.int .u32 N) = W at *
        obtain ⟨⟨⟨c0, c1, cf0, cf1⟩, q0, q1, qf0, qf1⟩, ⟨⟨r0, r1, r2, r3⟩, rf0, rf1, rf2, rf3⟩, ⟨⟨p0, p1, p2, p3⟩, pf0, pf1, pf2, pf3⟩, z2, z4, z5, z6⟩ := hT3.cells
        have HT3 := Lib.hid hT3
        clear hT3
        go_region
        go_wp2
        refine bodyPost_ret (v := .tuple #[cur s2 0, prV ⟨i, N, ⟨#[]⟩, ⟨#[]⟩⟩]) ?_ rfl ⟨_, rfl, (fun _ => rfl), ?_⟩
        · simp [results, Tryd.results126, go_sem, q0, q1, r0, r1, r2, r3]
        · exact six_below HT3.out.bel _ _ _ _ _ _

      | false =>
        rw [hs, if_pos rfl] at hC2
        have HS := Lib.hid hs
        subst hC2
        clear hs HC
        go_wp2_with fail
        refine (HK.out _).mono ?_
        rintro e y3 ⟨rfl, rfl⟩
        clear HK
        go_wp2_with fail
        refine (says_calls _ i N).mono ?_
        rw [HS.out]
        rintro e y3 ⟨rfl, rfl⟩
        clear HS
        have hT3 := (HT2.out.setc s2 0).setn N
        clear c0 c1 cf0 cf1 q0 q1 qf0 qf1 r0 r1 r2 r3 rf0 rf1 rf2 rf3 p0 p1 p2 p3 pf0 pf1 pf2 pf3 z2 z4 z5 z6 HT2 k0 k1 kf0 kf1 hzb
        generalize ((wc.setCell ⟨w.heap.size, 0, none⟩ (.string s2)).setCell ⟨w.heap.size, 1, none⟩ (.int .i64 0)).setCell ⟨w.heap.size + 1 + 1 + 1, 1, none⟩ (.int .u32 N) = W3 at *
        obtain ⟨⟨⟨c0, c1, cf0, cf1⟩, q0, q1, qf0, qf1⟩, ⟨⟨r0, r1, r2, r3⟩, rf0, rf1, rf2, rf3⟩, ⟨⟨p0, p1, p2, p3⟩, pf0, pf1, pf2, pf3⟩, z2, z4, z5, z6⟩ := hT3.cells
        have HT2 := Lib.hid hT3
        clear hT3
        go_wp2_with fail
        have hT3 := HT2.out.sete 3
        clear c0 c1 cf0 cf1 q0 q1 qf0 qf1 r0 r1 r2 r3 rf0 rf1 rf2 rf3 p0 p1 p2 p3 pf0 pf1 pf2 pf3 z2 z4 z5 z6 HT2
        generalize W3.setCell ⟨w.heap.size, 1, none⟩ (.int .i64 3) = W at *
        obtain ⟨⟨⟨c0, c1, cf0, cf1⟩, q0, q1, qf0, qf1⟩, ⟨⟨r0, r1, r2, r3⟩, rf0, rf1, rf2, rf3⟩, ⟨⟨p0, p1, p2, p3⟩, pf0, pf1, pf2, pf3⟩, z2, z4, z5, z6⟩ := hT3.cells
        have HT3 := Lib.hid hT3
        clear hT3
        go_region
        go_wp2
        refine bodyPost_ret (v := .tuple #[cur s2 3, prV ⟨i, N, ⟨#[]⟩, ⟨#[]⟩⟩]) ?_ rfl ⟨_, rfl, (fun h => absurd h (by decide)), ?_⟩
        · simp [results, Tryd.results126, go_sem, q0, q1, r0, r1, r2, r3]
        · exact six_below HT3.out.bel _ _ _ _ _ _

    · have hC2 := HC.out
      rw [if_pos hx] at hC2
      have hxb : (x2 == 0) = false := by simpa using hx
      have HX := Lib.hid hx
      subst hC2
      clear hx HC
      go_wp2_with fail
      have hT3 := (HT2.out.setc s2 x2).setn N
      clear c0 c1 cf0 cf1 q0 q1 qf0 qf1 r0 r1 r2 r3 rf0 rf1 rf2 rf3 p0 p1 p2 p3 pf0 pf1 pf2 pf3 z2 z4 z5 z6 HT2 k0 k1 kf0 kf1 hzb
      generalize ((wc.setCell ⟨w.heap.size, 0, none⟩ (.string s2)).setCell ⟨w.heap.size, 1, none⟩ (.int .i64 x2)).setCell ⟨w.heap.size + 1 + 1 + 1, 1, none⟩ (.int .u32 N) = W at *
      obtain ⟨⟨⟨c0, c1, cf0, cf1⟩, q0, q1, qf0, qf1⟩, ⟨⟨r0, r1, r2, r3⟩, rf0, rf1, rf2, rf3⟩, ⟨⟨p0, p1, p2, p3⟩, pf0, pf1, pf2, pf3⟩, z2, z4, z5, z6⟩ := hT3.cells
      have HT3 := Lib.hid hT3
      clear hT3
      go_region
      go_wp2
      refine bodyPost_ret (v := .tuple #[cur s2 x2, prV ⟨i, N, ⟨#[]⟩, ⟨#[]⟩⟩]) ?_ rfl ⟨_, rfl, (fun h => absurd h HX.out), ?_⟩
      · simp [results, Tryd.results126, go_sem, q0, q1, r0, r1, r2, r3]
      · exact six_below HT3.out.bel _ _ _ _ _ _

end Go.Proofs.YtacffjimkplieaaDoor
