/-
  The first packet of bytes: the walk. (No statement: a contract that the proofs of the statements use.)
-/
import Derived.Test.YtdhdjkpocdfjbaaFr3
namespace Go.Proofs.Ytdhdjkpocdfjbaa
open Go.RowKit

theorem TailAt.head {w : World} {a : Option Addr} {n c : Nat} {bs : List UInt8} (h : TailAt w (.slice a n c) bs) (m : Nat) (hm : m ≤ bs.length) (cc : Nat) :
    (convert 50 9 (.slice a m cc)).run Try.prog w = .ok (.string (str (bs.take m))) w := by
  have := h.part 0 m (Nat.zero_le _) hm m (by omega) cc
  have e : (if c = 0 then a else a.map (·.add (0 * 1))) = a := by
    split
    · rfl
    · cases a with
      | none => rfl
      | some ad => simp [Addr.add]
  rw [e] at this
  simpa using this

theorem three_cells {w : World} {b : Nat} {u v x : Value} {t : TypeId} (h : w.heap[b]? = some (.cells #[u, v, x] t (0, 0))) : (w.cell? ⟨b, 0, none⟩ = some u ∧ w.cell? ⟨b, 1, none⟩ = some v ∧ w.cell? ⟨b, 2, none⟩ = some x) ∧ w.frozen? ⟨b, 0, none⟩ = false ∧ w.frozen? ⟨b, 1, none⟩ = false ∧ w.frozen? ⟨b, 2, none⟩ = false := by
  simp [World.cell?, World.frozen?, h]

/-- What first answers, and leaves. -/
def FirstR (w : World) (F : Nat × Nat × List UInt8) (x : Int) (e : Ending) (w' : World) : Prop :=
  e = .returned (.tuple #[.agg #[.int .i64 F.1, .int .i64 F.2.1, .string (str F.2.2)], .int .i64 x]) ∧ Below w.heap.size w w'

set_option maxRecDepth 100000 in
set_option maxHeartbeats 1000000 in
theorem first_core (w : World) (a : Option Addr) (cap : Nat) (most : Int) (bs : List UInt8) (hT : TailAt w (.slice a bs.length cap) bs) (hbs : bs.length ≤ 1000000000) (hbc : bs.length ≤ cap)
    (t0 s1 : ByteArray) (x0 : Int) (hraw : rawT (str (bs.take 5)) 0 1 = (t0, s1, x0)) (c : Nat) (hc : numL t0.data.toList = c) (hc256 : c < 256) (f1 x1 : Int) (hf1 : (if chkB ((c / 16 : Nat) : Int) ((c % 16 : Nat) : Int) = true then 0 else 2) = f1) (hx1 : failed x0 f1 = x1)
    (n : Nat) (s2 : ByteArray) (x2 : Int) (hv : varT 3 0 0 s1 x1 = (n, s2, x2)) (hn : n ≤ 268435455) (z : Nat) (hz : 1 + (varb 3 n).length + n = z) (x3 : Int) (hx3 : (if most < (z : Int) then failed x2 4 else x2) = x3) (x4 : Int) (hx4 : (if bs.length < z then failed x3 1 else x3) = x4) (F : Nat × Nat × List UInt8) (hF : (if x4 = 0 then (c / 16, c % 16, (bs.drop (z - n)).take n) else (0, 0, [])) = F) :
    Calls Try.prog 22 #[.slice a bs.length cap, .int .i64 most] w (FirstR w F x4) := by
  have HF := Lib.hid hF
  clear hF
  have hvl := varb_len 3 n
  have hzb : z ≤ 268435465 := by omega
  have hzn : n ≤ z := by omega
  have hmin : (if (5 : Int) < (bs.length : Int) then 5 else (bs.length : Int)) = ((min bs.length 5 : Nat) : Int) := by split <;> omega
  have hT1 := hT.below (below_one w (.cells #[.int .i64 0, .int .i64 0, .string ⟨#[]⟩] 37))
  have hcv := hT1.head (min bs.length 5) (by omega) cap
  have htk : bs.take (min bs.length 5) = bs.take 5 := by
    by_cases h : bs.length ≤ 5
    · rw [Nat.min_eq_left h, List.take_of_length_le (Nat.le_refl _), List.take_of_length_le h]
    · rw [Nat.min_eq_right (by omega)]
  rw [htk] at hcv
  have hand : bits .and .i64 (c : Int) 15 = (c : Int) % 16 := i64_and15 _
  have hcd : ((c / 16 : Nat) : Int) = (c : Int) / 16 := by omega
  have hcm : ((c % 16 : Nat) : Int) = (c : Int) % 16 := by omega
  rw [hcd, hcm] at hf1
  have HF1 := Lib.hid hf1
  clear hf1
  clear hcd hcm
  have HT1 := Lib.hid hT1
  have HRAW := Lib.hid hraw
  have HC := Lib.hid hc
  have HX1 := Lib.hid hx1
  have HV := Lib.hid hv
  have HZ := Lib.hid hz
  have HX3 := Lib.hid hx3
  have HX4 := Lib.hid hx4
  clear hT hT1 hraw hc hx1 hv hz hx3 hx4 htk hvl
  go_enter Try.func22, Try.ntmps22
  go_wp2_with fail
  refine (over_calls _ _).mono ?_
  rintro e w1 ⟨rfl, rfl⟩
  have i1 := InAt.new (w.alloc (.cells #[.int .i64 0, .int .i64 0, .string ⟨#[]⟩] 37)) (str (bs.take 5))
  have b1 := below_two w (.cells #[.int .i64 0, .int .i64 0, .string ⟨#[]⟩] 37) (.cells #[.string (str (bs.take 5)), .int .i64 0] 81)
  have r1 : ((w.alloc (.cells #[.int .i64 0, .int .i64 0, .string ⟨#[]⟩] 37)).alloc (.cells #[.string (str (bs.take 5)), .int .i64 0] 81)).heap[w.heap.size]? = some (.cells #[.int .i64 0, .int .i64 0, .string ⟨#[]⟩] 37 (0, 0)) := by
    rw [Below.heap_alloc _ _ _ (by simp)]; exact heap_alloc_new w _
  have hT2 := HT1.out.below (below_one _ (.cells #[.string (str (bs.take 5)), .int .i64 0] 81))
  rw [World.size_alloc] at i1
  generalize ((w.alloc (.cells #[.int .i64 0, .int .i64 0, .string ⟨#[]⟩] 37)).alloc (.cells #[.string (str (bs.take 5)), .int .i64 0] 81)) = W1 at *
  clear hcv HT1 hmin
  have B1 := Lib.hid b1
  have R1 := Lib.hid r1
  have HT2 := Lib.hid hT2
  clear b1 r1 hT2
  go_wp2_with fail
  refine (byteIn_calls _ _ _ 0 t0 s1 x0 HRAW.out i1).mono ?_
  rw [HC.out]
  rintro e w2 ⟨rfl, i2, o2⟩
  have B2 := Lib.hid (B1.out.trans (o2.below (by omega)))
  have R2 := Lib.hid ((o2.block w.heap.size (by omega)).trans R1.out)
  have T2 := Lib.hid (HT2.out.keep fun g hg => o2.block g (fun e => by subst e; exact absurd hg (HT2.out.ne i1 (by decide))))
  have hsz2 := i2.lt
  clear i1 o2 B1 R1 HT2
  go_wp2_with fail
  refine (check_calls _ _ _).mono ?_
  rw [HF1.out]
  rintro e w3 ⟨rfl, rfl⟩
  have i3 := i2.keep (Below.heap_alloc w2 (.cells #[.int .i64 ((c : Int) / 16), .int .i64 ((c : Int) % 16), .string ⟨#[]⟩] 37) _ i2.lt)
  have B3 := Lib.hid (B2.out.trans ((below_one w2 (.cells #[.int .i64 ((c : Int) / 16), .int .i64 ((c : Int) % 16), .string ⟨#[]⟩] 37)).mono B2.out.size))
  have R3 := Lib.hid ((Below.heap_alloc w2 (.cells #[.int .i64 ((c : Int) / 16), .int .i64 ((c : Int) % 16), .string ⟨#[]⟩] 37) w.heap.size (by omega)).trans R2.out)
  have T3 := Lib.hid (T2.out.below (below_one w2 (.cells #[.int .i64 ((c : Int) / 16), .int .i64 ((c : Int) % 16), .string ⟨#[]⟩] 37)))
  have F3 := Lib.hid (heap_alloc_new w2 (.cells #[.int .i64 ((c : Int) / 16), .int .i64 ((c : Int) % 16), .string ⟨#[]⟩] 37))
  generalize w2.alloc (.cells #[.int .i64 ((c : Int) / 16), .int .i64 ((c : Int) % 16), .string ⟨#[]⟩] 37) = W3 at *
  generalize w2.heap.size = fb at *
  clear i2 B2 R2 T2 hand w2
  go_wp2_with fail
  refine (fail_calls _ _ _ _ _ i3).mono ?_
  rw [HX1.out]
  rintro e w4 ⟨rfl, i4, o4⟩
  have B4 := Lib.hid (B3.out.trans (o4.below (by omega)))
  have R4 := Lib.hid ((o4.block w.heap.size (by omega)).trans R3.out)
  have T4 := Lib.hid (T3.out.keep fun g hg => o4.block g (fun e => by subst e; exact absurd hg (T3.out.ne i3 (by decide))))
  have F4 := Lib.hid ((o4.block fb (by omega)).trans F3.out)
  clear i3 o4 B3 R3 T3 F3
  go_wp2_with fail
  refine (varIn_calls _ _ _ _ n s2 x2 HV.out i4).mono ?_
  rintro e w5 ⟨rfl, i5, o5⟩
  have B5 := Lib.hid (B4.out.trans (o5.below (by omega)))
  have R5 := Lib.hid ((o5.block w.heap.size (by omega)).trans R4.out)
  have T5 := Lib.hid (T4.out.keep fun g hg => o5.block g (fun e => by subst e; exact absurd hg (T4.out.ne i4 (by decide))))
  have F5 := Lib.hid ((o5.block fb (by omega)).trans F4.out)
  clear i4 o5 B4 R4 T4 F4
  go_wp2_with fail
  refine (fsize_calls _ n hn).mono ?_
  rw [HZ.out]
  rintro e w6 ⟨rfl, rfl⟩
  by_cases hA : most < (z : Int)
  · have e3 : failed x2 4 = x3 := by rw [← HX3.out, if_pos hA]
    have E3 := Lib.hid e3
    have h3 : x3 ≠ 0 := by rw [← e3]; unfold failed; split <;> omega
    clear e3
    go_wp2_with fail
    refine (fail_calls _ _ _ _ _ i5).mono ?_
    rw [E3.out]
    rintro e w7 ⟨rfl, i7, o7⟩
    have B7 := Lib.hid (B5.out.trans (o7.below (by omega)))
    have R7 := Lib.hid ((o7.block w.heap.size (by omega)).trans R5.out)
    have T7 := Lib.hid (T5.out.keep fun g hg => o7.block g (fun e => by subst e; exact absurd hg (T5.out.ne i5 (by decide))))
    have F7 := Lib.hid ((o7.block fb (by omega)).trans F5.out)
    clear i5 o7 B5 R5 T5 F5
    by_cases hB : bs.length < z
    · have e4 : failed x3 1 = x4 := by rw [← HX4.out, if_pos hB]
      have E4 := Lib.hid e4
      have hne : x4 ≠ 0 := by rw [← e4]; unfold failed; split <;> omega
      clear e4
      go_wp2_with fail
      refine (fail_calls _ _ _ _ _ i7).mono ?_
      rw [E4.out]
      rintro e w8 ⟨rfl, i8, o8⟩
      have B8 := Lib.hid (B7.out.trans (o8.below (by omega)))
      have R8 := Lib.hid ((o8.block w.heap.size (by omega)).trans R7.out)
      have T8 := Lib.hid (T7.out.keep fun g hg => o8.block g (fun e => by subst e; exact absurd hg (T7.out.ne i7 (by decide))))
      have F8 := Lib.hid ((o8.block fb (by omega)).trans F7.out)
      clear i7 o8 B7 R7 T7 F7
      have hbne : (x4 != 0) = true := by simpa using hne
      have hFe : F = (0, 0, []) := by rw [← HF.out, if_neg hne]
      subst hFe
      go_wp2_with fail
      refine (err_calls _ _ _ _ i8).mono ?_
      rintro e w9 ⟨rfl, rfl⟩
      go_wp2_with fail
      refine (err_calls _ _ _ _ i8).mono ?_
      rintro e w9 ⟨rfl, rfl⟩
      obtain ⟨⟨q0, q1, q2⟩, qf0, qf1, qf2⟩ := three_cells R8.out
      have hq := lt_of_block R8.out
      clear i8 R8 T8 F8
      go_wp2
      refine bodyPost_ret (v := .tuple #[.agg #[.int .i64 0, .int .i64 0, .string ⟨#[]⟩], .int .i64 x4]) ?_ rfl ⟨rfl, ?_⟩
      · simp [results, Try.results22, go_sem, q0, q1, q2]
      · exact ((B8.out.setCell (Nat.le_refl _) _).setCell (Nat.le_refl _) _).setCell (Nat.le_refl _) _
    · have e4 : x3 = x4 := by rw [← HX4.out, if_neg hB]
      subst e4
      have hne := h3
      have hbne : (x3 != 0) = true := by simpa using hne
      have hFe : F = (0, 0, []) := by rw [← HF.out, if_neg hne]
      subst hFe
      go_wp2_with fail
      refine (err_calls _ _ _ _ i7).mono ?_
      rintro e w9 ⟨rfl, rfl⟩
      go_wp2_with fail
      refine (err_calls _ _ _ _ i7).mono ?_
      rintro e w9 ⟨rfl, rfl⟩
      obtain ⟨⟨q0, q1, q2⟩, qf0, qf1, qf2⟩ := three_cells R7.out
      have hq := lt_of_block R7.out
      clear i7 R7 T7 F7
      go_wp2
      refine bodyPost_ret (v := .tuple #[.agg #[.int .i64 0, .int .i64 0, .string ⟨#[]⟩], .int .i64 x3]) ?_ rfl ⟨rfl, ?_⟩
      · simp [results, Try.results22, go_sem, q0, q1, q2]
      · exact ((B7.out.setCell (Nat.le_refl _) _).setCell (Nat.le_refl _) _).setCell (Nat.le_refl _) _
  · have e3 : x2 = x3 := by rw [← HX3.out, if_neg hA]
    subst e3
    by_cases hB : bs.length < z
    · have e4 : failed x2 1 = x4 := by rw [← HX4.out, if_pos hB]
      have E4 := Lib.hid e4
      have hne : x4 ≠ 0 := by rw [← e4]; unfold failed; split <;> omega
      clear e4
      go_wp2_with fail
      refine (fail_calls _ _ _ _ _ i5).mono ?_
      rw [E4.out]
      rintro e w8 ⟨rfl, i8, o8⟩
      have B8 := Lib.hid (B5.out.trans (o8.below (by omega)))
      have R8 := Lib.hid ((o8.block w.heap.size (by omega)).trans R5.out)
      have T8 := Lib.hid (T5.out.keep fun g hg => o8.block g (fun e => by subst e; exact absurd hg (T5.out.ne i5 (by decide))))
      have F8 := Lib.hid ((o8.block fb (by omega)).trans F5.out)
      clear i5 o8 B5 R5 T5 F5
      have hbne : (x4 != 0) = true := by simpa using hne
      have hFe : F = (0, 0, []) := by rw [← HF.out, if_neg hne]
      subst hFe
      go_wp2_with fail
      refine (err_calls _ _ _ _ i8).mono ?_
      rintro e w9 ⟨rfl, rfl⟩
      go_wp2_with fail
      refine (err_calls _ _ _ _ i8).mono ?_
      rintro e w9 ⟨rfl, rfl⟩
      obtain ⟨⟨q0, q1, q2⟩, qf0, qf1, qf2⟩ := three_cells R8.out
      have hq := lt_of_block R8.out
      clear i8 R8 T8 F8
      go_wp2
      refine bodyPost_ret (v := .tuple #[.agg #[.int .i64 0, .int .i64 0, .string ⟨#[]⟩], .int .i64 x4]) ?_ rfl ⟨rfl, ?_⟩
      · simp [results, Try.results22, go_sem, q0, q1, q2]
      · exact ((B8.out.setCell (Nat.le_refl _) _).setCell (Nat.le_refl _) _).setCell (Nat.le_refl _) _
    · have e4 : x2 = x4 := by rw [← HX4.out, if_neg hB]
      subst e4
      by_cases hne : x2 = 0
      · subst hne
        have hFe : F = (c / 16, c % 16, (bs.drop (z - n)).take n) := by rw [← HF.out, if_pos rfl]
        subst hFe
        obtain ⟨⟨q0, q1, q2⟩, qf0, qf1, qf2⟩ := three_cells R5.out
        obtain ⟨⟨p0, p1, p2⟩, pf0, pf1, pf2⟩ := three_cells F5.out
        have hq := lt_of_block R5.out
        have hq2 := lt_of_block F5.out
        have hfb : w.heap.size < fb := by omega
        by_cases hcap : cap = z - n
        · obtain rfl : n = 0 := by omega
          obtain rfl : cap = z := by omega
          have hp := T5.out.part cap cap (Nat.le_refl _) (by omega) 0 (by omega) 0
          rw [if_pos rfl, Nat.sub_self] at hp
          rw [Nat.sub_zero]
          generalize hD : (bs.drop cap).take 0 = D at *
          clear R5 T5 F5 HX3 HX4 HF hD hcap
          go_wp2_with fail
          refine (err_calls _ _ _ _ i5).mono ?_
          rintro e w9 ⟨rfl, rfl⟩
          clear i5
          go_wp2
          refine bodyPost_ret (v := .tuple #[.agg #[.int .i64 ((c / 16 : Nat) : Int), .int .i64 ((c % 16 : Nat) : Int), .string (str D)], .int .i64 0]) ?_ rfl ⟨rfl, ?_⟩
          · simp [results, Try.results22, go_sem, q0, q1, q2]
          · exact (((B5.out.setCell (by show w.heap.size ≤ fb; omega) _).setCell (Nat.le_refl _) _).setCell (Nat.le_refl _) _).setCell (Nat.le_refl _) _
        · have hp := T5.out.part (z - n) z (by omega) (by omega) n (by omega) (cap - (z - n))
          have hzz : z - (z - n) = n := by omega
          rw [hzz, Nat.mul_one, if_neg hcap] at hp
          generalize hD : (bs.drop (z - n)).take n = D at *
          clear R5 T5 F5 HX3 HX4 HF hD
          go_wp2_with fail
          refine (err_calls _ _ _ _ i5).mono ?_
          rintro e w9 ⟨rfl, rfl⟩
          clear i5
          go_wp2
          refine bodyPost_ret (v := .tuple #[.agg #[.int .i64 ((c / 16 : Nat) : Int), .int .i64 ((c % 16 : Nat) : Int), .string (str D)], .int .i64 0]) ?_ rfl ⟨rfl, ?_⟩
          · simp [results, Try.results22, go_sem, q0, q1, q2]
          · exact (((B5.out.setCell (by show w.heap.size ≤ fb; omega) _).setCell (Nat.le_refl _) _).setCell (Nat.le_refl _) _).setCell (Nat.le_refl _) _
      · have hne' : ¬ x2 = 0 := hne
        have hbne : (x2 != 0) = true := by simpa using hne
        have hFe : F = (0, 0, []) := by rw [← HF.out, if_neg hne]
        subst hFe
        go_wp2_with fail
        refine (err_calls _ _ _ _ i5).mono ?_
        rintro e w9 ⟨rfl, rfl⟩
        go_wp2_with fail
        refine (err_calls _ _ _ _ i5).mono ?_
        rintro e w9 ⟨rfl, rfl⟩
        obtain ⟨⟨q0, q1, q2⟩, qf0, qf1, qf2⟩ := three_cells R5.out
        have hq := lt_of_block R5.out
        clear i5 R5 T5 F5
        go_wp2
        refine bodyPost_ret (v := .tuple #[.agg #[.int .i64 0, .int .i64 0, .string ⟨#[]⟩], .int .i64 x2]) ?_ rfl ⟨rfl, ?_⟩
        · simp [results, Try.results22, go_sem, q0, q1, q2]
        · exact ((B5.out.setCell (Nat.le_refl _) _).setCell (Nat.le_refl _) _).setCell (Nat.le_refl _) _

theorem first_calls (w : World) (a : Option Addr) (cap : Nat) (most : Int) (bs : List UInt8) (hT : TailAt w (.slice a bs.length cap) bs) (hbs : bs.length ≤ 1000000000) (hbc : bs.length ≤ cap) :
    Calls Try.prog 22 #[.slice a bs.length cap, .int .i64 most] w (FirstR w (nextF most bs).1 (nextF most bs).2) := by
  cases bs with
  | nil =>
    have hraw : rawT (str (([] : List UInt8).take 5)) 0 1 = (⟨#[]⟩, str [], 1) := by rfl
    have hv : varT 3 0 0 (str []) 1 = (0, str [], 1) := varT_stop (rawT_err _ 1 1 (by decide)) (by decide)
    by_cases hm : most < ((2 : Nat) : Int)
    · exact first_core w a cap most [] hT hbs hbc _ _ _ hraw 0 rfl (by decide) _ 1 rfl (by decide) 0 _ 1 hv (by decide) 2 (by decide) 1 (by rw [if_pos hm]; rfl) 1 (by decide) _ rfl
    · exact first_core w a cap most [] hT hbs hbc _ _ _ hraw 0 rfl (by decide) _ 1 rfl (by decide) 0 _ 1 hv (by decide) 2 (by decide) 1 (by rw [if_neg hm]) 1 (by decide) _ rfl
  | cons c t =>
    have hraw : rawT (str ((c :: t).take 5)) 0 1 = (str [c], str (t.take 4), 0) := rawT_list (c :: t.take 4) 1 (by simp)
    have hnum : numL (str [c]).data.toList = c.toNat := by rw [str_data, numL_one]
    have hc256 := c.toNat_lt
    have htk := varT_take 3 0 0 t
    generalize hV : varT 3 0 0 (str t) 0 = V at htk
    obtain ⟨n, s2, x2⟩ := V
    generalize hV' : varT 3 0 0 (str (t.take 4)) 0 = V' at htk
    obtain ⟨n', s2', x2'⟩ := V'
    obtain ⟨e1, e2⟩ := htk
    dsimp only at e1 e2
    subst e1 e2
    have hn := varT_small t 0 rfl _ _ _ hV
    by_cases hchk : chkB ((c.toNat / 16 : Nat) : Int) ((c.toNat % 16 : Nat) : Int) = true
    · by_cases hx : x2' = 0
      · subst hx
        by_cases hm : most < ((1 + (varb 3 n').length + n' : Nat) : Int)
        · rw [next_big hchk hV hm]
          by_cases hl : (c :: t).length < 1 + (varb 3 n').length + n'
          · exact first_core w a cap most (c :: t) hT hbs hbc _ _ _ hraw c.toNat hnum hc256 0 0 (if_pos hchk) rfl n' s2' 0 hV' hn _ rfl 4 (by rw [if_pos hm]; rfl) 4 (by rw [if_pos hl]; rfl) _ (if_neg (by decide))
          · exact first_core w a cap most (c :: t) hT hbs hbc _ _ _ hraw c.toNat hnum hc256 0 0 (if_pos hchk) rfl n' s2' 0 hV' hn _ rfl 4 (by rw [if_pos hm]; rfl) 4 (by rw [if_neg hl]) _ (if_neg (by decide))
        · by_cases hl : (c :: t).length < 1 + (varb 3 n').length + n'
          · rw [next_cut hchk hV hm hl]
            exact first_core w a cap most (c :: t) hT hbs hbc _ _ _ hraw c.toNat hnum hc256 0 0 (if_pos hchk) rfl n' s2' 0 hV' hn _ rfl 0 (by rw [if_neg hm]) 1 (by rw [if_pos hl]; rfl) _ (if_neg (by decide))
          · rw [next_ok hchk hV hm hl]
            refine first_core w a cap most (c :: t) hT hbs hbc _ _ _ hraw c.toNat hnum hc256 0 0 (if_pos hchk) rfl n' s2' 0 hV' hn _ rfl 0 (by rw [if_neg hm]) 0 (by rw [if_neg hl]) _ ?_
            rw [if_pos rfl, show 1 + (varb 3 n').length + n' - n' = (varb 3 n').length + 1 by omega, List.drop_succ_cons]
      · rw [next_num hchk hV hx]
        have h4 : failed x2' 4 = x2' := by unfold failed; rw [if_neg hx]
        have h1 : failed x2' 1 = x2' := by unfold failed; rw [if_neg hx]
        exact first_core w a cap most (c :: t) hT hbs hbc _ _ _ hraw c.toNat hnum hc256 0 0 (if_pos hchk) rfl n' s2' x2' hV' hn _ rfl x2' (by rw [h4]; split <;> rfl) x2' (by rw [h1]; split <;> rfl) _ (if_neg hx)
    · have hchk' : chkB ((c.toNat / 16 : Nat) : Int) ((c.toNat % 16 : Nat) : Int) = false := by simpa using hchk
      rw [next_bad hchk']
      have hv : varT 3 0 0 (str (t.take 4)) 2 = (0, str (t.take 4), 2) := varT_stop (rawT_err _ 2 1 (by decide)) (by decide)
      exact first_core w a cap most (c :: t) hT hbs hbc _ _ _ hraw c.toNat hnum hc256 2 2 (if_neg hchk) rfl 0 _ 2 hv (by decide) _ rfl 2 (by split <;> rfl) 2 (by split <;> rfl) _ (if_neg (by decide))

#print axioms first_calls
end Go.Proofs.Ytdhdjkpocdfjbaa
