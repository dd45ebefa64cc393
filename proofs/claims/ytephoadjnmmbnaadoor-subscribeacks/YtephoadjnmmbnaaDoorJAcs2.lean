/-
  The document's answers of layer 8: ParseAck of a body without properties. (No statement: contracts that the proofs of the statements use.)
-/
import Derived.Test.YtephoadjnmmbnaaDoorJAcs1
namespace Go.Proofs.YtephoadjnmmbnaaDoor
open Go.RowKit

/-- What lies where in ParseAck. -/
structure PaJ (w : World) (b : Nat) (s : ByteArray) (x : Int) (V : World) : Prop where
  c4 : V.heap[w.heap.size]? = some (.cells #[.int .i64 0, .int .u32 0, .slice none 0 0, .string ⟨#[]⟩] 125 (0, 0))
  c6 : V.heap[b]? = some (.cells #[.string s, .int .i64 x] 39 (0, 0))
  bel : Below w.heap.size w V
theorem PaJ.below {w : World} {b : Nat} {s : ByteArray} {x : Int} {V V' : World} (h : PaJ w b s x V) (hb : Below V.heap.size V V') : PaJ w b s x V' :=
  ⟨(hb.block _ (lt_of_block h.c4)).trans h.c4, (hb.block _ (lt_of_block h.c6)).trans h.c6, Below.next h.bel hb⟩
theorem PaJ.cells {w : World} {b : Nat} {s : ByteArray} {x : Int} {V : World} (h : PaJ w b s x V) : ((V.cell? ⟨b, 0, none⟩ = some (.string s) ∧ V.cell? ⟨b, 1, none⟩ = some (.int .i64 x)) ∧ (V.cell? ⟨w.heap.size, 0, none⟩ = some (.int .i64 0) ∧ V.cell? ⟨w.heap.size, 1, none⟩ = some (.int .u32 0) ∧ V.cell? ⟨w.heap.size, 2, none⟩ = some (.slice none 0 0) ∧ V.cell? ⟨w.heap.size, 3, none⟩ = some (.string ⟨#[]⟩))) ∧ (V.frozen? ⟨w.heap.size, 0, none⟩ = false ∧ V.frozen? ⟨w.heap.size, 1, none⟩ = false ∧ V.frozen? ⟨w.heap.size, 2, none⟩ = false ∧ V.frozen? ⟨w.heap.size, 3, none⟩ = false) ∧ w.heap.size < V.heap.size := by
  obtain ⟨a0, a1, -, -⟩ := pair_cells h.c6
  obtain ⟨⟨d0, d1, d2, d3⟩, g⟩ := four_cells h.c4
  exact ⟨⟨⟨a0, a1⟩, d0, d1, d2, d3⟩, g, lt_of_block h.c4⟩
theorem set4_below {w V : World} (h : Below w.heap.size w V) (a b c d : Value) : Below w.heap.size w ((((V.setCell ⟨w.heap.size, 0, none⟩ a).setCell ⟨w.heap.size, 1, none⟩ b).setCell ⟨w.heap.size, 2, none⟩ c).setCell ⟨w.heap.size, 3, none⟩ d) :=
  (((h.setCell (Nat.le_refl _) _).setCell (Nat.le_refl _) _).setCell (Nat.le_refl _) _).setCell (Nat.le_refl _) _

/-- What ParseAck answers. -/
def PaOut (K M : Int) (C : List UInt8) (e : Ending) : Prop :=
  (C = [] ∧ e = .returned (.tuple #[.agg #[.int .i64 0, .int .u32 0, .slice none 0 0, .string ⟨#[]⟩], .int .i64 3])) ∨
  (C ≠ [] ∧ allB K C = false ∧ e = .returned (.tuple #[.agg #[.int .i64 0, .int .u32 0, .slice none 0 0, .string ⟨#[]⟩], .int .i64 2])) ∨
  (C ≠ [] ∧ allB K C = true ∧ ∃ a c, e = .returned (.tuple #[.agg #[.int .i64 K, .int .u32 M, .slice a 0 c, .string (str C)], .int .i64 0]))

set_option maxRecDepth 100000 in
set_option maxHeartbeats 4000000 in
theorem r8parseAck_calls (w : World) (K M : Int) (hK : K = 9 ∨ K = 11) (C : List UInt8) (hCl : C.length ≤ 1000) (hM1 : 1 ≤ M) (hM2 : M ≤ 65535) :
    Calls Tryd.prog 82 #[.int .i64 K, .string (str (two M ++ 0 :: C))] w fun e w' => PaOut K M C e ∧ Below w.heap.size w w' := by
  have g : ((K != 9) = false) ∨ ((K != 9) = true ∧ (K != 11) = false) := by
    rcases hK with rfl | rfl
    · exact .inl (by decide)
    · exact .inr (by decide)
  have HB := Lib.hid (fun W => r8begin_calls W K M C hM1 hM2 _ rfl)
  have h4 := heap_alloc_new w (.cells #[.int .i64 0, .int .u32 0, .slice none 0 0, .string ⟨#[]⟩] 125)
  have B0 := Lib.hid (below_one w (.cells #[.int .i64 0, .int .u32 0, .slice none 0 0, .string ⟨#[]⟩] 125))
  have hz := str_size C
  generalize str (two M ++ 0 :: C) = BODY at *
  rcases g with g9 | ⟨g9, g11⟩
  all_goals
    go_enter Tryd.func82, Tryd.ntmps82
    go_wp2_with fail
    generalize w.alloc (.cells #[.int .i64 0, .int .u32 0, .slice none 0 0, .string ⟨#[]⟩] 125) = W0 at *
    refine (HB.out _).mono ?_
    rintro e W1 ⟨a, c, rfl, b1⟩
    by_cases hC : C = []
    · rw [if_pos hC]
      have bn := below_one W1 (.cells #[.string (str C), .int .i64 3] 39)
      have b01 := b1.trans (bn.mono b1.size)
      have J := Lib.hid (show PaJ w W1.heap.size (str C) 3 (W1.alloc (.cells #[.string (str C), .int .i64 3] 39)) from ⟨(b01.block _ (lt_of_block h4)).trans h4, heap_alloc_new W1 _, Below.next B0.out b01⟩)
      have HC := Lib.hid hC
      clear bn b01 b1 B0 h4 hC HB
      go_wp2_with fail
      generalize W1.alloc (.cells #[.string (str C), .int .i64 3] 39) = W2 at *
      generalize W1.heap.size = b at *
      obtain ⟨⟨⟨c0, c1⟩, d0, d1, d2, d3⟩, ⟨f0, f1, f2, f3⟩, hl⟩ := J.out.cells
      go_wp2_with fail
      refine (r6end3_calls _ _).mono ?_
      rintro e W3 ⟨rfl, b3⟩
      have J3 := Lib.hid (J.out.below b3)
      clear c0 c1 d0 d1 d2 d3 f0 f1 f2 f3 hl J b3
      obtain ⟨⟨⟨c0, c1⟩, d0, d1, d2, d3⟩, ⟨f0, f1, f2, f3⟩, hl⟩ := J3.out.cells
      go_wp2
      refine bodyPost_ret (v := .tuple #[.agg #[.int .i64 0, .int .u32 0, .slice none 0 0, .string ⟨#[]⟩], .int .i64 3]) ?_ rfl ⟨.inl ⟨HC.out, rfl⟩, ?_⟩
      · simp [results, Tryd.results82, go_sem, d0, d1, d2, d3]
      · exact set4_below J3.out.bel _ _ _ _
    · rw [if_neg hC]
      have bn := below_one W1 (.cells #[.string (str C), .int .i64 0] 39)
      have b01 := b1.trans (bn.mono b1.size)
      have J := Lib.hid (show PaJ w W1.heap.size (str C) 0 (W1.alloc (.cells #[.string (str C), .int .i64 0] 39)) from ⟨(b01.block _ (lt_of_block h4)).trans h4, heap_alloc_new W1 _, Below.next B0.out b01⟩)
      have HC := Lib.hid hC
      clear bn b01 b1 B0 h4 hC HB
      go_wp2_with fail
      generalize W1.alloc (.cells #[.string (str C), .int .i64 0] 39) = W2 at *
      generalize W1.heap.size = b at *
      obtain ⟨⟨⟨c0, c1⟩, d0, d1, d2, d3⟩, ⟨f0, f1, f2, f3⟩, hl⟩ := J.out.cells
      go_wp2_with fail
      clear c0 c1 d0 d1 d2 d3 f0 f1 f2 f3 hl
      go_loopw [9] (fun i wr => ∃ n : Nat, n ≤ C.length ∧ i = .int .i64 n ∧ allB K (C.take n) = true ∧ Hid (PaJ w b (str C) 0 wr)) (fun i _ => C.length - (intOf i).toNat)
      case atStart => exact ⟨0, by omega, rfl, rfl, J⟩
      case round =>
        clear J
        obtain ⟨n, hn, rfl, hal, J⟩ := hrel
        obtain ⟨⟨⟨c0, c1⟩, d0, d1, d2, d3⟩, ⟨f0, f1, f2, f3⟩, hl⟩ := J.out.cells
        by_cases hlt : n < C.length
        · have hks : n < (str C).size := by omega
          obtain ⟨ch, hch⟩ : ∃ ch, (str C)[n] = ch := ⟨_, rfl⟩
          have hgc : C[n] = ch := by rw [← hch, get_str C n hks, List.getD_eq_getElem?_getD, List.getElem?_eq_getElem hlt]; rfl
          have hstep := (allB_step K C n hlt hal).trans (congrArg (fun x : UInt8 => mayB K (x.toNat : Int)) hgc)
          have hmay := may_eq K ch.toNat ch.toNat_lt
          have hwr : wrap64 (ch.toNat : Int) = ch.toNat := by have := ch.toNat_lt; unfold wrap64; omega
          cases hm : mayB K ch.toNat with
          | false =>
            have HNO := Lib.hid (allB_no K C n hlt ((congrArg (fun x : UInt8 => mayB K (x.toNat : Int)) hgc).trans hm))
            have HMR := Lib.hid (hmay.symm.trans hm)
            clear hal hstep hmay hm hgc
            go_wp2_with fail
            with_reducible refine (r4may_calls _ K ch.toNat false HMR).mono ?_
            rintro e W4 ⟨rfl, b4⟩
            have J4 := Lib.hid (J.out.below b4)
            clear c0 c1 d0 d1 d2 d3 f0 f1 f2 f3 hl b4
            obtain ⟨⟨⟨c0, c1⟩, d0, d1, d2, d3⟩, ⟨f0, f1, f2, f3⟩, hl⟩ := J4.out.cells
            go_wp2
            refine bodyPost_ret (v := .tuple #[.agg #[.int .i64 0, .int .u32 0, .slice none 0 0, .string ⟨#[]⟩], .int .i64 2]) ?_ rfl ⟨.inr (.inl ⟨HC.out, HNO.out, rfl⟩), ?_⟩
            · simp [results, Tryd.results82, go_sem, d0, d1, d2, d3]
            · exact set4_below J4.out.bel _ _ _ _
          | true =>
            have HST := Lib.hid (hstep.trans hm)
            have HMR := Lib.hid (hmay.symm.trans hm)
            clear hal hstep hmay hm hgc
            go_wp2_with fail
            with_reducible refine (r4may_calls _ K ch.toNat true HMR).mono ?_
            rintro e W4 ⟨rfl, b4⟩
            have J4 := Lib.hid (J.out.below b4)
            clear c0 c1 d0 d1 d2 d3 f0 f1 f2 f3 hl b4 J
            go_wp2
            go_round
            case rel => exact ⟨n + 1, by omega, by go_num, HST.out, J4⟩
            case measure => simp [intOf]; omega
        · obtain rfl : n = C.length := by omega
          rw [List.take_length] at hal
          have HAL := Lib.hid hal
          clear hal
          go_wp2
          refine bodyPost_ret (v := .tuple #[.agg #[.int .i64 K, .int .u32 M, .slice a 0 c, .string (str C)], .int .i64 0]) ?_ rfl ⟨.inr (.inr ⟨HC.out, HAL.out, a, c, rfl⟩), ?_⟩
          · simp [results, Tryd.results82, go_sem, d0, d1, d2, d3]
          · exact set4_below J.out.bel _ _ _ _

#print axioms r8parseAck_calls
end Go.Proofs.YtephoadjnmmbnaaDoor
