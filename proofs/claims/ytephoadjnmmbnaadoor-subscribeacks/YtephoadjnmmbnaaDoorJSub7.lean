/-
  A subscribe: there and back; awake of layer 8's statements. (No statement: what the proofs of the statements use.)
-/
import Derived.Test.YtephoadjnmmbnaaDoorJSub6
namespace Go.Proofs.YtephoadjnmmbnaaDoor
open Go.RowKit

/-- A Sub that may be. -/
structure Sb.right (c : Sb) : Prop where
  f : c.f.size ≤ 65535
  g : goodB c.f = true
  q0 : 0 ≤ c.q
  q1 : c.q ≤ 2
  h0 : 0 ≤ c.h
  h1 : c.h ≤ 2
theorem opt_dec : ∀ (q h : Fin 3) (nl ap : Bool), let o := optN ⟨⟨#[]⟩, q.val, nl, ap, h.val⟩
    0 ≤ o ∧ o < 64 ∧ bits .and .u8 o 3 = q.val ∧ (bits .and .u8 o 4 != 0) = nl ∧ (bits .and .u8 o 8 != 0) = ap ∧ bits .and .u8 (o / 16) 3 = h.val := by decide +kernel

theorem stepS_at (f : ByteArray) (b : UInt8) (l : List UInt8) (hf : f.size ≤ 65535) (hg : goodB f = true) : stepS (str (datL f ++ ([b] ++ l))) 0 = (sbOf f b.toNat, str l, subX2 (bits .and .u8 b.toNat 3) (bits .and .u8 ((b.toNat : Int) / 16) 3) (subX1 b.toNat 0)) := by
  have h1 : strT (str (datL f ++ ([b] ++ l))) 0 = (f, str ([b] ++ l), 0) := str_back f _ hf hg
  have h2 : rawT (str ([b] ++ l)) 0 1 = (str [b], str l, 0) := rawT_app [b] l 1 rfl
  unfold stepS
  rw [h1]
  dsimp only
  rw [h2]
  dsimp only
  rw [str_data, numL_one]

theorem step_back8 (c : Sb) (l : List UInt8) (hc : c.right) : stepS (str (sbL c ++ l)) 0 = (c, str l, 0) := by
  obtain ⟨f, q, nl, ap, h⟩ := c
  obtain ⟨hf, hg, q0, q1, h0, h1⟩ := hc
  dsimp only at *
  have hd := opt_dec ⟨q.toNat, by omega⟩ ⟨h.toNat, by omega⟩ nl ap
  have eq : ((q.toNat : Nat) : Int) = q := by omega
  have eh : ((h.toNat : Nat) : Int) = h := by omega
  dsimp only at hd
  rw [eq, eh] at hd
  have ho : optN ⟨f, q, nl, ap, h⟩ = optN ⟨⟨#[]⟩, q, nl, ap, h⟩ := rfl
  unfold sbL
  rw [ho]
  generalize optN ⟨⟨#[]⟩, q, nl, ap, h⟩ = o at *
  obtain ⟨o0, o1, d1, d2, d3, d4⟩ := hd
  dsimp only
  have e := stepS_at f (UInt8.ofNat o.toNat) l hf hg
  have en : ((UInt8.ofNat o.toNat).toNat : Int) = o := ofNat_toNat o o0 (by omega)
  rw [List.append_assoc, e, en]
  unfold sbOf subX1 subX2
  rw [d1, d2, d3, d4, decide_eq_false (show ¬ 63 < o by omega), decide_eq_false (show ¬ 2 < q by omega), decide_eq_false (show ¬ 2 < h by omega)]
  simp

theorem sbL_ne (c : Sb) (l : List UInt8) : (str (sbL c ++ l)).size ≠ 0 := by
  rw [str_size]
  unfold sbL
  simp
theorem run_back8 : ∀ (L acc : List Sb), (∀ c ∈ L, c.right) → runA8 acc (str (subsL L)) 0 = (acc ++ L, str [], 0)
  | [], acc, _ => by
    rw [runA8_done _ _ _ (fun h => h.2 rfl), List.append_nil]
    rfl
  | c :: L, acc, h => by
    have e : subsL (c :: L) = sbL c ++ subsL L := rfl
    rw [e, runA8_step _ _ (sbL_ne c _), step_back8 c _ (h c (by simp))]
    dsimp only
    rw [run_back8 L (acc ++ [c]) (fun x hx => h x (by simp [hx]))]
    simp

theorem head_back (k n : Int) (l : List UInt8) (h0 : 1 ≤ n) (h1 : n ≤ 65535) (hl : l ≠ []) : ∃ t1 y1 y2, HeadOf k (str ([] ++ two n ++ propsL [] ++ l)) 0 n [] (str l) 0 t1 y1 y2 := by
  rw [List.nil_append, List.append_assoc]
  refine ⟨_, _, _, id_back n _ h0 h1, take_nil _ _, ?_⟩
  rw [if_neg (by rw [str_size]; intro e; exact hl (List.eq_nil_of_length_eq_zero e))]
theorem head_none (k n : Int) (h0 : 1 ≤ n) (h1 : n ≤ 65535) : ∃ t1 y1 y2, HeadOf k (str ([] ++ two n ++ propsL [])) 0 n [] (str []) 3 t1 y1 y2 := by
  have e := take_nil (placeN k false) []
  rw [List.append_nil] at e
  rw [List.nil_append]
  exact ⟨_, _, _, id_back n _ h0 h1, e, rfl⟩

theorem Sb.right.ok {c : Sb} (h : c.right) : c.ok := ⟨h.f, h.q0, by have := h.q1; omega, h.h0, by have := h.h1; omega⟩

/-- The Sub of awake. -/
def aw8 : Sb := ⟨⟨#[97]⟩, 1, true, false, 0⟩
theorem aw8_right : aw8.right := ⟨by decide, by decide +kernel, by decide, by decide, by decide, by decide⟩
theorem aw8_text : str (subscL 1 [] [aw8]) = ⟨#[0, 1, 0, 0, 1, 97, 5]⟩ := by decide +kernel
theorem aw8_none : str ([] ++ two 1 ++ propsL []) = ⟨#[0, 1, 0]⟩ := by decide +kernel

theorem SubsAt.one (w : World) (c : Sb) (t : TypeId) (cap : Nat) : SubsAt (w.alloc (.cells #[.string c.f, .int .u8 c.q, .bool c.nl, .bool c.ap, .int .u8 c.h] t)) (.slice (some ⟨w.heap.size, 0, none⟩) 1 cap) [c] := by
  refine ⟨_, cap, rfl, fun i x hx => ?_⟩
  cases i with
  | zero =>
    simp at hx
    subst hx
    exact ⟨w.heap.size, 0, rfl, by simp, by simp, by simp, by simp, by simp, by simp⟩
  | succ i => simp at hx
theorem SubsAt.below {W W' : World} {v : Value} {L : List Sb} (h : SubsAt W v L) (hb : Below W.heap.size W W') : SubsAt W' v L := by
  obtain ⟨A, cap, rfl, hc⟩ := h
  refine ⟨A, cap, rfl, fun i x hx => ?_⟩
  obtain ⟨b, off, hA, hl, c0, c1, c2, c3, c4⟩ := hc i x hx
  exact ⟨b, off, hA, Nat.lt_of_lt_of_le hl hb.size, (hb.cell (p := ⟨b, _, none⟩) hl).trans c0, (hb.cell (p := ⟨b, _, none⟩) hl).trans c1, (hb.cell (p := ⟨b, _, none⟩) hl).trans c2, (hb.cell (p := ⟨b, _, none⟩) hl).trans c3, (hb.cell (p := ⟨b, _, none⟩) hl).trans c4⟩

theorem aw8_parse (w : World) (hT : Tabs w) : Calls Tryd.prog 77 #[.string ⟨#[0, 1, 0, 0, 1, 97, 5]⟩] w (SubscR w 1 [] [aw8] 0) := by
  obtain ⟨t1, y1, y2, hh⟩ := head_back 8 1 (subsL [aw8]) (by decide) (by decide) (by decide +kernel)
  have e : ([] ++ two 1 ++ propsL [] ++ subsL [aw8] : List UInt8) = subscL 1 [] [aw8] := rfl
  rw [e, aw8_text] at hh
  have hr := run_back8 [aw8] [] (fun c hc => by simp at hc; subst hc; exact aw8_right)
  exact sparse_calls w _ hT (by decide) hh (by decide +kernel) [aw8] (str []) 0 hr 0 rfl 1 [] [aw8] rfl
theorem aw8_parse0 (w : World) (hT : Tabs w) : Calls Tryd.prog 77 #[.string ⟨#[0, 1, 0]⟩] w (SubscR w 0 [] [] 3) := by
  obtain ⟨t1, y1, y2, hh⟩ := head_none 8 1 (by decide) (by decide)
  rw [aw8_none] at hh
  exact sparse_calls w _ hT (by decide) hh (by decide) [] (str []) 3 (runA8_done _ _ _ (fun h => absurd h.1 (by decide))) 3 rfl 0 [] [] rfl

set_option maxRecDepth 100000 in
set_option maxHeartbeats 4000000 in
theorem awake8_calls (w : World) (hT : Tabs w) : Calls Tryd.prog 66 #[] w fun e w' => e = .returned (.bool true) ∧ Below w.heap.size w w' := by
  have HT := Lib.hid hT
  clear hT
  have b0 := below_two w (.cells #[.string ⟨#[97]⟩, .int .u8 1, .bool true, .bool false, .int .u8 0] 189) (.cells #[.int .u32 1, .slice none 0 0, .slice (some ⟨w.heap.size, 0, none⟩) 1 1] 107)
  have l0 : ((w.alloc (.cells #[.string ⟨#[97]⟩, .int .u8 1, .bool true, .bool false, .int .u8 0] 189)).alloc (.cells #[.int .u32 1, .slice none 0 0, .slice (some ⟨w.heap.size, 0, none⟩) 1 1] 107)).heap[w.heap.size + 1]? = some (.cells #[.int .u32 1, .slice none 0 0, .slice (some ⟨w.heap.size, 0, none⟩) 1 1] 107 (0, 0)) := by
    have := heap_alloc_new (w.alloc (.cells #[.string ⟨#[97]⟩, .int .u8 1, .bool true, .bool false, .int .u8 0] 189)) (.cells #[.int .u32 1, .slice none 0 0, .slice (some ⟨w.heap.size, 0, none⟩) 1 1] 107)
    rw [World.size_alloc] at this
    exact this
  have s0 : SubsAt ((w.alloc (.cells #[.string ⟨#[97]⟩, .int .u8 1, .bool true, .bool false, .int .u8 0] 189)).alloc (.cells #[.int .u32 1, .slice none 0 0, .slice (some ⟨w.heap.size, 0, none⟩) 1 1] 107)) (.slice (some ⟨w.heap.size, 0, none⟩) 1 1) [aw8] := (SubsAt.one w aw8 189 1).below (below_one _ _)
  have HX := Lib.hid (show ∀ W (k : Nat), SubsAt W (.slice (some ⟨k, 0, none⟩) 1 1) [aw8] → Calls Tryd.prog 67 #[.agg #[.int .u32 1, .slice none 0 0, .slice (some ⟨k, 0, none⟩) 1 1]] W (fun e w' => e = .returned (.string ⟨#[0, 1, 0, 0, 1, 97, 5]⟩) ∧ Below W.heap.size W w') from fun W k hs => by have := stext_calls W 1 [] [aw8] none 0 0 (some ⟨k, 0, none⟩) 1 (by decide) (by decide) (fun p hp => by cases hp) (by decide) (fun c hc => by simp at hc; subst hc; exact aw8_right.ok) (by decide) (PropsAt.nil W 0) hs; rw [aw8_text] at this; exact this)
  have B0 := Lib.hid b0
  have L0 := Lib.hid l0
  have S0 := Lib.hid s0
  clear b0 l0 s0
  go_enter Tryd.func66, Tryd.ntmps66
  go_wp2_with fail
  generalize (w.alloc (.cells #[.string ⟨#[97]⟩, .int .u8 1, .bool true, .bool false, .int .u8 0] 189)).alloc (.cells #[.int .u32 1, .slice none 0 0, .slice (some ⟨w.heap.size, 0, none⟩) 1 1] 107) = W0 at *
  generalize w.heap.size + 1 = sb at *
  refine (HX.out _ _ S0.out).mono ?_
  rintro e W1 ⟨rfl, b1⟩
  have L1 := Lib.hid ((b1.block _ (lt_of_block L0.out)).trans L0.out)
  have S1 := Lib.hid (S0.out.below b1)
  have B1 := Lib.hid (Below.trans B0.out (b1.mono B0.out.size))
  clear b1 L0 S0 B0
  go_wp2_with fail
  refine (aw8_parse _ (HT.out.below B1.out)).mono ?_
  rintro e W2 ⟨pa, pc, qa, qc, rfl, -, -, b2⟩
  have L2 := Lib.hid ((b2.block _ (lt_of_block L1.out)).trans L1.out)
  have S2 := Lib.hid (S1.out.below b2)
  have B2 := Lib.hid (B1.out.trans (b2.mono B1.out.size))
  have hx3 := heap_alloc_new W2 (.cells #[.int .u32 1, .slice pa 0 pc, .slice qa 1 qc] 107)
  have b3 := below_one W2 (.cells #[.int .u32 1, .slice pa 0 pc, .slice qa 1 qc] 107)
  have L3 := Lib.hid ((b3.block _ (lt_of_block L2.out)).trans L2.out)
  have S3 := Lib.hid (S2.out.below b3)
  have B3 := Lib.hid (B2.out.trans (b3.mono B2.out.size))
  clear b2 b3 L1 L2 S1 S2 B1 B2
  go_wp2_with fail
  generalize W2.alloc (.cells #[.int .u32 1, .slice pa 0 pc, .slice qa 1 qc] 107) = W3 at *
  generalize W2.heap.size = xb at *
  refine (aw8_parse0 _ (HT.out.below B3.out)).mono ?_
  rintro e W4 ⟨pa4, pc4, qa4, qc4, rfl, -, -, b4⟩
  have L4 := Lib.hid ((b4.block _ (lt_of_block L3.out)).trans L3.out)
  have X4 := Lib.hid ((b4.block _ (lt_of_block hx3)).trans hx3)
  have S4 := Lib.hid (S3.out.below b4)
  have B4 := Lib.hid (B3.out.trans (b4.mono B3.out.size))
  have b5 := below_one W4 (.cells #[.int .u32 0, .slice pa4 0 pc4, .slice qa4 0 qc4] 107)
  have X5 := Lib.hid ((b5.block _ (lt_of_block X4.out)).trans X4.out)
  have S5 := Lib.hid (S4.out.below b5)
  have B5 := Lib.hid (B4.out.trans (b5.mono B4.out.size))
  obtain ⟨d0, d1, d2, df⟩ := cells3 L4.out
  have dl := lt_of_block L4.out
  clear b4 b5 L3 L4 X4 S3 S4 B3 B4 hx3
  go_wp2_with fail
  clear d0 d1 d2 df dl
  generalize W4.alloc (.cells #[.int .u32 0, .slice pa4 0 pc4, .slice qa4 0 qc4] 107) = W5 at *
  generalize W4.heap.size = yb at *
  refine (HX.out _ _ S5.out).mono ?_
  rintro e W6 ⟨rfl, b6⟩
  have X6 := (b6.block _ (lt_of_block X5.out)).trans X5.out
  have B6 := Lib.hid (B5.out.trans (b6.mono B5.out.size))
  obtain ⟨x0, x1, x2, xf⟩ := cells3 X6
  clear b6 S5 B5 X5 X6
  go_wp2
  go_ret
  exact ⟨rfl, B6.out⟩

#print axioms awake8_calls
end Go.Proofs.YtephoadjnmmbnaaDoor
