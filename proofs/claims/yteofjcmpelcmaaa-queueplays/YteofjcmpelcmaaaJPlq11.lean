/-
  Told of layer 12's statements, and what it owns; Push of both, as one answer. (No statement: contracts that the proofs of the statements use.)
-/
import Derived.Test.YteofjcmpelcmaaaJPlq10
import Derived.Outline
import Derived.WalkLawsBesides
import Derived.Deep.RegionLaw
import Derived.Deep.RegionHeld3
namespace Go.Proofs.Yteofjcmpelcmaaa
open Go.RowKit

set_option maxRecDepth 100000 in
set_option maxHeartbeats 4000000 in
theorem told12_own (w : World) (m : Ms) (v : Value) (h : MsAt w m v) :
    Calls Try.prog 32 #[msV m v] w fun e w' => ∃ a n c, e = .returned (msV m (.slice a n c)) ∧ PropsAt w' (.slice a n c) m.ps ∧ (∀ g, (Value.slice a n c).ownBlock = some g → w.heap.size ≤ g ∧ g < w'.heap.size) ∧ Below w.heap.size w w' := by
  obtain ⟨A, cap, rfl⟩ := h.ps.form
  obtain ⟨a0, a1, q, a3, P, a5, a6⟩ := m
  dsimp only at h ⊢
  have HP := Lib.hid h
  clear h
  generalize hPl : P.length = n
  have HPL := Lib.hid hPl
  clear hPl
  have hb0 := (below_one w (.cells #[.string a0, .int .i64 a1, .int .u8 q, .bool a3, .slice A n cap, .string a5, .string a6] 50)).alloc (by simp) (.cells #[.string ⟨#[]⟩, .int .i64 0, .int .u8 0, .bool false, .slice none 0 0, .string ⟨#[]⟩, .string ⟨#[]⟩] 77)
  have hx0 := (Below.heap_alloc (w.alloc (.cells #[.string a0, .int .i64 a1, .int .u8 q, .bool a3, .slice A n cap, .string a5, .string a6] 50)) (.cells #[.string ⟨#[]⟩, .int .i64 0, .int .u8 0, .bool false, .slice none 0 0, .string ⟨#[]⟩, .string ⟨#[]⟩] 77) w.heap.size (by simp)).trans (heap_alloc_new w (.cells #[.string a0, .int .i64 a1, .int .u8 q, .bool a3, .slice A n cap, .string a5, .string a6] 50))
  have hx1 := seven_new (w.alloc (.cells #[.string a0, .int .i64 a1, .int .u8 q, .bool a3, .slice A n cap, .string a5, .string a6] 50)) (.string ⟨#[]⟩) (.int .i64 0) (.int .u8 0) (.bool false) (.slice none 0 0) (.string ⟨#[]⟩) (.string ⟨#[]⟩) 77 (w.heap.size + 1) (by simp)
  have hs0 : ((w.alloc (.cells #[.string a0, .int .i64 a1, .int .u8 q, .bool a3, .slice A n cap, .string a5, .string a6] 50)).alloc (.cells #[.string ⟨#[]⟩, .int .i64 0, .int .u8 0, .bool false, .slice none 0 0, .string ⟨#[]⟩, .string ⟨#[]⟩] 77)).heap.size = w.heap.size + 2 := by simp
  have hps := HP.out.ps
  dsimp only at hps
  rw [HPL.out] at hps
  have hps0 := hps.below hb0
  have HB0 := Lib.hid hb0
  have HX0 := Lib.hid hx0
  have HX1 := Lib.hid hx1
  have HS0 := Lib.hid hs0
  have HPS := Lib.hid hps0
  have hln := HP.out.len
  clear hb0 hx0 hx1 hs0 hps hps0
  go_enter Try.func32, Try.ntmps32
  go_wp2_with fail
  generalize (w.alloc (.cells #[.string a0, .int .i64 a1, .int .u8 q, .bool a3, .slice A n cap, .string a5, .string a6] 50)).alloc (.cells #[.string ⟨#[]⟩, .int .i64 0, .int .u8 0, .bool false, .slice none 0 0, .string ⟨#[]⟩, .string ⟨#[]⟩] 77) = W0 at *
  have HT := Lib.hid (told_calls W0.drew (.slice A n cap) P (HPS.out.below ((Below.refl _ _).drew)) hln)
  have hx0d : W0.drew.heap[w.heap.size]? = some (.cells #[.string a0, .int .i64 a1, .int .u8 q, .bool a3, .slice A n cap, .string a5, .string a6] 50 (0, 0)) := HX0.out
  have hx1d : W0.drew.heap[w.heap.size + 1]? = some (.cells #[.string ⟨#[]⟩, .int .i64 0, .int .u8 0, .bool false, .slice none 0 0, .string ⟨#[]⟩, .string ⟨#[]⟩] 77 (0, 0)) := HX1.out
  have HX0D := Lib.hid hx0d
  have HX1D := Lib.hid hx1d
  obtain ⟨c0, c1, c2, c3, c4, c5, c6, cf⟩ := cells7 HX0.out
  have HKA := Lib.hid (show W0.drew.cell? ⟨w.heap.size, 0, none⟩ = some (.string a0) ∧ W0.drew.cell? ⟨w.heap.size, 1, none⟩ = some (.int .i64 a1) ∧ W0.drew.cell? ⟨w.heap.size, 2, none⟩ = some (.int .u8 q) ∧ W0.drew.cell? ⟨w.heap.size, 3, none⟩ = some (.bool a3) ∧ W0.drew.cell? ⟨w.heap.size, 4, none⟩ = some (.slice A n cap) ∧ W0.drew.cell? ⟨w.heap.size, 5, none⟩ = some (.string a5) ∧ W0.drew.cell? ⟨w.heap.size, 6, none⟩ = some (.string a6) from ⟨c0, c1, c2, c3, c4, c5, c6⟩)
  clear hx0d hx1d c0 c1 c2 c3 c4 c5 c6 cf
  go_region_held3 (fun wx => wx.cell? ⟨w.heap.size, 0, none⟩ = some (.string a0) ∧ wx.cell? ⟨w.heap.size, 1, none⟩ = some (.int .i64 a1) ∧ wx.cell? ⟨w.heap.size, 2, none⟩ = some (.int .u8 q) ∧ wx.cell? ⟨w.heap.size, 3, none⟩ = some (.bool a3) ∧ wx.cell? ⟨w.heap.size, 4, none⟩ = some (.slice A n cap) ∧ wx.cell? ⟨w.heap.size, 5, none⟩ = some (.string a5) ∧ wx.cell? ⟨w.heap.size, 6, none⟩ = some (.string a6))
    (first | (with_reducible exact HKA.out) | (with_reducible exact HKB.out) | (with_reducible exact HKC.out _ _ _ _ _ _ _) | fail)
    (first
      | (go_at_call 67; (with_reducible refine HT.out.mono ?_); rintro e V1 ⟨v, rfl, o1, b1⟩; obtain ⟨pa, pc, rfl⟩ := o1.form; have HO := Lib.hid o1; have HB1 := Lib.hid ((b1.block _ (lt_of_block HX0D.out)).trans HX0D.out); have HR1 := Lib.hid ((b1.block _ (lt_of_block HX1D.out)).trans HX1D.out); have HBL := Lib.hid (Below.next HB0.out.drew b1); have HKB := Lib.hid (show V1.cell? ⟨w.heap.size, 0, none⟩ = some (.string a0) ∧ V1.cell? ⟨w.heap.size, 1, none⟩ = some (.int .i64 a1) ∧ V1.cell? ⟨w.heap.size, 2, none⟩ = some (.int .u8 q) ∧ V1.cell? ⟨w.heap.size, 3, none⟩ = some (.bool a3) ∧ V1.cell? ⟨w.heap.size, 4, none⟩ = some (.slice A n cap) ∧ V1.cell? ⟨w.heap.size, 5, none⟩ = some (.string a5) ∧ V1.cell? ⟨w.heap.size, 6, none⟩ = some (.string a6) from ⟨(cells7 HB1.out).1, (cells7 HB1.out).2.1, (cells7 HB1.out).2.2.1, (cells7 HB1.out).2.2.2.1, (cells7 HB1.out).2.2.2.2.1, (cells7 HB1.out).2.2.2.2.2.1, (cells7 HB1.out).2.2.2.2.2.2.1⟩); have HKC := Lib.hid (show ∀ (u0 u1 u2 u3 u4 u5 u6 : Value), (put7 V1 (w.heap.size + 1) 0 u0 u1 u2 u3 u4 u5 u6).cell? ⟨w.heap.size, 0, none⟩ = some (.string a0) ∧ (put7 V1 (w.heap.size + 1) 0 u0 u1 u2 u3 u4 u5 u6).cell? ⟨w.heap.size, 1, none⟩ = some (.int .i64 a1) ∧ (put7 V1 (w.heap.size + 1) 0 u0 u1 u2 u3 u4 u5 u6).cell? ⟨w.heap.size, 2, none⟩ = some (.int .u8 q) ∧ (put7 V1 (w.heap.size + 1) 0 u0 u1 u2 u3 u4 u5 u6).cell? ⟨w.heap.size, 3, none⟩ = some (.bool a3) ∧ (put7 V1 (w.heap.size + 1) 0 u0 u1 u2 u3 u4 u5 u6).cell? ⟨w.heap.size, 4, none⟩ = some (.slice A n cap) ∧ (put7 V1 (w.heap.size + 1) 0 u0 u1 u2 u3 u4 u5 u6).cell? ⟨w.heap.size, 5, none⟩ = some (.string a5) ∧ (put7 V1 (w.heap.size + 1) 0 u0 u1 u2 u3 u4 u5 u6).cell? ⟨w.heap.size, 6, none⟩ = some (.string a6) from fun u0 u1 u2 u3 u4 u5 u6 => by have hq := put7_other (W := V1) (b := w.heap.size + 1) (o := 0) (a0 := u0) (a1 := u1) (a2 := u2) (a3 := u3) (a4 := u4) (a5 := u5) (a6 := u6) (show w.heap.size ≠ w.heap.size + 1 by omega); exact ⟨(World.cell?_of_block (a := ⟨w.heap.size, 0, none⟩) hq).trans HKB.out.1, (World.cell?_of_block (a := ⟨w.heap.size, 1, none⟩) hq).trans HKB.out.2.1, (World.cell?_of_block (a := ⟨w.heap.size, 2, none⟩) hq).trans HKB.out.2.2.1, (World.cell?_of_block (a := ⟨w.heap.size, 3, none⟩) hq).trans HKB.out.2.2.2.1, (World.cell?_of_block (a := ⟨w.heap.size, 4, none⟩) hq).trans HKB.out.2.2.2.2.1, (World.cell?_of_block (a := ⟨w.heap.size, 5, none⟩) hq).trans HKB.out.2.2.2.2.2.1, (World.cell?_of_block (a := ⟨w.heap.size, 6, none⟩) hq).trans HKB.out.2.2.2.2.2.2⟩); unfold put7 at HKC; obtain ⟨r0, r1, r2, r3, r4, r5, r6, rf⟩ := cells7 HR1.out; have rl := lt_of_block HR1.out; clear o1 b1))
  rename_i hHeld
  clear hHeld HKA HKB HKC
  have HFL := Lib.hid (show PropsAt (put7 V1 (w.heap.size + 1) 0 (.string a0) (.int .i64 a1) (.int .u8 q) (.bool a3) (.slice pa P.length pc) (.string a5) (.string a6)) (.slice pa P.length pc) P from by
    refine HO.out.props.keep (fun g hg _ => put7_other ?_) (by rw [put7_size]; exact Nat.le_refl _)
    have := (World.ownsRow.lt HO.out g hg).1
    have := lt_of_block HX1D.out
    omega)
  have HGF := Lib.hid (show ∀ g, (Value.slice pa P.length pc).ownBlock = some g → w.heap.size ≤ g ∧ g < (put7 V1 (w.heap.size + 1) 0 (.string a0) (.int .i64 a1) (.int .u8 q) (.bool a3) (.slice pa P.length pc) (.string a5) (.string a6)).heap.size from fun g hg => by
    rw [put7_size]
    have h1 := World.ownsRow.lt HO.out g hg
    have h2 := HB0.out.size
    have h3 : W0.drew.heap.size = W0.heap.size := rfl
    omega)
  have HBF := Lib.hid (put7_below (o := 0) (a0 := .string a0) (a1 := .int .i64 a1) (a2 := .int .u8 q) (a3 := .bool a3) (a4 := .slice pa P.length pc) (a5 := .string a5) (a6 := .string a6) HBL.out (show w.heap.size ≤ w.heap.size + 1 by omega))
  have HR1' := HR1
  clear r0 r1 r2 r3 r4 r5 r6 rf
  go_wp2
  change bodyPost _ _ _ _ _ (put7 V1 (w.heap.size + 1) 0 _ _ _ _ _ _ _)
  have hfin := put7_block (a0 := .string a0) (a1 := .int .i64 a1) (a2 := .int .u8 q) (a3 := .bool a3) (a4 := .slice pa P.length pc) (a5 := .string a5) (a6 := .string a6) HR1'.out
  obtain ⟨t0, t1, t2, t3, t4, t5, t6, tf⟩ := cells7 hfin
  refine bodyPost_ret (v := msV ⟨a0, a1, q, a3, P, a5, a6⟩ (.slice pa P.length pc)) ?_ rfl ⟨_, _, _, rfl, HFL.out, HGF.out, HBF.out⟩
  simp [results, Try.results32, go_sem, t0, t1, t2, t3, t4, t5, t6]

/-- The first light one, and the rest. -/
def cutQ : List Ms → Option (Ms × List Ms)
  | [] => none
  | x :: X => if x.q = 0 then some (x, X) else (cutQ X).map fun r => (r.1, x :: r.2)
theorem cutQ_none : ∀ X : List Ms, (∀ x ∈ X, x.q ≠ 0) → cutQ X = none
  | [], _ => rfl
  | x :: X, h => by
    rw [cutQ, if_neg (h x (by simp)), cutQ_none X (fun y hy => h y (by simp [hy]))]
    rfl
theorem cutQ_some : ∀ (X1 : List Ms) (y : Ms) (X2 : List Ms), y.q = 0 → (∀ x ∈ X1, x.q ≠ 0) → cutQ (X1 ++ y :: X2) = some (y, X1 ++ X2)
  | [], y, X2, hy, _ => by rw [List.nil_append, cutQ, if_pos hy]; rfl
  | x :: X1, y, X2, hy, h => by
    rw [List.cons_append, cutQ, if_neg (h x (by simp)), cutQ_some X1 y X2 hy (fun z hz => h z (by simp [hz]))]
    rfl
/-- Push: those that wait, what is told, is anything dropped? -/
def pushX (most : Int) (X : List Ms) (m : Ms) : List Ms × Ms × Bool :=
  if (X.length : Int) < most then (X ++ [m], ⟨⟨#[]⟩, 0, 0, false, [], ⟨#[]⟩, ⟨#[]⟩⟩, false)
  else if m.q = 0 then (X, m, true)
  else match cutQ X with
    | none => (X, m, true)
    | some (y, X') => (X' ++ [m], y, true)
theorem light_zero (X : List Ms) (h : lightL X = 0) : ∀ x ∈ X, x.q ≠ 0 := fun x hx hq => by
  have : x ∈ X.filter fun m => decide (m.q = 0) := List.mem_filter.2 ⟨hx, by simpa using hq⟩
  rw [List.eq_nil_of_length_eq_zero h] at this
  cases this

/-- The queue behind Push. -/
structure PushQ (w : World) (p b : Nat) (most : Int) (X : List Ms) (m : Ms) (w' : World) (X' : List Ms) (b' : Nat) (xm : Ms) (xv : Value) (ok : Bool) : Prop where
  q : QAt w' p b' most X'
  mv : Mv (fun k => k = p ∨ k = b) w w'
  new : b' = b ∨ w.heap.size ≤ b'
  told : MsAt w' xm xv
  sel : pushX most X m = (X', xm, ok)
theorem push_q {w : World} {p b : Nat} {most : Int} {X : List Ms} {m : Ms} {e : Ending} {w' : World} (h : QPush w p b most X m e w') :
    ∃ X' b' xm xv ok, e = .returned (.tuple #[msV xm xv, .bool ok]) ∧ PushQ w p b most X m w' X' b' xm xv ok := by
  rcases h with ⟨h1, rfl, b', k⟩ | ⟨h1, h2, v, rfl, hm, hq, hmv⟩ | ⟨h1, h2, X1, y, X2, v, b', rfl, hy, hX1, rfl, hm, k⟩
  · exact ⟨_, b', _, _, _, rfl, k.at', k.mv, k.new, ⟨⟨none, 0, rfl, fun i x hx => by simp at hx⟩, by simp⟩, by rw [pushX, if_pos h1]⟩
  · refine ⟨_, b, _, _, _, rfl, hq, hmv, .inl rfl, hm, ?_⟩
    rw [pushX, if_neg h1]
    by_cases h3 : m.q = 0
    · rw [if_pos h3]
    · rw [if_neg h3, cutQ_none X (light_zero X (h2.resolve_left h3))]
  · refine ⟨_, b', _, _, _, rfl, k.at', k.mv, k.new, hm, ?_⟩
    rw [pushX, if_neg h1, if_neg h2, cutQ_some X1 y X2 hy hX1]

/-- The document's list behind Push: the old row, or a new one. -/
structure PushR (w : World) (b off cap : Nat) (Y : List (Ms × Value)) (m : Ms) (v : Value) (most : Int) (w' : World) (b' o' c' : Nat) (Y' : List (Ms × Value)) (xm : Ms) (xv : Value) (ok : Bool) : Prop where
  row : (b' = b ∧ o' = off ∧ c' = cap ∧ Y' = Y) ∨ NewS w.heap.size w' b' o' c' Y'
  sub : ∀ e ∈ Y', e ∈ Y ∨ e = (m, v)
  told : MsAt w' xm xv
  bel : Below w.heap.size w w'
  sel : pushX most (Y.map Prod.fst) m = (Y'.map Prod.fst, xm, ok)
theorem push_r {w : World} {b off cap : Nat} {Y : List (Ms × Value)} {m : Ms} {v : Value} {most : Int} {e : Ending} {w' : World} (h : RPush w b off cap Y m v most e w') (hy : ∀ e ∈ Y, MsAt w e.1 e.2) (hm : MsAt w m v) :
    ∃ b' o' c' Y' xm xv ok, e = .returned (.tuple #[.slice (some ⟨b', o', none⟩) Y'.length c', msV xm xv, .bool ok]) ∧ PushR w b off cap Y m v most w' b' o' c' Y' xm xv ok := by
  have hl : ((Y.map Prod.fst).length : Int) = Y.length := by simp
  rcases h with ⟨h1, b', o', c', rfl, hn, hb⟩ | ⟨h1, h2, rfl, hb⟩ | ⟨h1, h2, Y1, y, Y2, b', o', c', rfl, hq, hY1, rfl, hn, hb⟩
  · refine ⟨b', o', c', Y ++ [(m, v)], _, _, _, by rw [List.length_append]; rfl, .inr hn, fun e he => ?_, ⟨⟨none, 0, rfl, fun i x hx => by simp at hx⟩, by simp⟩, hb, ?_⟩
    · rcases List.mem_append.1 he with he | he
      · exact .inl he
      · exact .inr (by simpa using he)
    · rw [pushX, hl, if_pos h1]; simp
  · refine ⟨b, off, cap, Y, _, _, _, rfl, .inl ⟨rfl, rfl, rfl, rfl⟩, fun e he => .inl he, hm.below hb, hb, ?_⟩
    rw [pushX, hl, if_neg h1]
    by_cases h3 : m.q = 0
    · rw [if_pos h3]
    · rw [if_neg h3, cutQ_none _ (fun x hx => by
        obtain ⟨e, he, rfl⟩ := List.mem_map.1 hx
        exact (h2.resolve_left h3) e he)]
  · refine ⟨b', o', c', Y1 ++ Y2 ++ [(m, v)], y.1, y.2, true, by rw [show (Y1 ++ Y2 ++ [(m, v)]).length = (Y1 ++ y :: Y2).length by simp], .inr hn, fun e he => ?_, (hy y (by simp)).below hb, hb, ?_⟩
    · rcases List.mem_append.1 he with he | he
      · rcases List.mem_append.1 he with he | he
        · exact .inl (by simp [he])
        · exact .inl (by simp [he])
      · exact .inr (by simpa using he)
    · rw [pushX, hl, if_neg h1, if_neg h2, List.map_append, List.map_cons, cutQ_some _ y.1 _ hq (fun x hx => by
        obtain ⟨e, he, rfl⟩ := List.mem_map.1 hx
        exact hY1 e he)]
      simp

theorem rPush_calls (w : World) (b off cap : Nat) (Y : List (Ms × Value)) (n : Nat) (m : Ms) (v : Value) (most : Int) (hs : RowS w b off cap Y) (hY : Y.length = n) (hn : n ≤ 1000) (hm : MsAt w m v) :
    Calls Try.prog 31 #[.slice (some ⟨b, off, none⟩) n cap, msV m v, .int .i64 most] w (RPush w b off cap Y m v most) := by
  by_cases hr : (n : Int) < most
  · exact rPush_room w b off cap Y n m v most hs hY hn hm hr
  · by_cases hq : m.q = 0
    · exact rPush_zero w b off cap Y n m v most hY hm hr hq
    · exact rPush_loop w b off cap Y n m v most hs hY hn hm hr hq

/-- While QueuePlays runs: the queue, the document's list. -/
structure Ply (w : World) (p : Nat) (most : Int) (X : List Ms) (b bl ol cl : Nat) (Y : List (Ms × Value)) (i : Nat) (W : World) : Prop where
  q : QAt W p b most X
  y : RowS W bl ol cl Y
  eq : Y.map Prod.fst = X
  len : X.length ≤ i
  num : ∀ m ∈ X, m.num
  hp : w.heap.size ≤ p
  hb : w.heap.size ≤ b
  bp : bl ≠ p
  bb : bl ≠ b
  far : ∀ e ∈ Y, ∀ g, e.2.ownBlock = some g → g < W.heap.size ∧ g ≠ p ∧ g ≠ b
  bel : Below w.heap.size w W
section
variable {w W W' : World} {p b b' bl ol cl bl' ol' cl' i : Nat} {most : Int} {X X' : List Ms} {Y Y' : List (Ms × Value)}
theorem Ply.below (h : Ply w p most X b bl ol cl Y i W) (hb : Below W.heap.size W W') : Ply w p most X b bl ol cl Y i W' :=
  ⟨h.q.below hb, h.y.below hb, h.eq, h.len, h.num, h.hp, h.hb, h.bp, h.bb, fun e he g hg => ⟨Nat.lt_of_lt_of_le (h.far e he g hg).1 hb.size, (h.far e he g hg).2⟩, Below.next h.bel hb⟩
theorem Ply.lenY (h : Ply w p most X b bl ol cl Y i W) : Y.length = X.length := by rw [← h.eq]; simp
/-- The document's list alone, while the queue turns. -/
theorem Ply.turn (h : Ply w p most X b bl ol cl Y i W) (hm : Mv (fun k => k = p ∨ k = b) W W') (hn : b' = b ∨ W.heap.size ≤ b') :
    RowS W' bl ol cl Y ∧ bl ≠ b' ∧ (∀ e ∈ Y, ∀ g, e.2.ownBlock = some g → g < W'.heap.size ∧ g ≠ p ∧ g ≠ b') ∧ w.heap.size ≤ b' ∧ Below w.heap.size w W' := by
  have h1 := h.bp
  have h2 := h.bb
  have h3 := h.y.lt
  have h4 := h.hb
  have h5 := h.hp
  have h6 := h.bel.size
  refine ⟨⟨h.y.row.keep (fun _ => hm.block bl h3 (by omega)), Nat.lt_of_lt_of_le h3 hm.size, fun e he => (h.y.each e he).keep (fun g hg hl => hm.block g hl (by have := h.far e he g hg; omega)) hm.size⟩, by omega, fun e he g hg => ?_, by omega, h.bel.trans (hm.below h6 (fun k hk => by omega))⟩
  obtain ⟨g1, g2, g3⟩ := h.far e he g hg
  exact ⟨Nat.lt_of_lt_of_le g1 hm.size, g2, by omega⟩
end

theorem cells9 {w : World} {b : Nat} {t : TypeId} {k n u0 u1 u2 u3 u4 u5 u6 : Value} (h : w.heap[b]? = some (.cells #[k, n, u0, u1, u2, u3, u4, u5, u6] t (0, 0))) :
    w.cell? ⟨b, 0, none⟩ = some k ∧ w.cell? ⟨b, 1, none⟩ = some n ∧ w.cell? ⟨b, 2, none⟩ = some u0 ∧ w.cell? ⟨b, 3, none⟩ = some u1 ∧ w.cell? ⟨b, 4, none⟩ = some u2 ∧ w.cell? ⟨b, 5, none⟩ = some u3 ∧ w.cell? ⟨b, 6, none⟩ = some u4 ∧ w.cell? ⟨b, 7, none⟩ = some u5 ∧ w.cell? ⟨b, 8, none⟩ = some u6 := by
  simp [World.cell?, h]

#print axioms push_r
#print axioms rPush_calls
end Go.Proofs.Yteofjcmpelcmaaa
