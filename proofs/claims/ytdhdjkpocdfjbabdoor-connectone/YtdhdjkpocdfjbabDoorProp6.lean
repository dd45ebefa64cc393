/-
  Lists of properties, in memory; Put of them; Get, Num. (No statement: contracts that the proofs of the statements use.)
-/
import Derived.Test.YtdhdjkpocdfjbabDoorProp5
namespace Go.Proofs.YtdhdjkpocdfjbabDoor
open Go.RowKit

/-- The cells of a property. -/
def prC (p : Pr) : List Value := [.int .i64 p.id, .int .u32 p.n, .string p.s, .string p.t]

theorem prC_at : ∀ (P : List Pr) (i k : Nat), k < 4 → (P.flatMap prC)[i * 4 + k]? = (P[i]?).bind fun p => (prC p)[k]?
  | [], i, k, _ => by simp
  | p :: P, 0, k, hk => by
    rw [List.flatMap_cons, List.getElem?_append_left (by simp [prC]; omega)]
    simp
  | p :: P, i + 1, k, hk => by
    rw [List.flatMap_cons, List.getElem?_append_right (by simp [prC]; omega)]
    have : (i + 1) * 4 + k - (prC p).length = i * 4 + k := by simp [prC]; omega
    rw [this, prC_at P i k hk]
    simp
theorem prC_len (P : List Pr) : (P.flatMap prC).length = P.length * 4 := by
  induction P with
  | nil => rfl
  | cons p P ih => rw [List.flatMap_cons, List.length_append, ih]; simp [prC]; omega
theorem prC_one (P : List Pr) : ∀ u ∈ P.flatMap prC, u.oneCell' = true := by
  intro u hu
  obtain ⟨p, _, hp⟩ := List.mem_flatMap.1 hu
  simp [prC] at hp
  rcases hp with rfl | rfl | rfl | rfl <;> rfl

/-- A slice that reads as a list of properties. -/
def PropsAt (W : World) (v : Value) (P : List Pr) : Prop :=
  ∃ A cap, v = .slice A P.length cap ∧ ∀ (i : Nat) (x : Pr), P[i]? = some x →
    ∃ b off, A = some ⟨b, off, none⟩ ∧ b < W.heap.size ∧ W.cell? ⟨b, off + i * 4, none⟩ = some (.int .i64 x.id) ∧ W.cell? ⟨b, off + i * 4 + 1, none⟩ = some (.int .u32 x.n) ∧
      W.cell? ⟨b, off + i * 4 + 2, none⟩ = some (.string x.s) ∧ W.cell? ⟨b, off + i * 4 + 3, none⟩ = some (.string x.t)

theorem PropsAt.below {W W' : World} {v : Value} {P : List Pr} (h : PropsAt W v P) (hb : Below W.heap.size W W') : PropsAt W' v P := by
  obtain ⟨A, cap, rfl, hc⟩ := h
  refine ⟨A, cap, rfl, fun i x hx => ?_⟩
  obtain ⟨b, off, hA, hl, c0, c1, c2, c3⟩ := hc i x hx
  exact ⟨b, off, hA, Nat.lt_of_lt_of_le hl hb.size, (hb.cell (p := ⟨b, _, none⟩) hl).trans c0, (hb.cell (p := ⟨b, _, none⟩) hl).trans c1, (hb.cell (p := ⟨b, _, none⟩) hl).trans c2, (hb.cell (p := ⟨b, _, none⟩) hl).trans c3⟩

/-- A row of properties of the call's own, from block B on; its elements' type is e. -/
def OwnP (B : Nat) (e : TypeId) (w : World) (v : Value) (P : List Pr) : Prop := w.ownsRow B e 4 v P.length (P.flatMap prC)

theorem OwnP.props {B : Nat} {e : TypeId} {w : World} {v : Value} {P : List Pr} (h : OwnP B e w v P) : PropsAt w v P := by
  rcases h.2 with ⟨rfl, h0⟩ | ⟨g, cap, cur, rfl, _, hg, hrest⟩
  · have : P = [] := List.eq_nil_of_length_eq_zero h0
    subst this
    exact ⟨none, 0, rfl, fun i x hx => by simp at hx⟩
  · refine ⟨_, cap, rfl, fun i x hx => ⟨g, 0, rfl, lt_of_block hg, ?_⟩⟩
    have hi : i < P.length := (List.getElem?_eq_some_iff.1 hx).1
    have hcell : ∀ k, k < 4 → w.cell? ⟨g, i * 4 + k, none⟩ = (prC x)[k]? := by
      intro k hk
      have := World.ownsRow.cellAt h (i * 4 + k) (by omega)
      rw [this, prC_at P i k hk, hx]
      rfl
    refine ⟨?_, ?_, ?_, ?_⟩
    · rw [Nat.zero_add]; exact hcell 0 (by omega)
    · rw [Nat.zero_add]; exact hcell 1 (by omega)
    · rw [Nat.zero_add]; exact hcell 2 (by omega)
    · rw [Nat.zero_add]; exact hcell 3 (by omega)

/-- The bytes of properties, without and with how many. -/
def bodyL (P : List Pr) : List UInt8 := P.flatMap oneL
def propsL (P : List Pr) : List UInt8 := varb 3 (bodyL P).length ++ bodyL P

theorem bodyL_len (P : List Pr) (h : ∀ p ∈ P, p.ok) : (bodyL P).length ≤ 140000 * P.length := by
  induction P with
  | nil => simp [bodyL]
  | cons p P ih =>
    have h1 := one_len p (h p (by simp))
    have h2 := ih (fun q hq => h q (by simp [hq]))
    unfold bodyL at *
    rw [List.flatMap_cons, List.length_append, List.length_cons]
    omega
theorem bodyL_snoc (P : List Pr) (k : Nat) (x : Pr) (h : P[k]? = some x) : bodyL (P.take (k + 1)) = bodyL (P.take k) ++ oneL x := by
  obtain ⟨hk, rfl⟩ := List.getElem?_eq_some_iff.1 h
  rw [bodyL, bodyL, List.take_succ_eq_append_getElem hk, List.flatMap_append]
  simp

set_option maxRecDepth 100000 in
set_option maxHeartbeats 2000000 in
theorem put3_calls (w : World) (o : Nat) (r : Option Nat) (bs : List UInt8) (v : Value) (P : List Pr) (hP : PropsAt w v P) (hok : ∀ p ∈ P, p.ok) (hn : P.length ≤ 1000) (h : OutAt w o r bs) (hl : bs.length ≤ 500000000) :
    Calls Tryd.prog 48 #[.pointer (some ⟨o, 0, none⟩), v] w (PutP w o r (bs ++ propsL P)) := by
  have hbl := bodyL_len P hok
  obtain ⟨A, cap, rfl, hc⟩ := hP
  have HC := Lib.hid hc
  have HOK := Lib.hid hok
  have HO := Lib.hid h
  clear hc hok h
  generalize hR : propsL P = R
  have HR := Lib.hid hR
  clear hR
  go_enter Tryd.func48, Tryd.ntmps48
  go_wp2
  go_loopw [9] (fun i wr => ∃ (k : Nat) (r' : Option Nat), k ≤ P.length ∧ i = .int .i64 k ∧ OutAt wr w.heap.size r' (bodyL (P.take k)) ∧ (∀ g, r' = some g → w.heap.size ≤ g) ∧ Below w.heap.size w wr) (fun i _ => P.length - (intOf i).toNat)
  case atStart => exact ⟨0, none, by omega, rfl, OutAt.new w, (fun g hg => by cases hg), below_one w _⟩
  case round =>
    obtain ⟨k, r', hk, rfl, hout, hrow, hb⟩ := hrel
    have HW := Lib.hid hrow
    have HB := Lib.hid hb
    have hz := hb.size
    clear hrow hb
    by_cases hlt : k < P.length
    · obtain ⟨x, hx⟩ : ∃ x, P[k]? = some x := ⟨_, List.getElem?_eq_getElem hlt⟩
      obtain ⟨b, off, hA, hbl2, c0, c1, c2, c3⟩ := HC.out k x hx
      rw [← HB.out.cell (p := ⟨b, _, none⟩) hbl2] at c0 c1 c2 c3
      subst hA
      have HX := Lib.hid hx
      have hxok := HOK.out x (List.mem_of_getElem? hx)
      have HXO := Lib.hid hxok
      have hbl3 : (bodyL (P.take k)).length ≤ 140000 * k := by
        have := bodyL_len (P.take k) (fun p hp => HOK.out p (List.mem_of_mem_take hp))
        rw [List.length_take] at this
        omega
      have HL := Lib.hid hbl3
      have HOU := Lib.hid hout
      clear hx hxok hbl3 hout
      go_wp2_with fail
      refine (putOne_calls _ w.heap.size r' _ x HXO.out (HOU.out.alloc _) (by have := HL.out; omega)).mono ?_
      rintro e w1 ⟨rfl, r1, h1, s1⟩
      have hb1 : Below w.heap.size w w1 := (HB.out.alloc hz _).trans (s1.below (by simp; omega) (Nat.le_refl _) HW.out)
      have hr1 := s1.row_ge (B := w.heap.size) (by simp; omega) HW.out
      rw [← bodyL_snoc P k x HX.out] at h1
      have HB1 := Lib.hid hb1
      have HR1 := Lib.hid hr1
      have HO1 := Lib.hid h1
      clear s1 HW HB h1 hb1 hr1 HOU HXO c0 c1 c2 c3
      go_wp2
      go_roundw
      case rel => exact ⟨k + 1, r1, by omega, by go_num, HO1.out, HR1.out, HB1.out⟩
      case measure => simp [intOf]; omega
    · obtain rfl : k = P.length := by omega
      rw [List.take_length] at hout
      clear hk hlt
      have hol : o < w.heap.size := HO.out.lt
      have hrl : ∀ g, r = some g → g < w.heap.size := HO.out.row_lt
      have ho2 := HO.out.below HB.out
      have HRL := Lib.hid hrl
      clear hrl
      have hRL : (bodyL P).length < 268435455 := by omega
      have HQ : Hid (∀ wx r2, Step wr wx o r r2 → OutAt wx w.heap.size r' (bodyL P)) := by
        intro wx r2 hs
        refine hout.keep (hs.block _ hout.lt (by omega) (fun e => by have := HRL.out _ e.symm; omega)) (fun g hg => ?_)
        have h1 := HW.out g hg
        exact hs.block g (hout.row_lt g hg) (by omega) (fun e => by have := HRL.out _ e.symm; omega)
      have HR2 := HR.out
      unfold propsL at HR2
      have HR3 := Lib.hid HR2
      clear HR2 HR
      generalize bodyL P = D at *
      go_wp2_with fail
      refine (len_calls _ _ r' _ hout).mono ?_
      rintro e w1 ⟨rfl, rfl⟩
      clear hout
      go_wp2_with fail
      refine (var_any _ o r bs D.length D.length (by omega) (.inl rfl) ho2 (by omega)).mono ?_
      rintro e w2 ⟨rfl, r2, h2, s2⟩
      have hout2 := HQ.out w2 r2 s2
      have hvl := varb_len 3 D.length
      have HS2 := Lib.hid s2
      clear HQ s2 ho2
      go_wp2_with fail
      refine (text_calls _ _ r' _ hout2).mono ?_
      rintro e w3 ⟨rfl, rfl⟩
      clear hout2
      go_wp2_with fail
      refine (raw_calls _ o r2 _ (str D) h2 (by rw [str_size, List.length_append]; omega)).mono ?_
      rw [str_data, List.append_assoc, HR3.out]
      rintro e w4 ⟨rfl, r4, h4, s4⟩
      have HP := Lib.hid (show Put w o r (bs ++ R) w4 from ⟨r4, h4, ((Step.of_below HB.out o r).trans HS2.out).trans s4⟩)
      clear h2 h4 s4 HS2 HB HW
      go_wp2
      go_end0
      exact ⟨rfl, HP.out⟩

#print axioms put3_calls
end Go.Proofs.YtdhdjkpocdfjbabDoor
