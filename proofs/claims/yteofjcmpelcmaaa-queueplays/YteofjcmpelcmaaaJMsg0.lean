/-
  What messages and their properties want of the texts of layer 3. (No statement: contracts that the proofs of the statements use.)
-/
import Derived.Test.YteofjcmpelcmaaaRows
import Derived.WalkKit
import Derived.WalkSpells
import Derived.Maps.AppendAt
import Derived.Maps.OwnSet
import Derived.Lib.Hide
import Derived.ProofKit
import Derived.OpenShut
import Derived.Deep.Slices
import Derived.Deep.Fields
import Derived.Deep.QuietTactic
import Derived.BigQuiet
import Derived.Deep.RegionHeld3
import Derived.StillTailTactics
import Derived.Lib.SmallJoins
namespace Go.Proofs.Yteofjcmpelcmaaa
open Go.RowKit Go.ChangeShapes Go.WideShapes Go.Deep

theorem cut_calls (w : World) (s : ByteArray) (n : Nat) (_hs : s.size ≤ maxLen) :
    Calls Try.prog 60 #[.string s, .int .i64 n] w fun e w' => e = .returned (.string (s.extract 0 n)) ∧ w = w' := by
  by_cases h : n < s.size
  · go_enter Try.func60, Try.ntmps60
    go_wp2
    go_ret
    exact ⟨rfl, rfl⟩
  · have e : s.extract 0 n = s := by
      apply ByteArray.ext
      rw [ByteArray.data_extract]
      apply Array.ext'
      simp
      exact List.take_of_length_le (by simp; omega)
    rw [e]
    go_enter Try.func60, Try.ntmps60
    go_wp2
    go_ret
    exact ⟨rfl, rfl⟩

theorem below_one (w : World) (ob : Obj) : Below w.heap.size w (w.alloc ob) := (Below.refl _ w).alloc (Nat.le_refl _) ob

theorem Below.next {w1 w2 w3 : World} (h : Below w1.heap.size w1 w2) (k : Below w2.heap.size w2 w3) : Below w1.heap.size w1 w3 := h.trans (k.mono h.size)

/-- A property. -/
structure Pr where
  id : Int
  n : Int
  s : ByteArray
  t : ByteArray

abbrev prV (p : Pr) : Value := .agg #[.int .i64 p.id, .int .u32 p.n, .string p.s, .string p.t]

/-- Its numbers and texts are those of a property. -/
structure Pr.ok (p : Pr) : Prop where
  n0 : 0 ≤ p.n
  n1 : p.n < 4294967296
  s1 : p.s.size ≤ 65535
  t1 : p.t.size ≤ 65535

/-- The cells of a property. -/
def prC (p : Pr) : List Value := [.int .i64 p.id, .int .u32 p.n, .string p.s, .string p.t]

theorem prC_at : ∀ (P : List Pr) (i k : Nat), k < 4 → (P.flatMap prC)[i * 4 + k]? = (P[i]?).bind fun p => (prC p)[k]?
  | [], i, k, _ => by simp
  | p :: P, 0, k, hk => by
    rw [List.flatMap_cons, List.getElem?_append_left (by simp [prC]; omega)]
    simp
  | p :: P, i + 1, k, hk => by
    rw [List.flatMap_cons, List.getElem?_append_right (by simp [prC]; omega)]
    have : (i + 1) * 4 + k - (prC p).length = i * 4 + k := by simp [prC]; omega
    rw [this, prC_at P i k hk]
    simp

theorem prC_len (P : List Pr) : (P.flatMap prC).length = P.length * 4 := by
  induction P with
  | nil => rfl
  | cons p P ih => rw [List.flatMap_cons, List.length_append, ih]; simp [prC]; omega

theorem prC_one (P : List Pr) : ∀ u ∈ P.flatMap prC, u.oneCell' = true := by
  intro u hu
  obtain ⟨p, _, hp⟩ := List.mem_flatMap.1 hu
  simp [prC] at hp
  rcases hp with rfl | rfl | rfl | rfl <;> rfl

/-- A slice that reads as a list of properties. -/
def PropsAt (W : World) (v : Value) (P : List Pr) : Prop :=
  ∃ A cap, v = .slice A P.length cap ∧ ∀ (i : Nat) (x : Pr), P[i]? = some x →
    ∃ b off, A = some ⟨b, off, none⟩ ∧ b < W.heap.size ∧ W.cell? ⟨b, off + i * 4, none⟩ = some (.int .i64 x.id) ∧ W.cell? ⟨b, off + i * 4 + 1, none⟩ = some (.int .u32 x.n) ∧
      W.cell? ⟨b, off + i * 4 + 2, none⟩ = some (.string x.s) ∧ W.cell? ⟨b, off + i * 4 + 3, none⟩ = some (.string x.t)

theorem PropsAt.below {W W' : World} {v : Value} {P : List Pr} (h : PropsAt W v P) (hb : Below W.heap.size W W') : PropsAt W' v P := by
  obtain ⟨A, cap, rfl, hc⟩ := h
  refine ⟨A, cap, rfl, fun i x hx => ?_⟩
  obtain ⟨b, off, hA, hl, c0, c1, c2, c3⟩ := hc i x hx
  exact ⟨b, off, hA, Nat.lt_of_lt_of_le hl hb.size, (hb.cell (p := ⟨b, _, none⟩) hl).trans c0, (hb.cell (p := ⟨b, _, none⟩) hl).trans c1, (hb.cell (p := ⟨b, _, none⟩) hl).trans c2, (hb.cell (p := ⟨b, _, none⟩) hl).trans c3⟩

/-- A row of properties of the call's own, from block B on; its elements' type is e. -/
def OwnP (B : Nat) (e : TypeId) (w : World) (v : Value) (P : List Pr) : Prop := w.ownsRow B e 4 v P.length (P.flatMap prC)

theorem OwnP.props {B : Nat} {e : TypeId} {w : World} {v : Value} {P : List Pr} (h : OwnP B e w v P) : PropsAt w v P := by
  rcases h.2 with ⟨rfl, h0⟩ | ⟨g, cap, cur, rfl, _, hg, hrest⟩
  · have : P = [] := List.eq_nil_of_length_eq_zero h0
    subst this
    exact ⟨none, 0, rfl, fun i x hx => by simp at hx⟩
  · refine ⟨_, cap, rfl, fun i x hx => ⟨g, 0, rfl, lt_of_block hg, ?_⟩⟩
    have hi : i < P.length := (List.getElem?_eq_some_iff.1 hx).1
    have hcell : ∀ k, k < 4 → w.cell? ⟨g, i * 4 + k, none⟩ = (prC x)[k]? := by
      intro k hk
      have := World.ownsRow.cellAt h (i * 4 + k) (by omega)
      rw [this, prC_at P i k hk, hx]
      rfl
    refine ⟨?_, ?_, ?_, ?_⟩
    · rw [Nat.zero_add]; exact hcell 0 (by omega)
    · rw [Nat.zero_add]; exact hcell 1 (by omega)
    · rw [Nat.zero_add]; exact hcell 2 (by omega)
    · rw [Nat.zero_add]; exact hcell 3 (by omega)

/-- Four cells of a block. -/
theorem four_cells {w : World} {b : Nat} {a c d e : Value} {t : TypeId} (h : w.heap[b]? = some (.cells #[a, c, d, e] t (0, 0))) :
    (w.cell? ⟨b, 0, none⟩ = some a ∧ w.cell? ⟨b, 1, none⟩ = some c ∧ w.cell? ⟨b, 2, none⟩ = some d ∧ w.cell? ⟨b, 3, none⟩ = some e) ∧
    (w.frozen? ⟨b, 0, none⟩ = false ∧ w.frozen? ⟨b, 1, none⟩ = false ∧ w.frozen? ⟨b, 2, none⟩ = false ∧ w.frozen? ⟨b, 3, none⟩ = false) := by
  simp [World.cell?, World.frozen?, h]

theorem OwnP.form {B : Nat} {e : TypeId} {w : World} {v : Value} {P : List Pr} (h : OwnP B e w v P) : ∃ a c, v = .slice a P.length c := by
  rcases h.2 with ⟨rfl, h0⟩ | ⟨g, cap, _, rfl, _⟩
  · exact ⟨none, 0, by rw [h0]⟩
  · exact ⟨_, _, rfl⟩

theorem four_new (w : World) (a b c d : Value) (t : TypeId) : ∀ j u, [a, b, c, d][j]? = some u → (w.alloc (.cells #[a, b, c, d] t)).cell? ((⟨w.heap.size, 0, none⟩ : Addr).add j) = some u := by
  intro j u hj
  match j, hj with
  | 0, hj => simp at hj; subst hj; simp [Addr.add]
  | 1, hj => simp at hj; subst hj; simp [Addr.add]
  | 2, hj => simp at hj; subst hj; simp [Addr.add]
  | 3, hj => simp at hj; subst hj; simp [Addr.add]

theorem OwnP.mono {B C : Nat} {e : TypeId} {w : World} {v : Value} {P : List Pr} (h : OwnP B e w v P) (hc : C ≤ B) : OwnP C e w v P := by
  refine ⟨h.1, ?_⟩
  rcases h.2 with h | ⟨g, cap, cur, hv, hb, rest⟩
  · exact .inl h
  · exact .inr ⟨g, cap, cur, hv, Nat.le_trans hc hb, rest⟩

theorem OwnP.below {B : Nat} {e : TypeId} {w w' : World} {v : Value} {P : List Pr} (h : OwnP B e w v P) (hb : Below w.heap.size w w') : OwnP B e w' v P := by
  refine ⟨h.1, ?_⟩
  rcases h.2 with h | ⟨g, cap, cur, hv, hB, hg, rest⟩
  · exact .inl h
  · exact .inr ⟨g, cap, cur, hv, hB, (hb.block g (lt_of_block hg)).trans hg, rest⟩

/-- The first property of an identifier. -/
def firstP (P : List Pr) (i : Int) : Option Pr := P.find? fun p => p.id == i

/-- What Get answers. -/
def getV (P : List Pr) (i : Int) : Value := match firstP P i with
  | some p => .tuple #[prV p, .bool true]
  | none => .tuple #[.agg #[.int .i64 0, .int .u32 0, .string ⟨#[]⟩, .string ⟨#[]⟩], .bool false]

theorem first_none (P : List Pr) (k : Nat) (x : Pr) (i : Int) (h : P[k]? = some x) (hf : firstP (P.take k) i = none) (hx : ¬ x.id = i) : firstP (P.take (k + 1)) i = none := by
  obtain ⟨hk, rfl⟩ := List.getElem?_eq_some_iff.1 h
  unfold firstP at *
  rw [List.take_succ_eq_append_getElem hk, List.find?_append, hf]
  simpa using hx

theorem first_some (P : List Pr) (k : Nat) (x : Pr) (i : Int) (h : P[k]? = some x) (hf : firstP (P.take k) i = none) (hx : x.id = i) : firstP P i = some x := by
  obtain ⟨hk, hx'⟩ := List.getElem?_eq_some_iff.1 h
  unfold firstP at *
  have : P = P.take k ++ (x :: P.drop (k + 1)) := by rw [← hx', ← List.drop_eq_getElem_cons hk, List.take_append_drop]
  rw [this, List.find?_append, hf]
  simp [hx]

set_option maxRecDepth 100000 in
set_option maxHeartbeats 1000000 in
theorem get_calls (w : World) (v : Value) (P : List Pr) (i : Int) (hP : PropsAt w v P) (hn : P.length ≤ 1000000) :
    Calls Try.prog 83 #[v, .int .i64 i] w fun e w' => e = .returned (getV P i) ∧ Below w.heap.size w w' := by
  obtain ⟨A, cap, rfl, hc⟩ := hP
  have HC := Lib.hid hc
  clear hc
  generalize hG : getV P i = G
  have HG := Lib.hid hG
  clear hG
  go_enter Try.func83, Try.ntmps83
  go_wp2
  go_loopw [10] (fun j wr => ∃ k : Nat, k ≤ P.length ∧ j = .int .i64 k ∧ firstP (P.take k) i = none ∧ wr.heap[w.heap.size]? = some (.cells #[.int .i64 0, .int .u32 0, .string ⟨#[]⟩, .string ⟨#[]⟩] 153 (0, 0)) ∧ Below w.heap.size w wr) (fun j _ => P.length - (intOf j).toNat)
  case atStart => exact ⟨0, by omega, rfl, rfl, heap_alloc_new w _, below_one w _⟩
  case round =>
    obtain ⟨k, hk, rfl, hf, hbox, hb⟩ := hrel
    have HF := Lib.hid hf
    have HBX := Lib.hid hbox
    have HB := Lib.hid hb
    have hz := hb.size
    have hlt0 := lt_of_block hbox
    clear hf hbox hb
    by_cases hlt : k < P.length
    · obtain ⟨x, hx⟩ : ∃ x, P[k]? = some x := ⟨_, List.getElem?_eq_getElem hlt⟩
      obtain ⟨b, off, hA, hbl2, c0, c1, c2, c3⟩ := HC.out k x hx
      rw [← HB.out.cell (p := ⟨b, _, none⟩) hbl2] at c0 c1 c2 c3
      subst hA
      have HX := Lib.hid hx
      clear hx
      by_cases hi : x.id = i
      · have hG : G = .tuple #[prV x, .bool true] := by rw [← HG.out, getV, first_some P k x i HX.out HF.out hi]
        subst hG
        have hib : (x.id == i) = true := by simpa using hi
        have HI := Lib.hid hi
        clear hi
        obtain ⟨⟨d0, d1, d2, d3⟩, f0, f1, f2, f3⟩ := four_cells HBX.out
        clear HG HF HX
        go_wp2
        refine bodyPost_ret (v := .tuple #[prV x, .bool true]) ?_ rfl ⟨rfl, ?_⟩
        · simp [results, Try.results83, go_sem, d0, d1, d2, d3, hlt0]
        · exact ((((HB.out.setCell (Nat.le_refl _) _).setCell (Nat.le_refl _) _).setCell (Nat.le_refl _) _).setCell (Nat.le_refl _) _).alloc (by simpa [World.setCell] using hz) _
      · have hib : (x.id == i) = false := by simpa using hi
        have HN := Lib.hid (first_none P k x i HX.out HF.out hi)
        clear HX HF
        go_wp2
        go_roundw
        case rel => exact ⟨k + 1, by omega, by go_num, HN.out, (Below.heap_alloc _ _ _ hlt0).trans HBX.out, HB.out.alloc hz _⟩
        case measure => simp [intOf]; omega
    · obtain rfl : k = P.length := by omega
      have hf2 := HF.out
      rw [List.take_length] at hf2
      have hG : G = .tuple #[.agg #[.int .i64 0, .int .u32 0, .string ⟨#[]⟩, .string ⟨#[]⟩], .bool false] := by rw [← HG.out, getV, hf2]
      subst hG
      obtain ⟨⟨d0, d1, d2, d3⟩, f0, f1, f2, f3⟩ := four_cells HBX.out
      clear HG HF hf2 HC
      go_wp2
      refine bodyPost_ret (v := .tuple #[.agg #[.int .i64 0, .int .u32 0, .string ⟨#[]⟩, .string ⟨#[]⟩], .bool false]) ?_ rfl ⟨rfl, ?_⟩
      · simp [results, Try.results83, go_sem, d0, d1, d2, d3]
      · exact (((HB.out.setCell (Nat.le_refl _) _).setCell (Nat.le_refl _) _).setCell (Nat.le_refl _) _).setCell (Nat.le_refl _) _

theorem OwnP.empty (w : World) (e : TypeId) : OwnP w.heap.size e (w.alloc (.cells #[] e)) (.slice (some ⟨w.heap.size, 0, none⟩) 0 0) [] :=
  ⟨rfl, .inr ⟨w.heap.size, 0, #[], rfl, Nat.le_refl _, heap_alloc_new w _, Nat.le_refl _, Nat.zero_le _, rfl, rfl⟩⟩

/-- A row that has one more. -/
theorem own_snoc {B : Nat} {e : TypeId} {w : World} {v : Value} {acc : List Pr} {x : Pr} (h : w.ownsRow B e 4 v (acc.length + 1) (acc.flatMap prC ++ [.int .i64 x.id, .int .u32 x.n, .string x.s, .string x.t])) : OwnP B e w v (acc ++ [x]) := by
  unfold OwnP
  rw [show (acc ++ [x]).length = acc.length + 1 by simp, List.flatMap_append]
  exact h

theorem OwnP.alloc {B : Nat} {e : TypeId} {w : World} {v : Value} {P : List Pr} (h : OwnP B e w v P) (o : Obj) : OwnP B e (w.alloc o) v P := World.ownsRow.alloc h o

/-- What Told answers, and leaves. -/
def Made (e : TypeId) (w : World) (P : List Pr) (en : Ending) (w' : World) : Prop := ∃ v, en = .returned v ∧ OwnP w.heap.size e w' v P ∧ Below w.heap.size w w'

theorem take_snocP (P : List Pr) (k : Nat) (x : Pr) (h : P[k]? = some x) : P.take (k + 1) = P.take k ++ [x] := by
  obtain ⟨hk, rfl⟩ := List.getElem?_eq_some_iff.1 h
  exact List.take_succ_eq_append_getElem hk

/-- A property with short texts. -/
def cutP (p : Pr) : Pr := ⟨p.id, p.n, p.s.extract 0 20, p.t.extract 0 20⟩
/-- What Few answers. -/
def fewL (P : List Pr) : List Pr := (P.take 8).map cutP

/-- A slice that came in reads as a list of properties. -/
structure PropsIn (W : World) (v : Value) (P : List Pr) : Prop where
  at_ : PropsAt W v P
  len : P.length ≤ maxLen
  num : ∀ p ∈ P, 0 ≤ p.n ∧ p.n < 4294967296 ∧ p.s.size ≤ maxLen ∧ p.t.size ≤ maxLen

theorem few_ok (P : List Pr) (h : ∀ p ∈ P, 0 ≤ p.n ∧ p.n < 4294967296 ∧ p.s.size ≤ maxLen ∧ p.t.size ≤ maxLen) : ∀ p ∈ fewL P, p.ok ∧ p.s.size ≤ 20 ∧ p.t.size ≤ 20 := by
  intro p hp
  obtain ⟨x, hx, rfl⟩ := List.mem_map.1 hp
  obtain ⟨h0, h1, _, _⟩ := h x (List.mem_of_mem_take hx)
  have z1 : (x.s.extract 0 20).size ≤ 20 := by simp [ByteArray.size_extract]; omega
  have z2 : (x.t.extract 0 20).size ≤ 20 := by simp [ByteArray.size_extract]; omega
  exact ⟨⟨h0, h1, by show (x.s.extract 0 20).size ≤ _; omega, by show (x.t.extract 0 20).size ≤ _; omega⟩, z1, z2⟩

theorem few_len (P : List Pr) : (fewL P).length ≤ 8 := by simp [fewL]; omega

theorem few_snoc (P : List Pr) (k : Nat) (x : Pr) (h : P[k]? = some x) : (P.take (k + 1)).map cutP = (P.take k).map cutP ++ [cutP x] := by
  rw [take_snocP P k x h]; simp

theorem Try.infoProp : (Try.prog.info? 153).map (fun i => (i.zero, i.size, i.bytes)) = some (some (.agg #[.int .i64 0, .int .u32 0, .string ⟨#[]⟩, .string ⟨#[]⟩]), 4, 48) := by kernel_rfl

set_option maxRecDepth 100000 in
set_option maxHeartbeats 2000000 in
theorem few_calls (w : World) (v : Value) (P : List Pr) (hv : PropsIn w v P) :
    Calls Try.prog 61 #[v] w (Made 153 w (fewL P)) := by
  obtain ⟨⟨A, cap, rfl, hc⟩, hlen, hnum⟩ := hv
  unfold maxLen at hlen
  have HC := Lib.hid hc
  have HN := Lib.hid hnum
  clear hc hnum
  go_enter Try.func61, Try.ntmps61
  go_wp2
  go_loopw [3, 4] (fun s j wr => ∃ (k : Nat) (a : Option Addr) (c : Nat), k ≤ P.length ∧ k ≤ 8 ∧ j = .int .i64 k ∧ s = .slice a k c ∧ OwnP w.heap.size 153 wr (.slice a k c) ((P.take k).map cutP) ∧ Below w.heap.size w wr) (fun _ j _ => 8 - (intOf j).toNat)
  case atStart => exact ⟨0, _, 0, by omega, by omega, rfl, rfl, OwnP.empty w _, below_one w _⟩
  case round =>
    obtain ⟨k, a, c, hk, hk8, rfl, rfl, hown, hb⟩ := hrel
    have HOWN := Lib.hid hown
    have HB := Lib.hid hb
    have hz := hb.size
    clear hown hb
    by_cases hlt : k < P.length ∧ k < 8
    · obtain ⟨h1, h2⟩ := hlt
      obtain ⟨x, hx⟩ : ∃ x, P[k]? = some x := ⟨_, List.getElem?_eq_getElem h1⟩
      obtain ⟨b, off, hA, hbl, c0, c1, c2, c3⟩ := HC.out k x hx
      rw [← HB.out.cell (p := ⟨b, _, none⟩) hbl] at c0 c1 c2 c3
      subst hA
      have HX := Lib.hid hx
      obtain ⟨_, _, zs, zt⟩ := HN.out x (List.mem_of_getElem? hx)
      clear hx
      obtain ⟨xi, xn, xs, xt⟩ := x
      dsimp only at c0 c1 c2 c3 zs zt
      have HNE := Lib.hid (show (Value.slice a k c).ownBlock ≠ some wr.heap.size from fun e => by have := (World.ownsRow.lt HOWN.out _ e).2; omega)
      have hown1 := HOWN.out.alloc (.cells #[.int .i64 xi, .int .u32 xn, .string xs, .string xt] 153)
      have hbx := heap_alloc_new wr (.cells #[.int .i64 xi, .int .u32 xn, .string xs, .string xt] 153)
      have hb1 := HB.out.alloc hz (.cells #[.int .i64 xi, .int .u32 xn, .string xs, .string xt] 153)
      go_wp2_with fail
      generalize wr.alloc (.cells #[.int .i64 xi, .int .u32 xn, .string xs, .string xt] 153) = wb at *
      have hown2 : OwnP w.heap.size 153 wb.drew (.slice a k c) ((P.take k).map cutP) := hown1
      have hbx2 : wb.drew.heap[wr.heap.size]? = some (.cells #[.int .i64 xi, .int .u32 xn, .string xs, .string xt] 153 (0, 0)) := hbx
      have hb2 : Below w.heap.size w wb.drew := hb1.drew
      obtain ⟨⟨e0, e1, e2, e3⟩, g0, g1, g2, g3⟩ := four_cells hbx
      have HO2 := Lib.hid hown2
      have HX2 := Lib.hid hbx2
      have HB2 := Lib.hid hb2
      clear hown1 hbx hb1 hown2 hbx2 hb2 c0 c1 c2 c3 HOWN HB
      go_still_tail 7, (by kernel_rfl)
      still_call ((cut_calls _ xs 20 zs).mono (fun e w' h => ⟨h.1, h.2.symm⟩))
      repeat still_step
      still_call ((cut_calls _ xt 20 zt).mono (fun e w' h => ⟨h.1, h.2.symm⟩))
      repeat still_step
      refine wpStill_nil ?_
      change wpList _ _ _ _ _ wb.drew
      clear e0 e1 e2 e3 g0 g1 g2 g3
      generalize wb.drew = wd at *
      obtain ⟨⟨e0, e1, e2, e3⟩, g0, g1, g2, g3⟩ := four_cells HX2.out
      have hlb := lt_of_block HX2.out
      have hcut : cutP ⟨xi, xn, xs, xt⟩ = ⟨xi, xn, xs.extract 0 20, xt.extract 0 20⟩ := rfl
      have HCUT := Lib.hid hcut
      clear hcut
      generalize xs.extract 0 20 = ys at *
      generalize xt.extract 0 20 = yt at *
      have hlen : ((P.take k).map cutP).length = k := by rw [List.length_map, List.length_take]; omega
      have HLEN := Lib.hid hlen
      have hown3 := (ownsRow_setCell_other (a := ⟨wr.heap.size, 3, none⟩) (ownsRow_setCell_other (a := ⟨wr.heap.size, 2, none⟩) HO2.out HNE.out (.string ys)) HNE.out (.string yt))
      have hown4 : (((wd.setCell ⟨wr.heap.size, 2, none⟩ (.string ys)).setCell ⟨wr.heap.size, 3, none⟩ (.string yt)).alloc (.cells #[.int .i64 xi, .int .u32 xn, .string ys, .string yt] 153)).ownsRow w.heap.size 153 4 (.slice a k c) k (((P.take k).map cutP).flatMap prC) := by
        have := World.ownsRow.alloc hown3 (.cells #[.int .i64 xi, .int .u32 xn, .string ys, .string yt] 153)
        rwa [HLEN.out] at this
      have hsz : ((wd.setCell ⟨wr.heap.size, 2, none⟩ (.string ys)).setCell ⟨wr.heap.size, 3, none⟩ (.string yt)).heap.size = wd.heap.size := by simp [World.setCell]
      have hnews := four_new ((wd.setCell ⟨wr.heap.size, 2, none⟩ (.string ys)).setCell ⟨wr.heap.size, 3, none⟩ (.string yt)) (.int .i64 xi) (.int .u32 xn) (.string ys) (.string yt) 153
      rw [hsz] at hnews
      have HNEWS := Lib.hid hnews
      have HOWN4 := Lib.hid hown4
      have HSZ := Lib.hid hsz
      have hzd := HB2.out.size
      clear hlen hown3 hown4 hnews hsz HO2
      obtain ⟨i0, hi, hz0, hz1, hz2⟩ := info_parts Try.infoProp
      go_wp2_with ((at_builtin; refine wpList_append_own_at _ rfl _ _ 48 rfl w.heap.size 153 i0 (.agg #[.int .i64 0, .int .u32 0, .string ⟨#[]⟩, .string ⟨#[]⟩]) 4 48 Try.underlying48 hi hz0 hz1 hz2 rfl (by decide) _ _ _ rfl HOWN4.out ⟨wd.heap.size, 0, none⟩ 1 1 [.int .i64 xi, .int .u32 xn, .string ys, .string yt] rfl rfl HNEWS.out (by simp [Value.oneCell']) (by unfold maxLen; omega) (by omega) (by simp [World.setCell]; omega) ?_))
      intro v' w7 hown8 hgrow _ _
      have hbl8 : Below w.heap.size w w7 := (((HB2.out.setCell hz _).setCell hz _).alloc (by simp [World.setCell]; omega) _).grown hgrow (by simp [World.setCell]; omega) (fun k hk => (World.ownsRow.lt HOWN4.out k hk).1)
      have hown9 : OwnP w.heap.size 153 w7 v' ((P.take (k + 1)).map cutP) := by
        rw [few_snoc P k _ HX.out, HCUT.out]
        rw [← List.map_take] at hown8
        exact own_snoc (by rw [HLEN.out]; exact hown8)
      obtain ⟨a', c', hv'⟩ := hown9.form
      rw [show ((P.take (k + 1)).map cutP).length = k + 1 by rw [List.length_map, List.length_take]; omega] at hv'
      subst hv'
      have HO9 := Lib.hid hown9
      have HB8 := Lib.hid hbl8
      clear hown9 hbl8 hown8 hgrow HOWN4 HNEWS HB2 HSZ HX2 HNE e0 e1 e2 e3 g0 g1 g2 g3
      go_wp2
      go_roundw
      case rel => exact ⟨k + 1, a', c', by omega, by omega, by go_num, rfl, HO9.out, HB8.out⟩
      case measure => simp [intOf]; omega
    · have hfin : (P.take k).map cutP = fewL P := by
        unfold fewL
        by_cases h1 : k < P.length
        · obtain rfl : k = 8 := by omega
          rfl
        · rw [List.take_of_length_le (by omega), List.take_of_length_le (by omega)]
      have HF := Lib.hid hfin
      clear hfin HC HN
      by_cases h1 : k < P.length
      · have h2 : 8 ≤ k := by omega
        clear hlt
        go_wp2
        go_ret
        exact ⟨_, rfl, HF.out ▸ HOWN.out, HB.out⟩
      · have h2 : P.length ≤ k := by omega
        clear hlt h1
        go_wp2
        go_ret
        exact ⟨_, rfl, HF.out ▸ HOWN.out, HB.out⟩

theorem set_cells {W : World} {b : Nat} {arr : Array Value} {t : TypeId} (h : W.heap[b]? = some (.cells arr t (0, 0))) (j : Nat) (u : Value) : (W.setCell ⟨b, j, none⟩ u).heap[b]? = some (.cells (arr.setIfInBounds j u) t (0, 0)) := by
  have := lt_of_block h
  simp [World.setCell, Array.getElem?_modify, h]

theorem cells7 {w : World} {b : Nat} {t : TypeId} {u0 u1 u2 u3 u4 u5 u6 : Value} (h : w.heap[b]? = some (.cells #[u0, u1, u2, u3, u4, u5, u6] t (0, 0))) :
    w.cell? ⟨b, 0, none⟩ = some u0 ∧ w.cell? ⟨b, 1, none⟩ = some u1 ∧ w.cell? ⟨b, 2, none⟩ = some u2 ∧ w.cell? ⟨b, 3, none⟩ = some u3 ∧ w.cell? ⟨b, 4, none⟩ = some u4 ∧ w.cell? ⟨b, 5, none⟩ = some u5 ∧ w.cell? ⟨b, 6, none⟩ = some u6 ∧ ∀ j, w.frozen? ⟨b, j, none⟩ = false := by
  simp [World.cell?, World.frozen?, h]

theorem array7 {α : Type} {cs : Array α} (h : cs.size = 7) : ∃ c0 c1 c2 c3 c4 c5 c6, cs = #[c0, c1, c2, c3, c4, c5, c6] := by
  obtain ⟨l⟩ := cs
  match l, h with
  | [c0, c1, c2, c3, c4, c5, c6], _ => exact ⟨c0, c1, c2, c3, c4, c5, c6, rfl⟩

set_option maxRecDepth 100000 in
/-- A slice of structs, each field one cell, that came in: each element's cells, each with its reading. -/
theorem open_cellsF {H : Type} {enc : TypeId × Value → H} {W : World} {t e : TypeId} {fs : Array Field} {A : Option Addr} {len cap fuel : Nat} {x : DataW H × List MemPlace} (ht : Try.prog.underlying t = some (.slice e)) (he : Try.prog.underlying e = some (.struct fs))
    (hone : oneCellFields Try.prog fs = true) (hC : Try.prog.cellsOf e = fs.size) (hf : DataW.trod enc Try.prog W 0 (fun _ => true) true fuel t [.slice A len cap] = some x) :
    len ≤ cap ∧ cap ≤ maxLen ∧ ∀ i, i < len → ∃ ad, A = some ad ∧ ∀ (j : Nat) (f : Field), fs[j]? = some f →
      ∃ u n y, W.cell? (ad.add (i * fs.size + j)) = some u ∧ DataW.trod enc Try.prog W 0 (fun _ => true) true n f.type [u] = some y := by
  rcases open_slice ht hf with ⟨hcs, _⟩ | ⟨ad, l, c, m, n, D, Pl, hcs, _, hl, hm, hmm, _, hall⟩
  · simp at hcs
    obtain ⟨rfl, rfl, rfl⟩ := hcs
    exact ⟨Nat.le_refl _, Nat.zero_le _, fun i hi => absurd hi (Nat.not_lt_zero _)⟩
  · simp at hcs
    obtain ⟨rfl, rfl, rfl⟩ := hcs
    simp only [if_true] at hmm
    refine ⟨hl, hm, fun i hi => ⟨ad, rfl, fun j f hj => ?_⟩⟩
    obtain ⟨cs, hc, htr⟩ := hall i (by omega)
    rw [hC] at hc
    obtain ⟨xs, k, _, _, _, hxl, hfields⟩ := DataW.trod_struct he htr
    obtain ⟨_, hlen, hat⟩ := World.cells?_some hc
    obtain ⟨hoff, hone1⟩ := hone_of hone j f hj
    have hjs : j < fs.size := (Array.getElem?_eq_some_iff.1 hj).1
    have h1 := hfields j f hj
    rw [hoff, hone1] at h1
    obtain ⟨u, hu⟩ : ∃ u, cs[j]? = some u := ⟨_, List.getElem?_eq_getElem (show j < cs.length by omega)⟩
    have e1 : (cs.drop j).take 1 = [u] := by
      rw [List.drop_eq_getElem_cons (show j < cs.length by omega), List.take_succ_cons, List.take_zero, (List.getElem?_eq_some_iff.1 hu).2]
    rw [e1] at h1
    exact ⟨u, k, _, by rw [← add_add, hat j hjs, hu], h1.trans (List.getElem?_eq_getElem (show j < xs.length by omega))⟩

set_option maxRecDepth 100000 in
theorem open_listF {H : Type} {enc : TypeId × Value → H} {W : World} {A : Option Addr} {len cap fuel : Nat} {y : DataW H × List MemPlace} (h : DataW.trod enc Try.prog W 0 (fun _ => true) true fuel 48 [.slice A len cap] = some y) :
    ∃ P, PropsIn W (.slice A len cap) P ∧ P.length = len := by
  obtain ⟨hl, hm, hall⟩ := open_cellsF (e := 153) Try.underlying48 Try.underlying153 (by kernel_rfl) (by kernel_rfl) h
  haveI : Inhabited Pr := ⟨⟨0, 0, ⟨#[]⟩, ⟨#[]⟩⟩⟩
  obtain ⟨f, hf⟩ := choose_lt (α := Pr) (n := len) (p := fun i x => (∃ b off, A = some ⟨b, off, none⟩ ∧ b < W.heap.size ∧ W.cell? ⟨b, off + i * 4, none⟩ = some (.int .i64 x.id) ∧ W.cell? ⟨b, off + i * 4 + 1, none⟩ = some (.int .u32 x.n) ∧ W.cell? ⟨b, off + i * 4 + 2, none⟩ = some (.string x.s) ∧ W.cell? ⟨b, off + i * 4 + 3, none⟩ = some (.string x.t)) ∧
      0 ≤ x.n ∧ x.n < 4294967296 ∧ x.s.size ≤ maxLen ∧ x.t.size ≤ maxLen) (by
    intro i hi
    obtain ⟨ad, rfl, hc⟩ := hall i hi
    obtain ⟨u0, n0, y0, c0, t0⟩ := hc 0 _ rfl
    obtain ⟨u1, n1, y1, c1, t1⟩ := hc 1 _ rfl
    obtain ⟨u2, n2, y2, c2, t2⟩ := hc 2 _ rfl
    obtain ⟨u3, n3, y3, c3, t3⟩ := hc 3 _ rfl
    obtain ⟨k, e0, _, _⟩ := DataW.trod_int Try.underlying3 t0
    obtain ⟨n, e1, _, wn⟩ := DataW.trod_int Try.underlying34 t1
    obtain ⟨s, e2, _, hs⟩ := DataW.trod_string Try.underlying9 t2
    obtain ⟨s', e3, _, hs'⟩ := DataW.trod_string Try.underlying9 t3
    simp only [List.cons.injEq, and_true] at e0 e1 e2 e3
    subst e0 e1 e2 e3
    obtain ⟨b, off, spot⟩ := ad
    have hsp : spot = none := by
      obtain ⟨ad', ea, hc'⟩ := hall 0 (by omega)
      injection ea with ea
      subst ea
      obtain ⟨u', _, _, c', _⟩ := hc' 0 _ rfl
      simpa [Addr.add] using World.cell?_spot c'
    subst hsp
    have hb := bounds_u32 wn
    simp only [Addr.add_lit] at c0 c1 c2 c3
    exact ⟨⟨k, n, s, s'⟩, ⟨b, off, rfl, World.block_lt_of_cell? W _ c0, c0, c1, c2, c3⟩, hb.1, Int.lt_of_le_of_lt hb.2 (by decide), hs, hs'⟩)
  refine ⟨(List.range len).map f, ⟨⟨A, cap, by simp, fun i x hx => ?_⟩, by simp; omega, fun x hx => ?_⟩, by simp⟩
  · simp only [List.getElem?_map, Option.map_eq_some_iff] at hx
    obtain ⟨i', hi', rfl⟩ := hx
    obtain ⟨hlt, he⟩ := List.getElem?_eq_some_iff.1 hi'
    simp at hlt he
    subst he
    exact (hf i hlt).1
  · obtain ⟨i, hi, rfl⟩ := List.mem_map.1 hx
    exact (hf i (List.mem_range.1 hi)).2

#print axioms few_calls
end Go.Proofs.Yteofjcmpelcmaaa
