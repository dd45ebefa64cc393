/-
  Several texts, one behind the other. (No statement: contracts that the proofs of the statements use.)
-/
import Derived.Test.YtnpkiknidmhciaaDoorJSet0
import Derived.Test.YtnpkiknidmhciaaDoorJTopics
import Derived.Test.YtnpkiknidmhciaaDoorJPropsA
import Derived.Maps.OwnSet
import Derived.Maps.StringElems
import Derived.Test.YtnpkiknidmhciaaDoorJShelf2
import Derived.Deep.RegionLaw
import Derived.Deep.RegionHeld3
import Derived.Test.YtnpkiknidmhciaaDoorJBase
import Derived.Deep.AppendLies
import Derived.Test.YtnpkiknidmhciaaDoorJPropsB
import Derived.Deep.Strs
import Derived.Deep.Grids
import Derived.Lib.ConvBytes
namespace Go.Proofs.YtnpkiknidmhciaaDoor
open Go.RowKit Go.Maps

theorem law_u32a : Keyed Tryd.prog 22 := int_keyed Tryd.underlying22
theorem zero_strA (w : World) : (zeroValue 9).run Tryd.prog w = .ok (.string ⟨#[]⟩) w := by kernel_rfl
theorem key_u32a {n : Int} (h0 : 0 ≤ n) (h : n < 4294967296) : keyOf Tryd.prog 22 (.int .u32 n) = some (.int .u32 n) := by
  obtain ⟨N, rfl⟩ := Int.eq_ofNat_of_zero_le h0
  exact keyOf_int_mk Tryd.underlying22 (lit_u32 (by omega))

/-- What a list of puts has of an identifier: the last one. -/
def getL (L : List (Int × List UInt8)) (i : Int) : Option (List UInt8) := L.foldl (fun a x => if x.1 = i then some x.2 else a) none
theorem getL_nil (i : Int) : getL [] i = none := rfl
theorem getL_snoc (L : List (Int × List UInt8)) (n : Int) (s : List UInt8) (i : Int) : getL (L ++ [(n, s)]) i = if n = i then some s else getL L i := by simp [getL, List.foldl_append]

theorem key_neA {i j : Int} (h : i ≠ j) : Lit.int .u32 i ≠ .int .u32 j := fun e => h (by injection e)

/-- Block b is a map that has what a list of puts has; c: how many. -/
def TopAt (w : World) (b : Nat) (L : List (Int × List UInt8)) (c : Nat) : Prop :=
  ∃ D : DataW Unit, w.ownsMap Tryd.prog 22 (plainElem Tryd.prog 9) b L.length D ∧ (∀ i, Maps.has D (.int .u32 i) = (getL L i).isSome) ∧
    (∀ i, D.atKey (.int .u32 i) (.lit (.string [])) = .lit (.string ((getL L i).getD []))) ∧ Maps.size D = c

theorem TopAt.keep {w w' : World} {b c : Nat} {L : List (Int × List UInt8)} (h : TopAt w b L c) (hb : w'.heap[b]? = w.heap[b]?) : TopAt w' b L c := by
  obtain ⟨D, ⟨es, clock, h1, F, hs, hD⟩, r⟩ := h
  exact ⟨D, ⟨es, clock, hb.trans h1, F, hs, hD⟩, r⟩
theorem TopAt.lt {w : World} {b c : Nat} {L : List (Int × List UInt8)} (h : TopAt w b L c) : b < w.heap.size := by
  obtain ⟨D, h1, _⟩ := h
  exact h1.lt
theorem TopAt.made (w : World) : TopAt (w.alloc (.map #[] 0)) w.heap.size [] 0 :=
  ⟨_, World.ownsMap_made _ _ _ _, fun i => by simp [Maps.has, getL], fun i => by simp [getL, DataW.atKey], rfl⟩
theorem TopAt.le {w : World} {b c : Nat} {L : List (Int × List UInt8)} (h : TopAt w b L c) : c ≤ L.length := by
  obtain ⟨D, h1, _, _, h4⟩ := h
  rw [← h4]
  exact h1.size_le

theorem top_put {w w' : World} {b c : Nat} {L : List (Int × List UInt8)} {D : DataW Unit} {n : Int} {s : List UInt8} (hown : w.ownsMap Tryd.prog 22 (plainElem Tryd.prog 9) b L.length D) (hhas : ∀ i, Maps.has D (.int .u32 i) = (getL L i).isSome)
    (hat : ∀ i, D.atKey (.int .u32 i) (.lit (.string [])) = .lit (.string ((getL L i).getD []))) (hsz : Maps.size D = c)
    (h' : w'.ownsMap Tryd.prog 22 (plainElem Tryd.prog 9) b (L.length + 1) (D.put (.int .u32 n) (.lit (.string s)))) : TopAt w' b (L ++ [(n, s)]) (if (getL L n).isSome then c else c + 1) := by
  refine ⟨_, by rw [List.length_append]; exact h', fun i => ?_, fun i => ?_, ?_⟩
  · rw [getL_snoc]
    by_cases e : n = i
    · subst e
      rw [has_put_same hown.isMap (by simp [WideAt.IsKeyLit])]
      simp
    · rw [has_put_other (key_neA (Ne.symm e)), hhas i, if_neg e]
  · rw [getL_snoc]
    by_cases e : n = i
    · subst e
      rw [atKey_put_same hown.isMap (by simp [WideAt.IsKeyLit])]
      simp
    · rw [atKey_put_other (key_neA (Ne.symm e)), hat i, if_neg e]
  · rw [size_put (hown.tidy law_u32a), hhas n, hsz]

/-- A look-up, with 'is it there?', in a map of texts. -/
theorem wpList_lookup_strA {P : Program} (w : World) {ops : Array Oper} {rest : List Oper} {o : Oper} {a : Act} {Q : Exit → Act → World → Prop}
    (hg : o.guard = none) (m x : Operand) (t : TypeId) (hop : o.op = Op.lookup t m x true) (k e : TypeId) (K : Keyed P k) (ht : P.underlying t = some (.map k e)) (he : P.underlying e = some .string)
    (hz : (zeroValue e).run P w = .ok (.string ⟨#[]⟩) w) (b n : Nat) (D : DataW Unit) (hm : a.eval m = .map (some b)) (hown : w.ownsMap P k (plainElem P e) b n D) (key : Value) (kl : Lit) (hx : a.eval x = key) (hkey : keyOf P k key = some kl)
    (s : List UInt8) (hb : Bool) (hat : D.atKey kl (.lit (.string [])) = .lit (.string s)) (hh : Maps.has D kl = hb) (hK : wpList P ops Q rest (a.put o.dst (.tuple #[.string (str s), .bool hb])) w) :
    wpList P ops Q (o :: rest) a w :=
  wpList_lookup_own_ok w hg m x t hop k e K ht (plainElem P e) hz (.lit (.string [])) [] (plainElem_string he (by decide)) b n D hm hown key kl hx hkey (fun v ps hv => by
    obtain ⟨s', rfl, h1, _⟩ := plainElem_string_inv he hv
    have h2 := congrArg Prod.fst h1
    rw [hat] at h2
    injection h2 with h2
    injection h2 with h2
    rw [hh, ba_str s', ← h2]
    exact hK)

/-- Block p is a table: the greatest alias, the topics (a map in block b). -/
structure AlAt (w : World) (p b : Nat) (most : Int) (L : List (Int × List UInt8)) (c : Nat) : Prop where
  cells : w.heap[p]? = some (.cells #[.int .u32 most, .map (some b)] 130 (0, 0))
  top : TopAt w b L c
  m0 : 0 ≤ most
  m2 : most ≤ 65535
  keys : ∀ x ∈ L, 1 ≤ x.1 ∧ x.1 ≤ most

theorem AlAt.keep {w w' : World} {p b c : Nat} {most : Int} {L : List (Int × List UInt8)} (h : AlAt w p b most L c) (h1 : w'.heap[p]? = w.heap[p]?) (h2 : w'.heap[b]? = w.heap[b]?) : AlAt w' p b most L c :=
  ⟨h1.trans h.cells, h.top.keep h2, h.m0, h.m2, h.keys⟩
theorem AlAt.below {w w' : World} {p b c : Nat} {most : Int} {L : List (Int × List UInt8)} (h : AlAt w p b most L c) (hb : Below w.heap.size w w') : AlAt w' p b most L c :=
  h.keep (hb.block p (m_size h.cells)) (hb.block b h.top.lt)
theorem AlAt.ne {w : World} {p b c : Nat} {most : Int} {L : List (Int × List UInt8)} (h : AlAt w p b most L c) : p ≠ b := by
  intro e
  subst e
  obtain ⟨D, ⟨es, clock, h1, _⟩, _⟩ := h.top
  rw [h.cells] at h1
  cases h1
theorem two_m {w : World} {b : Nat} {u v : Value} {t : TypeId} (h : w.heap[b]? = some (.cells #[u, v] t (0, 0))) : w.cell? ⟨b, 0, none⟩ = some u ∧ w.cell? ⟨b, 1, none⟩ = some v := by
  simp [World.cell?, h]

theorem aLen_calls (w : World) (p b c : Nat) (most : Int) (L : List (Int × List UInt8)) (h : AlAt w p b most L c) :
    Calls Tryd.prog 22 #[.pointer (some ⟨p, 0, none⟩)] w fun e w' => e = .returned (.int .i64 c) ∧ w = w' := by
  obtain ⟨c0, c1⟩ := two_m h.cells
  obtain ⟨D, hown, _, _, hsz⟩ := h.top
  have HS := Lib.hid hsz
  clear h hsz
  go_enter Tryd.func22, Tryd.ntmps22
  go_wp2_with (first | (at_len; refine wpList_len_own _ rfl _ 128 rfl 22 9 Tryd.underlying128 _ b L.length D rfl hown ?_) | go_in)
  go_ret
  rw [HS.out]
  exact ⟨rfl, rfl⟩

theorem aGet_calls (w : World) (p b c : Nat) (most : Int) (L : List (Int × List UInt8)) (n : Int) (h0 : 0 ≤ n) (h1 : n < 4294967296) (h : AlAt w p b most L c) :
    Calls Tryd.prog 20 #[.pointer (some ⟨p, 0, none⟩), .int .u32 n] w fun e w' => e = .returned (.tuple #[.string (str ((getL L n).getD [])), .bool (getL L n).isSome]) ∧ w = w' := by
  obtain ⟨c0, c1⟩ := two_m h.cells
  obtain ⟨D, hown, hh, ha, _⟩ := h.top
  have hkey := key_u32a h0 h1
  have HH := Lib.hid (hh n)
  have HA := Lib.hid (ha n)
  generalize (getL L n).getD [] = s at *
  generalize (getL L n).isSome = hb at *
  clear h hh ha
  go_enter Tryd.func20, Tryd.ntmps20
  go_wp2_with (first | (at_lookup; refine wpList_lookup_strA _ rfl _ _ 128 rfl 22 9 law_u32a Tryd.underlying128 Tryd.underlying9 (zero_strA _) b L.length D rfl hown _ _ rfl hkey s hb HA.out HH.out ?_) | go_in)
  go_ret2
  exact ⟨rfl, rfl⟩

theorem aMay_calls (w : World) (p b c : Nat) (most : Int) (L : List (Int × List UInt8)) (n : Int) (h : AlAt w p b most L c) :
    Calls Tryd.prog 62 #[.pointer (some ⟨p, 0, none⟩), .int .u32 n] w fun e w' => e = .returned (.bool (decide (1 ≤ n) && decide (n ≤ most))) ∧ w = w' := by
  obtain ⟨c0, c1⟩ := two_m h.cells
  clear h
  by_cases h2 : 1 ≤ n
  · by_cases h3 : n ≤ most
    · rw [decide_eq_true h2, decide_eq_true h3]
      go_enter Tryd.func62, Tryd.ntmps62
      go_wp2
      go_ret
      exact ⟨rfl, rfl⟩
    · rw [decide_eq_true h2, decide_eq_false h3]
      go_enter Tryd.func62, Tryd.ntmps62
      go_wp2
      go_ret
      exact ⟨rfl, rfl⟩
  · rw [decide_eq_false h2]
    go_enter Tryd.func62, Tryd.ntmps62
    go_wp2
    go_ret
    exact ⟨rfl, rfl⟩

/-- What known answers. -/
def knownE (L : List (Int × List UInt8)) (n : Int) : Value := match getL L n with
  | some s => .tuple #[.string (str s), .int .i64 0]
  | none => .tuple #[.string ⟨#[]⟩, .int .i64 3]

theorem aKnown_calls (w : World) (p b c : Nat) (most : Int) (L : List (Int × List UInt8)) (n : Int) (h0 : 0 ≤ n) (h1 : n < 4294967296) (h : AlAt w p b most L c) :
    Calls Tryd.prog 63 #[.pointer (some ⟨p, 0, none⟩), .int .u32 n] w fun e w' => e = .returned (knownE L n) ∧ w = w' := by
  have hg := aGet_calls w p b c most L n h0 h1 h
  unfold knownE
  cases hL : getL L n with
  | none =>
    rw [hL] at hg
    go_enter Tryd.func63, Tryd.ntmps63
    go_wp2_with (go_at_call 20; refine hg.mono ?_; rintro e w1 ⟨rfl, rfl⟩)
    go_ret2
    exact ⟨rfl, rfl⟩
  | some s =>
    rw [hL] at hg
    dsimp only [Option.getD, Option.isSome] at hg ⊢
    go_enter Tryd.func63, Tryd.ntmps63
    go_wp2_with (go_at_call 20; refine hg.mono ?_; rintro e w1 ⟨rfl, rfl⟩)
    go_ret2
    exact ⟨rfl, rfl⟩

/-- What New answers, and leaves. -/
def AlNew (w : World) (k : Int) (e : Ending) (w' : World) : Prop :=
  ∃ p b, e = .returned (.pointer (some ⟨p, 0, none⟩)) ∧ AlAt w' p b k [] 0 ∧ Below w.heap.size w w' ∧ w.heap.size ≤ p ∧ w.heap.size ≤ b

theorem al_made (w : World) (k : Int) (h0 : 0 ≤ k) (h2 : k ≤ 65535) : AlNew w k (.returned (.pointer (some ⟨w.heap.size + 1, 0, none⟩)))
    ((w.alloc (Obj.map #[] 0)).alloc (Obj.cells #[Value.int IntKind.u32 k, Value.map (some w.heap.size)] 130)) := by
  have hs := TopAt.made w
  have hb : Below (w.alloc (Obj.map #[] 0)).heap.size (w.alloc (Obj.map #[] 0)) ((w.alloc (Obj.map #[] 0)).alloc (Obj.cells #[Value.int IntKind.u32 k, Value.map (some w.heap.size)] 130)) := (Below.refl _ _).alloc (Nat.le_refl _) _
  have hn := heap_alloc_new (w.alloc (Obj.map #[] 0)) (Obj.cells #[Value.int IntKind.u32 k, Value.map (some w.heap.size)] 130)
  rw [World.size_alloc] at hn
  exact ⟨w.heap.size + 1, w.heap.size, rfl, ⟨hn, hs.keep (hb.block _ hs.lt), h0, h2, by simp⟩, ((Below.refl _ w).alloc (Nat.le_refl _) _).alloc (by simp) _, Nat.le_succ _, Nat.le_refl _⟩

theorem aNew_calls (w : World) (m : Int) (h0 : 0 ≤ m) (hm : m < 4294967296) :
    Calls Tryd.prog 14 #[.int .u32 m] w (AlNew w (min m 65535)) := by
  have hmm := @run_makeMap Tryd.prog
  obtain ⟨k, hk⟩ : ∃ k, min m 65535 = k := ⟨_, rfl⟩
  rw [hk]
  have HP := Lib.hid (al_made w k (by omega) (by omega))
  have HK := Lib.hid hk
  clear hk
  go_enter Tryd.func14, Tryd.ntmps14
  go_wp2
  go_ret
  rw [HK.out]
  exact HP.out

end Go.Proofs.YtnpkiknidmhciaaDoor

namespace Go.Proofs.YtnpkiknidmhciaaDoor
open Go.RowKit Go.Maps

/-- What Name answers, and leaves. -/
def NmR (w : World) (p b : Nat) (most : Int) (L : List (Int × List UInt8)) (c : Nat) (v : Value) (e : Ending) (w' : World) : Prop :=
  e = .returned v ∧ AlAt w' p b most L c ∧ Moved w w' p b

theorem getL_zero {w : World} {p b c : Nat} {most : Int} {L : List (Int × List UInt8)} (h : AlAt w p b most L c) : getL L 0 = none := by
  have hk := h.keys
  clear h
  have key : ∀ (L : List (Int × List UInt8)) (a : Option (List UInt8)), (∀ x ∈ L, 1 ≤ x.1 ∧ x.1 ≤ most) → L.foldl (fun a x => if x.1 = 0 then some x.2 else a) a = a := by
    intro L
    induction L with
    | nil => intro a _; rfl
    | cons x r ih =>
      intro a h
      rw [List.foldl_cons, if_neg (by have := (h x (by simp)).1; omega)]
      exact ih a fun y hy => h y (by simp [hy])
  exact key L none hk

theorem AlAt.put {w w1 w2 : World} {p b c : Nat} {most n : Int} {L : List (Int × List UInt8)} {s : List UInt8} {D : DataW Unit} (hB : Below w.heap.size w w1) (h : AlAt w1 p b most L c) (hown : w1.ownsMap Tryd.prog 22 (plainElem Tryd.prog 9) b L.length D) (hhas : ∀ i, Maps.has D (.int .u32 i) = (getL L i).isSome)
    (hat : ∀ i, D.atKey (.int .u32 i) (.lit (.string [])) = .lit (.string ((getL L i).getD []))) (hsz : Maps.size D = c) (h1 : 1 ≤ n) (h2 : n ≤ most)
    (h' : w2.ownsMap Tryd.prog 22 (plainElem Tryd.prog 9) b (L.length + 1) (D.put (.int .u32 n) (.lit (.string s)))) (ht : w1.mapTurned w2 b) :
    AlAt w2 p b most (L ++ [(n, s)]) (if (getL L n).isSome then c else c + 1) ∧ Moved w w2 p b := by
  refine ⟨⟨((Moved.turned (p := b) ht).block p (m_size h.cells) h.ne h.ne).trans h.cells, top_put hown hhas hat hsz h', h.m0, h.m2, fun x hx => ?_⟩, (Moved.of_below hB).trans (Moved.turned ht)⟩
  rcases List.mem_append.1 hx with hx | hx
  · exact h.keys x hx
  · simp at hx
    subst hx
    exact ⟨h1, h2⟩

theorem own_below {w w' : World} {k : TypeId} {R : Value → Option (DataW Unit × List MemPlace)} {b n : Nat} {D : DataW Unit} (h : w.ownsMap Tryd.prog k R b n D) (hb : Below w.heap.size w w') : w'.ownsMap Tryd.prog k R b n D := by
  obtain ⟨es, clock, k1, r⟩ := h
  exact ⟨es, clock, (hb.block _ (m_size k1)).trans k1, r⟩
theorem turned_cell {w w' : World} {b k j : Nat} {u : Value} (h : w.mapTurned w' b) (hk : k ≠ b) (hc : w.cell? ⟨k, j, none⟩ = some u) : w'.cell? ⟨k, j, none⟩ = some u := by
  rw [World.cell?_of_block (w := w) ((Moved.turned (p := b) h).block k (World.block_lt_of_cell? _ _ hc) hk hk)]
  exact hc
theorem drew_below4 (w : World) : Below w.heap.size w w.drew := ⟨rfl, rfl, rfl, Nat.le_refl _, fun _ _ => rfl⟩
theorem put_run {w : World} {b n : Nat} {D : DataW Unit} (hown : w.ownsMap Tryd.prog 22 (plainElem Tryd.prog 9) b n D) (hn : n < maxLen) {q : Int} (q0 : 0 ≤ q) (q1 : q < 4294967296) (s : ByteArray) (T : List UInt8) (hs : str T = s) (hl : T.length ≤ 1000000) :
    ∃ w', (Instr.mapUpdate 128 (.map (some b)) (.int .u32 q) (.string s)).run Tryd.prog w = .ok () w' ∧ w'.ownsMap Tryd.prog 22 (plainElem Tryd.prog 9) b (n + 1) (D.put (.int .u32 q) (.lit (.string T))) ∧ w.mapTurned w' b := by
  have hv := plainElem_string (H := Unit) (P := Tryd.prog) Tryd.underlying9 (s := s) (by rw [← hs, str_size]; unfold maxLen; omega)
  rw [show s.data.toList = T by rw [← hs, str_data]] at hv
  exact hown.store law_u32a Tryd.underlying128 hn (key_u32a q0 q1) hv

theorem clone_str_calls (T : List UInt8) (w : World) (hl : T.length ≤ 281474976710656) : Calls Tryd.prog 65 #[.string (str T)] w fun e w' => e = .returned (.string (str T)) ∧ Below w.heap.size w w' := by
  have c := fun w => Tryd.stringslite_Clone (str T) w (by rw [str_size]; exact hl)
  generalize str T = s at *
  go_enter Tryd.func65, Tryd.ntmps65
  go_wp2_with (go_at_call 110; refine (c _).mono ?_; rintro e w1 ⟨rfl, b1⟩)
  go_ret
  exact ⟨rfl, b1⟩

set_option maxRecDepth 100000 in
set_option maxHeartbeats 1000000 in
/-- An alias that may not be. -/
theorem nm_a (w : World) (p b cnt : Nat) (most : Int) (L : List (Int × List UInt8)) (dup ret : Bool) (q id : Int) (v : Value) (T : List UInt8) (pl : ByteArray) (ps : List Pr) (hl : T.length ≤ 1000000) (hP : PropsAt w v ps) (hn : ps.length ≤ 1000000) (hT : T10 w) (h : AlAt w p b most L cnt)
    (qi qn : Int) (qs qt : ByteArray) (hf : firstP ps 35 = some ⟨qi, qn, qs, qt⟩) (hq : ¬ (1 ≤ qn ∧ qn ≤ most)) :
    Calls Tryd.prog 17 #[.pointer (some ⟨p, 0, none⟩), .agg #[.bool dup, .bool ret, .int .u8 q, .int .u32 id, v, .string (str T), .string pl]] w (NmR w p b most L cnt (.tuple #[.string ⟨#[]⟩, .int .i64 11])) := by
  have hg := fun W h => get_calls W v ps 35 h hn
  unfold getV at hg
  rw [hf] at hg
  dsimp only at hg
  have HG := Lib.hid hg
  have HH := Lib.hid h
  have HP := Lib.hid hP
  have HT := Lib.hid hT
  have HNM := Lib.hid (fun W (hb : Below w.heap.size w W) => name_calls W T hl (hT.below hb))
  have hem := empty_str T
  clear hg hf hn hP hT hl h
  have hm : (decide (1 ≤ qn) && decide (qn ≤ most)) = false := by
    by_cases h1 : 1 ≤ qn
    · by_cases h2 : qn ≤ most
      · exact absurd ⟨h1, h2⟩ hq
      · simp [h2]
    · simp [h1]
  have HM := Lib.hid hm
  clear hm hq
  obtain ⟨s, hs⟩ : ∃ s, str T = s := ⟨_, rfl⟩
  rw [hs] at hem HNM ⊢
  have HS := Lib.hid hs
  clear hs
  go_enter Tryd.func17, Tryd.ntmps17
  go_wp2_with fail
  have B1 := below_one w (.cells #[.bool dup, .bool ret, .int .u8 q, .int .u32 id, v, .string s, .string pl] 31)
  have X1 := heap_alloc_new w (.cells #[.bool dup, .bool ret, .int .u8 q, .int .u32 id, v, .string s, .string pl] 31)
  have Z1 := lt_of_block X1
  generalize w.alloc (.cells #[.bool dup, .bool ret, .int .u8 q, .int .u32 id, v, .string s, .string pl] 31) = W1 at *
  refine (HG.out W1 (HP.out.below B1)).mono ?_
  rintro e w1 ⟨rfl, b2⟩
  have X2 := Lib.hid ((b2.block _ Z1).trans X1)
  have B2 := Lib.hid (B1.trans (b2.mono B1.size))
  clear B1 X1 Z1 b2 HG HP
  go_wp2_with fail
  have B3 := Lib.hid (B2.out.alloc B2.out.size (.cells #[.int .i64 qi, .int .u32 qn, .string qs, .string qt] 132))
  have Y3 := heap_alloc_new w1 (.cells #[.int .i64 qi, .int .u32 qn, .string qs, .string qt] 132)
  have X3 := (Below.heap_alloc w1 (.cells #[.int .i64 qi, .int .u32 qn, .string qs, .string qt] 132) _ (lt_of_block X2.out)).trans X2.out
  generalize w1.alloc (.cells #[.int .i64 qi, .int .u32 qn, .string qs, .string qt] 132) = W2 at *
  have A3 := Lib.hid (HH.out.below B3.out)
  obtain ⟨d0, d1, d2, d3, d4, d5, d6, df⟩ := cells7 X3
  obtain ⟨k0, k1, k2, k3, kf⟩ := cells4 Y3
  clear X3 Y3 X2 B2
  refine (aMay_calls W2 p b cnt most L qn A3.out).mono ?_
  rw [HM.out]
  rintro e w3 ⟨rfl, rfl⟩
  go_wp2
  go_ret2
  exact ⟨rfl, A3.out, Moved.of_below B3.out⟩

set_option maxRecDepth 100000 in
set_option maxHeartbeats 1000000 in
/-- No topic, an alias that stands for one. -/
theorem nm_b (w : World) (p b cnt : Nat) (most : Int) (L : List (Int × List UInt8)) (dup ret : Bool) (q id : Int) (v : Value) (T : List UInt8) (pl : ByteArray) (ps : List Pr) (hl : T.length ≤ 1000000) (hP : PropsAt w v ps) (hn : ps.length ≤ 1000000) (hT : T10 w) (h : AlAt w p b most L cnt)
    (qi qn : Int) (qs qt : ByteArray) (hf : firstP ps 35 = some ⟨qi, qn, qs, qt⟩) (q0 : 0 ≤ qn) (q1 : qn < 4294967296) (hq : 1 ≤ qn ∧ qn ≤ most) (ht : T = []) (kt : List UInt8) (hk : getL L qn = some kt) :
    Calls Tryd.prog 17 #[.pointer (some ⟨p, 0, none⟩), .agg #[.bool dup, .bool ret, .int .u8 q, .int .u32 id, v, .string (str T), .string pl]] w (NmR w p b most L cnt (.tuple #[.string (str kt), .int .i64 0])) := by
  have hg := fun W h => get_calls W v ps 35 h hn
  unfold getV at hg
  rw [hf] at hg
  dsimp only at hg
  have HG := Lib.hid hg
  have HH := Lib.hid h
  have HP := Lib.hid hP
  have HT := Lib.hid hT
  have HNM := Lib.hid (fun W (hb : Below w.heap.size w W) => name_calls W T hl (hT.below hb))
  have hem := empty_str T
  clear hg hf hn hP hT hl h
  have hm : (decide (1 ≤ qn) && decide (qn ≤ most)) = true := by simp [hq.1, hq.2]
  have HM := Lib.hid hm
  have HQ := Lib.hid hq
  clear hm hq
  rw [decide_eq_true ht] at hem
  clear ht
  have HKN := Lib.hid (show knownE L qn = .tuple #[.string (str kt), .int .i64 0] from by unfold knownE; rw [hk])
  clear hk
  obtain ⟨s, hs⟩ : ∃ s, str T = s := ⟨_, rfl⟩
  rw [hs] at hem HNM ⊢
  have HS := Lib.hid hs
  clear hs
  go_enter Tryd.func17, Tryd.ntmps17
  go_wp2_with fail
  have B1 := below_one w (.cells #[.bool dup, .bool ret, .int .u8 q, .int .u32 id, v, .string s, .string pl] 31)
  have X1 := heap_alloc_new w (.cells #[.bool dup, .bool ret, .int .u8 q, .int .u32 id, v, .string s, .string pl] 31)
  have Z1 := lt_of_block X1
  generalize w.alloc (.cells #[.bool dup, .bool ret, .int .u8 q, .int .u32 id, v, .string s, .string pl] 31) = W1 at *
  refine (HG.out W1 (HP.out.below B1)).mono ?_
  rintro e w1 ⟨rfl, b2⟩
  have X2 := Lib.hid ((b2.block _ Z1).trans X1)
  have B2 := Lib.hid (B1.trans (b2.mono B1.size))
  clear B1 X1 Z1 b2 HG HP
  go_wp2_with fail
  have B3 := Lib.hid (B2.out.alloc B2.out.size (.cells #[.int .i64 qi, .int .u32 qn, .string qs, .string qt] 132))
  have Y3 := heap_alloc_new w1 (.cells #[.int .i64 qi, .int .u32 qn, .string qs, .string qt] 132)
  have X3 := (Below.heap_alloc w1 (.cells #[.int .i64 qi, .int .u32 qn, .string qs, .string qt] 132) _ (lt_of_block X2.out)).trans X2.out
  generalize w1.alloc (.cells #[.int .i64 qi, .int .u32 qn, .string qs, .string qt] 132) = W2 at *
  have A3 := Lib.hid (HH.out.below B3.out)
  obtain ⟨d0, d1, d2, d3, d4, d5, d6, df⟩ := cells7 X3
  obtain ⟨k0, k1, k2, k3, kf⟩ := cells4 Y3
  clear X3 Y3 X2 B2
  refine (aMay_calls W2 p b cnt most L qn A3.out).mono ?_
  rw [HM.out]
  rintro e w3 ⟨rfl, rfl⟩
  go_wp2_with fail
  refine (aKnown_calls W2 p b cnt most L qn q0 q1 A3.out).mono ?_
  rw [HKN.out]
  rintro e w4 ⟨rfl, rfl⟩
  go_wp2
  go_ret2
  exact ⟨rfl, A3.out, Moved.of_below B3.out⟩

set_option maxRecDepth 100000 in
set_option maxHeartbeats 1000000 in
/-- No topic, an alias that stands for none. -/
theorem nm_b0 (w : World) (p b cnt : Nat) (most : Int) (L : List (Int × List UInt8)) (dup ret : Bool) (q id : Int) (v : Value) (T : List UInt8) (pl : ByteArray) (ps : List Pr) (hl : T.length ≤ 1000000) (hP : PropsAt w v ps) (hn : ps.length ≤ 1000000) (hT : T10 w) (h : AlAt w p b most L cnt)
    (qi qn : Int) (qs qt : ByteArray) (hf : firstP ps 35 = some ⟨qi, qn, qs, qt⟩) (q0 : 0 ≤ qn) (q1 : qn < 4294967296) (hq : 1 ≤ qn ∧ qn ≤ most) (ht : T = []) (hk : getL L qn = none) :
    Calls Tryd.prog 17 #[.pointer (some ⟨p, 0, none⟩), .agg #[.bool dup, .bool ret, .int .u8 q, .int .u32 id, v, .string (str T), .string pl]] w (NmR w p b most L cnt (.tuple #[.string ⟨#[]⟩, .int .i64 3])) := by
  have hg := fun W h => get_calls W v ps 35 h hn
  unfold getV at hg
  rw [hf] at hg
  dsimp only at hg
  have HG := Lib.hid hg
  have HH := Lib.hid h
  have HP := Lib.hid hP
  have HT := Lib.hid hT
  have HNM := Lib.hid (fun W (hb : Below w.heap.size w W) => name_calls W T hl (hT.below hb))
  have hem := empty_str T
  clear hg hf hn hP hT hl h
  have hm : (decide (1 ≤ qn) && decide (qn ≤ most)) = true := by simp [hq.1, hq.2]
  have HM := Lib.hid hm
  have HQ := Lib.hid hq
  clear hm hq
  rw [decide_eq_true ht] at hem
  clear ht
  have HKN := Lib.hid (show knownE L qn = .tuple #[.string ⟨#[]⟩, .int .i64 3] from by unfold knownE; rw [hk])
  clear hk
  obtain ⟨s, hs⟩ : ∃ s, str T = s := ⟨_, rfl⟩
  rw [hs] at hem HNM ⊢
  have HS := Lib.hid hs
  clear hs
  go_enter Tryd.func17, Tryd.ntmps17
  go_wp2_with fail
  have B1 := below_one w (.cells #[.bool dup, .bool ret, .int .u8 q, .int .u32 id, v, .string s, .string pl] 31)
  have X1 := heap_alloc_new w (.cells #[.bool dup, .bool ret, .int .u8 q, .int .u32 id, v, .string s, .string pl] 31)
  have Z1 := lt_of_block X1
  generalize w.alloc (.cells #[.bool dup, .bool ret, .int .u8 q, .int .u32 id, v, .string s, .string pl] 31) = W1 at *
  refine (HG.out W1 (HP.out.below B1)).mono ?_
  rintro e w1 ⟨rfl, b2⟩
  have X2 := Lib.hid ((b2.block _ Z1).trans X1)
  have B2 := Lib.hid (B1.trans (b2.mono B1.size))
  clear B1 X1 Z1 b2 HG HP
  go_wp2_with fail
  have B3 := Lib.hid (B2.out.alloc B2.out.size (.cells #[.int .i64 qi, .int .u32 qn, .string qs, .string qt] 132))
  have Y3 := heap_alloc_new w1 (.cells #[.int .i64 qi, .int .u32 qn, .string qs, .string qt] 132)
  have X3 := (Below.heap_alloc w1 (.cells #[.int .i64 qi, .int .u32 qn, .string qs, .string qt] 132) _ (lt_of_block X2.out)).trans X2.out
  generalize w1.alloc (.cells #[.int .i64 qi, .int .u32 qn, .string qs, .string qt] 132) = W2 at *
  have A3 := Lib.hid (HH.out.below B3.out)
  obtain ⟨d0, d1, d2, d3, d4, d5, d6, df⟩ := cells7 X3
  obtain ⟨k0, k1, k2, k3, kf⟩ := cells4 Y3
  clear X3 Y3 X2 B2
  refine (aMay_calls W2 p b cnt most L qn A3.out).mono ?_
  rw [HM.out]
  rintro e w3 ⟨rfl, rfl⟩
  go_wp2_with fail
  refine (aKnown_calls W2 p b cnt most L qn q0 q1 A3.out).mono ?_
  rw [HKN.out]
  rintro e w4 ⟨rfl, rfl⟩
  go_wp2
  go_ret2
  exact ⟨rfl, A3.out, Moved.of_below B3.out⟩

set_option maxRecDepth 100000 in
set_option maxHeartbeats 1000000 in
/-- A topic that is no name, with an alias. -/
theorem nm_c (w : World) (p b cnt : Nat) (most : Int) (L : List (Int × List UInt8)) (dup ret : Bool) (q id : Int) (v : Value) (T : List UInt8) (pl : ByteArray) (ps : List Pr) (hl : T.length ≤ 1000000) (hP : PropsAt w v ps) (hn : ps.length ≤ 1000000) (hT : T10 w) (h : AlAt w p b most L cnt)
    (qi qn : Int) (qs qt : ByteArray) (hf : firstP ps 35 = some ⟨qi, qn, qs, qt⟩) (hq : 1 ≤ qn ∧ qn ≤ most) (ht : ¬ T = []) (hb : nameB T = false) :
    Calls Tryd.prog 17 #[.pointer (some ⟨p, 0, none⟩), .agg #[.bool dup, .bool ret, .int .u8 q, .int .u32 id, v, .string (str T), .string pl]] w (NmR w p b most L cnt (.tuple #[.string ⟨#[]⟩, .int .i64 9])) := by
  have hg := fun W h => get_calls W v ps 35 h hn
  unfold getV at hg
  rw [hf] at hg
  dsimp only at hg
  have HG := Lib.hid hg
  have HH := Lib.hid h
  have HP := Lib.hid hP
  have HT := Lib.hid hT
  have HNM := Lib.hid (fun W (hb : Below w.heap.size w W) => name_calls W T hl (hT.below hb))
  have hem := empty_str T
  clear hg hf hn hP hT hl h
  have hm : (decide (1 ≤ qn) && decide (qn ≤ most)) = true := by simp [hq.1, hq.2]
  have HM := Lib.hid hm
  have HQ := Lib.hid hq
  clear hm hq
  rw [decide_eq_false ht] at hem
  clear ht
  have HNB := Lib.hid hb
  clear hb
  obtain ⟨s, hs⟩ : ∃ s, str T = s := ⟨_, rfl⟩
  rw [hs] at hem HNM ⊢
  have HS := Lib.hid hs
  clear hs
  go_enter Tryd.func17, Tryd.ntmps17
  go_wp2_with fail
  have B1 := below_one w (.cells #[.bool dup, .bool ret, .int .u8 q, .int .u32 id, v, .string s, .string pl] 31)
  have X1 := heap_alloc_new w (.cells #[.bool dup, .bool ret, .int .u8 q, .int .u32 id, v, .string s, .string pl] 31)
  have Z1 := lt_of_block X1
  generalize w.alloc (.cells #[.bool dup, .bool ret, .int .u8 q, .int .u32 id, v, .string s, .string pl] 31) = W1 at *
  refine (HG.out W1 (HP.out.below B1)).mono ?_
  rintro e w1 ⟨rfl, b2⟩
  have X2 := Lib.hid ((b2.block _ Z1).trans X1)
  have B2 := Lib.hid (B1.trans (b2.mono B1.size))
  clear B1 X1 Z1 b2 HG HP
  go_wp2_with fail
  have B3 := Lib.hid (B2.out.alloc B2.out.size (.cells #[.int .i64 qi, .int .u32 qn, .string qs, .string qt] 132))
  have Y3 := heap_alloc_new w1 (.cells #[.int .i64 qi, .int .u32 qn, .string qs, .string qt] 132)
  have X3 := (Below.heap_alloc w1 (.cells #[.int .i64 qi, .int .u32 qn, .string qs, .string qt] 132) _ (lt_of_block X2.out)).trans X2.out
  generalize w1.alloc (.cells #[.int .i64 qi, .int .u32 qn, .string qs, .string qt] 132) = W2 at *
  have A3 := Lib.hid (HH.out.below B3.out)
  obtain ⟨d0, d1, d2, d3, d4, d5, d6, df⟩ := cells7 X3
  obtain ⟨k0, k1, k2, k3, kf⟩ := cells4 Y3
  clear X3 Y3 X2 B2
  refine (aMay_calls W2 p b cnt most L qn A3.out).mono ?_
  rw [HM.out]
  rintro e w3 ⟨rfl, rfl⟩
  go_wp2_with fail
  refine (HNM.out W2 B3.out).mono ?_
  rw [HNB.out]
  rintro e w4 ⟨rfl, b4⟩
  have A4 := Lib.hid (A3.out.below b4)
  have B4 := Lib.hid (B3.out.trans (b4.mono B3.out.size))
  have e5 := (b4.cell (p := ⟨w.heap.size, 5, none⟩) (World.block_lt_of_cell? _ _ d5)).trans d5
  have g1 := (b4.cell (p := ⟨w1.heap.size, 1, none⟩) (World.block_lt_of_cell? _ _ k1)).trans k1
  clear b4 d0 d1 d2 d3 d4 d5 d6 df k0 k1 k2 k3 kf A3 B3
  go_wp2
  go_ret2
  exact ⟨rfl, A4.out, Moved.of_below B4.out⟩

set_option maxRecDepth 100000 in
set_option maxHeartbeats 1000000 in
/-- A name with an alias. -/
theorem nm_d (w : World) (p b cnt : Nat) (most : Int) (L : List (Int × List UInt8)) (dup ret : Bool) (q id : Int) (v : Value) (T : List UInt8) (pl : ByteArray) (ps : List Pr) (hl : T.length ≤ 1000000) (hP : PropsAt w v ps) (hn : ps.length ≤ 1000000) (hT : T10 w) (h : AlAt w p b most L cnt)
    (qi qn : Int) (qs qt : ByteArray) (hf : firstP ps 35 = some ⟨qi, qn, qs, qt⟩) (q0 : 0 ≤ qn) (q1 : qn < 4294967296) (hq : 1 ≤ qn ∧ qn ≤ most) (ht : ¬ T = []) (hb : nameB T = true) (hlen : T.length ≤ 1000000) (hL : L.length < maxLen) (c2 : Nat) (hc2 : (if (getL L qn).isSome then cnt else cnt + 1) = c2) :
    Calls Tryd.prog 17 #[.pointer (some ⟨p, 0, none⟩), .agg #[.bool dup, .bool ret, .int .u8 q, .int .u32 id, v, .string (str T), .string pl]] w (NmR w p b most (L ++ [(qn, T)]) c2 (.tuple #[.string (str T), .int .i64 0])) := by
  have hg := fun W h => get_calls W v ps 35 h hn
  unfold getV at hg
  rw [hf] at hg
  dsimp only at hg
  have HG := Lib.hid hg
  have HH := Lib.hid h
  have HP := Lib.hid hP
  have HT := Lib.hid hT
  have HNM := Lib.hid (fun W (hb : Below w.heap.size w W) => name_calls W T hl (hT.below hb))
  have hem := empty_str T
  clear hg hf hn hP hT hl h
  have hm : (decide (1 ≤ qn) && decide (qn ≤ most)) = true := by simp [hq.1, hq.2]
  have HM := Lib.hid hm
  have HQ := Lib.hid hq
  clear hm hq
  rw [decide_eq_false ht] at hem
  clear ht
  have HNB := Lib.hid hb
  have HCL := Lib.hid (fun W => clone_str_calls T W (by omega))
  have HC2 := Lib.hid hc2
  have HL := Lib.hid hL
  have HLT := Lib.hid hlen
  clear hb hlen hc2 hL
  obtain ⟨s, hs⟩ : ∃ s, str T = s := ⟨_, rfl⟩
  rw [hs] at hem HNM HCL ⊢
  have HS := Lib.hid hs
  clear hs
  go_enter Tryd.func17, Tryd.ntmps17
  go_wp2_with fail
  have B1 := below_one w (.cells #[.bool dup, .bool ret, .int .u8 q, .int .u32 id, v, .string s, .string pl] 31)
  have X1 := heap_alloc_new w (.cells #[.bool dup, .bool ret, .int .u8 q, .int .u32 id, v, .string s, .string pl] 31)
  have Z1 := lt_of_block X1
  generalize w.alloc (.cells #[.bool dup, .bool ret, .int .u8 q, .int .u32 id, v, .string s, .string pl] 31) = W1 at *
  refine (HG.out W1 (HP.out.below B1)).mono ?_
  rintro e w1 ⟨rfl, b2⟩
  have X2 := Lib.hid ((b2.block _ Z1).trans X1)
  have B2 := Lib.hid (B1.trans (b2.mono B1.size))
  clear B1 X1 Z1 b2 HG HP
  go_wp2_with fail
  have B3 := Lib.hid (B2.out.alloc B2.out.size (.cells #[.int .i64 qi, .int .u32 qn, .string qs, .string qt] 132))
  have Y3 := heap_alloc_new w1 (.cells #[.int .i64 qi, .int .u32 qn, .string qs, .string qt] 132)
  have X3 := (Below.heap_alloc w1 (.cells #[.int .i64 qi, .int .u32 qn, .string qs, .string qt] 132) _ (lt_of_block X2.out)).trans X2.out
  generalize w1.alloc (.cells #[.int .i64 qi, .int .u32 qn, .string qs, .string qt] 132) = W2 at *
  have A3 := Lib.hid (HH.out.below B3.out)
  obtain ⟨d0, d1, d2, d3, d4, d5, d6, df⟩ := cells7 X3
  obtain ⟨k0, k1, k2, k3, kf⟩ := cells4 Y3
  clear X3 Y3 X2 B2
  refine (aMay_calls W2 p b cnt most L qn A3.out).mono ?_
  rw [HM.out]
  rintro e w3 ⟨rfl, rfl⟩
  go_wp2_with fail
  refine (HNM.out W2 B3.out).mono ?_
  rw [HNB.out]
  rintro e w4 ⟨rfl, b4⟩
  have A4 := Lib.hid (A3.out.below b4)
  have B4 := Lib.hid (B3.out.trans (b4.mono B3.out.size))
  have e5 := (b4.cell (p := ⟨w.heap.size, 5, none⟩) (World.block_lt_of_cell? _ _ d5)).trans d5
  have g1 := (b4.cell (p := ⟨w1.heap.size, 1, none⟩) (World.block_lt_of_cell? _ _ k1)).trans k1
  clear b4 d0 d1 d2 d3 d4 d5 d6 df k0 k1 k2 k3 kf A3 B3
  go_wp2_with fail
  obtain ⟨D, hown, hh, hat, hsz⟩ := A4.out.top
  have HX := Lib.hid (show ∀ (V V2 : World), Below w4.heap.size w4 V → V2.ownsMap Tryd.prog 22 (plainElem Tryd.prog 9) b (L.length + 1) (D.put (.int .u32 qn) (.lit (.string T))) → V.mapTurned V2 b →
      AlAt V2 p b most (L ++ [(qn, T)]) c2 ∧ Moved w V2 p b from fun V V2 hb h1 h2 => by
    rw [← HC2.out]
    exact AlAt.put (B4.out.trans (hb.mono B4.out.size)) (A4.out.below hb) (own_below hown hb) hh hat hsz HQ.out.1 HQ.out.2 h1 h2)
  have HO := Lib.hid hown
  have e4 : w4.cell? ⟨w.heap.size, 5, none⟩ = some (.string s) := e5
  have D5 := Lib.hid e5
  have D1 := Lib.hid g1
  have Z4 := Lib.hid A4.out.cells
  obtain ⟨t0, t1⟩ := two_m A4.out.cells
  clear hown hh hat hsz
  go_region_law (go_simp; go_at_call 65; refine (HCL.out _).mono ?_; rintro e V1 ⟨rfl, b5⟩; have C5 := Lib.hid (show Below w4.heap.size w4 V1 from (drew_below4 w4).trans b5); clear b5; have f5 := (C5.out.cell (p := ⟨w.heap.size, 5, none⟩) (World.block_lt_of_cell? _ _ D5.out)).trans D5.out; have f1 := (C5.out.cell (p := ⟨w1.heap.size, 1, none⟩) (World.block_lt_of_cell? _ _ D1.out)).trans D1.out; obtain ⟨r0, r1⟩ := two_m ((C5.out.block _ (m_size Z4.out)).trans Z4.out); obtain ⟨V2, hrun, hown2, hturn⟩ := put_run (own_below HO.out C5.out) HL.out q0 q1 s T HS.out (by have := HLT.out; omega); have HE := Lib.hid (HX.out V1 V2 C5.out hown2 hturn); have g5 : V2.cell? ⟨w.heap.size, 5, none⟩ = some (.string s) := turned_cell hturn (Nat.ne_of_gt HH.out.top.lt) f5; clear hown2 hturn)
  all_goals (go_wp2; go_ret2; exact ⟨rfl, HE.out.1, HE.out.2⟩)

set_option maxRecDepth 100000 in
set_option maxHeartbeats 1000000 in
/-- No topic, no alias. -/
theorem nm_e (w : World) (p b cnt : Nat) (most : Int) (L : List (Int × List UInt8)) (dup ret : Bool) (q id : Int) (v : Value) (T : List UInt8) (pl : ByteArray) (ps : List Pr) (hl : T.length ≤ 1000000) (hP : PropsAt w v ps) (hn : ps.length ≤ 1000000) (hT : T10 w) (h : AlAt w p b most L cnt)
    (hf : firstP ps 35 = none) (ht : T = []) :
    Calls Tryd.prog 17 #[.pointer (some ⟨p, 0, none⟩), .agg #[.bool dup, .bool ret, .int .u8 q, .int .u32 id, v, .string (str T), .string pl]] w (NmR w p b most L cnt (.tuple #[.string ⟨#[]⟩, .int .i64 3])) := by
  have hg := fun W h => get_calls W v ps 35 h hn
  unfold getV at hg
  rw [hf] at hg
  dsimp only at hg
  have HG := Lib.hid hg
  have HH := Lib.hid h
  have HP := Lib.hid hP
  have HT := Lib.hid hT
  have HNM := Lib.hid (fun W (hb : Below w.heap.size w W) => name_calls W T hl (hT.below hb))
  have hem := empty_str T
  clear hg hf hn hP hT hl h
  rw [decide_eq_true ht] at hem
  clear ht
  have HKN := Lib.hid (show knownE L 0 = .tuple #[.string ⟨#[]⟩, .int .i64 3] from by unfold knownE; rw [getL_zero HH.out])
  obtain ⟨s, hs⟩ : ∃ s, str T = s := ⟨_, rfl⟩
  rw [hs] at hem HNM ⊢
  have HS := Lib.hid hs
  clear hs
  go_enter Tryd.func17, Tryd.ntmps17
  go_wp2_with fail
  have B1 := below_one w (.cells #[.bool dup, .bool ret, .int .u8 q, .int .u32 id, v, .string s, .string pl] 31)
  have X1 := heap_alloc_new w (.cells #[.bool dup, .bool ret, .int .u8 q, .int .u32 id, v, .string s, .string pl] 31)
  have Z1 := lt_of_block X1
  generalize w.alloc (.cells #[.bool dup, .bool ret, .int .u8 q, .int .u32 id, v, .string s, .string pl] 31) = W1 at *
  refine (HG.out W1 (HP.out.below B1)).mono ?_
  rintro e w1 ⟨rfl, b2⟩
  have X2 := Lib.hid ((b2.block _ Z1).trans X1)
  have B2 := Lib.hid (B1.trans (b2.mono B1.size))
  clear B1 X1 Z1 b2 HG HP
  go_upto_region 2 with fail
  have B3 := Lib.hid (B2.out.alloc B2.out.size (.cells #[.int .i64 0, .int .u32 0, .string ⟨#[]⟩, .string ⟨#[]⟩] 132))
  have Y3 := heap_alloc_new w1 (.cells #[.int .i64 0, .int .u32 0, .string ⟨#[]⟩, .string ⟨#[]⟩] 132)
  have X3 := (Below.heap_alloc w1 (.cells #[.int .i64 0, .int .u32 0, .string ⟨#[]⟩, .string ⟨#[]⟩] 132) _ (lt_of_block X2.out)).trans X2.out
  generalize w1.alloc (.cells #[.int .i64 0, .int .u32 0, .string ⟨#[]⟩, .string ⟨#[]⟩] 132) = W2 at *
  have A3 := Lib.hid (HH.out.below B3.out)
  obtain ⟨d0, d1, d2, d3, d4, d5, d6, df⟩ := cells7 X3
  obtain ⟨k0, k1, k2, k3, kf⟩ := cells4 Y3
  clear X3 Y3 X2 B2
  go_wp2_with fail
  refine (aKnown_calls W2 p b cnt most L 0 (by omega) (by omega) A3.out).mono ?_
  rw [HKN.out]
  rintro e w4 ⟨rfl, rfl⟩
  go_wp2
  go_ret2
  exact ⟨rfl, A3.out, Moved.of_below B3.out⟩

set_option maxRecDepth 100000 in
set_option maxHeartbeats 1000000 in
/-- A topic that is no name, without an alias. -/
theorem nm_f (w : World) (p b cnt : Nat) (most : Int) (L : List (Int × List UInt8)) (dup ret : Bool) (q id : Int) (v : Value) (T : List UInt8) (pl : ByteArray) (ps : List Pr) (hl : T.length ≤ 1000000) (hP : PropsAt w v ps) (hn : ps.length ≤ 1000000) (hT : T10 w) (h : AlAt w p b most L cnt)
    (hf : firstP ps 35 = none) (ht : ¬ T = []) (hb : nameB T = false) :
    Calls Tryd.prog 17 #[.pointer (some ⟨p, 0, none⟩), .agg #[.bool dup, .bool ret, .int .u8 q, .int .u32 id, v, .string (str T), .string pl]] w (NmR w p b most L cnt (.tuple #[.string ⟨#[]⟩, .int .i64 9])) := by
  have hg := fun W h => get_calls W v ps 35 h hn
  unfold getV at hg
  rw [hf] at hg
  dsimp only at hg
  have HG := Lib.hid hg
  have HH := Lib.hid h
  have HP := Lib.hid hP
  have HT := Lib.hid hT
  have HNM := Lib.hid (fun W (hb : Below w.heap.size w W) => name_calls W T hl (hT.below hb))
  have hem := empty_str T
  clear hg hf hn hP hT hl h
  rw [decide_eq_false ht] at hem
  clear ht
  have HNB := Lib.hid hb
  clear hb
  obtain ⟨s, hs⟩ : ∃ s, str T = s := ⟨_, rfl⟩
  rw [hs] at hem HNM ⊢
  have HS := Lib.hid hs
  clear hs
  go_enter Tryd.func17, Tryd.ntmps17
  go_wp2_with fail
  have B1 := below_one w (.cells #[.bool dup, .bool ret, .int .u8 q, .int .u32 id, v, .string s, .string pl] 31)
  have X1 := heap_alloc_new w (.cells #[.bool dup, .bool ret, .int .u8 q, .int .u32 id, v, .string s, .string pl] 31)
  have Z1 := lt_of_block X1
  generalize w.alloc (.cells #[.bool dup, .bool ret, .int .u8 q, .int .u32 id, v, .string s, .string pl] 31) = W1 at *
  refine (HG.out W1 (HP.out.below B1)).mono ?_
  rintro e w1 ⟨rfl, b2⟩
  have X2 := Lib.hid ((b2.block _ Z1).trans X1)
  have B2 := Lib.hid (B1.trans (b2.mono B1.size))
  clear B1 X1 Z1 b2 HG HP
  go_upto_region 2 with fail
  have B3 := Lib.hid (B2.out.alloc B2.out.size (.cells #[.int .i64 0, .int .u32 0, .string ⟨#[]⟩, .string ⟨#[]⟩] 132))
  have Y3 := heap_alloc_new w1 (.cells #[.int .i64 0, .int .u32 0, .string ⟨#[]⟩, .string ⟨#[]⟩] 132)
  have X3 := (Below.heap_alloc w1 (.cells #[.int .i64 0, .int .u32 0, .string ⟨#[]⟩, .string ⟨#[]⟩] 132) _ (lt_of_block X2.out)).trans X2.out
  generalize w1.alloc (.cells #[.int .i64 0, .int .u32 0, .string ⟨#[]⟩, .string ⟨#[]⟩] 132) = W2 at *
  have A3 := Lib.hid (HH.out.below B3.out)
  obtain ⟨d0, d1, d2, d3, d4, d5, d6, df⟩ := cells7 X3
  obtain ⟨k0, k1, k2, k3, kf⟩ := cells4 Y3
  clear X3 Y3 X2 B2
  go_wp2_with fail
  refine (HNM.out W2 B3.out).mono ?_
  rw [HNB.out]
  rintro e w4 ⟨rfl, b4⟩
  have A4 := Lib.hid (A3.out.below b4)
  have B4 := Lib.hid (B3.out.trans (b4.mono B3.out.size))
  have e5 := (b4.cell (p := ⟨w.heap.size, 5, none⟩) (World.block_lt_of_cell? _ _ d5)).trans d5
  have g1 := (b4.cell (p := ⟨w1.heap.size, 1, none⟩) (World.block_lt_of_cell? _ _ k1)).trans k1
  clear b4 d0 d1 d2 d3 d4 d5 d6 df k0 k1 k2 k3 kf A3 B3
  go_wp2
  go_ret2
  exact ⟨rfl, A4.out, Moved.of_below B4.out⟩

set_option maxRecDepth 100000 in
set_option maxHeartbeats 1000000 in
/-- A name, without an alias. -/
theorem nm_g (w : World) (p b cnt : Nat) (most : Int) (L : List (Int × List UInt8)) (dup ret : Bool) (q id : Int) (v : Value) (T : List UInt8) (pl : ByteArray) (ps : List Pr) (hl : T.length ≤ 1000000) (hP : PropsAt w v ps) (hn : ps.length ≤ 1000000) (hT : T10 w) (h : AlAt w p b most L cnt)
    (hf : firstP ps 35 = none) (ht : ¬ T = []) (hb : nameB T = true) :
    Calls Tryd.prog 17 #[.pointer (some ⟨p, 0, none⟩), .agg #[.bool dup, .bool ret, .int .u8 q, .int .u32 id, v, .string (str T), .string pl]] w (NmR w p b most L cnt (.tuple #[.string (str T), .int .i64 0])) := by
  have hg := fun W h => get_calls W v ps 35 h hn
  unfold getV at hg
  rw [hf] at hg
  dsimp only at hg
  have HG := Lib.hid hg
  have HH := Lib.hid h
  have HP := Lib.hid hP
  have HT := Lib.hid hT
  have HNM := Lib.hid (fun W (hb : Below w.heap.size w W) => name_calls W T hl (hT.below hb))
  have hem := empty_str T
  clear hg hf hn hP hT hl h
  rw [decide_eq_false ht] at hem
  clear ht
  have HNB := Lib.hid hb
  clear hb
  obtain ⟨s, hs⟩ : ∃ s, str T = s := ⟨_, rfl⟩
  rw [hs] at hem HNM ⊢
  have HS := Lib.hid hs
  clear hs
  go_enter Tryd.func17, Tryd.ntmps17
  go_wp2_with fail
  have B1 := below_one w (.cells #[.bool dup, .bool ret, .int .u8 q, .int .u32 id, v, .string s, .string pl] 31)
  have X1 := heap_alloc_new w (.cells #[.bool dup, .bool ret, .int .u8 q, .int .u32 id, v, .string s, .string pl] 31)
  have Z1 := lt_of_block X1
  generalize w.alloc (.cells #[.bool dup, .bool ret, .int .u8 q, .int .u32 id, v, .string s, .string pl] 31) = W1 at *
  refine (HG.out W1 (HP.out.below B1)).mono ?_
  rintro e w1 ⟨rfl, b2⟩
  have X2 := Lib.hid ((b2.block _ Z1).trans X1)
  have B2 := Lib.hid (B1.trans (b2.mono B1.size))
  clear B1 X1 Z1 b2 HG HP
  go_upto_region 2 with fail
  have B3 := Lib.hid (B2.out.alloc B2.out.size (.cells #[.int .i64 0, .int .u32 0, .string ⟨#[]⟩, .string ⟨#[]⟩] 132))
  have Y3 := heap_alloc_new w1 (.cells #[.int .i64 0, .int .u32 0, .string ⟨#[]⟩, .string ⟨#[]⟩] 132)
  have X3 := (Below.heap_alloc w1 (.cells #[.int .i64 0, .int .u32 0, .string ⟨#[]⟩, .string ⟨#[]⟩] 132) _ (lt_of_block X2.out)).trans X2.out
  generalize w1.alloc (.cells #[.int .i64 0, .int .u32 0, .string ⟨#[]⟩, .string ⟨#[]⟩] 132) = W2 at *
  have A3 := Lib.hid (HH.out.below B3.out)
  obtain ⟨d0, d1, d2, d3, d4, d5, d6, df⟩ := cells7 X3
  obtain ⟨k0, k1, k2, k3, kf⟩ := cells4 Y3
  clear X3 Y3 X2 B2
  go_wp2_with fail
  refine (HNM.out W2 B3.out).mono ?_
  rw [HNB.out]
  rintro e w4 ⟨rfl, b4⟩
  have A4 := Lib.hid (A3.out.below b4)
  have B4 := Lib.hid (B3.out.trans (b4.mono B3.out.size))
  have e5 := (b4.cell (p := ⟨w.heap.size, 5, none⟩) (World.block_lt_of_cell? _ _ d5)).trans d5
  have g1 := (b4.cell (p := ⟨w1.heap.size, 1, none⟩) (World.block_lt_of_cell? _ _ k1)).trans k1
  clear b4 d0 d1 d2 d3 d4 d5 d6 df k0 k1 k2 k3 kf A3 B3
  go_wp2
  go_ret2
  exact ⟨rfl, A4.out, Moved.of_below B4.out⟩

#print axioms nm_g
end Go.Proofs.YtnpkiknidmhciaaDoor

namespace Go.Proofs.YtnpkiknidmhciaaDoor
open Go.RowKit Go.Maps

/-- A slice of numbers. -/
def N32At (W : World) (v : Value) (zs : List Int) : Prop :=
  ∃ A cap, v = .slice A zs.length cap ∧ zs.length ≤ maxLen ∧ ∀ i, i < zs.length → ∃ b o, A = some ⟨b, o, none⟩ ∧ b < W.heap.size ∧ W.cell? ⟨b, o + i, none⟩ = some (.int .u32 (zs.getD i 0)) ∧ 0 ≤ zs.getD i 0 ∧ zs.getD i 0 < 4294967296
theorem N32At.below {W W' : World} {v : Value} {zs : List Int} (h : N32At W v zs) (hb : Below W.heap.size W W') : N32At W' v zs := by
  obtain ⟨A, cap, rfl, hm, hc⟩ := h
  refine ⟨A, cap, rfl, hm, fun i hi => ?_⟩
  obtain ⟨b, o, hA, hl, hcell, hx⟩ := hc i hi
  exact ⟨b, o, hA, Nat.lt_of_lt_of_le hl hb.size, (hb.cell (p := ⟨b, _, none⟩) hl).trans hcell, hx⟩
theorem N32At.nil (W : World) : N32At W (.slice none 0 0) [] := ⟨none, 0, rfl, by decide, fun i hi => by simp at hi⟩
theorem N32At.one {W : World} {b : Nat} {n : Int} {t : TypeId} (h : W.heap[b]? = some (.cells #[.int .u32 n] t (0, 0))) (h0 : 0 ≤ n) (h1 : n < 4294967296) : N32At W (.slice (some ⟨b, 0, none⟩) 1 1) [n] := by
  refine ⟨some ⟨b, 0, none⟩, 1, rfl, by unfold maxLen; simp, fun i hi => ?_⟩
  obtain rfl : i = 0 := by simpa using hi
  exact ⟨b, 0, rfl, m_size h, by simp [World.cell?, h], h0, h1⟩

/-- An alias as a property. -/
def alP (n : Int) : Pr := ⟨35, n, ⟨#[]⟩, ⟨#[]⟩⟩
/-- The properties of a publish that is made. -/
def alPs (zs : List Int) : List Pr := (zs.take 2).map alP
theorem alPs_ok (zs : List Int) (i : Nat) (hi : i < zs.length) (h2 : i < 2) : alPs (zs.take (i + 1)) = alPs (zs.take i) ++ [alP (zs.getD i 0)] := by
  unfold alPs
  rw [List.take_take, List.take_take, Nat.min_eq_right (by omega), Nat.min_eq_right (by omega), List.take_succ_eq_append_getElem hi, List.map_append]
  simp [List.getD, hi]
theorem alPs_two (zs : List Int) (i : Nat) (h : i = zs.length ∨ i = 2) : alPs (zs.take i) = alPs zs := by
  unfold alPs
  rcases h with rfl | rfl
  · rw [List.take_length]
  · rw [List.take_take]; rfl

/-- While a publish is made. -/
structure MdJ (w : World) (s tc : ByteArray) (av v : Value) (P : List Pr) (W : World) : Prop where
  one : W.heap[w.heap.size]? = some (.cells #[.string s, av] 35 (0, 0))
  res : W.heap[w.heap.size + 1]? = some (.cells #[.bool false, .bool false, .int .u8 0, .int .u32 0, .slice none 0 0, .string ⟨#[]⟩, .string ⟨#[]⟩] 31 (0, 0))
  loc : W.heap[w.heap.size + 2]? = some (.cells #[.bool false, .bool false, .int .u8 0, .int .u32 0, v, .string tc, .string ⟨#[]⟩] 31 (0, 0))
  bel : Below w.heap.size w W
  own : OwnP (w.heap.size + 3) 132 W v P

section
variable {w : World} {s tc : ByteArray} {av v : Value} {P : List Pr} {W : World}
theorem MdJ.drew (h : MdJ w s tc av v P W) : MdJ w s tc av v P W.drew := ⟨h.one, h.res, h.loc, h.bel.drew, h.own⟩
theorem MdJ.far (h : MdJ w s tc av v P W) {O : Obj} {W' : World} (hg : (W.alloc O).grownBy W' v.ownBlock) {k : Nat} (hk : k ≤ w.heap.size + 2) : W'.heap[k]? = W.heap[k]? := by
  have hlc := m_size h.loc
  refine (hg.block k (by simp; omega) (fun e => ?_)).trans (Below.heap_alloc W O k (by omega))
  rcases h.own.2 with ⟨rfl, _⟩ | ⟨g', cap', cur, rfl, hB, _⟩
  · simp [Value.ownBlock] at e
  · simp [Value.ownBlock] at e; omega
theorem MdJ.grown (h : MdJ w s tc av v P W) {O : Obj} {W' : World} {g cap : Nat} {c : Pr} (hown : W'.ownsRow (w.heap.size + 3) 132 4 (.slice (some ⟨g, 0, none⟩) (P.length + 1) cap) (P.length + 1) (P.flatMap prC ++ [.int .i64 c.id, .int .u32 c.n, .string c.s, .string c.t]))
    (hg : (W.alloc O).grownBy W' v.ownBlock) :
    MdJ w s tc av (.slice (some ⟨g, 0, none⟩) (P.length + 1) cap) (P ++ [c]) (W'.setCell ⟨w.heap.size + 2, 4, none⟩ (.slice (some ⟨g, 0, none⟩) (P.length + 1) cap)) := by
  have hlc := m_size h.loc
  have hL : OwnP (w.heap.size + 3) 132 W' (.slice (some ⟨g, 0, none⟩) (P.length + 1) cap) (P ++ [c]) := by
    unfold OwnP
    rw [show (P ++ [c]).length = P.length + 1 by simp, List.flatMap_append]
    exact hown
  refine ⟨?_, ?_, ?_, ?_, hL.set (by omega)⟩
  · rw [Below.heap_setCell _ _ _ _ (by show w.heap.size ≠ w.heap.size + 2; omega)]
    exact (h.far hg (by omega)).trans h.one
  · rw [Below.heap_setCell _ _ _ _ (by show w.heap.size + 1 ≠ w.heap.size + 2; omega)]
    exact (h.far hg (by omega)).trans h.res
  · exact set_cells ((h.far hg (Nat.le_refl _)).trans h.loc) 4 _
  · refine below_set (Below.grown (h.bel.alloc h.bel.size O) hg (by have := h.bel.size; simp; omega) (fun k hk => ?_)) (by omega) _ _
    rcases h.own.2 with ⟨rfl, _⟩ | ⟨g', cap', cur, rfl, hB, _⟩
    · simp [Value.ownBlock] at hk
    · simp [Value.ownBlock] at hk; omega
theorem MdJ.grownK (h : MdJ w s tc av v P W) {k : Nat} (hk : P.length = k) {P2 : List Pr} {c : Pr} (hP : P2 = P ++ [c]) {O : Obj} {W' : World} {g cap : Nat} (hown : W'.ownsRow (w.heap.size + 3) 132 4 (.slice (some ⟨g, 0, none⟩) (k + 1) cap) (k + 1) (P.flatMap prC ++ [.int .i64 c.id, .int .u32 c.n, .string c.s, .string c.t]))
    (hg : (W.alloc O).grownBy W' v.ownBlock) :
    MdJ w s tc av (.slice (some ⟨g, 0, none⟩) (k + 1) cap) P2 (W'.setCell ⟨w.heap.size + 2, 4, none⟩ (.slice (some ⟨g, 0, none⟩) (k + 1) cap)) := by
  subst hk hP
  exact h.grown hown hg
end

theorem _root_.Go.RowKit.Below.put7 {B b : Nat} {a W : World} (h : Below B a W) (hb : B ≤ b) {u0 u1 u2 u3 u4 u5 u6 : Value} : Below B a (((((((W.setCell ⟨b, 0, none⟩ u0).setCell ⟨b, 1, none⟩ u1).setCell ⟨b, 2, none⟩ u2).setCell ⟨b, 3, none⟩ u3).setCell ⟨b, 4, none⟩ u4).setCell ⟨b, 5, none⟩ u5).setCell ⟨b, 6, none⟩ u6) := by
  iterate 7 (refine below_set ?_ hb _ _)
  exact h

theorem four_newA (w : World) (a b c d : Value) (t : TypeId) (n : Nat) (hn : n = w.heap.size) : ∀ j u, [a, b, c, d][j]? = some u → (w.alloc (.cells #[a, b, c, d] t)).cell? ((⟨n, 0, none⟩ : Addr).add j) = some u := by
  subst hn
  exact four_new w a b c d t

/-- What made answers. -/
def MadeR (w : World) (T : List UInt8) (zs : List Int) (e : Ending) (w' : World) : Prop :=
  ∃ u, e = .returned (.agg #[.bool false, .bool false, .int .u8 0, .int .u32 0, u, .string (str (T.take 30)), .string ⟨#[]⟩]) ∧ PropsAt w' u (alPs zs) ∧ Below w.heap.size w w'

theorem ext_take (T : List UInt8) (n : Nat) : (str T).extract 0 n = str (T.take n) := by
  apply ByteArray.ext
  rw [ByteArray.data_extract]
  apply Array.ext'
  simp [str]

set_option maxRecDepth 100000 in
set_option maxHeartbeats 2000000 in
theorem made_calls (w : World) (T : List UInt8) (hT : T.length ≤ maxLen) (av : Value) (zs : List Int) (hz : N32At w av zs) :
    Calls Tryd.prog 16 #[.agg #[.string (str T), av]] w (MadeR w T zs) := by
  have hcut := fun W => cut_calls W (str T) 30 (by rw [str_size]; exact hT)
  rw [ext_take] at hcut
  obtain ⟨tc, htc⟩ : ∃ tc, str (T.take 30) = tc := ⟨_, rfl⟩
  unfold MadeR
  rw [htc] at hcut ⊢
  obtain ⟨s, hs⟩ : ∃ s, str T = s := ⟨_, rfl⟩
  rw [hs] at hcut ⊢
  clear htc hs hT
  obtain ⟨A, cap, rfl, hzm, hc⟩ := hz
  obtain ⟨i0, hi, hz0, hz1, hz2⟩ := info_parts Tryd.infoProp
  have HC := Lib.hid hc
  have HZ := Lib.hid hzm
  clear hc hzm
  have H0 := Lib.hid (show MdJ w s tc (.slice A zs.length cap) (.slice none 0 0) [] (((w.alloc (.cells #[.string s, .slice A zs.length cap] 35)).alloc (.cells #[.bool false, .bool false, .int .u8 0, .int .u32 0, .slice none 0 0, .string ⟨#[]⟩, .string ⟨#[]⟩] 31)).alloc (.cells #[.bool false, .bool false, .int .u8 0, .int .u32 0, .slice none 0 0, .string tc, .string ⟨#[]⟩] 31)) from by
    have e1 := heap_alloc_new w (.cells #[.string s, .slice A zs.length cap] 35)
    have e2 := heap_alloc_new (w.alloc (.cells #[.string s, .slice A zs.length cap] 35)) (.cells #[.bool false, .bool false, .int .u8 0, .int .u32 0, .slice none 0 0, .string ⟨#[]⟩, .string ⟨#[]⟩] 31)
    have e3 := heap_alloc_new ((w.alloc (.cells #[.string s, .slice A zs.length cap] 35)).alloc (.cells #[.bool false, .bool false, .int .u8 0, .int .u32 0, .slice none 0 0, .string ⟨#[]⟩, .string ⟨#[]⟩] 31)) (.cells #[.bool false, .bool false, .int .u8 0, .int .u32 0, .slice none 0 0, .string tc, .string ⟨#[]⟩] 31)
    rw [World.size_alloc] at e2
    rw [World.size_alloc, World.size_alloc] at e3
    refine ⟨?_, ?_, e3, ((below_one w _).alloc (by simp) _).alloc (by simp; omega) _, World.ownsRow_nil _ _ _ _⟩
    · exact (Below.heap_alloc _ _ _ (by simp; omega)).trans ((Below.heap_alloc _ _ _ (by simp)).trans e1)
    · exact (Below.heap_alloc _ _ _ (by simp)).trans e2)
  go_enter Tryd.func16, Tryd.ntmps16
  go_wp2_with (go_at_call 23; refine (hcut _).mono ?_; rintro e w1 ⟨rfl, rfl⟩)
  generalize ((w.alloc (.cells #[.string s, .slice A zs.length cap] 35)).alloc (.cells #[.bool false, .bool false, .int .u8 0, .int .u32 0, .slice none 0 0, .string ⟨#[]⟩, .string ⟨#[]⟩] 31)).alloc (.cells #[.bool false, .bool false, .int .u8 0, .int .u32 0, .slice none 0 0, .string tc, .string ⟨#[]⟩] 31) = W0 at *
  go_loopw [4] (fun i wr => ∃ (k : Nat) (v : Value), i = .int .i64 k ∧ k ≤ zs.length ∧ k ≤ 2 ∧ MdJ w s tc (.slice A zs.length cap) v (alPs (zs.take k)) wr) (fun i _ => 2 - (intOf i).toNat)
  case atStart => exact ⟨0, _, rfl, Nat.zero_le _, by omega, H0.out⟩
  case round =>
    obtain ⟨k, v, rfl, hk1, hk2, hJ⟩ := hrel
    have HJ := Lib.hid hJ
    have hzl := HZ.out
    obtain ⟨a0, a1⟩ := two_m hJ.one
    obtain ⟨d0, d1, d2, d3, d4, d5, d6, df⟩ := cells7 hJ.loc
    obtain ⟨r0, r1, r2, r3, r4, r5, r6, rf⟩ := cells7 hJ.res
    have dl := m_size hJ.loc
    have rl := m_size hJ.res
    clear hJ H0
    unfold maxLen at hzl
    by_cases hlt : k < zs.length
    · by_cases hlt2 : k < 2
      · obtain ⟨b, o, hA, hbl, hcell, hx0, hx1⟩ := HC.out k hlt
        have hcell' := (HJ.out.bel.cell (p := ⟨b, o + k, none⟩) hbl).trans hcell
        have hal := alPs_ok zs k hlt hlt2
        have hpl : (alPs (zs.take k)).length = k := by unfold alPs; simp; omega
        have HAL := Lib.hid hal
        have HPL := Lib.hid hpl
        generalize zs.getD k 0 = n at *
        subst hA
        obtain ⟨va, vc, rfl⟩ := HJ.out.own.form
        rw [hpl] at d4 HJ
        have HOW := Lib.hid (show wr.drew.ownsRow (w.heap.size + 3) 132 4 (.slice va k vc) k ((alPs (zs.take k)).flatMap prC) from by have := HJ.out.own; unfold OwnP at this; rw [hpl] at this; exact this)
        clear hal hpl hcell
        go_wp2_with fail
        have OW2 := Lib.hid (World.ownsRow.alloc HOW.out (.cells #[.int .i64 35, .int .u32 n, .string ⟨#[]⟩, .string ⟨#[]⟩] 132))
        have NW2 := Lib.hid (four_newA wr.drew (.int .i64 35) (.int .u32 n) (.string ⟨#[]⟩) (.string ⟨#[]⟩) 132 wr.heap.size rfl)
        have BS2 : w.heap.size + 3 ≤ (wr.drew.alloc (.cells #[.int .i64 35, .int .u32 n, .string ⟨#[]⟩, .string ⟨#[]⟩] 132)).heap.size := by rw [World.size_alloc]; show w.heap.size + 3 ≤ wr.heap.size + 1; omega
        have KM2 : k + 1 ≤ maxLen := by unfold maxLen; omega
        have KB2 : (k + 1) * 48 ≤ 140737488355328 := by omega
        have OC2 : ∀ u ∈ [Value.int .i64 35, .int .u32 n, .string ⟨#[]⟩, .string ⟨#[]⟩], u.oneCell' = true := by simp [Value.oneCell']
        go_region_law (refine step_append_lies _ rfl (.tmp 21) (.tmp 28) 29 rfl (w.heap.size + 3) 132 i0 (.agg #[.int .i64 0, .int .u32 0, .string ⟨#[]⟩, .string ⟨#[]⟩]) 4 48 Tryd.underlying29 hi hz0 hz1 hz2 rfl (by decide) (.slice va k vc) k ((alPs (zs.take k)).flatMap prC) rfl OW2.out ⟨wr.heap.size, 0, none⟩ 1 1 [.int .i64 35, .int .u32 n, .string ⟨#[]⟩, .string ⟨#[]⟩] rfl rfl NW2.out OC2 (by decide) KM2 KB2 BS2 _ rfl ?_; intro g gc W' hown hgrow hat hgl; have HN := Lib.hid (MdJ.grownK (c := alP n) HJ.out.drew HPL.out HAL.out hown hgrow); have L1 := (HJ.out.drew.far hgrow (Nat.le_refl _)).trans HJ.out.drew.loc; obtain ⟨m0, m1, m2, m3, m4, m5, m6, mf⟩ := cells7 L1; have ml := m_size L1; clear hown hgrow hat L1)
        all_goals
          go_wp2
          go_roundw
          case rel => exact ⟨k + 1, _, by go_num, by omega, by omega, HN.out⟩
          case measure => simp [intOf]; omega
      · obtain rfl : k = 2 := by omega
        have HE := alPs_two zs 2 (.inr rfl)
        rw [HE] at HJ
        obtain ⟨va, vc, rfl⟩ := HJ.out.own.form
        generalize (alPs zs).length = pn at *
        go_wp2
        refine bodyPost_ret (v := .agg #[.bool false, .bool false, .int .u8 0, .int .u32 0, .slice va pn vc, .string tc, .string ⟨#[]⟩]) ?_ rfl ⟨_, rfl, ?_, ?_⟩
        · simp [results, Tryd.results16, go_sem, r0, r1, r2, r3, r4, r5, r6]
        · refine OwnP.props (e := 132) (B := w.heap.size + 3) ?_
          iterate 7 (refine OwnP.set ?_ (show w.heap.size + 1 < w.heap.size + 3 by omega))
          exact HJ.out.own
        · exact HJ.out.bel.put7 (Nat.le_succ _)
    · obtain rfl : k = zs.length := by omega
      have HE := alPs_two zs zs.length (.inl rfl)
      rw [HE] at HJ
      obtain ⟨va, vc, rfl⟩ := HJ.out.own.form
      generalize (alPs zs).length = pn at *
      go_wp2
      refine bodyPost_ret (v := .agg #[.bool false, .bool false, .int .u8 0, .int .u32 0, .slice va pn vc, .string tc, .string ⟨#[]⟩]) ?_ rfl ⟨_, rfl, ?_, ?_⟩
      · simp [results, Tryd.results16, go_sem, r0, r1, r2, r3, r4, r5, r6]
      · refine OwnP.props (e := 132) (B := w.heap.size + 3) ?_
        iterate 7 (refine OwnP.set ?_ (show w.heap.size + 1 < w.heap.size + 3 by omega))
        exact HJ.out.own
      · exact HJ.out.bel.put7 (Nat.le_succ _)

#print axioms made_calls
end Go.Proofs.YtnpkiknidmhciaaDoor

namespace Go.Proofs.YtnpkiknidmhciaaDoor
open Go.RowKit Go.Maps

/-- What Name answers, by the first alias and the topic. -/
def nmE (most : Int) (L : List (Int × List UInt8)) (fp : Option Int) (T : List UInt8) : List UInt8 × Int := match fp with
  | some n => if 1 ≤ n ∧ n ≤ most then (if T = [] then (match getL L n with | some s => (s, 0) | none => ([], 3)) else if nameB T = true then (T, 0) else ([], 9)) else ([], 11)
  | none => if T = [] then ([], 3) else if nameB T = true then (T, 0) else ([], 9)
def nmL (most : Int) (L : List (Int × List UInt8)) (fp : Option Int) (T : List UInt8) : List (Int × List UInt8) := match fp with
  | some n => if (1 ≤ n ∧ n ≤ most) ∧ T ≠ [] ∧ nameB T = true then L ++ [(n, T)] else L
  | none => L
def nmC (most : Int) (L : List (Int × List UInt8)) (c : Nat) (fp : Option Int) (T : List UInt8) : Nat := match fp with
  | some n => if (1 ≤ n ∧ n ≤ most) ∧ T ≠ [] ∧ nameB T = true then (if (getL L n).isSome then c else c + 1) else c
  | none => c

theorem aName_calls (w : World) (p b cnt : Nat) (most : Int) (L : List (Int × List UInt8)) (dup ret : Bool) (q id : Int) (v : Value) (T : List UInt8) (pl : ByteArray) (ps : List Pr) (hl : T.length ≤ 1000000) (hP : PropsAt w v ps) (hn : ps.length ≤ 1000000) (hT : T10 w) (h : AlAt w p b most L cnt)
    (hL : L.length < maxLen) (fp : Option Int) (hf : (firstP ps 35).map (·.n) = fp) (hq : ∀ n, fp = some n → 0 ≤ n ∧ n < 4294967296) :
    Calls Tryd.prog 17 #[.pointer (some ⟨p, 0, none⟩), .agg #[.bool dup, .bool ret, .int .u8 q, .int .u32 id, v, .string (str T), .string pl]] w
      (NmR w p b most (nmL most L fp T) (nmC most L cnt fp T) (.tuple #[.string (str (nmE most L fp T).1), .int .i64 (nmE most L fp T).2])) := by
  subst hf
  cases hfp : firstP ps 35 with
  | none =>
    simp only [Option.map_none, nmE, nmL, nmC]
    by_cases ht : T = []
    · rw [if_pos ht]
      exact nm_e w p b cnt most L dup ret q id v T pl ps hl hP hn hT h hfp ht
    · rw [if_neg ht]
      cases hb : nameB T with
      | false => exact nm_f w p b cnt most L dup ret q id v T pl ps hl hP hn hT h hfp ht hb
      | true => exact nm_g w p b cnt most L dup ret q id v T pl ps hl hP hn hT h hfp ht hb
  | some x =>
    obtain ⟨qi, qn, qs, qt⟩ := x
    rw [hfp] at hq
    obtain ⟨q0, q1⟩ := hq qn rfl
    simp only [Option.map_some, nmE, nmL, nmC]
    by_cases hr : 1 ≤ qn ∧ qn ≤ most
    · rw [if_pos hr]
      by_cases ht : T = []
      · rw [if_pos ht, if_neg (fun h => h.2.1 ht), if_neg (fun h => h.2.1 ht)]
        cases hk : getL L qn with
        | none => exact nm_b0 w p b cnt most L dup ret q id v T pl ps hl hP hn hT h qi qn qs qt hfp q0 q1 hr ht hk
        | some kt => exact nm_b w p b cnt most L dup ret q id v T pl ps hl hP hn hT h qi qn qs qt hfp q0 q1 hr ht kt hk
      · rw [if_neg ht]
        cases hb : nameB T with
        | false =>
          have hno : ¬ ((1 ≤ qn ∧ qn ≤ most) ∧ T ≠ [] ∧ false = true) := fun h => Bool.noConfusion h.2.2
          rw [if_neg hno, if_neg hno, if_neg (show ¬ (false = true) by decide)]
          exact nm_c w p b cnt most L dup ret q id v T pl ps hl hP hn hT h qi qn qs qt hfp hr ht hb
        | true =>
          rw [if_pos rfl, if_pos ⟨hr, ht, rfl⟩, if_pos ⟨hr, ht, rfl⟩]
          exact nm_d w p b cnt most L dup ret q id v T pl ps hl hP hn hT h qi qn qs qt hfp q0 q1 hr ht hb hl hL _ rfl
    · rw [if_neg hr, if_neg (fun h => hr h.1), if_neg (fun h => hr h.1)]
      exact nm_a w p b cnt most L dup ret q id v T pl ps hl hP hn hT h qi qn qs qt hfp hr

/-- The first alias of a publish that is made. -/
theorem first_alPs (zs : List Int) : (firstP (alPs zs) 35).map (·.n) = zs.head? := by
  cases zs with
  | nil => rfl
  | cons n r => simp [alPs, firstP, alP]

/-- Name of a publish that is made: what it answers, what the table is then. -/
theorem aName_made (w w1 : World) (p b cnt : Nat) (most : Int) (L : List (Int × List UInt8)) (u : Value) (T : List UInt8) (zs : List Int) (hT : T10 w1) (hP : PropsAt w1 u (alPs zs)) (hB : Below w.heap.size w w1) (h : AlAt w p b most L cnt) (hL : L.length < maxLen) (hz : ∀ n ∈ zs, 0 ≤ n ∧ n < 4294967296) :
    Calls Tryd.prog 17 #[.pointer (some ⟨p, 0, none⟩), .agg #[.bool false, .bool false, .int .u8 0, .int .u32 0, u, .string (str (T.take 30)), .string ⟨#[]⟩]] w1
      fun e w' => e = .returned (.tuple #[.string (str (nmE most L zs.head? (T.take 30)).1), .int .i64 (nmE most L zs.head? (T.take 30)).2]) ∧ AlAt w' p b most (nmL most L zs.head? (T.take 30)) (nmC most L cnt zs.head? (T.take 30)) ∧ Moved w w' p b :=
  (aName_calls w1 p b cnt most L false false 0 0 u (T.take 30) ⟨#[]⟩ (alPs zs) (by rw [List.length_take]; omega) hP (by unfold alPs; simp; omega) hT (h.below hB) hL zs.head? (first_alPs zs) (fun n hn => hz n (List.mem_of_mem_head? hn))).mono
    fun _ _ ⟨h1, h2, h3⟩ => ⟨h1, h2, (Moved.of_below hB).trans h3⟩

theorem N32At.range {W : World} {v : Value} {zs : List Int} (h : N32At W v zs) : ∀ n ∈ zs, 0 ≤ n ∧ n < 4294967296 := by
  obtain ⟨_, _, _, _, hc⟩ := h
  intro n hn
  obtain ⟨i, hi, rfl⟩ := List.mem_iff_getElem.1 hn
  obtain ⟨_, _, _, _, _, h0, h1⟩ := hc i hi
  have e : zs.getD i 0 = zs[i] := by simp [List.getD, hi]
  rw [e] at h0 h1
  exact ⟨h0, h1⟩

theorem awN1 : nameB [97] = true := by decide +kernel
theorem awN2 : nameB [120] = true := by decide +kernel

/-- While publishes are told to a table. -/
structure AlJ (w : World) (p b : Nat) (most : Int) (L : List (Int × List UInt8)) (c : Nat) (W : World) : Prop where
  al : AlAt W p b most L c
  bel : Below w.heap.size w W
  hp : w.heap.size ≤ p
  hb : w.heap.size ≤ b

section
variable {w W : World} {p b c : Nat} {most : Int} {L : List (Int × List UInt8)}
theorem AlJ.below (h : AlJ w p b most L c W) {W' : World} (hb : Below W.heap.size W W') : AlJ w p b most L c W' := ⟨h.al.below hb, h.bel.trans (hb.mono h.bel.size), h.hp, h.hb⟩
theorem AlJ.moved (h : AlJ w p b most L c W) {W' : World} {L' : List (Int × List UInt8)} {c' : Nat} (ha : AlAt W' p b most L' c') (hm : Moved W W' p b) : AlJ w p b most L' c' W' := ⟨ha, h.bel.trans (hm.below h.hp h.hb h.bel.size), h.hp, h.hb⟩

theorem aName_step (J : AlJ w p b most L c W) (hT : T10 w) {W1 : World} {u : Value} {T T' : List UInt8} {zs : List Int} (hP : PropsAt W1 u (alPs zs)) (hB : Below W.heap.size W W1) (hL : L.length < maxLen) (hz : ∀ n ∈ zs, 0 ≤ n ∧ n < 4294967296) (hT' : T.take 30 = T')
    {es : List UInt8} {ec : Int} {L2 : List (Int × List UInt8)} {c2 : Nat} (hE : nmE most L zs.head? T' = (es, ec)) (hL2 : nmL most L zs.head? T' = L2) (hc2 : nmC most L c zs.head? T' = c2) :
    Calls Tryd.prog 17 #[.pointer (some ⟨p, 0, none⟩), .agg #[.bool false, .bool false, .int .u8 0, .int .u32 0, u, .string (str T'), .string ⟨#[]⟩]] W1
      fun e w' => e = .returned (.tuple #[.string (str es), .int .i64 ec]) ∧ AlJ w p b most L2 c2 w' := by
  have hc := aName_made W W1 p b c most L u T zs (hT.below (J.bel.trans (hB.mono J.bel.size))) hP hB J.al hL hz
  rw [hT', hE, hL2, hc2] at hc
  exact hc.mono fun _ _ ⟨h1, h2, h3⟩ => ⟨h1, J.moved h2 h3⟩

theorem made_step {T T' : List UInt8} {n : Int} (h0 : 0 ≤ n) (h1 : n < 4294967296) (hT : T.length ≤ maxLen) (hT' : T.take 30 = T') :
    Calls Tryd.prog 16 #[.agg #[.string (str T), .slice (some ⟨W.heap.size, 0, none⟩) 1 1]] (W.alloc (.cells #[.int .u32 n] 22)) fun e w' => ∃ u, e = .returned (.agg #[.bool false, .bool false, .int .u8 0, .int .u32 0, u, .string (str T'), .string ⟨#[]⟩]) ∧ PropsAt w' u (alPs [n]) ∧ Below W.heap.size W w' := by
  have hc := made_calls (W.alloc (.cells #[.int .u32 n] 22)) T hT (.slice (some ⟨W.heap.size, 0, none⟩) 1 1) [n] (N32At.one (heap_alloc_new W _) h0 h1)
  unfold MadeR at hc
  rw [hT'] at hc
  exact hc.mono fun _ _ ⟨u, h1, h2, h3⟩ => ⟨u, h1, h2, (below_one W _).trans (h3.mono (by simp))⟩
end

theorem one_range {n : Int} (h0 : 0 ≤ n) (h1 : n < 4294967296) : ∀ m ∈ [n], 0 ≤ m ∧ m < 4294967296 := fun m hm => by
  simp at hm
  subst hm
  exact ⟨h0, h1⟩

set_option maxRecDepth 100000 in
set_option maxHeartbeats 2000000 in
theorem awake17_calls (w : World) (hT : T10 w) : Calls Tryd.prog 15 #[] w fun e w' => e = .returned (.bool true) ∧ Below w.heap.size w w' := by
  have HT := Lib.hid hT
  have e1 : (str [97]).toList = [97] := str_list _
  have a0 : nmE 5 [] (some 1) [97] = ([97], 0) := by simp [nmE, awN1]
  have b0 : nmL 5 [] (some 1) [97] = [(1, [97])] := by simp [nmL, awN1]
  have c0 : nmC 5 [] 0 (some 1) [97] = 1 := by simp [nmC, awN1, getL]
  have a1 : nmE 5 [(1, [97])] (some 1) [] = ([97], 0) := by simp [nmE, getL]
  have b1 : nmL 5 [(1, [97])] (some 1) [] = [(1, [97])] := by simp [nmL]
  have c1 : nmC 5 [(1, [97])] 1 (some 1) [] = 1 := by simp [nmC]
  have a2 : nmE 5 [(1, [97])] (some 2) [] = ([], 3) := by simp [nmE, getL]
  have b2 : nmL 5 [(1, [97])] (some 2) [] = [(1, [97])] := by simp [nmL]
  have c2 : nmC 5 [(1, [97])] 1 (some 2) [] = 1 := by simp [nmC]
  have a3 : nmE 5 [(1, [97])] (some 6) [120] = ([], 11) := by simp [nmE]
  have b3 : nmL 5 [(1, [97])] (some 6) [120] = [(1, [97])] := by simp [nmL]
  have c3 : nmC 5 [(1, [97])] 1 (some 6) [120] = 1 := by simp [nmC]
  have HA0 := Lib.hid (And.intro a0 (And.intro b0 c0))
  have HA1 := Lib.hid (And.intro a1 (And.intro b1 c1))
  have HA2 := Lib.hid (And.intro a2 (And.intro b2 c2))
  have HA3 := Lib.hid (And.intro a3 (And.intro b3 c3))
  clear a0 b0 c0 a1 b1 c1 a2 b2 c2 a3 b3 c3 hT
  go_enter Tryd.func15, Tryd.ntmps15
  go_wp2_with fail
  refine (aNew_calls w 5 (by omega) (by omega)).mono ?_
  rintro e w1 ⟨p, b, rfl, hA, hB, hp, hb⟩
  have J1 := Lib.hid (show AlJ w p b 5 [] 0 w1 from ⟨hA, hB, hp, hb⟩)
  clear hA hB hp hb
  go_wp2_with fail
  refine (made_step (T := [97]) (T' := [97]) (n := 1) (by omega) (by omega) (by decide) rfl).mono ?_
  rintro e w2 ⟨u1, rfl, hP, hB⟩
  go_wp2_with fail
  refine (aName_step (T := [97]) (T' := [97]) J1.out HT.out hP hB (by decide) (one_range (by omega) (by omega)) rfl HA0.out.1 HA0.out.2.1 HA0.out.2.2).mono ?_
  rintro e w3 ⟨rfl, j⟩
  have J2 := Lib.hid j
  clear j hP hB J1 HA0
  go_wp2_with fail
  refine (made_step (T := []) (T' := []) (n := 1) (by omega) (by omega) (by decide) rfl).mono ?_
  rintro e w4 ⟨u2, rfl, hP, hB⟩
  go_wp2_with fail
  refine (aName_step (T := []) (T' := []) J2.out HT.out hP hB (by decide) (one_range (by omega) (by omega)) rfl HA1.out.1 HA1.out.2.1 HA1.out.2.2).mono ?_
  rintro e w5 ⟨rfl, j⟩
  have J3 := Lib.hid j
  clear j hP hB J2 HA1
  go_wp2_with fail
  refine (made_step (T := []) (T' := []) (n := 2) (by omega) (by omega) (by decide) rfl).mono ?_
  rintro e w6 ⟨u3, rfl, hP, hB⟩
  go_wp2_with fail
  refine (aName_step (T := []) (T' := []) J3.out HT.out hP hB (by decide) (one_range (by omega) (by omega)) rfl HA2.out.1 HA2.out.2.1 HA2.out.2.2).mono ?_
  rintro e w7 ⟨rfl, j⟩
  have J4 := Lib.hid j
  clear j hP hB J3 HA2
  go_wp2_with fail
  refine (made_step (T := [120]) (T' := [120]) (n := 6) (by omega) (by omega) (by decide) rfl).mono ?_
  rintro e w8 ⟨u4, rfl, hP, hB⟩
  go_wp2_with fail
  refine (aName_step (T := [120]) (T' := [120]) J4.out HT.out hP hB (by decide) (one_range (by omega) (by omega)) rfl HA3.out.1 HA3.out.2.1 HA3.out.2.2).mono ?_
  rintro e w9 ⟨rfl, j⟩
  have J5 := Lib.hid j
  clear j hP hB J4 HA3
  go_wp2
  go_ret
  exact ⟨rfl, J5.out.bel⟩

#print axioms awake17_calls
end Go.Proofs.YtnpkiknidmhciaaDoor

namespace Go.Proofs.YtnpkiknidmhciaaDoor
open Go.RowKit Go.Maps Go.ChangeShapes Go.WideShapes Go.Deep

/-- A slice of texts that came in. -/
def StrsIn (W : World) (v : Value) (zs : List ByteArray) : Prop :=
  ∃ A cap, v = .slice A zs.length cap ∧ zs.length ≤ maxLen ∧ ∀ (i : Nat) (s : ByteArray), zs[i]? = some s → ∃ b o, A = some ⟨b, o, none⟩ ∧ b < W.heap.size ∧ W.cell? ⟨b, o + i, none⟩ = some (.string s) ∧ s.size ≤ maxLen

set_option maxRecDepth 100000 in
theorem open_strsIn {H : Type} {enc : TypeId × Value → H} {W : World} {v : Value} {d : DataW H} {p : List MemPlace} {base : Nat} (hv : Value.okWide Tryd.prog W .any base 50 v) (h : DataW.Trod enc Tryd.prog W 0 (fun _ => true) true 50 v d p) :
    ∃ zs, StrsIn W v zs := by
  obtain ⟨A, len, cap, rfl⟩ := okWide_slice Tryd.underlying50 hv
  obtain ⟨fuel, hf⟩ := h
  rcases open_strs Tryd.underlying50 Tryd.underlying9 (by kernel_rfl) hf with ⟨hcs, _⟩ | ⟨ad, l, c, m, S, hcs, _, hl, hm, hmm, _, hall⟩
  · simp [Value.cells] at hcs
    obtain ⟨rfl, rfl, rfl⟩ := hcs
    exact ⟨[], none, 0, rfl, Nat.zero_le _, fun i s hi => by simp at hi⟩
  · simp [Value.cells] at hcs
    obtain ⟨rfl, rfl, rfl⟩ := hcs
    simp only [if_true] at hmm
    subst hmm
    refine ⟨(List.range len).map S, some ad, _, by simp; rfl, by simp; omega, fun i s hi => ?_⟩
    obtain ⟨hlt, rfl⟩ := List.getElem?_eq_some_iff.1 hi
    simp at hlt
    obtain ⟨b, off, spot⟩ := ad
    have hsp : spot = none := by simpa [Addr.add] using World.cell?_spot (hall 0 (by omega)).1
    subst hsp
    obtain ⟨hc, hs⟩ := hall i (by omega)
    rw [Addr.add_lit] at hc
    exact ⟨b, off, rfl, World.block_lt_of_cell? W _ hc, by simpa using hc, by simpa using hs⟩

set_option maxRecDepth 100000 in
theorem open_n32 {H : Type} {enc : TypeId × Value → H} {W : World} {v : Value} {d : DataW H} {p : List MemPlace} {base : Nat} (hv : Value.okWide Tryd.prog W .any base 33 v) (h : DataW.Trod enc Tryd.prog W 0 (fun _ => true) true 33 v d p) :
    ∃ zs, N32At W v zs := by
  obtain ⟨A, len, cap, rfl⟩ := okWide_slice Tryd.underlying33 hv
  obtain ⟨fuel, hf⟩ := h
  rcases open_ints Tryd.underlying33 Tryd.underlying22 (by kernel_rfl) hf with ⟨hcs, _⟩ | ⟨ad, l, c, zs, hcs, _, hl, hm, hzl, _, hall, hwf⟩
  · simp [Value.cells] at hcs
    obtain ⟨rfl, rfl, rfl⟩ := hcs
    exact ⟨[], N32At.nil W⟩
  · simp [Value.cells] at hcs
    obtain ⟨rfl, rfl, rfl⟩ := hcs
    simp only [if_true] at hzl
    have htl : (zs.take len).length = len := by rw [List.length_take]; omega
    refine ⟨zs.take len, some ad, cap, by rw [htl], by omega, fun i hi => ?_⟩
    rw [htl] at hi
    have hc := hall i (by omega)
    obtain ⟨b, off, spot⟩ := ad
    have hsp : spot = none := by
      have := World.cell?_spot (hall 0 (by omega))
      simpa [Addr.add] using this
    subst hsp
    have hx : zs.getD i 0 ∈ zs := by
      rw [List.getD_eq_getElem?_getD, List.getElem?_eq_getElem (show i < zs.length by omega)]
      exact List.getElem_mem _
    have hb := bounds_u32 (hwf _ hx)
    have hg : (zs.take len).getD i 0 = zs.getD i 0 := by
      rw [List.getD_eq_getElem?_getD, List.getElem?_take, if_pos hi, List.getD_eq_getElem?_getD]
    rw [Addr.add_lit] at hc
    exact ⟨b, off, rfl, World.block_lt_of_cell? W _ hc, by rw [hg]; exact hc, by rw [hg]; exact hb.1, by rw [hg]; exact Int.lt_of_le_of_lt hb.2 (by decide)⟩

theorem letC_range (c : UInt8) : 97 ≤ (letC c).toNat ∧ (letC c).toNat ≤ 122 := by
  unfold letC
  rw [UInt8.toNat_ofNat']
  omega
/-- A name of letters. -/
theorem nameB_lets (l : List UInt8) (hl : l.length ≤ 1000) : nameB ([116] ++ lets l) = true := by
  have hne : ∀ c ∈ [116] ++ lets l, c ≠ 47 ∧ c ≠ 43 ∧ c ≠ 35 := by
    intro c hc
    have hr : 97 ≤ c.toNat := by
      rcases List.mem_append.1 hc with h | h
      · simp at h; subst h; decide
      · obtain ⟨d, _, rfl⟩ := List.mem_map.1 h
        exact (letC_range d).1
    refine ⟨?_, ?_, ?_⟩ <;> (intro e; subst e; revert hr; decide)
  have hc : ([116] ++ lets l).count 47 = 0 := List.count_eq_zero.2 fun h => (hne _ h).1 rfl
  have hs : hasS ([116] ++ lets l) = false := by
    unfold hasS
    rw [List.any_eq_false]
    intro c hcm
    have := hne c hcm
    simp [this.2.1, this.2.2]
  have hg : goodB (str ([116] ++ lets l)) = true := by
    rw [good_append [116] (lets l) (by decide +kernel) (by simp [lets]; omega)]
    exact good_lets l (by omega)
  unfold nameB mayT
  rw [hg, hc, hs]
  simp

theorem below_bytes (w : World) (e : TypeId) (s : ByteArray) : Below w.heap.size w (Lib.bytesWorld w e s) := by
  refine ⟨?_, ?_, ?_, ?_, fun k hk => Lib.bytesWorld_at_old w e s k hk⟩
  · simp [Lib.bytesWorld, World.freeze, World.alloc, World.drew, -World.alloc_eq, -World.drew_eq]
  · simp [Lib.bytesWorld, World.freeze, World.alloc, World.drew, -World.alloc_eq, -World.drew_eq]
  · simp [Lib.bytesWorld, World.freeze, World.alloc, World.drew, -World.alloc_eq, -World.drew_eq]
  · rw [Lib.bytesWorld_size]; omega

theorem ext_takeA (s : ByteArray) (n : Nat) : s.extract 0 n = str (s.data.toList.take n) := by
  conv => lhs; rw [ba_str s]
  exact ext_take _ n

#print axioms nameB_lets
end Go.Proofs.YtnpkiknidmhciaaDoor
