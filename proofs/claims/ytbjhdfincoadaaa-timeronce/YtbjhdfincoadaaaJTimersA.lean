/-
  Several texts, one behind the other. (No statement: contracts that the proofs of the statements use.)
-/
import Derived.Test.YtbjhdfincoadaaaRows
import Derived.WalkKit
import Derived.Sort.Walk0
import Derived.Test.YtbjhdfincoadaaaJSet0
import Derived.Maps.StringElems
import Derived.Test.YtbjhdfincoadaaaJShelf
import Derived.Test.YtbjhdfincoadaaaJShelf2
import Derived.Shelf.SlSortCmp.NoneTotal
import Derived.Laws.Cover1
import Derived.Maps.RangeWalk
import Derived.Maps.AppendAt
import Derived.Sort.KeysCollected
import Derived.Lib.OwnBridge
import Derived.Deep.AppendLies
import Derived.RangeFuncBox
namespace Go.Proofs.Ytbjhdfincoadaaa

/-- A key, its tick. -/
abbrev En := List UInt8 × Int

/-- The earlier first; of one tick by rising keys. -/
def ltE (x y : En) : Prop := x.2 < y.2 ∨ (x.2 = y.2 ∧ x.1 < y.1)
instance (x y : En) : Decidable (ltE x y) := by unfold ltE; infer_instance

theorem ltE_irrefl (x : En) : ¬ ltE x x := by
  rintro (h | ⟨_, h⟩)
  · omega
  · exact List.lt_irrefl _ h
theorem ltE_trans {x y z : En} (h1 : ltE x y) (h2 : ltE y z) : ltE x z := by
  rcases h1 with h1 | ⟨h1, k1⟩ <;> rcases h2 with h2 | ⟨h2, k2⟩
  · exact .inl (by omega)
  · exact .inl (by omega)
  · exact .inl (by omega)
  · exact .inr ⟨by omega, List.lt_trans k1 k2⟩
theorem ltE_total {x y : En} (h1 : ¬ ltE x y) (h2 : ¬ ltE y x) : x = y := by
  have e : x.2 = y.2 := by
    rcases Int.lt_trichotomy x.2 y.2 with h | h | h
    · exact absurd (.inl h) h1
    · exact h
    · exact absurd (.inl h) h2
  have a : ¬ x.1 < y.1 := fun h => h1 (.inr ⟨e, h⟩)
  have b : ¬ y.1 < x.1 := fun h => h2 (.inr ⟨e.symm, h⟩)
  have := List.le_antisymm (List.not_lt.1 b) (List.not_lt.1 a)
  exact Prod.ext this e
theorem ltE_ne {x y : En} (h : ltE x y) : x ≠ y := fun e => ltE_irrefl x (by rw [← e] at h; exact h)

/-- In their order, each key once. -/
structure Ord (E : List En) : Prop where
  rise : E.Pairwise ltE
  keys : E.Pairwise (fun x y => x.1 ≠ y.1)
theorem Ord.nil : Ord [] := ⟨List.Pairwise.nil, List.Pairwise.nil⟩
theorem Ord.filter {E : List En} (h : Ord E) (f : En → Bool) : Ord (E.filter f) := ⟨h.rise.filter _, h.keys.filter _⟩

/-- Without a key. -/
def delE (k : List UInt8) (E : List En) : List En := E.filter fun x => x.1 != k
/-- An entry in its place. -/
def insE (x : En) : List En → List En
  | [] => [x]
  | y :: r => if ltE x y then x :: y :: r else y :: insE x r
/-- When a key is due. -/
def getE (E : List En) (k : List UInt8) : Option Int := (E.find? fun x => x.1 == k).map (·.2)
def hasE (E : List En) (k : List UInt8) : Bool := E.any fun x => x.1 == k
def setE (E : List En) (k : List UInt8) (a : Int) : List En := insE (k, a) (delE k E)

theorem mem_insE (x y : En) : ∀ E : List En, y ∈ insE x E ↔ y = x ∨ y ∈ E
  | [] => by simp [insE]
  | z :: r => by
    unfold insE
    split
    · simp
    · simp [mem_insE x y r]
      constructor
      · rintro (h | h | h)
        · exact .inr (.inl h)
        · exact .inl h
        · exact .inr (.inr h)
      · rintro (h | h | h)
        · exact .inr (.inl h)
        · exact .inl h
        · exact .inr (.inr h)
theorem length_insE (x : En) : ∀ E : List En, (insE x E).length = E.length + 1
  | [] => rfl
  | y :: r => by
    unfold insE
    split
    · rfl
    · simp [length_insE x r]
theorem mem_delE (k : List UInt8) (E : List En) (x : En) : x ∈ delE k E ↔ x ∈ E ∧ x.1 ≠ k := by simp [delE]
theorem Ord.del {E : List En} (h : Ord E) (k : List UInt8) : Ord (delE k E) := h.filter _

theorem Ord.ins {x : En} : ∀ {E : List En}, Ord E → (∀ y ∈ E, y.1 ≠ x.1) → Ord (insE x E)
  | [], _, _ => ⟨by simp [insE], by simp [insE]⟩
  | y :: r, h, hk => by
    obtain ⟨h1, h2⟩ := h
    rw [List.pairwise_cons] at h1 h2
    unfold insE
    split
    · rename_i hlt
      refine ⟨List.pairwise_cons.2 ⟨fun z hz => ?_, List.pairwise_cons.2 h1⟩, List.pairwise_cons.2 ⟨fun z hz => (hk z hz).symm, List.pairwise_cons.2 h2⟩⟩
      rcases List.mem_cons.1 hz with rfl | hz
      · exact hlt
      · exact ltE_trans hlt (h1.1 z hz)
    · rename_i hlt
      have hr := Ord.ins (x := x) ⟨h1.2, h2.2⟩ (fun z hz => hk z (by simp [hz]))
      refine ⟨List.pairwise_cons.2 ⟨fun z hz => ?_, hr.rise⟩, List.pairwise_cons.2 ⟨fun z hz => ?_, hr.keys⟩⟩
      · rcases (mem_insE x z r).1 hz with rfl | hz
        · refine Classical.byContradiction fun hn => hk y (by simp) ?_
          have e := ltE_total hlt hn
          rw [e]
        · exact h1.1 z hz
      · rcases (mem_insE x z r).1 hz with rfl | hz
        · exact hk y (by simp)
        · exact h2.1 z hz

theorem Ord.set {E : List En} (h : Ord E) (k : List UInt8) (a : Int) : Ord (setE E k a) := (h.del k).ins fun y hy => ((mem_delE k E y).1 hy).2

theorem hasE_iff (E : List En) (k : List UInt8) : hasE E k = true ↔ ∃ a, (k, a) ∈ E := by
  unfold hasE
  rw [List.any_eq_true]
  constructor
  · rintro ⟨x, hx, h⟩
    have : x.1 = k := by simpa using h
    exact ⟨x.2, by rw [← this]; exact hx⟩
  · rintro ⟨a, h⟩
    exact ⟨_, h, by simp⟩
theorem getE_iff {E : List En} (h : Ord E) (k : List UInt8) (a : Int) : getE E k = some a ↔ (k, a) ∈ E := by
  replace h := h.keys
  induction E with
  | nil => simp [getE]
  | cons y r ih =>
    rw [List.pairwise_cons] at h
    have ih' := ih h.2
    unfold getE at *
    rw [List.find?_cons]
    by_cases e : y.1 = k
    · simp only [e, beq_self_eq_true, Option.map_some, Option.some.injEq, List.mem_cons]
      constructor
      · rintro rfl
        left
        rw [← e]
      · rintro (hh | hh)
        · rw [← hh]
        · exact absurd e (h.1 _ hh)
    · have : (y.1 == k) = false := by simpa using e
      rw [this]
      simp only [List.mem_cons]
      constructor
      · exact fun hh => .inr (ih'.1 hh)
      · rintro (hh | hh)
        · exact absurd (by rw [← hh]) e
        · exact ih'.2 hh
theorem getE_none (E : List En) (k : List UInt8) : getE E k = none ↔ hasE E k = false := by
  unfold getE hasE
  rw [Option.map_eq_none_iff, List.find?_eq_none, List.any_eq_false]

theorem hasE_set (E : List En) (k : List UInt8) (a : Int) (j : List UInt8) : hasE (setE E k a) j = if k = j then true else hasE E j := by
  by_cases e : k = j
  · rw [if_pos e, hasE_iff]
    exact ⟨a, (mem_insE _ _ _).2 (.inl (by rw [e]))⟩
  · rw [if_neg e]
    apply Bool.eq_iff_iff.2
    rw [hasE_iff, hasE_iff]
    constructor
    · rintro ⟨b, hb⟩
      rcases (mem_insE _ _ _).1 hb with h | h
      · exact absurd (congrArg Prod.fst h).symm e
      · exact ⟨b, ((mem_delE _ _ _).1 h).1⟩
    · rintro ⟨b, hb⟩
      exact ⟨b, (mem_insE _ _ _).2 (.inr ((mem_delE _ _ _).2 ⟨hb, fun h => e h.symm⟩))⟩
theorem getE_set {E : List En} (h : Ord E) (k : List UInt8) (a : Int) (j : List UInt8) : getE (setE E k a) j = if k = j then some a else getE E j := by
  by_cases e : k = j
  · rw [if_pos e, getE_iff (h.set k a)]
    exact (mem_insE _ _ _).2 (.inl (by rw [e]))
  · rw [if_neg e]
    cases hg : getE E j with
    | none =>
      rw [getE_none] at hg ⊢
      rw [hasE_set, if_neg e]
      exact hg
    | some b =>
      rw [getE_iff h] at hg
      rw [getE_iff (h.set k a)]
      exact (mem_insE _ _ _).2 (.inr ((mem_delE _ _ _).2 ⟨hg, fun h => e h.symm⟩))
theorem length_delE (k : List UInt8) {E : List En} (h : Ord E) : (delE k E).length + (if hasE E k then 1 else 0) = E.length := by
  replace h := h.keys
  induction E with
  | nil => rfl
  | cons y r ih =>
    rw [List.pairwise_cons] at h
    have ih' := ih h.2
    unfold delE hasE at *
    rw [List.filter_cons, List.any_cons]
    by_cases e : y.1 = k
    · have hno : (r.any fun x => x.1 == k) = false := by
        rw [List.any_eq_false]
        intro x hx hxk
        exact h.1 x hx (by rw [e]; exact (by simpa using hxk : x.1 = k).symm)
      rw [hno] at ih'
      simp [e] at ih' ⊢
      exact ih'
    · have : (y.1 == k) = false := by simpa using e
      simp only [bne, this, Bool.not_false, if_true, Bool.false_or, List.length_cons] at ih' ⊢
      rw [← ih']
      omega
theorem length_setE (k : List UInt8) (a : Int) {E : List En} (h : Ord E) : (setE E k a).length = if hasE E k then E.length else E.length + 1 := by
  have := length_delE k h
  unfold setE
  rw [length_insE]
  split at this <;> simp_all <;> omega
theorem hasE_del (E : List En) (k j : List UInt8) : hasE (delE k E) j = if k = j then false else hasE E j := by
  by_cases e : k = j
  · rw [if_pos e, Bool.eq_false_iff]
    intro h
    obtain ⟨a, ha⟩ := (hasE_iff _ _).1 h
    exact ((mem_delE _ _ _).1 ha).2 e.symm
  · rw [if_neg e]
    apply Bool.eq_iff_iff.2
    rw [hasE_iff, hasE_iff]
    constructor
    · rintro ⟨b, hb⟩
      exact ⟨b, ((mem_delE _ _ _).1 hb).1⟩
    · rintro ⟨b, hb⟩
      exact ⟨b, (mem_delE _ _ _).2 ⟨hb, fun h => e h.symm⟩⟩
theorem getE_del {E : List En} (h : Ord E) (k j : List UInt8) : getE (delE k E) j = if k = j then none else getE E j := by
  by_cases e : k = j
  · rw [if_pos e, getE_none, hasE_del, if_pos e]
  · rw [if_neg e]
    cases hg : getE E j with
    | none =>
      rw [getE_none] at hg ⊢
      rw [hasE_del, if_neg e]
      exact hg
    | some b =>
      rw [getE_iff h] at hg
      rw [getE_iff (h.del k)]
      exact (mem_delE _ _ _).2 ⟨hg, fun h => e h.symm⟩
theorem delE_none {E : List En} {k : List UInt8} (h : hasE E k = false) : delE k E = E := by
  refine List.filter_eq_self.2 fun x hx => ?_
  have := List.any_eq_false.1 h x hx
  simpa [bne] using this

/-- Of one make there is one list in their order. -/
theorem Ord.unique : ∀ {A B : List En}, A.Pairwise ltE → B.Pairwise ltE → (∀ x, x ∈ A ↔ x ∈ B) → A = B
  | [], [], _, _, _ => rfl
  | [], y :: r, _, _, h => by simpa using (h y).2 (by simp)
  | x :: s, [], _, _, h => by simpa using (h x).1 (by simp)
  | x :: s, y :: r, ha, hb, h => by
    rw [List.pairwise_cons] at ha hb
    have hxy : x = y := by
      rcases List.mem_cons.1 ((h x).1 (by simp)) with e | hx
      · exact e
      rcases List.mem_cons.1 ((h y).2 (by simp)) with e | hy
      · exact e.symm
      exact absurd (ltE_trans (hb.1 x hx) (ha.1 y hy)) (ltE_irrefl y)
    subst hxy
    rw [Ord.unique ha.2 hb.2 fun z => ?_]
    constructor
    · intro hz
      rcases List.mem_cons.1 ((h z).1 (by simp [hz])) with e | hz'
      · subst e; exact absurd (ha.1 z hz) (ltE_irrefl z)
      · exact hz'
    · intro hz
      rcases List.mem_cons.1 ((h z).2 (by simp [hz])) with e | hz'
      · subst e; exact absurd (hb.1 z hz) (ltE_irrefl z)
      · exact hz'

#print axioms Ord.unique
end Go.Proofs.Ytbjhdfincoadaaa

namespace Go.Proofs.Ytbjhdfincoadaaa
open Go.RowKit Go.Maps

def str (bs : List UInt8) : ByteArray := ⟨bs.toArray⟩
theorem str_data (l : List UInt8) : (str l).data.toList = l := by simp [str]
theorem str_list (l : List UInt8) : (str l).toList = l := by rw [ByteArray.toList_eq]; simp [str]
theorem str_size (l : List UInt8) : (str l).size = l.length := by simp [str, ByteArray.size]

theorem law_strT : Keyed Try.prog 9 := string_keyed Try.underlying9
theorem zero_intT (w : World) : (zeroValue 3).run Try.prog w = .ok (.int .i64 0) w := by kernel_rfl
theorem key_strT {k : List UInt8} (h : k.length ≤ maxLen) : keyOf Try.prog 9 (.string (str k)) = some (.string k) := by
  have := WideMaps.keyOf_string_mk (P := Try.prog) (k := 9) Try.underlying9 (s := str k) (by rw [str_size]; exact h)
  rw [str_data] at this
  exact this
theorem key_neT {i j : List UInt8} (h : i ≠ j) : Lit.string i ≠ .string j := fun e => h (by injection e)

/-- Block b is a map of the entries E. -/
def MapE (w : World) (b : Nat) (E : List En) : Prop :=
  ∃ D : DataW Unit, w.ownsMap Try.prog 9 (plainElem Try.prog 3) b E.length D ∧ (∀ k, Maps.has D (.string k) = hasE E k) ∧
    (∀ k, D.atKey (.string k) (.lit (.int .i64 0)) = .lit (.int .i64 ((getE E k).getD 0))) ∧ Maps.size D = E.length

theorem own_tightT {R : Value → Option (DataW Unit × List MemPlace)} {k : TypeId} {w : World} {b n : Nat} {D : DataW Unit} (h : w.ownsMap Try.prog k R b n D) {m : Nat} (hm : Maps.size D = m) : w.ownsMap Try.prog k R b m D := by
  obtain ⟨es, clock, hb, F, hs, rfl⟩ := h
  refine ⟨es, clock, hb, F, ?_, rfl⟩
  have e1 : Maps.size (DataW.map ((es.toList.map (WideElems.rg Try.prog k R)).foldr DataW.insert [])) = es.size := by simp [Maps.size, length_sorted]
  omega

theorem MapE.keep {w w' : World} {b : Nat} {E : List En} (h : MapE w b E) (hb : w'.heap[b]? = w.heap[b]?) : MapE w' b E := by
  obtain ⟨D, ⟨es, clock, h1, F, hs, hD⟩, r⟩ := h
  exact ⟨D, ⟨es, clock, hb.trans h1, F, hs, hD⟩, r⟩
theorem MapE.lt {w : World} {b : Nat} {E : List En} (h : MapE w b E) : b < w.heap.size := by
  obtain ⟨D, h1, _⟩ := h
  exact h1.lt
theorem MapE.made (w : World) : MapE (w.alloc (.map #[] 0)) w.heap.size [] :=
  ⟨_, World.ownsMap_made _ _ _ _, fun i => by simp [Maps.has, hasE], fun i => by simp [getE, DataW.atKey], rfl⟩

theorem mapE_put {w w' : World} {b : Nat} {E : List En} {D : DataW Unit} {k : List UInt8} {a : Int} (hO : Ord E) (hown : w.ownsMap Try.prog 9 (plainElem Try.prog 3) b E.length D) (hhas : ∀ k, Maps.has D (.string k) = hasE E k)
    (hat : ∀ k, D.atKey (.string k) (.lit (.int .i64 0)) = .lit (.int .i64 ((getE E k).getD 0))) (hsz : Maps.size D = E.length)
    (h' : w'.ownsMap Try.prog 9 (plainElem Try.prog 3) b (E.length + 1) (D.put (.string k) (.lit (.int .i64 a)))) : MapE w' b (setE E k a) := by
  have hs' : Maps.size (D.put (.string k) (.lit (.int .i64 a))) = (setE E k a).length := by
    rw [size_put (hown.tidy law_strT), hhas k, hsz, length_setE k a hO]
  refine ⟨_, own_tightT h' hs', fun j => ?_, fun j => ?_, hs'⟩
  · rw [hasE_set]
    by_cases e : k = j
    · subst e
      rw [has_put_same hown.isMap (by simp [WideAt.IsKeyLit]), if_pos rfl]
    · rw [has_put_other (key_neT (Ne.symm e)), hhas j, if_neg e]
  · rw [getE_set hO]
    by_cases e : k = j
    · subst e
      rw [atKey_put_same hown.isMap (by simp [WideAt.IsKeyLit]), if_pos rfl]
      rfl
    · rw [atKey_put_other (key_neT (Ne.symm e)), hat j, if_neg e]

theorem mapE_del {w w' : World} {b : Nat} {E : List En} {D : DataW Unit} {k : List UInt8} (hO : Ord E) (hown : w.ownsMap Try.prog 9 (plainElem Try.prog 3) b E.length D) (hhas : ∀ k, Maps.has D (.string k) = hasE E k)
    (hat : ∀ k, D.atKey (.string k) (.lit (.int .i64 0)) = .lit (.int .i64 ((getE E k).getD 0))) (hsz : Maps.size D = E.length)
    (h' : w'.ownsMap Try.prog 9 (plainElem Try.prog 3) b E.length (D.del (.string k))) : MapE w' b (delE k E) := by
  have hs' : Maps.size (D.del (.string k)) = (delE k E).length := by
    have h1 := size_del (k := .string k) (hown.tidy law_strT)
    have h2 := length_delE k hO
    rw [hhas k, hsz] at h1
    omega
  refine ⟨_, own_tightT h' hs', fun j => ?_, fun j => ?_, hs'⟩
  · rw [hasE_del]
    by_cases e : k = j
    · subst e
      rw [has_del_same, if_pos rfl]
    · rw [has_del_other (key_neT (Ne.symm e)), hhas j, if_neg e]
  · rw [getE_del hO]
    by_cases e : k = j
    · subst e
      rw [atKey_del_same, if_pos rfl]
      rfl
    · rw [atKey_del_other (key_neT (Ne.symm e)), hat j, if_neg e]

/-- Keys and ticks are such as there may be. -/
def Fits (E : List En) : Prop := ∀ x ∈ E, x.1.length ≤ maxLen ∧ (Lit.int .i64 x.2).wf = true
theorem Fits.nil : Fits [] := by simp [Fits]
theorem Fits.del {E : List En} (h : Fits E) (k : List UInt8) : Fits (delE k E) := fun x hx => h x ((mem_delE k E x).1 hx).1
theorem Fits.set {E : List En} (h : Fits E) {k : List UInt8} {a : Int} (hk : k.length ≤ maxLen) (ha : (Lit.int .i64 a).wf = true) : Fits (setE E k a) := fun x hx => by
  rcases (mem_insE _ _ _).1 hx with rfl | hx
  · exact ⟨hk, ha⟩
  · exact h.del k x hx

/-- Block p is timers: a map of the entries in block b. -/
structure TimAt (w : World) (p b : Nat) (E : List En) : Prop where
  cells : w.heap[p]? = some (.cells #[.map (some b)] 135 (0, 0))
  map : MapE w b E
  ord : Ord E
  fits : Fits E

theorem TimAt.keep {w w' : World} {p b : Nat} {E : List En} (h : TimAt w p b E) (h1 : w'.heap[p]? = w.heap[p]?) (h2 : w'.heap[b]? = w.heap[b]?) : TimAt w' p b E := ⟨h1.trans h.cells, h.map.keep h2, h.ord, h.fits⟩
theorem TimAt.below {w w' : World} {p b : Nat} {E : List En} (h : TimAt w p b E) (hb : Below w.heap.size w w') : TimAt w' p b E := h.keep (hb.block p (m_size h.cells)) (hb.block b h.map.lt)
theorem TimAt.ne {w : World} {p b : Nat} {E : List En} (h : TimAt w p b E) : p ≠ b := by
  intro e
  subst e
  obtain ⟨D, ⟨es, clock, h1, _⟩, _⟩ := h.map
  rw [h.cells] at h1
  cases h1
theorem one_m {w : World} {b : Nat} {u : Value} {t : TypeId} (h : w.heap[b]? = some (.cells #[u] t (0, 0))) : w.cell? ⟨b, 0, none⟩ = some u := by simp [World.cell?, h]

/-- What New answers, and leaves. -/
def TimNew (w : World) (e : Ending) (w' : World) : Prop :=
  ∃ p b, e = .returned (.pointer (some ⟨p, 0, none⟩)) ∧ TimAt w' p b [] ∧ Below w.heap.size w w' ∧ w.heap.size ≤ p ∧ w.heap.size ≤ b

theorem tiNew_calls (w : World) : Calls Try.prog 28 #[] w (TimNew w) := by
  have hmm := @run_makeMap Try.prog
  have HP := Lib.hid (show TimNew w (.returned (.pointer (some ⟨w.heap.size + 1, 0, none⟩))) ((w.alloc (Obj.map #[] 0)).alloc (Obj.cells #[Value.map (some w.heap.size)] 135)) from by
    have hs := MapE.made w
    have hb : Below (w.alloc (Obj.map #[] 0)).heap.size (w.alloc (Obj.map #[] 0)) ((w.alloc (Obj.map #[] 0)).alloc (Obj.cells #[Value.map (some w.heap.size)] 135)) := (Below.refl _ _).alloc (Nat.le_refl _) _
    have hn := heap_alloc_new (w.alloc (Obj.map #[] 0)) (Obj.cells #[Value.map (some w.heap.size)] 135)
    rw [World.size_alloc] at hn
    exact ⟨w.heap.size + 1, w.heap.size, rfl, ⟨hn, hs.keep (hb.block _ hs.lt), Ord.nil, Fits.nil⟩, ((Below.refl _ w).alloc (Nat.le_refl _) _).alloc (by simp) _, Nat.le_succ _, Nat.le_refl _⟩)
  go_enter Try.func28, Try.ntmps28
  go_wp2
  go_ret
  exact HP.out

theorem tiLen_calls (w : World) (p b : Nat) (E : List En) (h : TimAt w p b E) :
    Calls Try.prog 41 #[.pointer (some ⟨p, 0, none⟩)] w fun e w' => e = .returned (.int .i64 E.length) ∧ w = w' := by
  have c0 := one_m h.cells
  obtain ⟨D, hown, _, _, hsz⟩ := h.map
  have HS := Lib.hid hsz
  clear h hsz
  go_enter Try.func41, Try.ntmps41
  go_wp2_with (first | (at_len; refine wpList_len_own _ rfl _ 94 rfl 9 3 Try.underlying94 _ b E.length D rfl hown ?_) | go_in)
  go_ret
  rw [HS.out]
  exact ⟨rfl, rfl⟩

theorem tiGet_calls (w : World) (p b : Nat) (E : List En) (k : List UInt8) (hk : k.length ≤ maxLen) (h : TimAt w p b E) :
    Calls Try.prog 37 #[.pointer (some ⟨p, 0, none⟩), .string (str k)] w fun e w' => e = .returned (.tuple #[.int .i64 ((getE E k).getD 0), .bool (hasE E k)]) ∧ w = w' := by
  have c0 := one_m h.cells
  obtain ⟨D, hown, hh, ha, _⟩ := h.map
  have hkey := key_strT hk
  have HH := Lib.hid (hh k)
  have HA := Lib.hid (ha k)
  clear h hh ha
  generalize (getE E k).getD 0 = a at *
  generalize hasE E k = hb at *
  go_enter Try.func37, Try.ntmps37
  go_wp2_with (first | (at_lookup; refine wpList_lookup_own_ok_int _ rfl _ _ 94 rfl 9 3 .i64 law_strT Try.underlying94 Try.underlying3 (zero_intT _) b E.length D rfl hown _ _ rfl hkey ?_; intro c hat hwc) | go_in)
  go_ret2
  have e1 := HA.out
  rw [hat] at e1
  injection e1 with e1
  injection e1 with _ e1
  rw [HH.out, e1]
  exact ⟨rfl, rfl⟩

set_option maxRecDepth 100000 in
theorem tiSet_calls (w : World) (p b : Nat) (E : List En) (k : List UInt8) (a : Int) (hk : k.length ≤ maxLen) (ha : (Lit.int .i64 a).wf = true) (hn : E.length < maxLen) (h : TimAt w p b E) :
    Calls Try.prog 30 #[.pointer (some ⟨p, 0, none⟩), .string (str k), .int .i64 a] w fun e w' => e = .returned (.tuple #[]) ∧ TimAt w' p b (setE E k a) ∧ Moved w w' p b := by
  have c0 := one_m h.cells
  have hkey := key_strT hk
  obtain ⟨D, hown, hh, hat, hsz⟩ := h.map
  have HX := Lib.hid (fun (w' : World) (h1 : w'.ownsMap Try.prog 9 (plainElem Try.prog 3) b (E.length + 1) (D.put (.string k) (.lit (.int .i64 a)))) (h2 : w.mapTurned w' b) =>
    show TimAt w' p b (setE E k a) ∧ Moved w w' p b from
      ⟨⟨((Moved.turned (p := b) h2).block p (m_size h.cells) h.ne h.ne).trans h.cells, mapE_put h.ord hown hh hat hsz h1, h.ord.set k a, h.fits.set hk ha⟩, Moved.turned h2⟩)
  clear h hh hat hsz hk
  go_enter Try.func30, Try.ntmps30
  go_wp2_with (first
    | (at_mapUpdate; refine wpList_mapUpdate_in _ rfl _ _ _ 94 rfl 9 3 law_strT Try.underlying94 _ b E.length D rfl hown hn _ _ _ rfl rfl hkey _ [] (plainElem_int Try.underlying3 ha) ?_; intro w2 hown2 hturn2)
    | go_in)
  go_end0
  exact ⟨rfl, HX.out _ hown2 hturn2⟩

set_option maxRecDepth 100000 in
theorem tiStop_calls (w : World) (p b : Nat) (E : List En) (k : List UInt8) (hk : k.length ≤ maxLen) (h : TimAt w p b E) :
    Calls Try.prog 32 #[.pointer (some ⟨p, 0, none⟩), .string (str k)] w fun e w' => e = .returned (.bool (hasE E k)) ∧ TimAt w' p b (delE k E) ∧ Moved w w' p b := by
  have c0 := one_m h.cells
  have hkey := key_strT hk
  obtain ⟨D, hown, hh, hat, hsz⟩ := h.map
  have HX := Lib.hid (fun (w' : World) (h1 : w'.ownsMap Try.prog 9 (plainElem Try.prog 3) b E.length (D.del (.string k))) (h2 : w.mapTurned w' b) =>
    show TimAt w' p b (delE k E) ∧ Moved w w' p b from
      ⟨⟨((Moved.turned (p := b) h2).block p (m_size h.cells) h.ne h.ne).trans h.cells, mapE_del h.ord hown hh hat hsz h1, h.ord.del k, h.fits.del k⟩, Moved.turned h2⟩)
  have HH := Lib.hid (hh k)
  clear h hh hat hsz hk
  generalize hasE E k = hb at *
  go_enter Try.func32, Try.ntmps32
  go_wp2_with (first
    | (at_lookup; refine wpList_lookup_own_ok_int _ rfl _ _ 94 rfl 9 3 .i64 law_strT Try.underlying94 Try.underlying3 (zero_intT _) b E.length D rfl hown _ _ rfl hkey ?_; intro c hat hwc)
    | (at_delete; refine wpList_delete_own _ rfl _ _ 94 9 rfl 3 law_strT Try.underlying94 _ b E.length D rfl hown _ _ rfl hkey ?_; intro w2 hown2 hturn2)
    | go_in)
  go_ret
  rw [HH.out]
  exact ⟨rfl, HX.out _ hown2 hturn2⟩

#print axioms tiStop_calls
end Go.Proofs.Ytbjhdfincoadaaa

namespace Go.Proofs.Ytbjhdfincoadaaa
open Go.RowKit Go.Maps Go.Sort

/-- Texts held against each other. -/
def compL (a b : List UInt8) : Int := if a < b then -1 else if b < a then 1 else 0
def compE (x y : En) : Int := if x.2 = y.2 then compL x.1 y.1 else Lib.compareInt x.2 y.2

theorem lt_compE (x y : En) : ltOf compE x y = decide (ltE x y) := by
  unfold ltOf compE compL ltE Lib.compareInt
  by_cases h1 : x.2 = y.2
  · rw [if_pos h1]
    by_cases h2 : x.1 < y.1
    · simp [h1, h2]
    · by_cases h3 : y.1 < x.1 <;> simp [h1, h2, h3]
  · rw [if_neg h1]
    by_cases h2 : x.2 < y.2
    · simp [h2]
    · by_cases h3 : y.2 < x.2 <;> simp [h1, h2, h3]

theorem swo_compE : SWO (ltOf compE) where
  irrefl x := by rw [lt_compE]; simpa using ltE_irrefl x
  trans x y z h1 h2 := by rw [lt_compE] at *; simp at *; exact ltE_trans h1 h2
  ntrans x y z h1 h2 := by
    rw [lt_compE] at *
    simp at *
    intro h3
    by_cases h4 : ltE y x
    · exact h2 (ltE_trans h4 h3)
    · exact h2 (by rw [ltE_total h4 h1]; exact h3)
theorem tot_compE (x y : En) (h1 : ltOf compE x y = false) (h2 : ltOf compE y x = false) : x = y := by
  rw [lt_compE] at h1 h2
  exact ltE_total (by simpa using h1) (by simpa using h2)

theorem nanStr_calls (a : ByteArray) (w : World) : Calls Try.prog 80 #[.string a] w fun e w' => e = .returned (.bool false) ∧ w = w' := by
  go_enter Try.func80, Try.ntmps80
  go_wp2
  go_ret
  simp

set_option maxRecDepth 100000 in
theorem cmpStr_calls (x y : List UInt8) (w : World) : Calls Try.prog 73 #[.string (str x), .string (str y)] w fun e w' => e = .returned (.int .i64 (compL x y)) ∧ w = w' := by
  have hn := nanStr_calls
  have ex := str_list x
  have ey := str_list y
  by_cases h1 : x < y
  · have e1 : Op.bytesLess x y = true := by rw [bytesLess_eq]; simpa using h1
    rw [show compL x y = -1 from if_pos h1]
    clear h1
    go_enter Try.func73, Try.ntmps73
    go_wp2_with (go_at_call 80; refine (hn _ _).mono ?_; rintro e w1 ⟨rfl, rfl⟩)
    go_ret
    exact ⟨rfl, rfl⟩
  · have e1 : Op.bytesLess x y = false := by rw [bytesLess_eq]; simpa using h1
    by_cases h2 : y < x
    · have e2 : (x == y) = false := beq_eq_false_iff_ne.2 fun e => by subst e; exact List.lt_irrefl _ h2
      rw [show compL x y = 1 from by unfold compL; rw [if_neg h1, if_pos h2]]
      clear h1 h2
      go_enter Try.func73, Try.ntmps73
      go_wp2_with (go_at_call 80; refine (hn _ _).mono ?_; rintro e w1 ⟨rfl, rfl⟩)
      go_ret
      exact ⟨rfl, rfl⟩
    · have e2 : (x == y) = true := beq_iff_eq.2 (List.le_antisymm (List.not_lt.1 h2) (List.not_lt.1 h1))
      rw [show compL x y = 0 from by unfold compL; rw [if_neg h1, if_neg h2]]
      clear h1 h2
      go_enter Try.func73, Try.ntmps73
      go_wp2_with (go_at_call 80; refine (hn _ _).mono ?_; rintro e w1 ⟨rfl, rfl⟩)
      go_ret
      exact ⟨rfl, rfl⟩

/-- An entry's two cells. -/
def enE (x : En) : List Value := [.string (str x.1), .int .i64 x.2]

set_option maxHeartbeats 1000000 in
theorem tiOrder_calls (x y : En) (w : World) : Calls Try.prog 60 #[.agg #[.string (str x.1), .int .i64 x.2], .agg #[.string (str y.1), .int .i64 y.2]] w fun e w' => e = .returned (.int .i64 (compE x y)) ∧ ∃ q os', w' = grow (w.drewN q) os' := by
  obtain ⟨xk, xa⟩ := x
  obtain ⟨yk, ya⟩ := y
  have c1 := fun w => Try.cmp_Compare_int xa ya w
  have c2 := fun w => cmpStr_calls xk yk w
  unfold compE
  dsimp only
  by_cases h : xa = ya
  · subst h
    rw [if_pos rfl]
    clear c1
    generalize compL xk yk = r at *
    go_enter Try.func60, Try.ntmps60
    go_wp2_with (go_at_call 73; refine (c2 _).mono ?_; rintro e w1 ⟨rfl, rfl⟩)
    go_ret
    exact ⟨rfl, 0, _, by rw [alloc_eq_grow, alloc_eq_grow, grow_grow]; rfl⟩
  · rw [if_neg h]
    clear c2
    generalize Lib.compareInt xa ya = r at *
    go_enter Try.func60, Try.ntmps60
    go_wp2_with (go_at_call 72; refine (c1 _).mono ?_; rintro e w1 ⟨rfl, rfl⟩)
    go_ret
    exact ⟨rfl, 0, _, by rw [alloc_eq_grow, alloc_eq_grow, grow_grow]; rfl⟩

theorem order_lays (blk off size : Nat) (w : World) : CmpLays Try.prog 60 #[] enE 2 compE blk off size w :=
  fun _ _ _ _ x y => tiOrder_calls x y _

/-- The sort of entries. -/
theorem sortEnt_calls (blk cap : Nat) (d : Array En) (w : World) (hH : HoldsK enE 2 w blk 0 d) (hblk : blk < w.heap.size) (hsz : d.size < 4611686018427387904) :
    Calls Try.prog 70 #[.slice (some ⟨blk, 0, none⟩) d.size cap, .func (.func 60) #[] #[]] w fun e w' =>
      e = .returned (.tuple #[]) ∧ ∃ n os, w' = sortWorldK enE 2 w blk 0 n (d.toList.mergeSort fun x y => !(ltOf compE) y x).toArray os := by
  have eg : ∀ args w, (callFunc 60 args).run Try.prog w = .ok (.enter 60 args) w := enters_of Try.func60 (by kernel_rfl) rfl
  exact AnyQ.slices_SortFunc_total Try.sortEntry 2 Try.isAgg88 Try.sizeOf88 enE (fun _ => rfl) (fun x v hv => by simp [enE] at hv; rcases hv with rfl | rfl <;> rfl) compE swo_compE 60 #[] blk 0 cap d w eg (order_lays blk 0 d.size w) hH hblk hsz tot_compE

theorem sortNone_calls (p : Option Addr) (cap : Nat) (w : World) : Calls Try.prog 70 #[.slice p 0 cap, .func (.func 60) #[] #[]] w fun e w' => e = .returned (.tuple #[]) ∧ w' = w :=
  AnyF.slices_SortFunc_none Try.sortEntry p cap _ w

#print axioms sortEnt_calls
end Go.Proofs.Ytbjhdfincoadaaa

namespace Go.Proofs.Ytbjhdfincoadaaa
open Go.RowKit Go.Maps Go.Sort

/-- What was met of the entries up to a tick. -/
structure Coll (E : List En) (last : Int) (left : Lit → Bool) (L : List En) : Prop where
  nd : L.Nodup
  mem : ∀ x, x ∈ L ↔ (x ∈ E ∧ x.2 ≤ last ∧ left (.string x.1) = false)

theorem Coll.start {E : List En} {last : Int} {left : Lit → Bool} (hl : ∀ k, left (.string k) = hasE E k) : Coll E last left [] :=
  ⟨List.nodup_nil, fun x => by
    constructor
    · intro h; cases h
    · rintro ⟨h1, _, h3⟩
      rw [hl x.1] at h3
      rw [(hasE_iff E x.1).2 ⟨x.2, h1⟩] at h3
      cases h3⟩

theorem same_str (j k : List UInt8) : Lit.sameKey (.string j) (.string k) = decide (j = k) := by
  by_cases h : j = k
  · subst h; simp [Lit.sameKey]
  · rw [Maps.sameKey_ne (fun e => h (by injection e)), decide_eq_false h]

theorem Coll.step {E : List En} {last : Int} {left : Lit → Bool} {L : List En} (hO : Ord E) (h : Coll E last left L) {k : List UInt8} {c : Int} (hk : left (.string k) = true) (hx : (k, c) ∈ E) :
    Coll E last (fun z => left z && !z.sameKey (.string k)) (if c ≤ last then L ++ [(k, c)] else L) := by
  have hnot : (k, c) ∉ L := fun hm => by
    have := ((h.mem _).1 hm).2.2
    rw [hk] at this
    cases this
  have hone : ∀ x, x ∈ E → x.1 = k → x = (k, c) := fun x hxE he => by
    have h1 := (getE_iff hO k x.2).2 (by rw [← he]; exact hxE)
    have h2 := (getE_iff hO k c).2 hx
    rw [h1] at h2
    injection h2 with h2
    exact Prod.ext he h2
  have key : ∀ x, (x ∈ E ∧ x.2 ≤ last ∧ (left (.string x.1) && !Lit.sameKey (.string x.1) (.string k)) = false) ↔ (x ∈ L ∨ (x = (k, c) ∧ c ≤ last)) := by
    intro x
    rw [same_str, h.mem x]
    constructor
    · rintro ⟨h1, h2, h3⟩
      by_cases he : x.1 = k
      · have := hone x h1 he
        subst this
        exact .inr ⟨rfl, h2⟩
      · rw [decide_eq_false he] at h3
        exact .inl ⟨h1, h2, by simpa using h3⟩
    · rintro (⟨h1, h2, h3⟩ | ⟨rfl, h2⟩)
      · exact ⟨h1, h2, by rw [h3]; rfl⟩
      · exact ⟨hx, h2, by simp⟩
  by_cases hc : c ≤ last
  · rw [if_pos hc]
    refine ⟨?_, fun x => ?_⟩
    · rw [List.nodup_append]
      exact ⟨h.nd, by simp, fun a ha b hb e => by
        simp at hb
        subst hb
        subst e
        exact hnot ha⟩
    · rw [key x]
      simp [hc]
  · rw [if_neg hc]
    refine ⟨h.nd, fun x => ?_⟩
    rw [key x]
    simp [hc]

/-- The sorted entries that were met are those of the list, in its order. -/
theorem Coll.done {E : List En} {last : Int} {left : Lit → Bool} {L : List En} (hO : Ord E) (h : Coll E last left L) (hl : ∀ kl, left kl = false) :
    (L.mergeSort fun x y => !(ltOf compE) y x) = E.filter fun x => decide (x.2 ≤ last) := by
  have tr : ∀ a b c : En, (!(ltOf compE) b a) = true → (!(ltOf compE) c b) = true → (!(ltOf compE) c a) = true := fun a b c h1 h2 => by
    simp only [lt_compE, Bool.not_eq_true', decide_eq_false_iff_not] at *
    intro h3
    by_cases h4 : ltE a b
    · exact h2 (ltE_trans h3 h4)
    · have := ltE_total h4 h1
      subst this
      exact h2 h3
  have to : ∀ a b : En, ((!(ltOf compE) b a) || (!(ltOf compE) a b)) = true := fun a b => by
    simp only [lt_compE, Bool.or_eq_true, Bool.not_eq_true', decide_eq_false_iff_not]
    by_cases h1 : ltE b a
    · exact .inr fun h2 => ltE_irrefl _ (ltE_trans h1 h2)
    · exact .inl h1
  have hs := List.pairwise_mergeSort (le := fun x y => !(ltOf compE) y x) tr to L
  have hp := List.mergeSort_perm L (fun x y => !(ltOf compE) y x)
  have hnd : (L.mergeSort fun x y => !(ltOf compE) y x).Nodup := hp.nodup_iff.2 h.nd
  refine Ord.unique ?_ (hO.filter _).rise fun x => ?_
  · refine (hs.and hnd).imp fun {a b} hab => ?_
    obtain ⟨h1, h2⟩ := hab
    rw [lt_compE] at h1
    simp only [Bool.not_eq_true', decide_eq_false_iff_not] at h1
    by_cases h3 : ltE a b
    · exact h3
    · exact absurd (ltE_total h3 h1) h2
  · rw [hp.mem_iff, h.mem x, List.mem_filter]
    simp [hl]

/-- Entries that lie in a row. -/
def EntsAt (W : World) (g : Nat) (v : Value) (F : List En) : Prop :=
  ∃ A cap, v = .slice A F.length cap ∧ ∀ (i : Nat) (x : En), F[i]? = some x → A = some ⟨g, 0, none⟩ ∧ g < W.heap.size ∧ W.cell? ⟨g, i * 2, none⟩ = some (.string (str x.1)) ∧ W.cell? ⟨g, i * 2 + 1, none⟩ = some (.int .i64 x.2)
theorem EntsAt.keep {W W' : World} {g : Nat} {v : Value} {F : List En} (h : EntsAt W g v F) (hb : W'.heap[g]? = W.heap[g]?) (hs : W.heap.size ≤ W'.heap.size) : EntsAt W' g v F := by
  obtain ⟨A, cap, hv, hc⟩ := h
  refine ⟨A, cap, hv, fun i x hx => ?_⟩
  obtain ⟨h1, h2, h3, h4⟩ := hc i x hx
  exact ⟨h1, Nat.lt_of_lt_of_le h2 hs, by rw [World.cell?_of_block (w := W) hb]; exact h3, by rw [World.cell?_of_block (w := W) hb]; exact h4⟩

/-- While those up to a tick are collected. -/
structure UpJ (w : World) (b : Nat) (E : List En) (last : Int) (D : DataW Unit) (left : Lit → Bool) (cnt : Nat) (v : Value) (L : List En) (W : World) : Prop where
  rg : W.ranges Try.prog 9 (plainElem Try.prog 3) b (w.heap.size + 1) E.length D left cnt
  box : W.heap[w.heap.size]? = some (.cells #[v] 80 (0, 0))
  own : W.ownsRow (w.heap.size + 2) 88 2 v L.length (L.flatMap enE)
  bel : Below w.heap.size w W
  coll : Coll E last left L
  len : L.length + cnt ≤ E.length

theorem Try.infoEntry : (Try.prog.info? 88).map (fun i => (i.zero, i.size, i.bytes)) = some (some (.agg #[.string ⟨#[]⟩, .int .i64 0]), 2, 24) := by kernel_rfl

theorem enE_len (L : List En) : (L.flatMap enE).length = L.length * 2 := by
  induction L with
  | nil => rfl
  | cons x r ih => simp [List.flatMap_cons, ih, enE]; omega

theorem enE_at : ∀ (P : List En) (i k : Nat), k < 2 → (P.flatMap enE)[i * 2 + k]? = (P[i]?).bind fun p => (enE p)[k]?
  | [], i, k, _ => by simp
  | p :: P, 0, k, hk => by
    rw [List.flatMap_cons, List.getElem?_append_left (by simp [enE]; omega)]
    simp
  | p :: P, i + 1, k, hk => by
    rw [List.flatMap_cons, List.getElem?_append_right (by simp [enE]; omega)]
    have : (i + 1) * 2 + k - (enE p).length = i * 2 + k := by simp [enE]; omega
    rw [this, enE_at P i k hk]
    simp

/-- A row of entries as the sort has it. -/
theorem holds_row {W : World} {B g cap : Nat} {L : List En} (h : W.ownsRow B 88 2 (.slice (some ⟨g, 0, none⟩) L.length cap) L.length (L.flatMap enE)) : HoldsK enE 2 W g 0 L.toArray := by
  rcases h.2 with ⟨hv, _⟩ | ⟨g', cap', cur, hv, _, hg, hn, _, hcs, ht⟩
  · cases hv
  injection hv with hv _ _
  injection hv with hv
  injection hv with hv
  subst hv
  have hl : ∀ t, t < L.length * 2 → cur[t]? = some ((flatK enE 2 L.toArray)[t]!) := fun t htl => by
    have e1 : cur[t]? = (L.flatMap enE)[t]? := by
      rw [← ht, List.getElem?_take, if_pos htl, Array.getElem?_toList]
    rw [e1, get_flatK _ _ _ _ (by simpa using htl)]
    have e2 : t = t / 2 * 2 + t % 2 := by omega
    have hi : t / 2 < L.length := by omega
    rw [e2, enE_at L (t / 2) (t % 2) (by omega), List.getElem?_eq_getElem hi]
    rw [show (t / 2 * 2 + t % 2) / 2 = t / 2 by omega, show (t / 2 * 2 + t % 2) % 2 = t % 2 by omega]
    have e3 : L.toArray[t / 2]! = L[t / 2] := by simp [hi]
    rw [e3]
    rcases Nat.mod_two_eq_zero_or_one t with h0 | h0 <;> rw [h0] <;> simp [enE]
  intro j hj
  rw [size_flatK] at hj
  have hj' : j < L.length * 2 := by simpa using hj
  constructor
  · rw [Nat.zero_add]
    simp only [World.cell?, hg]
    exact hl j hj'
  · simp [World.frozen?, hg]

#print axioms Coll.done
end Go.Proofs.Ytbjhdfincoadaaa

namespace Go.Proofs.Ytbjhdfincoadaaa
open Go.RowKit Go.Maps Go.Sort

theorem two_new (w : World) (a b : Value) (t : TypeId) : ∀ j u, [a, b][j]? = some u → (w.alloc (.cells #[a, b] t)).cell? ((⟨w.heap.size, 0, none⟩ : Addr).add j) = some u := by
  intro j u hj
  match j, hj with
  | 0, hj => simp at hj; subst hj; simp [Addr.add]
  | 1, hj => simp at hj; subst hj; simp [Addr.add]
  | j + 2, hj => simp at hj

section
variable {w : World} {b : Nat} {E : List En} {last : Int} {D : DataW Unit} {left : Lit → Bool} {cnt : Nat} {v : Value} {L : List En} {W : World}

theorem UpJ.apart (h : UpJ w b E last D left cnt v L W) {k : Nat} (hk : k ≤ w.heap.size + 1) : some k ≠ v.ownBlock := fun e => by
  rcases h.own.2 with ⟨rfl, _⟩ | ⟨g', cap', cur, rfl, hB, _⟩
  · simp [Value.ownBlock] at e
  · simp [Value.ownBlock] at e; omega

/-- An entry has come that is not wanted, or wanted: its step. -/
theorem up_next {E : List En} {D : DataW Unit} (hO : Ord E) (hh : ∀ k, Maps.has D (.string k) = hasE E k) (ha : ∀ k, D.atKey (.string k) (.lit (.int .i64 0)) = .lit (.int .i64 ((getE E k).getD 0)))
    {k : List UInt8} {c : Int} (hat : ∀ zd, D.atKey (.string k) zd = .lit (.int .i64 c)) : (k, c) ∈ E := by
  have h1 : Maps.has D (.string k) = true := Maps.has_true_of_atKey hat
  rw [hh k] at h1
  have h2 := ha k
  rw [hat] at h2
  injection h2 with h2
  injection h2 with _ h2
  rw [← getE_iff hO]
  cases hg : getE E k with
  | none => rw [(getE_none E k).1 hg] at h1; cases h1
  | some a => rw [hg] at h2; simp at h2; rw [h2]

theorem UpJ.stay (hO : Ord E) (h : UpJ w b E last D left cnt v L W) {W' : World} {cnt' : Nat} {k : List UInt8} {c : Int} (hk : left (.string k) = true) (hx : (k, c) ∈ E) (hc : ¬ c ≤ last)
    (hr : W'.ranges Try.prog 9 (plainElem Try.prog 3) b (w.heap.size + 1) E.length D (fun z => left z && !z.sameKey (.string k)) cnt') (hlt : cnt' < cnt) (hg : W.grownBy W' (some (w.heap.size + 1))) :
    UpJ w b E last D (fun z => left z && !z.sameKey (.string k)) cnt' v L W' := by
  have hs := h.coll.step hO hk hx
  rw [if_neg hc] at hs
  refine ⟨hr, (hg.block _ (m_size h.box) (by simp)).trans h.box, ?_, h.bel.grown hg h.bel.size (fun j hj => by cases hj; omega), hs, by have := h.len; omega⟩
  exact h.own.kept hg (.inr (fun e => h.apart (Nat.le_refl _) e.symm))

theorem UpJ.take (hO : Ord E) (hb : b < w.heap.size) (h : UpJ w b E last D left cnt v L W) {W1 : World} {cnt' : Nat} {k : List UInt8} {c : Int} (hk : left (.string k) = true) (hx : (k, c) ∈ E) (hc : c ≤ last)
    (hr : W1.ranges Try.prog 9 (plainElem Try.prog 3) b (w.heap.size + 1) E.length D (fun z => left z && !z.sameKey (.string k)) cnt') (hlt : cnt' < cnt) (hg : W.grownBy W1 (some (w.heap.size + 1)))
    {O : Obj} {W2 : World} {g cap : Nat} (hown : W2.ownsRow (w.heap.size + 2) 88 2 (.slice (some ⟨g, 0, none⟩) (L.length + 1) cap) (L.length + 1) (L.flatMap enE ++ [.string (str k), .int .i64 c])) (hg2 : (W1.alloc O).grownBy W2 v.ownBlock) :
    UpJ w b E last D (fun z => left z && !z.sameKey (.string k)) cnt' (.slice (some ⟨g, 0, none⟩) (L.length + 1) cap) (L ++ [(k, c)]) (W2.setCell ⟨w.heap.size, 0, none⟩ (.slice (some ⟨g, 0, none⟩) (L.length + 1) cap)) := by
  have hs := h.coll.step hO hk hx
  rw [if_pos hc] at hs
  have hz := m_size h.box
  have hz1 := hg.size
  have n0 := h.apart (k := w.heap.size) (by omega)
  have n1 := h.apart (k := w.heap.size + 1) (Nat.le_refl _)
  have nb := h.apart (k := b) (by omega)
  have hgg : w.heap.size + 2 ≤ g := by
    rcases hown.2 with ⟨e, _⟩ | ⟨g', cap', cur, e, hB, _⟩
    · cases e
    · injection e with e _ _; injection e with e; injection e with e; omega
  have r2 := ((hr.alloc O).kept hg2 nb n1).kept (grownBy_setCell' W2 w.heap.size (.slice (some ⟨g, 0, none⟩) (L.length + 1) cap)) (fun e => by injection e; omega) (fun e => by injection e; omega)
  have bx : W2.heap[w.heap.size]? = some (.cells #[v] 80 (0, 0)) := ((hg2.block _ (by simp; omega) n0).trans (Below.heap_alloc W1 O _ (by omega))).trans ((hg.block _ hz (by simp)).trans h.box)
  refine ⟨r2, ?_, ?_, ?_, hs, by have := h.len; simp; omega⟩
  · simp [World.setCell, Array.getElem?_modify, bx]
  · have e1 : (L ++ [(k, c)]).length = L.length + 1 := by simp
    rw [e1, List.flatMap_append]
    exact hown.kept (grownBy_setCell' W2 w.heap.size _) (.inr (fun e => by simp [Value.ownBlock] at e; omega))
  · have b1 : Below w.heap.size w W1 := h.bel.grown hg h.bel.size (fun j hj => by cases hj; omega)
    have b2 : Below w.heap.size w W2 := (b1.alloc b1.size O).grown hg2 (by have := b1.size; simp; omega) (fun j hj => by
      rcases h.own.2 with ⟨rfl, _⟩ | ⟨g', cap', cur, rfl, hB, _⟩
      · simp [Value.ownBlock] at hj
      · simp [Value.ownBlock] at hj; omega)
    exact b2.setCell (show w.heap.size ≤ (⟨w.heap.size, 0, none⟩ : Addr).block from Nat.le_refl _) _

/-- What upTo answers: a function over a box (in block B) that holds the entries (in block g). -/
structure UpR (w : World) (F : List En) (B g : Nat) (v : Value) (w' : World) : Prop where
  box : w'.heap[B]? = some (.cells #[v] 80 (0, 0))
  ents : EntsAt w' g v F
  bel : Below w.heap.size w w'
  hB : w.heap.size ≤ B
  hg : w.heap.size ≤ g
  ne : g ≠ B

theorem UpJ.fin0 (hO : Ord E) (h : UpJ w b E last D left cnt v [] W) (hl : ∀ kl, left kl = false) : UpR w (E.filter fun x => decide (x.2 ≤ last)) w.heap.size (w.heap.size + 1) v W := by
  have hd := h.coll.done hO hl
  rw [List.mergeSort_nil] at hd
  refine ⟨h.box, ?_, h.bel, Nat.le_refl _, Nat.le_succ _, by omega⟩
  rw [← hd]
  rcases h.own.2 with ⟨rfl, _⟩ | ⟨g', cap', cur, rfl, _⟩
  · exact ⟨none, 0, rfl, fun i x hx => by simp at hx⟩
  · exact ⟨_, cap', rfl, fun i x hx => by simp at hx⟩

theorem UpJ.fin1 (hO : Ord E) {g cap : Nat} (h : UpJ w b E last D left cnt (.slice (some ⟨g, 0, none⟩) L.length cap) L W) (hl : ∀ kl, left kl = false) (n : Nat) (os : Array Obj) :
    UpR w (E.filter fun x => decide (x.2 ≤ last)) w.heap.size g (.slice (some ⟨g, 0, none⟩) L.length cap) (sortWorldK enE 2 W g 0 n (L.mergeSort fun x y => !(ltOf compE) y x).toArray os) := by
  have hd := h.coll.done hO hl
  have hp := List.mergeSort_perm L (fun x y => !(ltOf compE) y x)
  rw [hd] at hp ⊢
  have hlen := hp.length_eq
  generalize (E.filter fun x => decide (x.2 ≤ last)) = F at *
  have hg : w.heap.size + 2 ≤ g := by
    rcases h.own.2 with ⟨e, _⟩ | ⟨g', cap', cur, e, hB, _⟩
    · cases e
    · injection e with e _ _; injection e with e; injection e with e; omega
  have hgl : g < W.heap.size := (h.own.lt g rfl).2
  have hh := holds_row h.own
  have hs := h.bel.size
  have other : ∀ k, k < W.heap.size → k ≠ g → (sortWorldK enE 2 W g 0 n F.toArray os).heap[k]? = W.heap[k]? := fun k hk hne => by
    unfold sortWorldK putRowK putRow mapBlock grow Sort.ahead
    simp only []
    rw [Array.getElem?_append_left (by simpa using hk), Array.getElem?_modify, if_neg (Ne.symm hne)]
  have hsz : W.heap.size ≤ (sortWorldK enE 2 W g 0 n F.toArray os).heap.size := by
    unfold sortWorldK putRowK putRow mapBlock grow Sort.ahead
    simp
  have h1 : HoldsK enE 2 (sortWorldK enE 2 W g 0 n F.toArray os) g 0 F.toArray := by
    unfold sortWorldK
    refine holdsK_grow enE 2 _ os g 0 _ (by unfold putRowK putRow mapBlock Sort.ahead; simpa using hgl) ?_
    exact holdsK_putRowK enE 2 _ g 0 L.toArray F.toArray (holdsK_ahead enE 2 W n g 0 _ hh) (by simpa using hlen)
  refine ⟨(other _ (m_size h.box) (by omega)).trans h.box, ⟨some ⟨g, 0, none⟩, cap, by rw [hlen], fun i x hx => ?_⟩, ?_, Nat.le_refl _, by omega, by omega⟩
  · obtain ⟨hi, rfl⟩ := List.getElem?_eq_some_iff.1 hx
    have c0 := (h1.cell (i := i) (c := 0) (by simpa using hi) (by omega)).1
    have c1 := (h1.cell (i := i) (c := 1) (by simpa using hi) (by omega)).1
    refine ⟨rfl, Nat.lt_of_lt_of_le hgl hsz, ?_, ?_⟩
    · simpa [enE, hi] using c0
    · simpa [enE, hi] using c1
  · refine ⟨?_, ?_, ?_, Nat.le_trans hs hsz, fun k hk => (other k (by omega) (by omega)).trans (h.bel.block k hk)⟩
    · exact h.bel.os
    · exact h.bel.tape
    · exact h.bel.output
end

end Go.Proofs.Ytbjhdfincoadaaa

namespace Go.Proofs.Ytbjhdfincoadaaa
open Go.RowKit Go.Maps Go.Sort

theorem invK_str (key : Value) (kl : Lit) (h : keyOf Try.prog 9 key = some kl) : ∃ x : List UInt8, key = .string (str x) := by
  obtain ⟨x, hx, _⟩ := Maps.keyOf_str Try.underlying9 h
  exact ⟨x, hx⟩
theorem invV_int (v : Value) (y : DataW Unit × List MemPlace) (h : plainElem Try.prog 3 v = some y) : ∃ c : Int, v = .int .i64 c := by
  obtain ⟨c, rfl, _⟩ := plainElem_int_inv Try.underlying3 h
  exact ⟨c, rfl⟩
theorem key_is {x : List UInt8} {kl : Lit} (h : keyOf Try.prog 9 (.string (str x)) = some kl) : kl = .string x := by
  obtain ⟨x', e, rfl, _⟩ := Maps.keyOf_str Try.underlying9 h
  have : str x = str x' := by injection e
  have := congrArg (fun s : ByteArray => s.data.toList) this
  simp only [str_data] at this
  rw [this]
theorem val_is {c : Int} {y : DataW Unit × List MemPlace} (h : plainElem Try.prog 3 (.int .i64 c) = some y) : y.1 = .lit (.int .i64 c) := by
  obtain ⟨c', e, h2, _⟩ := plainElem_int_inv Try.underlying3 h
  cases e
  rw [h2]

theorem one_mf {w : World} {b : Nat} {u : Value} {t : TypeId} (h : w.heap[b]? = some (.cells #[u] t (0, 0))) : w.frozen? ⟨b, 0, none⟩ = false := by simp [World.frozen?, h]

set_option maxRecDepth 100000 in
set_option maxHeartbeats 2000000 in
theorem tiUpTo_calls (w : World) (p b : Nat) (E : List En) (last : Int) (hn : E.length ≤ 1000000) (h : TimAt w p b E) :
    Calls Try.prog 59 #[.pointer (some ⟨p, 0, none⟩), .int .i64 last] w fun e w' => ∃ B g v, e = .returned (.func (.func 71) #[] #[.pointer (some ⟨B, 0, none⟩)]) ∧ UpR w (E.filter fun x => decide (x.2 ≤ last)) B g v w' := by
  have hO := h.ord
  have HH := Lib.hid h
  have hbl := h.map.lt
  obtain ⟨D, hown0, hh, ha, hsz⟩ := h.map
  have HHH := Lib.hid hh
  have HHA := Lib.hid ha
  have HSZ := Lib.hid hsz
  have HO := Lib.hid hO
  obtain ⟨i0, hi, hz0, hz1, hz2⟩ := info_parts Try.infoEntry
  have hbox := heap_alloc_new w (.cells #[.slice none 0 0] 80)
  have hcell := (Below.heap_alloc w (.cells #[.slice none 0 0] 80) p (m_size h.cells)).trans h.cells
  have hown1 := hown0.alloc (.cells #[.slice none 0 0] 80)
  have hbel := Lib.hid ((Below.refl _ w).alloc (Nat.le_refl _) (.cells #[.slice none 0 0] 80))
  have hsz1 : (w.alloc (.cells #[.slice none 0 0] 80)).heap.size = w.heap.size + 1 := by simp
  clear hown0 hh ha hsz hO h
  have c0 := one_m hcell
  have HB1 := Lib.hid hbox
  clear hbox hcell
  go_enter Try.func59, Try.ntmps59
  go_wp2_with (first | (at_range; refine wpList_range_own _ rfl _ 94 rfl 9 3 law_strT Try.underlying94 _ b E.length D rfl hown1 ?_; intro w0 hrg0 hg0 hs0) | go_in)
  rw [hsz1] at hrg0 ⊢
  have J0 := Lib.hid (show UpJ w b E last D (Maps.has D) (Maps.size D) (.slice none 0 0) [] w0 from
    ⟨hrg0, (hg0.block _ (m_size HB1.out) (by simp)).trans HB1.out, World.ownsRow_nil _ _ _ _, hbel.out.grown hg0 hbel.out.size (fun j hj => by cases hj), Coll.start HHH.out, by rw [HSZ.out]; simp⟩)
  clear hrg0 hg0 hs0 c0 hown1 HB1 hbel hsz1
  go_frame
  go_loopw [6, 7] (fun _ _ wr => ∃ left cnt v L, UpJ w b E last D left cnt v L wr) (fun _ _ wr => wr.rangeLeft b (w.heap.size + 1))
  case atStart => exact ⟨_, _, _, _, J0.out⟩
  case round =>
    obtain ⟨left, cnt, v, L, hJ⟩ := hrel
    have HJ := Lib.hid hJ
    have hrg := hJ.rg
    have bx := one_m hJ.box
    have HLE := Lib.hid hrg.left_eq
    clear hJ J0
    go_wp2_with (first
      | (at_next; refine wpList_next_ranges _ rfl _ rfl 9 law_strT (plainElem Try.prog 3) (fun x : List UInt8 => .string (str x)) (Value.int .i64) invK_str invV_int b (w.heap.size + 1) E.length D left cnt rfl hrg ?_ ?_)
      | go_in)
    · intro _ hl0
      have HL0 := Lib.hid hl0
      clear hl0 hrg
      rcases L with _ | ⟨x, r⟩
      · obtain ⟨A, c, rfl⟩ : ∃ A c, v = .slice A 0 c := by
          rcases HJ.out.own.2 with ⟨e, _⟩ | ⟨g, cap, _, e, _⟩
          · exact ⟨_, _, e⟩
          · exact ⟨_, _, e⟩
        have HF := Lib.hid (HJ.out.fin0 HO.out HL0.out)
        clear HJ
        go_wp2_with (go_at_call 70; refine (sortNone_calls _ _ _).mono ?_; rintro e w1 ⟨rfl, rfl⟩)
        go_ret
        exact ⟨_, _, _, rfl, HF.out⟩
      · obtain ⟨g, cap, rfl, _, hgl⟩ := HJ.out.own.form (by simp)
        have hlen := HJ.out.len
        have hs := sortEnt_calls g cap (x :: r).toArray wr (holds_row HJ.out.own) hgl (by simp at hlen ⊢; omega)
        have HF := Lib.hid (fun n os => HJ.out.fin1 HO.out HL0.out n os)
        rw [List.size_toArray] at hs
        generalize (x :: r).length = ln at *
        clear HJ hlen
        go_wp2_with (go_at_call 70; refine hs.mono ?_; rintro e w1 ⟨rfl, n, os, rfl⟩)
        go_ret
        exact ⟨_, _, _, rfl, HF.out n os⟩
    · intro x c kl y ys w1 cnt1 hkey hlx hy hat hrg1 hlt hg1 hs1 hen
      obtain rfl := key_is hkey
      have hyv := val_is hy
      have hx : (x, c) ∈ E := up_next HO.out HHH.out HHA.out (fun zd => (hat zd).trans hyv)
      have HX := Lib.hid hx
      have HLX := Lib.hid hlx
      have HR1 := Lib.hid hrg1
      have HG1 := Lib.hid hg1
      have bx1 := hg1.cell bx (by simp)
      clear hkey hyv hy hat hx hlx hrg1 hg1 hs1 hrg bx
      by_cases hc : c ≤ last
      · obtain ⟨A, vc, rfl⟩ : ∃ A vc, v = .slice A L.length vc := by
          rcases HJ.out.own.2 with ⟨e, h0⟩ | ⟨g, cap, _, e, _⟩
          · exact ⟨none, 0, by rw [h0]; exact e⟩
          · exact ⟨_, _, e⟩
        have hln := HJ.out.len
        have OW := Lib.hid (HJ.out.own.kept HG1.out (.inr (fun e => HJ.out.apart (Nat.le_refl _) e.symm)))
        have bz := m_size HJ.out.box
        have hz1' := HG1.out.size
        have OW2 := Lib.hid (World.ownsRow.alloc OW.out (.cells #[.string (str x), .int .i64 c] 88))
        have NW2 := Lib.hid (two_new w1 (.string (str x)) (.int .i64 c) 88)
        have BS2 : w.heap.size + 2 ≤ (w1.alloc (.cells #[.string (str x), .int .i64 c] 88)).heap.size := by have := HR1.out.lt; simp; omega
        have KM2 : L.length + 1 ≤ maxLen := by unfold maxLen; omega
        have KB2 : (L.length + 1) * 24 ≤ 140737488355328 := by omega
        have OC2 : ∀ u ∈ [Value.string (str x), .int .i64 c], u.oneCell' = true := by simp [Value.oneCell']
        go_wp2_with (first
          | (at_builtin; refine wpList_append_lies _ rfl _ _ 80 rfl (w.heap.size + 2) 88 i0 (.agg #[.string ⟨#[]⟩, .int .i64 0]) 2 24 Try.underlying80 hi hz0 hz1 hz2 rfl (by decide) _ _ _ rfl OW2.out ⟨w1.heap.size, 0, none⟩ 1 1 [.string (str x), .int .i64 c] rfl rfl NW2.out OC2 (by decide) KM2 KB2 BS2 _ rfl ?_; intro g gc w2 hown hgrow hatb hgl; have HN := Lib.hid (HJ.out.take HO.out hbl HLX.out HX.out hc HR1.out hlt HG1.out hown hgrow); have L1 := (hgrow.block _ (by simp; omega) (HJ.out.apart (Nat.le_succ _))).trans ((Below.heap_alloc w1 _ _ (by omega)).trans ((HG1.out.block _ bz (by simp)).trans HJ.out.box)); have m0 := one_m L1; have mf := one_mf L1; have ml := m_size L1; clear hown hgrow hatb L1)
          | go_in)
        go_roundw
        case rel => exact ⟨_, _, _, _, HN.out⟩
        case measure => rw [HN.out.rg.left_eq, HLE.out]; exact hlt
      · have HN := Lib.hid (HJ.out.stay HO.out HLX.out HX.out hc HR1.out hlt HG1.out)
        go_wp2
        go_roundw
        case rel => exact ⟨_, _, _, _, HN.out⟩
        case measure => rw [HN.out.rg.left_eq, HLE.out]; exact hlt

#print axioms tiUpTo_calls
end Go.Proofs.Ytbjhdfincoadaaa
