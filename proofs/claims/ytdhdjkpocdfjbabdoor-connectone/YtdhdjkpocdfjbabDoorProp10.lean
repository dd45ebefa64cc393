/-
  Take, Get, Num of prop. (No statement: contracts that the proofs of the statements use.)
-/
import Derived.Test.YtdhdjkpocdfjbabDoorProp9
namespace Go.Proofs.YtdhdjkpocdfjbabDoor
open Go.RowKit

theorem OwnP.mono {B C : Nat} {e : TypeId} {w : World} {v : Value} {P : List Pr} (h : OwnP B e w v P) (hc : C ≤ B) : OwnP C e w v P := by
  refine ⟨h.1, ?_⟩
  rcases h.2 with h | ⟨g, cap, cur, hv, hb, rest⟩
  · exact .inl h
  · exact .inr ⟨g, cap, cur, hv, Nat.le_trans hc hb, rest⟩
theorem OwnP.below {B : Nat} {e : TypeId} {w w' : World} {v : Value} {P : List Pr} (h : OwnP B e w v P) (hb : Below w.heap.size w w') : OwnP B e w' v P := by
  refine ⟨h.1, ?_⟩
  rcases h.2 with h | ⟨g, cap, cur, hv, hB, hg, rest⟩
  · exact .inl h
  · exact .inr ⟨g, cap, cur, hv, hB, (hb.block g (lt_of_block hg)).trans hg, rest⟩
theorem OwnP.only {B p : Nat} {e : TypeId} {w w' : World} {v : Value} {P : List Pr} (h : OwnP B e w v P) (hb : Only p w w') (hp : p < B) : OwnP B e w' v P := by
  refine ⟨h.1, ?_⟩
  rcases h.2 with h | ⟨g, cap, cur, hv, hB, hg, rest⟩
  · exact .inl h
  · exact .inr ⟨g, cap, cur, hv, hB, (hb.block g (by omega)).trans hg, rest⟩

/-- What Take answers of s with error x: the properties, what is left, the error. -/
def takeR (q : Int) (s : ByteArray) (x : Int) : List Pr × ByteArray × Int :=
  if (rawT (varT 3 0 0 s x).2.1 (varT 3 0 0 s x).2.2 (varT 3 0 0 s x).1).2.2 ≠ 0 then ([], (rawT (varT 3 0 0 s x).2.1 (varT 3 0 0 s x).2.2 (varT 3 0 0 s x).1).2)
  else ((runP q (rawT (varT 3 0 0 s x).2.1 (varT 3 0 0 s x).2.2 (varT 3 0 0 s x).1).1.size [] (rawT (varT 3 0 0 s x).2.1 (varT 3 0 0 s x).2.2 (varT 3 0 0 s x).1).1).1, (rawT (varT 3 0 0 s x).2.1 (varT 3 0 0 s x).2.2 (varT 3 0 0 s x).1).2.1,
    (runP q (rawT (varT 3 0 0 s x).2.1 (varT 3 0 0 s x).2.2 (varT 3 0 0 s x).1).1.size [] (rawT (varT 3 0 0 s x).2.1 (varT 3 0 0 s x).2.2 (varT 3 0 0 s x).1).1).2)

theorem takeR_parts (q : Int) (s : ByteArray) (x : Int) (n : Nat) (s1 : ByteArray) (x1 : Int) (t s2 : ByteArray) (x2 : Int) (hv : varT 3 0 0 s x = (n, s1, x1)) (hr : rawT s1 x1 n = (t, s2, x2)) :
    takeR q s x = if x2 ≠ 0 then ([], s2, x2) else ((runP q t.size [] t).1, s2, (runP q t.size [] t).2) := by
  unfold takeR
  rw [hv]
  dsimp only
  rw [hr]

/-- What Take answers, and leaves. -/
def TookL (w : World) (p : Nat) (R : List Pr × ByteArray × Int) (e : Ending) (w' : World) : Prop :=
  ∃ v, e = .returned v ∧ OwnP w.heap.size 87 w' v R.1 ∧ (R.2.2 ≠ 0 → v = .slice none 0 0) ∧ InAt w' p R.2.1 R.2.2 ∧ Chg p w w'

set_option maxRecDepth 100000 in
set_option maxHeartbeats 1000000 in
theorem take3_calls (w : World) (p : Nat) (s : ByteArray) (x k : Int) (isW : Bool) (h : InAt w p s x) (hT : Tabs w) :
    Calls Tryd.prog 29 #[.pointer (some ⟨p, 0, none⟩), .int .i64 k, .bool isW] w (TookL w p (takeR (placeN k isW) s x)) := by
  have hnb := var_lt s x
  generalize hv : varT 3 0 0 s x = V at hnb
  obtain ⟨n, s1, x1⟩ := V
  dsimp only at hnb
  have hsz := rawT_size s1 x1 n
  generalize hr : rawT s1 x1 n = R at hsz
  obtain ⟨t, s2, x2⟩ := R
  dsimp only at hsz
  rw [takeR_parts _ s x n s1 x1 t s2 x2 hv hr]
  have HV := Lib.hid hv
  have HR := Lib.hid hr
  have HT2 : Hid (∀ w', Chg p w w' → Tabs w') := fun w' hc => hT.chg h hc
  have hp := h.lt
  have hts : t.size ≤ 268435456 := by omega
  clear hv hr hT hsz
  by_cases hx : x2 = 0
  · subst hx
    rw [if_neg (by simp)]
    generalize hq : placeN k isW = q
    generalize hP : runP q t.size [] t = P
    obtain ⟨L, e2⟩ := P
    have HQ := Lib.hid hq
    have HP := Lib.hid hP
    clear hq hP
    go_enter Tryd.func29, Tryd.ntmps29
    go_wp2_with fail
    refine (varIn_calls _ p s x n s1 x1 HV.out h).mono ?_
    rintro e w1 ⟨rfl, i1, o1⟩
    go_wp2_with fail
    refine (rawIn_calls _ p s1 x1 n i1).mono ?_
    rw [HR.out]
    rintro e w2 ⟨rfl, i2, o2⟩
    have o12 := o1.trans o2
    clear i1 o1 o2 h
    go_wp2_with fail
    refine (err_calls _ p s2 0 i2).mono ?_
    rintro e w3 ⟨rfl, rfl⟩
    go_wp2_with fail
    refine (place_calls _ k isW).mono ?_
    rw [HQ.out]
    rintro e w3 ⟨rfl, rfl⟩
    have hT2 := HT2.out w2 (Chg.of_only o12)
    have hz2 := o12.size
    go_wp2_with fail
    refine (takeAll_calls _ t q (by omega) hT2).mono ?_
    rw [HP.out]
    rintro e w4 ⟨v, rfl, hown, hnil, hb4⟩
    rw [hz2] at hown
    have i4 := i2.below hb4
    have c4 : Chg p w w4 := (Chg.of_only o12).trans (Chg.of_below hb4)
    obtain ⟨a, c, rfl⟩ := hown.form
    clear i2 hT2 hb4 o12 HT2 hz2
    have HN := Lib.hid hnil
    have HOWN := Lib.hid hown
    have HC := Lib.hid c4
    clear hnil hown c4
    go_wp2_with fail
    refine (fail_calls _ p s2 0 e2 i4).mono ?_
    rintro e w5 ⟨rfl, i5, o5⟩
    have HI5 : Hid (InAt w5 p s2 e2) := i5
    have HO5 := Lib.hid (HOWN.out.only o5 hp)
    have HC5 := Lib.hid (HC.out.trans (Chg.of_only o5))
    clear i4 i5 o5 HOWN HC
    go_wp2
    go_ret
    exact ⟨_, rfl, HO5.out, HN.out, HI5.out, HC5.out⟩
  · rw [if_pos hx]
    have hxb : (x2 == 0) = false := by simpa using hx
    go_enter Tryd.func29, Tryd.ntmps29
    go_wp2_with fail
    refine (varIn_calls _ p s x n s1 x1 HV.out h).mono ?_
    rintro e w1 ⟨rfl, i1, o1⟩
    go_wp2_with fail
    refine (rawIn_calls _ p s1 x1 n i1).mono ?_
    rw [HR.out]
    rintro e w2 ⟨rfl, i2, o2⟩
    have o12 := o1.trans o2
    clear i1 o1 o2 h
    go_wp2_with fail
    refine (err_calls _ p s2 x2 i2).mono ?_
    rintro e w3 ⟨rfl, rfl⟩
    have HI := Lib.hid i2
    have HC := Lib.hid (Chg.of_only o12)
    clear i2 o12
    go_wp2
    go_ret
    exact ⟨_, rfl, World.ownsRow_nil _ _ _ _, (fun _ => rfl), HI.out, HC.out⟩

#print axioms take3_calls

/-- The first property of an identifier. -/
def firstP (P : List Pr) (i : Int) : Option Pr := P.find? fun p => p.id == i
/-- What Get answers. -/
def getV (P : List Pr) (i : Int) : Value := match firstP P i with
  | some p => .tuple #[prV p, .bool true]
  | none => .tuple #[.agg #[.int .i64 0, .int .u32 0, .string ⟨#[]⟩, .string ⟨#[]⟩], .bool false]

theorem first_none (P : List Pr) (k : Nat) (x : Pr) (i : Int) (h : P[k]? = some x) (hf : firstP (P.take k) i = none) (hx : ¬ x.id = i) : firstP (P.take (k + 1)) i = none := by
  obtain ⟨hk, rfl⟩ := List.getElem?_eq_some_iff.1 h
  unfold firstP at *
  rw [List.take_succ_eq_append_getElem hk, List.find?_append, hf]
  simpa using hx
theorem first_some (P : List Pr) (k : Nat) (x : Pr) (i : Int) (h : P[k]? = some x) (hf : firstP (P.take k) i = none) (hx : x.id = i) : firstP P i = some x := by
  obtain ⟨hk, hx'⟩ := List.getElem?_eq_some_iff.1 h
  unfold firstP at *
  have : P = P.take k ++ (x :: P.drop (k + 1)) := by rw [← hx', ← List.drop_eq_getElem_cons hk, List.take_append_drop]
  rw [this, List.find?_append, hf]
  simp [hx]

/-- What Num answers. -/
def numP (P : List Pr) (i o : Int) : Int := match firstP P i with
  | some p => p.n
  | none => o

end Go.Proofs.YtdhdjkpocdfjbabDoor
