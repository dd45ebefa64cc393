/-
  Take, Get, Num of prop. (No statement: contracts that the proofs of the statements use.)
-/
import Derived.Test.YtmkajnephkaamaaDoorProp9
namespace Go.Proofs.YtmkajnephkaamaaDoor
open Go.RowKit

theorem OwnP.mono {B C : Nat} {e : TypeId} {w : World} {v : Value} {P : List Pr} (h : OwnP B e w v P) (hc : C ≤ B) : OwnP C e w v P := by
  refine ⟨h.1, ?_⟩
  rcases h.2 with h | ⟨g, cap, cur, hv, hb, rest⟩
  · exact .inl h
  · exact .inr ⟨g, cap, cur, hv, Nat.le_trans hc hb, rest⟩
theorem OwnP.below {B : Nat} {e : TypeId} {w w' : World} {v : Value} {P : List Pr} (h : OwnP B e w v P) (hb : Below w.heap.size w w') : OwnP B e w' v P := by
  refine ⟨h.1, ?_⟩
  rcases h.2 with h | ⟨g, cap, cur, hv, hB, hg, rest⟩
  · exact .inl h
  · exact .inr ⟨g, cap, cur, hv, hB, (hb.block g (lt_of_block hg)).trans hg, rest⟩
theorem OwnP.only {B p : Nat} {e : TypeId} {w w' : World} {v : Value} {P : List Pr} (h : OwnP B e w v P) (hb : Only p w w') (hp : p < B) : OwnP B e w' v P := by
  refine ⟨h.1, ?_⟩
  rcases h.2 with h | ⟨g, cap, cur, hv, hB, hg, rest⟩
  · exact .inl h
  · exact .inr ⟨g, cap, cur, hv, hB, (hb.block g (by omega)).trans hg, rest⟩

/-- What Take answers of s with error x: the properties, what is left, the error. -/
def takeR (q : Int) (s : ByteArray) (x : Int) : List Pr × ByteArray × Int :=
  if (rawT (varT 3 0 0 s x).2.1 (varT 3 0 0 s x).2.2 (varT 3 0 0 s x).1).2.2 ≠ 0 then ([], (rawT (varT 3 0 0 s x).2.1 (varT 3 0 0 s x).2.2 (varT 3 0 0 s x).1).2)
  else ((runP q (rawT (varT 3 0 0 s x).2.1 (varT 3 0 0 s x).2.2 (varT 3 0 0 s x).1).1.size [] (rawT (varT 3 0 0 s x).2.1 (varT 3 0 0 s x).2.2 (varT 3 0 0 s x).1).1).1, (rawT (varT 3 0 0 s x).2.1 (varT 3 0 0 s x).2.2 (varT 3 0 0 s x).1).2.1,
    (runP q (rawT (varT 3 0 0 s x).2.1 (varT 3 0 0 s x).2.2 (varT 3 0 0 s x).1).1.size [] (rawT (varT 3 0 0 s x).2.1 (varT 3 0 0 s x).2.2 (varT 3 0 0 s x).1).1).2)

theorem takeR_parts (q : Int) (s : ByteArray) (x : Int) (n : Nat) (s1 : ByteArray) (x1 : Int) (t s2 : ByteArray) (x2 : Int) (hv : varT 3 0 0 s x = (n, s1, x1)) (hr : rawT s1 x1 n = (t, s2, x2)) :
    takeR q s x = if x2 ≠ 0 then ([], s2, x2) else ((runP q t.size [] t).1, s2, (runP q t.size [] t).2) := by
  unfold takeR
  rw [hv]
  dsimp only
  rw [hr]

/-- What Take answers, and leaves. -/
def TookL (w : World) (p : Nat) (R : List Pr × ByteArray × Int) (e : Ending) (w' : World) : Prop :=
  ∃ v, e = .returned v ∧ OwnP w.heap.size 47 w' v R.1 ∧ (R.2.2 ≠ 0 → v = .slice none 0 0) ∧ InAt w' p R.2.1 R.2.2 ∧ Chg p w w'

set_option maxRecDepth 100000 in
set_option maxHeartbeats 1000000 in
theorem take3_calls (w : World) (p : Nat) (s : ByteArray) (x k : Int) (isW : Bool) (h : InAt w p s x) (hT : Tabs w) :
    Calls Tryd.prog 11 #[.pointer (some ⟨p, 0, none⟩), .int .i64 k, .bool isW] w (TookL w p (takeR (placeN k isW) s x)) := by
  have hnb := var_lt s x
  generalize hv : varT 3 0 0 s x = V at hnb
  obtain ⟨n, s1, x1⟩ := V
  dsimp only at hnb
  have hsz := rawT_size s1 x1 n
  generalize hr : rawT s1 x1 n = R at hsz
  obtain ⟨t, s2, x2⟩ := R
  dsimp only at hsz
  rw [takeR_parts _ s x n s1 x1 t s2 x2 hv hr]
  have HV := Lib.hid hv
  have HR := Lib.hid hr
  have HT2 : Hid (∀ w', Chg p w w' → Tabs w') := fun w' hc => hT.chg h hc
  have hp := h.lt
  have hts : t.size ≤ 268435456 := by omega
  clear hv hr hT hsz
  by_cases hx : x2 = 0
  · subst hx
    rw [if_neg (by simp)]
    generalize hq : placeN k isW = q
    generalize hP : runP q t.size [] t = P
    obtain ⟨L, e2⟩ := P
    have HQ := Lib.hid hq
    have HP := Lib.hid hP
    clear hq hP
    go_enter Tryd.func11, Tryd.ntmps11
    go_wp2_with fail
    refine (varIn_calls _ p s x n s1 x1 HV.out h).mono ?_
    rintro e w1 ⟨rfl, i1, o1⟩
    go_wp2_with fail
    refine (rawIn_calls _ p s1 x1 n i1).mono ?_
    rw [HR.out]
    rintro e w2 ⟨rfl, i2, o2⟩
    have o12 := o1.trans o2
    clear i1 o1 o2 h
    go_wp2_with fail
    refine (err_calls _ p s2 0 i2).mono ?_
    rintro e w3 ⟨rfl, rfl⟩
    go_wp2_with fail
    refine (place_calls _ k isW).mono ?_
    rw [HQ.out]
    rintro e w3 ⟨rfl, rfl⟩
    have hT2 := HT2.out w2 (Chg.of_only o12)
    have hz2 := o12.size
    go_wp2_with fail
    refine (takeAll_calls _ t q (by omega) hT2).mono ?_
    rw [HP.out]
    rintro e w4 ⟨v, rfl, hown, hnil, hb4⟩
    rw [hz2] at hown
    have i4 := i2.below hb4
    have c4 : Chg p w w4 := (Chg.of_only o12).trans (Chg.of_below hb4)
    obtain ⟨a, c, rfl⟩ := hown.form
    clear i2 hT2 hb4 o12 HT2 hz2
    have HN := Lib.hid hnil
    have HOWN := Lib.hid hown
    have HC := Lib.hid c4
    clear hnil hown c4
    go_wp2_with fail
    refine (fail_calls _ p s2 0 e2 i4).mono ?_
    rintro e w5 ⟨rfl, i5, o5⟩
    have HI5 : Hid (InAt w5 p s2 e2) := i5
    have HO5 := Lib.hid (HOWN.out.only o5 hp)
    have HC5 := Lib.hid (HC.out.trans (Chg.of_only o5))
    clear i4 i5 o5 HOWN HC
    go_wp2
    go_ret
    exact ⟨_, rfl, HO5.out, HN.out, HI5.out, HC5.out⟩
  · rw [if_pos hx]
    have hxb : (x2 == 0) = false := by simpa using hx
    go_enter Tryd.func11, Tryd.ntmps11
    go_wp2_with fail
    refine (varIn_calls _ p s x n s1 x1 HV.out h).mono ?_
    rintro e w1 ⟨rfl, i1, o1⟩
    go_wp2_with fail
    refine (rawIn_calls _ p s1 x1 n i1).mono ?_
    rw [HR.out]
    rintro e w2 ⟨rfl, i2, o2⟩
    have o12 := o1.trans o2
    clear i1 o1 o2 h
    go_wp2_with fail
    refine (err_calls _ p s2 x2 i2).mono ?_
    rintro e w3 ⟨rfl, rfl⟩
    have HI := Lib.hid i2
    have HC := Lib.hid (Chg.of_only o12)
    clear i2 o12
    go_wp2
    go_ret
    exact ⟨_, rfl, World.ownsRow_nil _ _ _ _, (fun _ => rfl), HI.out, HC.out⟩

#print axioms take3_calls

/-- The first property of an identifier. -/
def firstP (P : List Pr) (i : Int) : Option Pr := P.find? fun p => p.id == i
/-- What Get answers. -/
def getV (P : List Pr) (i : Int) : Value := match firstP P i with
  | some p => .tuple #[prV p, .bool true]
  | none => .tuple #[.agg #[.int .i64 0, .int .u32 0, .string ⟨#[]⟩, .string ⟨#[]⟩], .bool false]

theorem first_none (P : List Pr) (k : Nat) (x : Pr) (i : Int) (h : P[k]? = some x) (hf : firstP (P.take k) i = none) (hx : ¬ x.id = i) : firstP (P.take (k + 1)) i = none := by
  obtain ⟨hk, rfl⟩ := List.getElem?_eq_some_iff.1 h
  unfold firstP at *
  rw [List.take_succ_eq_append_getElem hk, List.find?_append, hf]
  simpa using hx
theorem first_some (P : List Pr) (k : Nat) (x : Pr) (i : Int) (h : P[k]? = some x) (hf : firstP (P.take k) i = none) (hx : x.id = i) : firstP P i = some x := by
  obtain ⟨hk, hx'⟩ := List.getElem?_eq_some_iff.1 h
  unfold firstP at *
  have : P = P.take k ++ (x :: P.drop (k + 1)) := by rw [← hx', ← List.drop_eq_getElem_cons hk, List.take_append_drop]
  rw [this, List.find?_append, hf]
  simp [hx]

set_option maxRecDepth 100000 in
set_option maxHeartbeats 1000000 in
theorem get_calls (w : World) (v : Value) (P : List Pr) (i : Int) (hP : PropsAt w v P) (hn : P.length ≤ 1000000) :
    Calls Tryd.prog 18 #[v, .int .i64 i] w fun e w' => e = .returned (getV P i) ∧ Below w.heap.size w w' := by
  obtain ⟨A, cap, rfl, hc⟩ := hP
  have HC := Lib.hid hc
  clear hc
  generalize hG : getV P i = G
  have HG := Lib.hid hG
  clear hG
  go_enter Tryd.func18, Tryd.ntmps18
  go_wp2
  go_loopw [10] (fun j wr => ∃ k : Nat, k ≤ P.length ∧ j = .int .i64 k ∧ firstP (P.take k) i = none ∧ wr.heap[w.heap.size]? = some (.cells #[.int .i64 0, .int .u32 0, .string ⟨#[]⟩, .string ⟨#[]⟩] 47 (0, 0)) ∧ Below w.heap.size w wr) (fun j _ => P.length - (intOf j).toNat)
  case atStart => exact ⟨0, by omega, rfl, rfl, heap_alloc_new w _, below_one w _⟩
  case round =>
    obtain ⟨k, hk, rfl, hf, hbox, hb⟩ := hrel
    have HF := Lib.hid hf
    have HBX := Lib.hid hbox
    have HB := Lib.hid hb
    have hz := hb.size
    have hlt0 := lt_of_block hbox
    clear hf hbox hb
    by_cases hlt : k < P.length
    · obtain ⟨x, hx⟩ : ∃ x, P[k]? = some x := ⟨_, List.getElem?_eq_getElem hlt⟩
      obtain ⟨b, off, hA, hbl2, c0, c1, c2, c3⟩ := HC.out k x hx
      rw [← HB.out.cell (p := ⟨b, _, none⟩) hbl2] at c0 c1 c2 c3
      subst hA
      have HX := Lib.hid hx
      clear hx
      by_cases hi : x.id = i
      · have hG : G = .tuple #[prV x, .bool true] := by rw [← HG.out, getV, first_some P k x i HX.out HF.out hi]
        subst hG
        have hib : (x.id == i) = true := by simpa using hi
        have HI := Lib.hid hi
        clear hi
        obtain ⟨⟨d0, d1, d2, d3⟩, f0, f1, f2, f3⟩ := four_cells HBX.out
        clear HG HF HX
        go_wp2
        refine bodyPost_ret (v := .tuple #[prV x, .bool true]) ?_ rfl ⟨rfl, ?_⟩
        · simp [results, Tryd.results18, go_sem, d0, d1, d2, d3, hlt0]
        · exact ((((HB.out.setCell (Nat.le_refl _) _).setCell (Nat.le_refl _) _).setCell (Nat.le_refl _) _).setCell (Nat.le_refl _) _).alloc (by simpa [World.setCell] using hz) _
      · have hib : (x.id == i) = false := by simpa using hi
        have HN := Lib.hid (first_none P k x i HX.out HF.out hi)
        clear HX HF
        go_wp2
        go_roundw
        case rel => exact ⟨k + 1, by omega, by go_num, HN.out, (Below.heap_alloc _ _ _ hlt0).trans HBX.out, HB.out.alloc hz _⟩
        case measure => simp [intOf]; omega
    · obtain rfl : k = P.length := by omega
      have hf2 := HF.out
      rw [List.take_length] at hf2
      have hG : G = .tuple #[.agg #[.int .i64 0, .int .u32 0, .string ⟨#[]⟩, .string ⟨#[]⟩], .bool false] := by rw [← HG.out, getV, hf2]
      subst hG
      obtain ⟨⟨d0, d1, d2, d3⟩, f0, f1, f2, f3⟩ := four_cells HBX.out
      clear HG HF hf2 HC
      go_wp2
      refine bodyPost_ret (v := .tuple #[.agg #[.int .i64 0, .int .u32 0, .string ⟨#[]⟩, .string ⟨#[]⟩], .bool false]) ?_ rfl ⟨rfl, ?_⟩
      · simp [results, Tryd.results18, go_sem, d0, d1, d2, d3]
      · exact (((HB.out.setCell (Nat.le_refl _) _).setCell (Nat.le_refl _) _).setCell (Nat.le_refl _) _).setCell (Nat.le_refl _) _

/-- What Num answers. -/
def numP (P : List Pr) (i o : Int) : Int := match firstP P i with
  | some p => p.n
  | none => o

theorem num_calls (w : World) (v : Value) (P : List Pr) (i o : Int) (hP : PropsAt w v P) (hn : P.length ≤ 1000000) :
    Calls Tryd.prog 19 #[v, .int .i64 i, .int .u32 o] w fun e w' => e = .returned (.int .u32 (numP P i o)) ∧ Below w.heap.size w w' := by
  have hg := get_calls w v P i hP hn
  unfold getV at hg
  unfold numP
  cases hf : firstP P i with
  | some p =>
    rw [hf] at hg
    dsimp only at hg ⊢
    obtain ⟨a, b, c, d⟩ := p
    have HG := Lib.hid hg
    clear hg hf hP hn
    go_enter Tryd.func19, Tryd.ntmps19
    go_wp2_with fail
    refine HG.out.mono ?_
    rintro e w1 ⟨rfl, hb⟩
    have HB := Lib.hid hb
    clear hb
    go_wp2
    go_ret
    exact ⟨rfl, HB.out.alloc HB.out.size _⟩
  | none =>
    rw [hf] at hg
    dsimp only at hg ⊢
    have HG := Lib.hid hg
    clear hg hf hP hn
    go_enter Tryd.func19, Tryd.ntmps19
    go_wp2_with fail
    refine HG.out.mono ?_
    rintro e w1 ⟨rfl, hb⟩
    have HB := Lib.hid hb
    clear hb
    go_wp2
    go_ret
    exact ⟨rfl, HB.out.alloc HB.out.size _⟩

#print axioms num_calls
end Go.Proofs.YtmkajnephkaamaaDoor
