/-
  The document's aliases: Name. (No statement: contracts that the proofs of the statements use.)
-/
import Derived.Test.YtnpkiknidmhciaaDoorJAli6
import Derived.Test.YtnpkiknidmhciaaDoorJPropsB
import Derived.Deep.AppendLies
import Derived.Deep.Upon
namespace Go.Proofs.YtnpkiknidmhciaaDoor
open Go.RowKit Go.Maps

/-- The first alias among the first k properties; is there one? -/
def fstN (P : List Pr) : Int := match firstP P 35 with
  | some p => p.n
  | none => 0
def fstB (P : List Pr) : Bool := (firstP P 35).isSome

theorem fst_step (P : List Pr) (k : Nat) (hk : k < P.length) : fstN (P.take (k + 1)) = (if fstB (P.take k) = true then fstN (P.take k) else if P[k].id = 35 then P[k].n else 0) ∧ fstB (P.take (k + 1)) = (fstB (P.take k) || decide (P[k].id = 35)) := by
  unfold fstN fstB firstP
  rw [List.take_succ_eq_append_getElem hk, List.find?_append]
  cases (P.take k).find? fun p => p.id == 35 with
  | some p => simp
  | none =>
    by_cases h : P[k].id = 35
    · simp [h]
    · simp [h]

theorem fst_zero (P : List Pr) : (if fstB P = true then fstN P else 0) = fstN P := by
  unfold fstB fstN
  cases firstP P 35 <;> rfl

def oneE (x : Int × List UInt8) : List Value := [.int .u32 x.1, .string (str x.2)]
theorem oneE_len (L : List (Int × List UInt8)) : (L.flatMap oneE).length = L.length * 2 := by
  induction L with
  | nil => rfl
  | cons x r ih => simp [List.flatMap_cons, ih, oneE]; omega
theorem oneE_at : ∀ (P : List (Int × List UInt8)) (i k : Nat), k < 2 → (P.flatMap oneE)[i * 2 + k]? = (P[i]?).bind fun p => (oneE p)[k]?
  | [], i, k, _ => by simp
  | p :: P, 0, k, hk => by
    rw [List.flatMap_cons, List.getElem?_append_left (by simp [oneE]; omega)]
    simp
  | p :: P, i + 1, k, hk => by
    rw [List.flatMap_cons, List.getElem?_append_right (by simp [oneE]; omega)]
    have : (i + 1) * 2 + k - (oneE p).length = i * 2 + k := by simp [oneE]; omega
    rw [this, oneE_at P i k hk]
    simp
theorem oneE_one (L : List (Int × List UInt8)) : ∀ u ∈ L.flatMap oneE, u.oneCell' = true := fun u hu => by
  obtain ⟨x, _, hx⟩ := List.mem_flatMap.1 hu
  simp [oneE] at hx
  rcases hx with rfl | rfl <;> rfl
/-- The cells of a list that came. -/
theorem OnesAt.news {W : World} {b off cap n : Nat} {L : List (Int × List UInt8)} (h : OnesAt W (.slice (some ⟨b, off, none⟩) n cap) L) : ∀ j u, (L.flatMap oneE)[j]? = some u → W.cell? ((⟨b, off, none⟩ : Addr).add j) = some u := by
  obtain ⟨A, cap', hv, _, hc⟩ := h
  injection hv with hA _ _
  subst hA
  intro j u hj
  have hlt := (List.getElem?_eq_some_iff.1 hj).1
  rw [oneE_len] at hlt
  have e2 : j = j / 2 * 2 + j % 2 := by omega
  rw [e2, oneE_at L (j / 2) (j % 2) (by omega), List.getElem?_eq_getElem (by omega : j / 2 < L.length)] at hj
  obtain ⟨b', off', hA', _, c0, c1⟩ := hc (j / 2) _ (List.getElem?_eq_getElem (by omega))
  injection hA' with hA'
  injection hA' with hb ho _
  subst hb ho
  rw [Addr.add_lit]
  rcases Nat.mod_two_eq_zero_or_one j with h0 | h0
  · rw [h0] at hj
    simp [oneE] at hj
    rw [← hj, show off + j = off + j / 2 * 2 by omega]
    exact c0
  · rw [h0] at hj
    simp [oneE] at hj
    rw [← hj, show off + j = off + j / 2 * 2 + 1 by omega]
    exact c1
theorem OnesAt.of_own {W : World} {B : Nat} {v : Value} {L : List (Int × List UInt8)} (h : W.ownsRow B 44 2 v L.length (L.flatMap oneE)) : OnesAt W v L := by
  rcases h.2 with ⟨rfl, h0⟩ | ⟨g, cap, cur, rfl, _, hg, hle, _⟩
  · obtain rfl : L = [] := List.eq_nil_of_length_eq_zero h0
    exact OnesAt.nil W
  · refine ⟨some ⟨g, 0, none⟩, cap, rfl, hle, fun i x hx => ?_⟩
    have hi := (List.getElem?_eq_some_iff.1 hx).1
    refine ⟨g, 0, rfl, lt_of_block hg, ?_, ?_⟩
    · have := h.cellAt (i * 2 + 0) (by omega)
      rw [oneE_at L i 0 (by omega), hx] at this
      simpa [oneE] using this
    · have := h.cellAt (i * 2 + 1) (by omega)
      rw [oneE_at L i 1 (by omega), hx] at this
      simpa [oneE] using this

theorem Tryd.infoROne17 : (Tryd.prog.info? 44).map (fun i => (i.zero, i.size, i.bytes)) = some (some (.agg #[.int .u32 0, .string ⟨#[]⟩]), 2, 24) := by kernel_rfl

theorem ones_empty (w : World) (B : Nat) (hB : B ≤ w.heap.size) : (w.alloc (.cells #[] 44)).ownsRow B 44 2 (.slice (some ⟨w.heap.size, 0, none⟩) 0 0) 0 [] :=
  ⟨rfl, .inr ⟨w.heap.size, 0, #[], rfl, hB, heap_alloc_new w _, Nat.le_refl _, Nat.zero_le _, rfl, rfl⟩⟩

/-- append([]One{}, l...). -/
theorem run_append_ones (w : World) (ty : TypeId) (base g0 : Nat) (v : Value) (X : List (Int × List UInt8)) (hown : w.ownsRow base 44 2 (.slice (some ⟨g0, 0, none⟩) 0 0) 0 []) (hv : OnesAt w v X) (hl : X.length ≤ 1000000) (hb : base ≤ w.heap.size) :
    ∃ v' w', (Builtin.append_ #[26, 26] ty #[.slice (some ⟨g0, 0, none⟩) 0 0, v]).run Tryd.prog w = .ok v' w' ∧ w'.ownsRow base 44 2 v' X.length (X.flatMap oneE) ∧ w.grownBy w' (some g0) := by
  obtain ⟨i0, hi, hz0, hz1, hz2⟩ := info_parts Tryd.infoROne17
  have hv' := hv
  obtain ⟨A, cap, rfl, hle, hc⟩ := hv
  cases X with
  | nil =>
    have hsrc : Src Tryd.prog i0.size 26 (.slice A 0 cap) 0 [] w := by
      cases A with
      | none => exact Src.ofNil w Tryd.underlying26 cap
      | some a => exact Src.ofSlice w Tryd.underlying26 a 0 cap [] (by simp) (fun j u h => by simp at h) (fun u h => by cases h)
    exact ⟨_, w, run_append_nothing w 26 26 ty 44 i0 Tryd.underlying26 hi _ 0 0 (Nat.le_refl _) _ hsrc, hown, ⟨rfl, rfl, rfl, Nat.le_refl _, fun _ _ _ => rfl⟩⟩
  | cons x X =>
    obtain ⟨b, off, rfl, _⟩ := hc 0 x rfl
    obtain ⟨v', w', hr, h2, h3, _, _⟩ := run_append_own_at (P := Tryd.prog) w base 26 ty 44 i0 (.agg #[.int .u32 0, .string ⟨#[]⟩]) 2 24 Tryd.underlying26 hi hz0 hz1 hz2 rfl (by decide) _ 0 [] hown ⟨b, off, none⟩ (x :: X).length cap ((x :: X).flatMap oneE) (oneE_len _) hv'.news (oneE_one _) (by unfold maxLen; omega) (by omega) hb
    refine ⟨v', w', hr, ?_, h3⟩
    rw [Nat.zero_add, List.nil_append] at h2
    exact h2

/-- At a plain region's list. -/
theorem wpList_append_ones {ops : Array Oper} {rest : List Oper} {o : Oper} {a : Act} {Q : Exit → Act → World → Prop} (w : World) (hgd : o.guard = none) (s x : Operand)
    (ho : o.op = .call { callee := .builtin .append, args := #[s, x], argTypes := #[26, 26] }) (base g0 : Nat) (v : Value) (X : List (Int × List UInt8))
    (hs : a.eval s = .slice (some ⟨g0, 0, none⟩) 0 0) (hx : a.eval x = v) (hown : w.ownsRow base 44 2 (.slice (some ⟨g0, 0, none⟩) 0 0) 0 []) (hv : OnesAt w v X) (hl : X.length ≤ 1000000) (hb : base ≤ w.heap.size)
    (h : ∀ v' w', w'.ownsRow base 44 2 v' X.length (X.flatMap oneE) → w.grownBy w' (some g0) → wpList Tryd.prog ops Q rest (a.put o.dst v') w') :
    wpList Tryd.prog ops Q (o :: rest) a w := by
  refine wpList_plain hgd fun K hK => ?_
  obtain ⟨v', w', hr, h2, h3⟩ := run_append_ones w o.type base g0 v X hown hv hl hb
  unfold Oper.wp execOp
  simp only [ho, resolve, invoke, builtin, Sem.run_bind, Sem.run_pure, Result.andThen_ok, List.map_toArray, List.map_cons, List.map_nil, hs, hx, hr]
  exact hK _ _ (h _ _ h2 h3)

theorem two_news (V : World) (c0 c1 : Value) (e : TypeId) : ∀ j u, [c0, c1][j]? = some u → (V.alloc (.cells #[c0, c1] e)).cell? ((⟨V.heap.size, 0, none⟩ : Addr).add j) = some u := World.news_of_block (heap_alloc_new V _)

/-- What the document's Name answers. -/
def R17 (w : World) (L2 : List (Int × List UInt8)) (es : List UInt8) (ec : Int) (e : Ending) (w' : World) : Prop :=
  ∃ v', e = .returned (.tuple #[v', .string (str es), .int .i64 ec]) ∧ OnesAt w' v' L2 ∧ Below w.heap.size w w'

set_option maxRecDepth 100000 in
set_option maxHeartbeats 2000000 in
theorem r17name_calls (w : World) (v : Value) (L : List (Int × List UInt8)) (most : Int) (T : List UInt8) (pv : Value) (P : List Pr) (hL : OnesAt w v L) (hn : L.length ≤ 1000000) (hP : PropsAt w pv P) (hpn : P.length ≤ 1000000) (hT : T.length ≤ 70000)
    (b : Bool) (n : Int) (hb : fstB P = b) (hnn : fstN P = n) (n0 : 0 ≤ n) (n1 : n < 4294967296) (L2 : List (Int × List UInt8)) (es : List UInt8) (ec : Int) (hE : nmE most L (if b = true then some n else none) T = (es, ec)) (hL2 : nmL most L (if b = true then some n else none) T = L2) :
    Calls Tryd.prog 18 #[v, .string (str T), pv, .int .u32 most] w (R17 w L2 es ec) := by
  have HLL := Lib.hid hL
  have HB := Lib.hid hb
  have HN := Lib.hid hnn
  have HE := Lib.hid hE
  have HL2 := Lib.hid hL2
  have HTL := Lib.hid hT
  obtain ⟨Ap, capp, rfl, hpc⟩ := hP
  have HPC := Lib.hid hpc
  have hgc := fun W (h : Below w.heap.size w W) => r17get_calls W v L n (hL.below h) hn
  have hnc := fun W => r10name_calls W T hT
  have hem := empty_str T
  have HGC := Lib.hid hgc
  have HNC := Lib.hid hnc
  obtain ⟨i0, hi, hz0, hz1, hz2⟩ := info_parts Tryd.infoROne17
  clear hpc hb hnn hE hL2 hT hgc hnc hL
  obtain ⟨s, hs⟩ : ∃ s, str T = s := ⟨_, rfl⟩
  rw [hs] at hem HNC ⊢
  have HS := Lib.hid hs
  clear hs
  go_enter Tryd.func18, Tryd.ntmps18
  go_wp2
  go_loopw [11, 12, 19] (fun x y j wr => ∃ k : Nat, k ≤ P.length ∧ j = .int .i64 k ∧ x = .int .u32 (fstN (P.take k)) ∧ y = .bool (fstB (P.take k)) ∧ Below w.heap.size w wr) (fun _ _ j _ => P.length - (intOf j).toNat)
  case atStart => exact ⟨0, by omega, rfl, rfl, rfl, Below.refl _ _⟩
  case round =>
    obtain ⟨k, hk, rfl, rfl, rfl, hbl⟩ := hrel
    have HBL := Lib.hid hbl
    clear hbl
    by_cases hlt : k < P.length
    · obtain ⟨pb, off, hA, hpl, c0, c1, c2, c3⟩ := HPC.out k _ (List.getElem?_eq_getElem hlt)
      subst hA
      have d0 := (HBL.out.cell (p := ⟨pb, off + k * 4, none⟩) hpl).trans c0
      have d1 := (HBL.out.cell (p := ⟨pb, off + k * 4 + 1, none⟩) hpl).trans c1
      have d2 := (HBL.out.cell (p := ⟨pb, off + k * 4 + 2, none⟩) hpl).trans c2
      have d3 := (HBL.out.cell (p := ⟨pb, off + k * 4 + 3, none⟩) hpl).trans c3
      obtain ⟨f1, f2⟩ := fst_step P k hlt
      have f1z := fst_zero (P.take k)
      have HB2 := Lib.hid (HBL.out.alloc HBL.out.size (.cells #[.int .i64 P[k].id, .int .u32 P[k].n, .string P[k].s, .string P[k].t] 138))
      clear c0 c1 c2 c3 HBL
      generalize fstN (P.take k) = N1 at *
      generalize fstB (P.take k) = B1 at *
      generalize P[k].s = ps at *
      generalize P[k].t = pt at *
      generalize P[k].n = pn at *
      by_cases hid : P[k].id = 35
      · rw [hid] at f1 f2 d0 HB2
        rw [if_pos rfl] at f1
        rw [decide_eq_true rfl, Bool.or_true] at f2
        cases B1 with
        | true =>
          rw [if_pos rfl] at f1
          have F1 := Lib.hid f1
          have F2 := Lib.hid f2
          clear f1 f2
          go_wp2
          go_roundw
          case rel => exact ⟨k + 1, by omega, by go_num, by rw [F1.out], by rw [F2.out], HB2.out⟩
          case measure => simp [intOf]; omega
        | false =>
          rw [if_neg (by decide)] at f1
          have F1 := Lib.hid f1
          have F2 := Lib.hid f2
          clear f1 f2
          go_wp2
          go_roundw
          case rel => exact ⟨k + 1, by omega, by go_num, by rw [F1.out], by rw [F2.out], HB2.out⟩
          case measure => simp [intOf]; omega
      · rw [if_neg hid] at f1
        rw [decide_eq_false hid, Bool.or_false] at f2
        rw [f1z] at f1
        have F1 := Lib.hid f1
        have F2 := Lib.hid f2
        clear f1 f2 f1z
        generalize P[k].id = pid at *
        go_wp2
        go_roundw
        case rel => exact ⟨k + 1, by omega, by go_num, by rw [F1.out], by rw [F2.out], HB2.out⟩
        case measure => simp [intOf]; omega
    · obtain rfl : k = P.length := by omega
      rw [List.take_length, HB.out, HN.out]
      clear HB HN HPC
      have HD := HBL.out
      have HLE := HLL.out.below HD
      cases b with
      | true =>
        by_cases hr : 1 ≤ n ∧ n ≤ most
        · by_cases ht : T = []
          · have hE2 := HE.out
            have hL22 := HL2.out
            simp only [if_true, nmE, nmL, if_pos hr, if_pos ht, if_neg (fun h : (1 ≤ n ∧ n ≤ most) ∧ T ≠ [] ∧ nameB T = true => h.2.1 ht)] at hE2 hL22
            subst hL22
            rw [ht] at hem
            have hem : s.toList.isEmpty = true := hem
            have HE2 := Lib.hid hE2
            clear HE HL2 hE2
            go_wp2_with fail
            refine (HGC.out _ HD).mono ?_
            rintro _ w2 ⟨rfl, hb2⟩
            have HB2 := Lib.hid (HD.trans (hb2.mono HD.size))
            cases hg : getL L n with
            | none =>
              have hE3 := HE2.out
              rw [hg] at hE3
              have hE3 : (([] : List UInt8), (3 : Int)) = (es, ec) := hE3
              injection hE3 with he1 he2
              subst he1 he2
              simp only [Option.getD_none, Option.isSome_none]
              go_wp2
              all_goals go_ret3
              all_goals exact ⟨_, rfl, HLL.out.below HB2.out, HB2.out⟩
            | some kt =>
              have hE3 := HE2.out
              rw [hg] at hE3
              have hE3 : (kt, (0 : Int)) = (es, ec) := hE3
              injection hE3 with he1 he2
              subst he1 he2
              simp only [Option.getD_some, Option.isSome_some]
              go_wp2
              all_goals go_ret3
              all_goals exact ⟨_, rfl, HLL.out.below HB2.out, HB2.out⟩
          · have hem : s.toList.isEmpty = false := by rw [hem, decide_eq_false ht]
            have hHE := HE.out
            have hHL2 := HL2.out
            simp only [if_true, nmE, nmL, if_pos hr, if_neg ht] at hHE hHL2
            have HE2 := Lib.hid hHE
            have HL22 := Lib.hid hHL2
            have HR := Lib.hid hr
            clear HE HL2 hHE hHL2
            go_wp2_with fail
            refine (HNC.out _).mono ?_
            rintro _ w2 ⟨rfl, hb2⟩
            have HB2 := Lib.hid (HD.trans (hb2.mono HD.size))
            cases hnb : nameB T with
            | false =>
              have hE3 := HE2.out
              have hL3 := HL22.out
              rw [hnb, if_neg (by decide)] at hE3
              rw [hnb, if_neg (fun h : (1 ≤ n ∧ n ≤ most) ∧ T ≠ [] ∧ false = true => Bool.noConfusion h.2.2)] at hL3
              injection hE3 with he1 he2
              subst he1 he2 hL3
              clear HE2 HL22
              go_wp2
              all_goals go_ret3
              all_goals exact ⟨_, rfl, HLL.out.below HB2.out, HB2.out⟩
            | true =>
              have hE3 := HE2.out
              have hL3 := HL22.out
              rw [hnb, if_pos rfl] at hE3
              rw [hnb, if_pos ⟨HR.out, ht, rfl⟩] at hL3
              injection hE3 with he1 he2
              subst he1 he2 hL3
              clear HE2 HL22
              have BA := Lib.hid (show Below w.heap.size w (w2.alloc (.cells #[] 44)) from HB2.out.alloc HB2.out.size (.cells #[] 44))
              have EA := Lib.hid (show (w2.alloc (.cells #[] 44)).ownsRow w2.heap.size 44 2 (.slice (some ⟨w2.heap.size, 0, none⟩) 0 0) 0 [] from ones_empty w2 _ (Nat.le_refl _))
              have PA := Lib.hid (HLL.out.below BA.out)
              have HOWNX := Lib.hid (show ∀ (V : World) (u : Value), V.ownsRow w2.heap.size 44 2 u (L.length + 1) (L.flatMap oneE ++ [.int .u32 n, .string s]) → OnesAt V u (L ++ [(n, T)]) from fun V u h => by
                have e1 : (L ++ [(n, T)]).length = L.length + 1 := by simp
                have e2 : (L ++ [(n, T)]).flatMap oneE = L.flatMap oneE ++ [.int .u32 n, .string s] := by simp [oneE, HS.out]
                rw [← e1, ← e2] at h
                exact OnesAt.of_own h)
              have hw2 := HB2.out.size
              go_wp2_with (first
                | (at_builtin; refine wpList_append_ones (w2.alloc (.cells #[] 44)) rfl (.tmp 66) (.tmp 67) rfl w2.heap.size w2.heap.size v L rfl rfl EA.out PA.out (by omega) (by simp) ?_; intro v1 V1 hown hgrow; have OO := Lib.hid hown; have OB := Lib.hid (World.ownsRow.alloc OO.out (.cells #[.int .u32 n, .string s] 44)); have BV := Lib.hid (BA.out.grown hgrow (by simp; omega) (fun g hg => by injection hg with hg; omega)); have hzv := hgrow.size; have hzw := BV.out.size; clear hown hgrow)
                | (at_builtin; refine wpList_append_own_at _ rfl _ _ 26 rfl w2.heap.size 44 i0 (.agg #[.int .u32 0, .string ⟨#[]⟩]) 2 24 Tryd.underlying26 hi hz0 hz1 hz2 rfl (by decide) _ _ _ rfl OB.out ⟨V1.heap.size, 0, none⟩ 1 1 [.int .u32 n, .string s] rfl rfl (two_news V1 _ _ _) (by simp [Value.oneCell']) (by unfold maxLen; omega) (by omega) (by simp at hzv ⊢; omega) ?_; intro v2 V2 hown hgrow _ _; have P9 := Lib.hid (HOWNX.out _ _ hown); have B9 := Lib.hid ((BV.out.alloc hzw _).grown hgrow (by simp; omega) (fun g hg => by have := (World.ownsRow.lt OO.out g hg).1; omega)); clear hown hgrow)
                | fail)
              all_goals go_ret3
              all_goals rw [← HS.out]
              all_goals exact ⟨_, rfl, P9.out, B9.out⟩
        · have hE2 := HE.out
          have hL22 := HL2.out
          simp only [if_true, nmE, nmL, if_neg hr, if_neg (fun h : (1 ≤ n ∧ n ≤ most) ∧ T ≠ [] ∧ nameB T = true => hr h.1)] at hE2 hL22
          injection hE2 with he1 he2
          subst he1 he2 hL22
          clear HE HL2
          go_wp2
          all_goals go_ret3
          all_goals exact ⟨_, rfl, HLE, HD⟩
      | false =>
        by_cases ht : T = []
        · have hE2 := HE.out
          have hL22 := HL2.out
          simp only [if_neg (show ¬ (false = true) by decide), nmE, nmL, if_pos ht] at hE2 hL22
          injection hE2 with he1 he2
          subst he1 he2 hL22
          rw [ht] at hem
          have hem : s.toList.isEmpty = true := hem
          clear HE HL2
          go_wp2_with fail
          refine (HGC.out _ HD).mono ?_
          rintro _ w2 ⟨rfl, hb2⟩
          have HB2 := Lib.hid (HD.trans (hb2.mono HD.size))
          generalize (getL L n).getD [] = q1
          generalize (getL L n).isSome = q2
          go_wp2
          all_goals go_ret3
          all_goals exact ⟨_, rfl, HLL.out.below HB2.out, HB2.out⟩
        · have hem : s.toList.isEmpty = false := by rw [hem, decide_eq_false ht]
          have hHE := HE.out
          have hHL2 := HL2.out
          simp only [if_neg (show ¬ (false = true) by decide), nmE, nmL, if_neg ht] at hHE hHL2
          subst hHL2
          have HE2 := Lib.hid hHE
          clear HE HL2 hHE
          go_wp2_with fail
          refine (HNC.out _).mono ?_
          rintro _ w2 ⟨rfl, hb2⟩
          have HB2 := Lib.hid (HD.trans (hb2.mono HD.size))
          cases hnb : nameB T with
          | false =>
            have hE3 := HE2.out
            rw [hnb, if_neg (by decide)] at hE3
            injection hE3 with he1 he2
            subst he1 he2
            clear HE2
            go_wp2
            all_goals go_ret3
            all_goals exact ⟨_, rfl, HLL.out.below HB2.out, HB2.out⟩
          | true =>
            have hE3 := HE2.out
            rw [hnb, if_pos rfl] at hE3
            injection hE3 with he1 he2
            subst he1 he2
            clear HE2
            go_wp2
            all_goals go_ret3
            all_goals rw [← HS.out]
            all_goals exact ⟨_, rfl, HLL.out.below HB2.out, HB2.out⟩

end Go.Proofs.YtnpkiknidmhciaaDoor
