/-
  Aliases: any publishes that came in; the document's list beside the table. (No statement: contracts that the proofs of the statements use.)
-/
import Derived.Test.YtnpkiknidmhciaaDoorJAli7
namespace Go.Proofs.YtnpkiknidmhciaaDoor
open Go.RowKit Go.Maps Go.ChangeShapes Go.WideShapes Go.Deep

/-- Publishes that came in: the topic, the aliases. -/
def AOnesIn (W : World) (v : Value) (X : List (List UInt8 × List Int)) : Prop :=
  ∃ A cap, v = .slice A X.length cap ∧ X.length ≤ maxLen ∧ ∀ (i : Nat) (e : List UInt8 × List Int), X[i]? = some e → ∃ b off u, A = some ⟨b, off, none⟩ ∧ b < W.heap.size ∧
    W.cell? ⟨b, off + i * 2, none⟩ = some (.string (str e.1)) ∧ W.cell? ⟨b, off + i * 2 + 1, none⟩ = some u ∧ N32At W u e.2 ∧ e.1.length ≤ maxLen

set_option maxRecDepth 100000 in
theorem open_cellsA {H : Type} {enc : TypeId × Value → H} {W : World} {t e : TypeId} {fs : Array Field} {v : Value} {d : DataW H} {p : List MemPlace} (ht : Tryd.prog.underlying t = some (.slice e)) (he : Tryd.prog.underlying e = some (.struct fs))
    (hone : oneCellFields Tryd.prog fs = true) (hC : Tryd.prog.cellsOf e = fs.size) {base : Nat} (hv : Value.okWide Tryd.prog W .any base t v) (h : DataW.Trod enc Tryd.prog W 0 (fun _ => true) true t v d p) :
    ∃ A len cap, v = .slice A len cap ∧ len ≤ cap ∧ cap ≤ maxLen ∧ ∀ i, i < len → ∃ ad, A = some ad ∧ ∀ (j : Nat) (f : Field), fs[j]? = some f →
      ∃ u n y, W.cell? (ad.add (i * fs.size + j)) = some u ∧ DataW.trod enc Tryd.prog W 0 (fun _ => true) true n f.type [u] = some y := by
  obtain ⟨A, len, cap, rfl⟩ := okWide_slice ht hv
  obtain ⟨fuel, hf⟩ := h
  rcases open_slice ht hf with ⟨hcs, _⟩ | ⟨ad, l, c, m, n, D, Pl, hcs, _, hl, hm, hmm, _, hall⟩
  · simp [Value.cells] at hcs
    obtain ⟨rfl, rfl, rfl⟩ := hcs
    exact ⟨none, 0, 0, rfl, Nat.le_refl _, Nat.zero_le _, fun i hi => absurd hi (Nat.not_lt_zero _)⟩
  · simp [Value.cells] at hcs
    obtain ⟨rfl, rfl, rfl⟩ := hcs
    simp only [if_true] at hmm
    refine ⟨some ad, len, cap, rfl, hl, hm, fun i hi => ⟨ad, rfl, fun j f hj => ?_⟩⟩
    obtain ⟨cs, hc, htr⟩ := hall i (by omega)
    rw [hC] at hc
    obtain ⟨xs, k, _, _, _, hxl, hfields⟩ := DataW.trod_struct he htr
    obtain ⟨_, hlen, hat⟩ := World.cells?_some hc
    obtain ⟨hoff, hone1⟩ := hone_of hone j f hj
    have hjs : j < fs.size := (Array.getElem?_eq_some_iff.1 hj).1
    have h1 := hfields j f hj
    rw [hoff, hone1] at h1
    obtain ⟨u, hu⟩ : ∃ u, cs[j]? = some u := ⟨_, List.getElem?_eq_getElem (show j < cs.length by omega)⟩
    have e1 : (cs.drop j).take 1 = [u] := by
      rw [List.drop_eq_getElem_cons (show j < cs.length by omega), List.take_succ_cons, List.take_zero, (List.getElem?_eq_some_iff.1 hu).2]
    rw [e1] at h1
    exact ⟨u, k, _, by rw [← add_add, hat j hjs, hu], h1.trans (List.getElem?_eq_getElem (show j < xs.length by omega))⟩

/-- A cell that holds a slice of numbers. -/
theorem n32_cell {H : Type} {enc : TypeId × Value → H} {W : World} {u : Value} {n : Nat} {y : DataW H × List MemPlace} (h : DataW.trod enc Tryd.prog W 0 (fun _ => true) true n 33 [u] = some y) : ∃ zs, N32At W u zs := by
  rcases open_ints Tryd.underlying33 Tryd.underlying22 (by kernel_rfl) h with ⟨hcs, _⟩ | ⟨ad, len, cap, zs, hcs, _, hl, hm, hzl, _, hall, hwf⟩
  · simp only [List.cons.injEq, and_true] at hcs
    subst hcs
    exact ⟨[], N32At.nil W⟩
  · simp only [List.cons.injEq, and_true] at hcs
    subst hcs
    simp only [if_true] at hzl
    have htl : (zs.take len).length = len := by rw [List.length_take]; omega
    refine ⟨zs.take len, some ad, cap, by rw [htl], by omega, fun i hi => ?_⟩
    rw [htl] at hi
    have hc := hall i (by omega)
    obtain ⟨b, off, spot⟩ := ad
    have hsp : spot = none := by
      have := World.cell?_spot (hall 0 (by omega))
      simpa [Addr.add] using this
    subst hsp
    have hx : zs.getD i 0 ∈ zs := by
      rw [List.getD_eq_getElem?_getD, List.getElem?_eq_getElem (show i < zs.length by omega)]
      exact List.getElem_mem _
    have hb := bounds_u32 (hwf _ hx)
    have hg : (zs.take len).getD i 0 = zs.getD i 0 := by
      rw [List.getD_eq_getElem?_getD, List.getElem?_take, if_pos hi, List.getD_eq_getElem?_getD]
    rw [Addr.add_lit] at hc
    exact ⟨b, off, rfl, World.block_lt_of_cell? W _ hc, by rw [hg]; exact hc, by rw [hg]; exact hb.1, by rw [hg]; exact Int.lt_of_le_of_lt hb.2 (by decide)⟩

set_option maxRecDepth 100000 in
theorem open_aonesIn {H : Type} {enc : TypeId × Value → H} {W : World} {v : Value} {d : DataW H} {p : List MemPlace} {base : Nat} (hv : Value.okWide Tryd.prog W .any base 23 v) (h : DataW.Trod enc Tryd.prog W 0 (fun _ => true) true 23 v d p) :
    ∃ X, AOnesIn W v X := by
  obtain ⟨A, len, cap, rfl, hl, hm, hall⟩ := open_cellsA (e := 35) Tryd.underlying23 Tryd.underlying35 (by kernel_rfl) (by kernel_rfl) hv h
  obtain ⟨f, hf⟩ := choose_lt (α := List UInt8 × List Int) (n := len) (p := fun i e => ∃ b off u, A = some ⟨b, off, none⟩ ∧ b < W.heap.size ∧
    W.cell? ⟨b, off + i * 2, none⟩ = some (.string (str e.1)) ∧ W.cell? ⟨b, off + i * 2 + 1, none⟩ = some u ∧ N32At W u e.2 ∧ e.1.length ≤ maxLen) (by
    intro i hi
    obtain ⟨ad, rfl, hc⟩ := hall i hi
    obtain ⟨u0, n0, y0, c0, t0⟩ := hc 0 _ rfl
    obtain ⟨u1, n1, y1, c1, t1⟩ := hc 1 _ rfl
    obtain ⟨s, e0, _, hs⟩ := DataW.trod_string Tryd.underlying9 t0
    obtain ⟨zs, hz⟩ := n32_cell t1
    simp only [List.cons.injEq, and_true] at e0
    subst e0
    obtain ⟨b, off, spot⟩ := ad
    have hsp : spot = none := by
      obtain ⟨ad', ea, hc'⟩ := hall 0 (by omega)
      injection ea with ea
      subst ea
      obtain ⟨u', _, _, c', _⟩ := hc' 0 _ rfl
      simpa [Addr.add] using World.cell?_spot c'
    subst hsp
    simp only [Addr.add_lit] at c0 c1
    refine ⟨(s.data.toList, zs), b, off, u1, rfl, World.block_lt_of_cell? W _ c0, ?_, c1, hz, ?_⟩
    · rw [← ba_str]; exact c0
    · have e := str_size s.data.toList
      rw [← ba_str] at e
      exact e ▸ hs)
  refine ⟨(List.range len).map f, A, cap, by simp, by simp; omega, fun i x hx => ?_⟩
  simp only [List.getElem?_map, Option.map_eq_some_iff] at hx
  obtain ⟨i', hi', rfl⟩ := hx
  obtain ⟨hlt, he⟩ := List.getElem?_eq_some_iff.1 hi'
  simp at hlt he
  subst he
  exact hf i hlt

/-- The document's list lies beside the table. -/
theorem OnesAt.moved {W W' : World} {v : Value} {L L' : List (Int × List UInt8)} {p b c : Nat} {most : Int} (h : OnesAt W v L) (ha : AlAt W p b most L' c) (hm : Moved W W' p b) : OnesAt W' v L := by
  obtain ⟨A, cap, rfl, hl, hc⟩ := h
  refine ⟨A, cap, rfl, hl, fun i x hx => ?_⟩
  obtain ⟨g, off, hA, hg, c0, c1⟩ := hc i x hx
  have hp : g ≠ p := by
    rintro rfl
    simp [World.cell?, ha.cells] at c1
    generalize off + i * 2 = n at c1
    cases n <;> simp at c1
  have hb : g ≠ b := by
    rintro rfl
    obtain ⟨D, ⟨es, clock, h1, _⟩, _⟩ := ha.top
    simp [World.cell?, h1] at c0
  have hk := hm.block g hg hp hb
  exact ⟨g, off, hA, Nat.lt_of_lt_of_le hg hm.size, (World.cell?_of_block hk).trans c0, (World.cell?_of_block hk).trans c1⟩

theorem nmL_len (most : Int) (L : List (Int × List UInt8)) (fp : Option Int) (T : List UInt8) : (nmL most L fp T).length ≤ L.length + 1 := by
  unfold nmL
  cases fp with
  | none => simp
  | some n =>
    dsimp only
    by_cases h : (1 ≤ n ∧ n ≤ most) ∧ T ≠ [] ∧ nameB T = true
    · rw [if_pos h]; simp
    · rw [if_neg h]; simp

/-- The document's Name of a publish that is made. -/
theorem r17name_made (w : World) (v : Value) (L : List (Int × List UInt8)) (most : Int) (T : List UInt8) (pv : Value) (zs : List Int) (hL : OnesAt w v L) (hn : L.length ≤ 1000000) (hP : PropsAt w pv (alPs zs)) (hT : T.length ≤ 70000) (hz : ∀ n ∈ zs, 0 ≤ n ∧ n < 4294967296) :
    Calls Tryd.prog 18 #[v, .string (str T), pv, .int .u32 most] w (R17 w (nmL most L zs.head? T) (nmE most L zs.head? T).1 (nmE most L zs.head? T).2) := by
  have hpn : (alPs zs).length ≤ 1000000 := by unfold alPs; simp; omega
  cases zs with
  | nil => exact r17name_calls w v L most T pv _ hL hn hP hpn hT false 0 rfl rfl (by omega) (by omega) _ _ _ rfl rfl
  | cons n r =>
    obtain ⟨h0, h1⟩ := hz n (by simp)
    exact r17name_calls w v L most T pv _ hL hn hP hpn hT true n (by simp [fstB, firstP, alPs, alP]) (by simp [fstN, firstP, alPs, alP]) h0 h1 _ _ _ rfl rfl

#print axioms r17name_made
end Go.Proofs.YtnpkiknidmhciaaDoor
