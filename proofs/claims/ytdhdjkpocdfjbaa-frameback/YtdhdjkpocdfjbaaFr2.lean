/-
  Bytes that wait: a slice, from some place of its array on. (No statement: what the proofs of the statements use.)
-/
import Derived.Test.YtdhdjkpocdfjbaaFr1
import Derived.Laws.BytesArg
namespace Go.Proofs.Ytdhdjkpocdfjbaa
open Go.RowKit

/-- The slice v reads as bs; its array, from there on, is its own. -/
def TailAt (w : World) (v : Value) (bs : List UInt8) : Prop :=
  (v = .slice none 0 0 ∧ bs = []) ∨ ∃ g k cap cur, v = .slice (some ⟨g, k, none⟩) bs.length cap ∧ w.heap[g]? = some (.cells cur 5 (0, 0)) ∧ bs.length ≤ cap ∧ cap ≤ maxLen ∧ cur.size = k + cap ∧ (cur.toList.drop k).take bs.length = bs.map bcell

theorem TailAt.of_own {w : World} {v : Value} {bs : List UInt8} {n : Nat} (h : w.ownsRow 0 5 1 v n (bs.map bcell)) (hn : n = bs.length) : TailAt w v bs := by
  subst hn
  rcases h.2 with ⟨rfl, h0⟩ | ⟨g, cap, cur, rfl, _, hh, hnc, hcm, hcs, ht⟩
  · exact .inl ⟨rfl, List.eq_nil_of_length_eq_zero h0⟩
  · exact .inr ⟨g, 0, cap, cur, rfl, hh, hnc, hcm, by simpa using hcs, by simpa using ht⟩

theorem TailAt.keep {w w' : World} {v : Value} {bs : List UInt8} (h : TailAt w v bs) (hk : ∀ g, v.ownBlock = some g → w'.heap[g]? = w.heap[g]?) : TailAt w' v bs := by
  rcases h with h | ⟨g, k, cap, cur, rfl, hh, rest⟩
  · exact .inl h
  · exact .inr ⟨g, k, cap, cur, rfl, (hk g rfl).trans hh, rest⟩

theorem TailAt.lt {w : World} {v : Value} {bs : List UInt8} (h : TailAt w v bs) (g : Nat) (hg : v.ownBlock = some g) : g < w.heap.size := by
  rcases h with ⟨rfl, _⟩ | ⟨g', k, cap, cur, rfl, hh, _⟩
  · simp [Value.ownBlock] at hg
  · obtain rfl : g' = g := by simpa [Value.ownBlock] using hg
    exact lt_of_block hh

theorem TailAt.below {w w' : World} {v : Value} {bs : List UInt8} (h : TailAt w v bs) (hb : Below w.heap.size w w') : TailAt w' v bs := h.keep fun g hg => hb.block g (h.lt g hg)

theorem TailAt.ne {w : World} {v : Value} {bs : List UInt8} (h : TailAt w v bs) {q : Nat} {cs : Array Value} {t : TypeId} (hq : w.heap[q]? = some (.cells cs t (0, 0))) (ht : t ≠ 5) : v.ownBlock ≠ some q := by
  rcases h with ⟨rfl, _⟩ | ⟨g, k, cap, cur, rfl, hh, _⟩
  · simp [Value.ownBlock]
  · intro e
    obtain rfl : g = q := by simpa [Value.ownBlock] using e
    rw [hq] at hh
    injection hh with hh
    injection hh with _ h2
    exact ht h2

theorem TailAt.form {w : World} {v : Value} {bs : List UInt8} (h : TailAt w v bs) : ∃ a c, v = .slice a bs.length c ∧ bs.length ≤ c := by
  rcases h with ⟨rfl, rfl⟩ | ⟨g, k, cap, cur, rfl, _, hc, _⟩
  · exact ⟨none, 0, rfl, Nat.le_refl _⟩
  · exact ⟨_, _, rfl, hc⟩

theorem addr_add (g k i : Nat) : (⟨g, k, none⟩ : Addr).add i = ⟨g, k + i, none⟩ := by unfold Addr.add; split <;> simp_all

theorem TailAt.cells {w : World} {g k : Nat} {bs : List UInt8} {cur : Array Value} (hh : w.heap[g]? = some (.cells cur 5 (0, 0))) (ht : (cur.toList.drop k).take bs.length = bs.map bcell) (i : Nat) (hi : i < bs.length) :
    w.cell? ⟨g, k + i, none⟩ = some (.int .u8 (bs[i].toNat : Int)) := by
  have h := congrArg (fun l => l[i]?) ht
  simp only [List.getElem?_take, if_pos hi, List.getElem?_drop, List.getElem?_map, List.getElem?_eq_getElem hi, Option.map_some] at h
  simp only [World.cell?, hh]
  simpa [bcell] using h

/-- A part of it, as a string. -/
theorem TailAt.part {w : World} {a : Option Addr} {n c : Nat} {bs : List UInt8} (h : TailAt w (.slice a n c) bs) (i j : Nat) (hij : i ≤ j) (hj : j ≤ bs.length) (m : Nat) (hm : m = j - i) (cc : Nat) :
    (convert 50 9 (.slice (if c = i then a else a.map (·.add (i * 1))) m cc)).run Try.prog w = .ok (.string (str ((bs.drop i).take (j - i)))) w := by
  subst hm
  rcases h with ⟨h, rfl⟩ | ⟨g, k, cap, cur, h, hh, hbc, hcm, hcs, ht⟩
  · injection h with h1 h2 h3
    subst h1
    have : j = 0 := by simpa using hj
    subst this
    obtain rfl : i = 0 := by omega
    have e : (if c = 0 then (none : Option Addr) else none) = none := by split <;> rfl
    simp only [Option.map_none, e]
    rw [run_convert_bytes_nil w 50 5 Try.underlying50 Try.underlying5 _ _ 9 Try.underlying9]
    rfl
  · injection h with h1 h2 h3
    subst h1 h2 h3
    have key : ∀ off, (∀ x, x < j - i → w.cell? ⟨g, off + x, none⟩ = some (.int .u8 ((((bs.drop i).take (j - i)).map fun c => (c.toNat : Int)).getD x 0))) →
        (convert 50 9 (.slice (some ⟨g, off, none⟩) (j - i) cc)).run Try.prog w = .ok (.string (str ((bs.drop i).take (j - i)))) w := by
      intro off hoff
      rw [run_convert_bytes_arg w 50 5 Try.underlying50 Try.underlying5 g off (j - i) cc (((bs.drop i).take (j - i)).map fun c => (c.toNat : Int)) (by simp; omega) ?_ 9 Try.underlying9]
      · congr 2
        simp only [strOfNums, str, List.map_map]
        congr 2
        conv => rhs; rw [← List.map_id ((bs.drop i).take (j - i))]
        apply List.map_congr_left
        intro c _
        simp
      · exact hoff
    by_cases hci : c = i
    · rw [if_pos hci]
      obtain rfl : j = i := by omega
      exact key k (fun x hx => by omega)
    · rw [if_neg hci]
      have ea : (some (⟨g, k, none⟩ : Addr)).map (·.add (i * 1)) = some ⟨g, k + i, none⟩ := by rw [Option.map_some, Nat.mul_one, addr_add]
      rw [ea]
      refine key (k + i) (fun x hx => ?_)
      rw [Nat.add_assoc, TailAt.cells hh ht (i + x) (by omega)]
      simp [List.getD_eq_getElem?_getD, hx, List.getElem?_drop]
      rw [List.getElem?_eq_getElem (by omega)]
      rfl

/-- What is left behind i of it. -/
theorem TailAt.drop {w : World} {a : Option Addr} {n c : Nat} {bs : List UInt8} (h : TailAt w (.slice a n c) bs) (i : Nat) (hi : i < bs.length) :
    TailAt w (.slice (if c = i then a else a.map (·.add (i * 1))) (bs.length - i) (c - i)) (bs.drop i) := by
  rcases h with ⟨h, rfl⟩ | ⟨g, k, cap, cur, h, hh, hbc, hcm, hcs, ht⟩
  · simp at hi
  · injection h with h1 h2 h3
    subst h1 h2 h3
    rw [if_neg (by omega)]
    have ea : (some (⟨g, k, none⟩ : Addr)).map (·.add (i * 1)) = some ⟨g, k + i, none⟩ := by rw [Option.map_some, Nat.mul_one, addr_add]
    rw [ea]
    refine .inr ⟨g, k + i, c - i, cur, by rw [List.length_drop], hh, by simp; omega, by omega, by omega, ?_⟩
    rw [List.length_drop, List.map_drop, ← ht, List.drop_take, List.drop_drop]

/-- A string's bytes behind it. -/
theorem TailAt.append {w : World} {v : Value} {bs : List UInt8} (h : TailAt w v bs) (s : ByteArray) (hs : bs.length + s.size ≤ 140737488355328) (ty : TypeId) :
    ∃ v' w', (Builtin.append_ #[50, 9] ty #[v, .string s]).run Try.prog w = .ok v' w' ∧ TailAt w' v' (bs ++ s.data.toList) ∧ w.grownBy w' v.ownBlock ∧ (v'.ownBlock = v.ownBlock ∨ v'.ownBlock = some w.heap.size) := by
  obtain ⟨i0, hi, hz0, hz1, hz2⟩ := info_parts Try.infoU8
  rcases h with ⟨rfl, rfl⟩ | ⟨g, k, cap, cur, rfl, hh, hbc, hcm, hcs, ht⟩
  · obtain ⟨v', w', hr, h2, h3, _⟩ := Lib.run_append_own_string (P := Try.prog) w 0 50 9 ty 5 i0 Try.underlying50 Try.underlying9 hi hz0 hz1 hz2 (.slice none 0 0) 0 [] (World.ownsRow_nil _ _ _ _) s (by unfold maxLen; simp at hs; omega) (by simpa using hs) (Nat.zero_le _)
    have h4 := string_at hi hz0 hz1 hz2 (World.ownsRow_nil w 0 5 1) s (by simpa using hs) hr
    refine ⟨v', w', hr, TailAt.of_own (n := s.size) ?_ ?_, h3, h4⟩
    · simpa [strCells_eq] using h2
    · simp
  · have hsl : s.data.toList.length = s.size := ba_size s
    by_cases hroom : bs.length + s.size ≤ cap
    · have hf := Lib.run_firstCells_string (P := Try.prog) w 1 s
      have hst := run_storeCells_at Try.prog g (k + bs.length) 5 (Lib.strCells s) 0 cur w hh (by rw [Lib.strCells_length]; omega) (Lib.strCells_oneCell s)
      simp only [Nat.add_zero, Lib.strCells_length] at hst
      have ea := addr_add g k bs.length
      refine ⟨.slice (some ⟨g, k, none⟩) (bs.length + s.size) cap, w.setRow g (cur.toList.take (k + bs.length) ++ Lib.strCells s ++ cur.toList.drop (k + bs.length + s.size)).toArray, ?_, ?_, ?_, .inl rfl⟩
      · simp [Builtin.append_, run_underlying Try.underlying50, run_underlying Try.underlying9, sizeOf, typeInfo, hi, hz1, Builtin.lenOf, hroom, hf, ea, hst]
      · refine .inr ⟨g, k, cap, _, by simp [hsl], setRow_heap w g cur _ 5 _ hh, by simp [hsl]; omega, hcm, ?_, ?_⟩
        · simp [Lib.strCells_length]; omega
        · have hl : (cur.toList.take (k + bs.length)).length = k + bs.length := by simp; omega
          rw [List.toList_toArray, List.append_assoc, List.drop_append_of_le_length (by omega), List.drop_take, show k + bs.length - k = bs.length by omega, ht, List.map_append, strCells_eq, ← List.append_assoc]
          rw [List.take_left' (by simp)]
      · exact ⟨rfl, rfl, rfl, by simp, fun x _ hx => setRow_other w g x _ (fun e => hx (by simp [Value.ownBlock, e]))⟩
    · have holds : ∀ j u, (bs.map bcell)[j]? = some u → w.cell? ((⟨g, k, none⟩ : Addr).add j) = some u := by
        intro j u hj
        have hjl : j < bs.length := by
          have := (List.getElem?_eq_some_iff.1 hj).1
          simpa using this
        have ea := addr_add g k j
        rw [ea, TailAt.cells hh ht j hjl]
        rw [List.getElem?_map, List.getElem?_eq_getElem hjl] at hj
        exact hj
      have hr := Lib.run_append_grow_string (P := Try.prog) w 50 9 ty 5 i0 (.int .u8 0) Try.underlying50 Try.underlying9 hi hz0 ⟨g, k, none⟩ bs.length cap (bs.map bcell) (by rw [hz1]; simp) holds s (by omega) (by omega) (by rw [hz2]; exact growslice_fits (by omega) (by omega))
      have hge := grownCap_ge w (bs.length + s.size) cap 5
      have hcm' : grownCap w (bs.length + s.size) cap 5 ≤ maxLen := grownCap_le_maxLen w (bs.length + s.size) cap 5 (by unfold maxLen; omega)
      refine ⟨_, _, hr, ?_, ⟨rfl, rfl, rfl, by simp, fun x hx _ => Below.heap_alloc w.drew _ x hx⟩, .inr rfl⟩
      refine .inr ⟨w.heap.size, 0, _, _, by simp [hsl], heap_alloc_new w.drew _, by simp [hsl]; omega, hcm', ?_, ?_⟩
      · have hz1' : (Value.int IntKind.u8 0).cells.size = 1 := rfl
        simp only [Array.size_append, List.size_toArray, size_zeroCells, hz1', List.length_map, Lib.strCells_length]
        omega
      · simp only [Array.toList_append, List.append_assoc, List.drop_zero]
        rw [List.map_append, strCells_eq, ← List.append_assoc]
        exact List.take_left' (by simp)

theorem wpList_tail (w : World) {ops : Array Oper} {rest : List Oper} {o : Oper} {a : Act} {Q : Exit → Act → World → Prop} (hgd : o.guard = none) (sl x : Operand)
    (ho : o.op = .call { callee := .builtin .append, args := #[sl, x], argTypes := #[50, 9] })
    (v : Value) (bs : List UInt8) (hs : a.eval sl = v) (hown : TailAt w v bs) (s : ByteArray) (hx : a.eval x = .string s) (hn : bs.length + s.size ≤ 140737488355328)
    (h : ∀ v' w', TailAt w' v' (bs ++ s.data.toList) → w.grownBy w' v.ownBlock → (v'.ownBlock = v.ownBlock ∨ v'.ownBlock = some w.heap.size) → wpList Try.prog ops Q rest (a.put o.dst v') w') : wpList Try.prog ops Q (o :: rest) a w := by
  refine wpList_plain hgd fun K hK => ?_
  obtain ⟨v', w', hr, h2, h3, h4⟩ := hown.append s hn o.type
  unfold Oper.wp execOp
  simp only [ho, resolve, invoke, builtin, Sem.run_bind, Sem.run_pure, Result.andThen_ok, List.map_toArray, List.map_cons, List.map_nil, hs, hx, hr]
  exact hK _ _ (h v' w' h2 h3 h4)

#print axioms wpList_tail
end Go.Proofs.Ytdhdjkpocdfjbaa
