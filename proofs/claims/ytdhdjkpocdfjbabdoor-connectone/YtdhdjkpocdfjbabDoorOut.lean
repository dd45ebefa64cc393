/-
  The calls of octet.Out: what each puts behind the bytes that are there. (No statement: contracts that the proofs of the statements use.)
-/
import Derived.Test.YtdhdjkpocdfjbabDoorRows
import Derived.WalkKit
import Derived.WalkSpells
import Derived.Lib.AppendStr
import Derived.Maps.AppendAt
import Derived.Lib.Hide
namespace Go.Proofs.YtdhdjkpocdfjbabDoor
open Go.RowKit

theorem Tryd.infoU8 : (Tryd.prog.info? 5).map (fun i => (i.zero, i.size, i.bytes)) = some (some (.int .u8 0), 1, 1) := by kernel_rfl

/-- A byte as a cell. -/
def bcell (c : UInt8) : Value := .int .u8 c.toNat
theorem bcells_one (bs : List UInt8) : ∀ u ∈ bs.map bcell, u.oneCell' = true := by
  intro u hu
  obtain ⟨_, _, rfl⟩ := List.mem_map.1 hu
  rfl

theorem own_form {w : World} {v : Value} {n : Nat} {xs : List Value} (h : w.ownsRow 0 5 1 v n xs) (hn : 0 < n) : ∃ g cap, v = .slice (some ⟨g, 0, none⟩) n cap := by
  rcases h.2 with ⟨_, h0⟩ | ⟨g, cap, _, hv, _⟩
  · omega
  · exact ⟨g, cap, hv⟩

/-- Block o holds an Out whose bytes are bs; its row is block r (none: nil). -/
def OutAt (w : World) (o : Nat) (r : Option Nat) (bs : List UInt8) : Prop :=
  ∃ v, w.heap[o]? = some (.cells #[v] 90 (0, 0)) ∧ w.ownsRow 0 5 1 v bs.length (bs.map bcell) ∧ v.ownBlock = r

/-- What a call on the Out at o with row r may have turned: that block, that row, and what is new; r' is the row behind it. -/
structure Step (w w' : World) (o : Nat) (r r' : Option Nat) : Prop where
  os : w'.os = w.os
  tape : w'.tape = w.tape
  output : w'.output = w.output
  size : w.heap.size ≤ w'.heap.size
  block : ∀ k, k < w.heap.size → k ≠ o → some k ≠ r → w'.heap[k]? = w.heap[k]?
  row : r' = r ∨ ∃ g, r' = some g ∧ w.heap.size ≤ g

theorem Step.refl (w : World) (o : Nat) (r : Option Nat) : Step w w o r r := ⟨rfl, rfl, rfl, Nat.le_refl _, fun _ _ _ _ => rfl, .inl rfl⟩
theorem Step.trans {w1 w2 w3 : World} {o : Nat} {r1 r2 r3 : Option Nat} (h : Step w1 w2 o r1 r2) (k : Step w2 w3 o r2 r3) : Step w1 w3 o r1 r3 := by
  refine ⟨k.os.trans h.os, k.tape.trans h.tape, k.output.trans h.output, Nat.le_trans h.size k.size, fun i hi ho hr => ?_, ?_⟩
  · refine (k.block i (Nat.lt_of_lt_of_le hi h.size) ho ?_).trans (h.block i hi ho hr)
    rcases h.row with e | ⟨g, e, hg⟩
    · rw [e]; exact hr
    · rw [e]; intro e'; injection e' with e'; omega
  · rcases k.row with e | ⟨g, e, hg⟩
    · rw [e]; exact h.row
    · exact .inr ⟨g, e, Nat.le_trans h.size hg⟩
/-- What lies below the Out and its row is as it was. -/
theorem Step.below {w w' : World} {o B : Nat} {r r' : Option Nat} (h : Step w w' o r r') (hB : B ≤ w.heap.size) (ho : B ≤ o) (hr : ∀ g, r = some g → B ≤ g) : Below B w w' :=
  ⟨h.os, h.tape, h.output, h.size, fun k hk => h.block k (by omega) (by omega) (fun e => by have := hr k e.symm; omega)⟩

/-- Behind a call the Out at o has the bytes bs. -/
def Put (w : World) (o : Nat) (r : Option Nat) (bs : List UInt8) (w' : World) : Prop := ∃ r', OutAt w' o r' bs ∧ Step w w' o r r'

theorem OutAt.lt {w : World} {o : Nat} {r : Option Nat} {bs : List UInt8} (h : OutAt w o r bs) : o < w.heap.size := by
  obtain ⟨v, h1, _⟩ := h
  exact lt_of_block h1

theorem OutAt.row_ne {w : World} {o : Nat} {r : Option Nat} {bs : List UInt8} (h : OutAt w o r bs) : r ≠ some o := by
  obtain ⟨v, h1, h2, rfl⟩ := h
  rcases h2.2 with ⟨rfl, _⟩ | ⟨g, cap, cur, rfl, _, hh, _⟩
  · simp [Value.ownBlock]
  · intro e
    obtain rfl : g = o := by simpa [Value.ownBlock] using e
    rw [h1] at hh
    simp at hh

theorem OutAt.row_lt {w : World} {o : Nat} {r : Option Nat} {bs : List UInt8} (h : OutAt w o r bs) (g : Nat) (hg : r = some g) : g < w.heap.size := by
  obtain ⟨v, h1, h2, rfl⟩ := h
  rcases h2.2 with ⟨rfl, _⟩ | ⟨g', cap, cur, rfl, _, hh, _⟩
  · simp [Value.ownBlock] at hg
  · obtain rfl : g' = g := by simpa [Value.ownBlock] using hg
    exact lt_of_block hh

/-- An Out that a call elsewhere has not turned. -/
theorem OutAt.keep {w w' : World} {o : Nat} {r : Option Nat} {bs : List UInt8} (h : OutAt w o r bs) (ho : w'.heap[o]? = w.heap[o]?) (hr : ∀ g, r = some g → w'.heap[g]? = w.heap[g]?) : OutAt w' o r bs := by
  obtain ⟨v, h1, h2, h3⟩ := h
  refine ⟨v, ho.trans h1, ⟨h2.1, ?_⟩, h3⟩
  rcases h2.2 with h | ⟨g, cap, cur, hv, hb, hh, rest⟩
  · exact .inl h
  · exact .inr ⟨g, cap, cur, hv, hb, (hr g (by rw [← h3, hv]; rfl)).trans hh, rest⟩

/-- A new Out. -/
theorem OutAt.new (w : World) : OutAt (w.alloc (.cells #[.slice none 0 0] 90)) w.heap.size none [] :=
  ⟨_, heap_alloc_new w _, World.ownsRow_nil _ _ _ _, rfl⟩

/-- What the store of the new slice leaves: the calls' last step. -/
theorem put_of {w w1 : World} {o : Nat} {r : Option Nat} {bs news : List UInt8} {v v' : Value} (h1 : w.heap[o]? = some (.cells #[v] 90 (0, 0)))
    (hv : v.ownBlock = r) (hne : r ≠ some o) {n : Nat} (hn : n = (bs ++ news).length) (hown : w1.ownsRow 0 5 1 v' n ((bs ++ news).map bcell)) (hg : w.grownBy w1 v.ownBlock)
    (hb : v'.ownBlock = v.ownBlock ∨ ∃ g, v'.ownBlock = some g ∧ w.heap.size ≤ g) : Put w o r (bs ++ news) (w1.setCell ⟨o, 0, none⟩ v') := by
  subst hv
  subst hn
  have ho := lt_of_block h1
  have ho1 : w1.heap[o]? = some (.cells #[v] 90 (0, 0)) := (hg.block o ho (fun e => hne e.symm)).trans h1
  refine ⟨v'.ownBlock, ⟨v', one_setCell ho1, ownsRow_setCell_other hown ?_ v', rfl⟩, ?_⟩
  · rcases hb with e | ⟨g, e, hgs⟩
    · rw [e]; exact hne
    · rw [e]; intro e'; injection e' with e'; subst e'; exact absurd hgs (Nat.not_le.2 ho)
  · refine ⟨hg.os, hg.tape, hg.output, by simpa [World.setCell] using hg.size, fun k hk hko hkr => ?_, hb⟩
    exact (Below.heap_setCell w1 ⟨o, 0, none⟩ v' k hko).trans (hg.block k hk hkr)

theorem bcell_of (c : Int) (hc0 : 0 ≤ c) (hc1 : c < 256) : bcell (UInt8.ofNat c.toNat) = .int .u8 c := by
  unfold bcell
  rw [UInt8.toNat_ofNat', Nat.mod_eq_of_lt (by omega), Int.toNat_of_nonneg hc0]

/-- The same, behind the block in which the new bytes lie. -/
theorem put_behind {w w1 : World} {o : Nat} {r : Option Nat} {bs news : List UInt8} {v v' : Value} {ob : Obj} (h1 : w.heap[o]? = some (.cells #[v] 90 (0, 0)))
    (hv : v.ownBlock = r) (hne : r ≠ some o) {n : Nat} (hn : n = (bs ++ news).length) (hown : w1.ownsRow 0 5 1 v' n ((bs ++ news).map bcell)) (hg : (w.alloc ob).grownBy w1 v.ownBlock)
    (hb : v'.ownBlock = v.ownBlock ∨ v'.ownBlock = some (w.heap.size + 1)) : Put w o r (bs ++ news) (w1.setCell ⟨o, 0, none⟩ v') := by
  have hg' : w.grownBy w1 v.ownBlock := ⟨hg.os, hg.tape, hg.output, Nat.le_trans (by simp) hg.size, fun k hk hkr => (hg.block k (by simp; omega) hkr).trans (Below.heap_alloc w ob k hk)⟩
  refine put_of h1 hv hne hn hown hg' ?_
  rcases hb with e | e
  · exact .inl e
  · exact .inr ⟨_, e, by omega⟩

/-- Byte puts one byte. -/
theorem byte_calls (w : World) (o : Nat) (r : Option Nat) (bs : List UInt8) (c : Int) (hc0 : 0 ≤ c) (hc1 : c < 256) (h : OutAt w o r bs) (hl : bs.length < 1000000000) :
    Calls Tryd.prog 45 #[.pointer (some ⟨o, 0, none⟩), .int .u8 c] w fun e w' => e = .returned (.pointer (some ⟨o, 0, none⟩)) ∧ Put w o r (bs ++ [UInt8.ofNat c.toNat]) w' := by
  have HN := Lib.hid h.row_ne
  obtain ⟨v, h1, h2, h3⟩ := h
  have hcell := cell_of_one h1
  have hfr := free_of_one h1
  have hlt := lt_of_block h1
  have H1 := Lib.hid h1
  have H3 := Lib.hid h3
  clear h1 h3
  obtain ⟨i0, hi, hz0, hz1, hz2⟩ := info_parts Tryd.infoU8
  go_enter Tryd.func45, Tryd.ntmps45
  go_wp2_with ((at_builtin; refine wpList_append_own_at _ rfl _ _ 61 rfl 0 5 i0 (.int .u8 0) 1 1 Tryd.underlying61 hi hz0 hz1 hz2 rfl (by decide) _ _ _ rfl (h2.alloc _) ⟨w.heap.size, 0, none⟩ 1 1 [.int .u8 c] rfl rfl (cell_one_new _ _ _) (by simp [Value.oneCell']) (by unfold maxLen; omega) (by omega) (by omega) ?_))
  intro v' w1 hown hgrow _ hat
  have hc1' : w1.cell? ⟨o, 0, none⟩ = some v := by
    rw [World.cell?_of_block (w := w.alloc (.cells #[.int .u8 c] 5)) (hgrow.block o (by simp; omega) (fun e => HN.out (by rw [← H3.out, ← e])))]
    rw [World.cell?_alloc_lt _ _ _ (by exact hlt)]
    exact hcell
  have hf1' : w1.frozen? ⟨o, 0, none⟩ = false := by
    rw [World.frozen?_of_block (w := w.alloc (.cells #[.int .u8 c] 5)) (hgrow.block o (by simp; omega) (fun e => HN.out (by rw [← H3.out, ← e])))]
    rw [World.frozen?_of_block (w := w) (Below.heap_alloc w _ o hlt)]
    exact hfr
  have R : Put w o r (bs ++ [UInt8.ofNat c.toNat]) (w1.setCell ⟨o, 0, none⟩ v') := by
    refine put_behind (n := bs.length + 1) H1.out H3.out HN.out ?_ ?_ hgrow ?_
    · simp
    · rw [List.map_append, List.map_cons, List.map_nil, bcell_of c hc0 hc1]; exact hown
    · simpa using hat
  obtain ⟨g, cap, hv⟩ := own_form hown (by omega)
  have HR := Lib.hid R
  clear R hown hgrow hat hcell hfr
  rw [hv] at HR ⊢
  go_wp2
  go_ret
  exact ⟨rfl, HR.out⟩

theorem two_new (w : World) (x y : Value) (t : TypeId) : ∀ j u, [x, y][j]? = some u → (w.alloc (.cells #[x, y] t)).cell? ((⟨w.heap.size, 0, none⟩ : Addr).add j) = some u := by
  intro j u hj
  match j, hj with
  | 0, hj => simp at hj; subst hj; simp [Addr.add]
  | 1, hj => simp at hj; subst hj; simp [Addr.add]

/-- The bytes of a number in two bytes. -/
def two (n : Int) : List UInt8 := [UInt8.ofNat (n / 256 % 256).toNat, UInt8.ofNat (n % 256).toNat]

/-- Two puts two bytes. -/
theorem two_calls (w : World) (o : Nat) (r : Option Nat) (bs : List UInt8) (n : Int) (_hc0 : 0 ≤ n) (_hc1 : n < 4294967296) (h : OutAt w o r bs) (hl : bs.length < 1000000000) :
    Calls Tryd.prog 47 #[.pointer (some ⟨o, 0, none⟩), .int .u32 n] w fun e w' => e = .returned (.pointer (some ⟨o, 0, none⟩)) ∧ Put w o r (bs ++ two n) w' := by
  have HN := Lib.hid h.row_ne
  obtain ⟨v, h1, h2, h3⟩ := h
  have hcell := cell_of_one h1
  have hfr := free_of_one h1
  have hlt := lt_of_block h1
  have H1 := Lib.hid h1
  have H3 := Lib.hid h3
  clear h1 h3
  obtain ⟨i0, hi, hz0, hz1, hz2⟩ := info_parts Tryd.infoU8
  go_enter Tryd.func47, Tryd.ntmps47
  go_wp2_with ((at_builtin; refine wpList_append_own_at _ rfl _ _ 61 rfl 0 5 i0 (.int .u8 0) 1 1 Tryd.underlying61 hi hz0 hz1 hz2 rfl (by decide) _ _ _ rfl (h2.alloc _) ⟨w.heap.size, 0, none⟩ 2 2 [.int .u8 (n / 256 % 256), .int .u8 (n % 256)] rfl rfl (two_new _ _ _ _) (by simp [Value.oneCell']) (by unfold maxLen; omega) (by omega) (by omega) ?_))
  intro v' w1 hown hgrow _ hat
  have hc1' : w1.cell? ⟨o, 0, none⟩ = some v := by
    rw [World.cell?_of_block (w := w.alloc (.cells #[.int .u8 (n / 256 % 256), .int .u8 (n % 256)] 5)) (hgrow.block o (by simp; omega) (fun e => HN.out (by rw [← H3.out, ← e])))]
    rw [World.cell?_alloc_lt _ _ _ (by exact hlt)]
    exact hcell
  have hf1' : w1.frozen? ⟨o, 0, none⟩ = false := by
    rw [World.frozen?_of_block (w := w.alloc (.cells #[.int .u8 (n / 256 % 256), .int .u8 (n % 256)] 5)) (hgrow.block o (by simp; omega) (fun e => HN.out (by rw [← H3.out, ← e])))]
    rw [World.frozen?_of_block (w := w) (Below.heap_alloc w _ o hlt)]
    exact hfr
  have R : Put w o r (bs ++ two n) (w1.setCell ⟨o, 0, none⟩ v') := by
    refine put_behind (n := bs.length + 2) H1.out H3.out HN.out ?_ ?_ hgrow ?_
    · simp [two]
    · rw [List.map_append, two, List.map_cons, List.map_cons, List.map_nil, bcell_of _ (by omega) (by omega), bcell_of _ (by omega) (by omega)]; exact hown
    · simpa using hat
  obtain ⟨g, cap, hv⟩ := own_form hown (by omega)
  have HR := Lib.hid R
  clear R hown hgrow hat hcell hfr
  rw [hv] at HR ⊢
  go_wp2
  go_ret
  exact ⟨rfl, HR.out⟩

/-- A string's bytes. -/
def str (bs : List UInt8) : ByteArray := ⟨bs.toArray⟩

/-- Text answers all bytes. -/
theorem text_calls (w : World) (o : Nat) (r : Option Nat) (bs : List UInt8) (h : OutAt w o r bs) :
    Calls Tryd.prog 49 #[.pointer (some ⟨o, 0, none⟩)] w fun e w' => e = .returned (.string (str bs)) ∧ w = w' := by
  obtain ⟨v, h1, h2, h3⟩ := h
  have hcell := cell_of_one h1
  have hcv : (convert 61 9 v).run Tryd.prog w = .ok (.string (str bs)) w := by
    rcases h2.2 with ⟨rfl, h0⟩ | ⟨g, cap, cur, rfl, _, hh, hnc, _, _, htake⟩
    · rw [run_convert_bytes_nil w 61 5 Tryd.underlying61 Tryd.underlying5 0 0 9 Tryd.underlying9]
      have : bs = [] := List.eq_nil_of_length_eq_zero h0
      subst this
      rfl
    · rw [run_convert_bytes_arg w 61 5 Tryd.underlying61 Tryd.underlying5 g 0 bs.length cap (bs.map fun c => (c.toNat : Int)) (by simp) ?_ 9 Tryd.underlying9]
      · congr 2
        simp only [strOfNums, str, List.map_map]
        congr 2
        conv => rhs; rw [← List.map_id bs]
        apply List.map_congr_left
        intro c _
        simp
      · intro i hi
        have hc := h2.cellAt i (by omega)
        rw [Nat.zero_add, hc]
        simp [List.getD, bcell, hi]
  have hsl : ∃ a l c, v = .slice a l c := by
    rcases h2.2 with ⟨rfl, h0⟩ | ⟨g, cap, cur, rfl, _⟩
    · exact ⟨_, _, _, rfl⟩
    · exact ⟨_, _, _, rfl⟩
  obtain ⟨a, l, c, rfl⟩ := hsl
  clear h2 h3 h1
  go_enter Tryd.func49, Tryd.ntmps49
  go_wp2
  go_ret
  exact ⟨rfl, rfl⟩

/-- Len answers how many. -/
theorem len_calls (w : World) (o : Nat) (r : Option Nat) (bs : List UInt8) (h : OutAt w o r bs) :
    Calls Tryd.prog 77 #[.pointer (some ⟨o, 0, none⟩)] w fun e w' => e = .returned (.int .i64 bs.length) ∧ w = w' := by
  obtain ⟨v, h1, h2, h3⟩ := h
  have hcell := cell_of_one h1
  have hsl : ∃ a c, v = .slice a bs.length c := by
    rcases h2.2 with ⟨rfl, h0⟩ | ⟨g, cap, cur, rfl, _⟩
    · exact ⟨_, _, by rw [h0]⟩
    · exact ⟨_, _, rfl⟩
  obtain ⟨a, c, rfl⟩ := hsl
  clear h2 h3 h1
  go_enter Tryd.func77, Tryd.ntmps77
  go_wp2
  go_ret
  exact ⟨rfl, rfl⟩

/-- Where the row lies behind an append of a string. -/
theorem string_at {w w' : World} {v v' : Value} {n : Nat} {xs : List Value} {ty : TypeId} {i : TypeInfo} (hi : Tryd.prog.info? 5 = some i) (hz : i.zero = some (.int .u8 0)) (hs : i.size = 1) (hb : i.bytes = 1)
    (hown : w.ownsRow 0 5 1 v n xs) (s : ByteArray) (hn : n + s.size ≤ 140737488355328) (hr : (Builtin.append_ #[61, 9] ty #[v, .string s]).run Tryd.prog w = .ok v' w') :
    v'.ownBlock = v.ownBlock ∨ v'.ownBlock = some w.heap.size := by
  have hxl : xs.length = n := by simpa using hown.1
  rcases hown.2 with ⟨rfl, rfl⟩ | ⟨g, cap, cur, rfl, _, hg, hnc, hcm, hcs, _⟩
  · by_cases hm : s.size = 0
    · have hf := Lib.run_firstCells_string (P := Tryd.prog) w 1 s
      rw [hm] at hf
      simp [Builtin.append_, run_underlying Tryd.underlying61, run_underlying Tryd.underlying9, sizeOf, typeInfo, hi, hs, Builtin.lenOf, hm, hf] at hr
      rw [← hr.1]
      exact .inl rfl
    · have h := run_append_nil_string (P := Tryd.prog) w 61 9 ty 5 i (.int .u8 0) Tryd.underlying61 Tryd.underlying9 hi hz s (by omega) (by omega) (by rw [hb]; omega)
      rw [h] at hr
      injection hr with e _
      rw [← e]
      exact .inr rfl
  · by_cases hroom : n + s.size ≤ cap
    · have hcs' : cur.size = cap := by simpa using hcs
      have h := Lib.run_append_room_string (P := Tryd.prog) w 61 9 ty 5 i Tryd.underlying61 Tryd.underlying9 hi hs g n cap cur hg s hroom (by omega)
      rw [h] at hr
      injection hr with e _
      rw [← e]
      exact .inl rfl
    · have holds : ∀ j u, xs[j]? = some u → w.cell? ((⟨g, 0, none⟩ : Addr).add j) = some u := hown.cells (g := g) rfl
      have h := Lib.run_append_grow_string (P := Tryd.prog) w 61 9 ty 5 i (.int .u8 0) Tryd.underlying61 Tryd.underlying9 hi hz ⟨g, 0, none⟩ n cap xs (by rw [hs]; simpa using hxl) holds s (by omega) (by omega) (by rw [hb]; exact growslice_fits (by omega) (by omega))
      rw [h] at hr
      injection hr with e _
      rw [← e]
      exact .inr rfl

theorem wpList_raw (w : World) {ops : Array Oper} {rest : List Oper} {o : Oper} {a : Act} {Q : Exit → Act → World → Prop} (hgd : o.guard = none) (sl x : Operand)
    (ho : o.op = .call { callee := .builtin .append, args := #[sl, x], argTypes := #[61, 9] }) {i : TypeInfo} (hi : Tryd.prog.info? 5 = some i) (hz : i.zero = some (.int .u8 0)) (hsz : i.size = 1) (hb : i.bytes = 1)
    (v : Value) (n : Nat) (xs : List Value) (hs : a.eval sl = v) (hown : w.ownsRow 0 5 1 v n xs) (s : ByteArray) (hx : a.eval x = .string s) (hn : n + s.size ≤ 140737488355328)
    (h : ∀ v' w', w'.ownsRow 0 5 1 v' (n + s.size) (xs ++ Lib.strCells s) → w.grownBy w' v.ownBlock → (v'.ownBlock = v.ownBlock ∨ v'.ownBlock = some w.heap.size) → wpList Tryd.prog ops Q rest (a.put o.dst v') w') : wpList Tryd.prog ops Q (o :: rest) a w := by
  refine wpList_plain hgd fun K hK => ?_
  obtain ⟨v', w', hr, h2, h3, _⟩ := Lib.run_append_own_string (P := Tryd.prog) w 0 61 9 o.type 5 i Tryd.underlying61 Tryd.underlying9 hi hz hsz hb v n xs hown s (by unfold maxLen; omega) hn (Nat.zero_le _)
  have h4 := string_at hi hz hsz hb hown s hn hr
  unfold Oper.wp execOp
  simp only [ho, resolve, invoke, builtin, Sem.run_bind, Sem.run_pure, Result.andThen_ok, List.map_toArray, List.map_cons, List.map_nil, hs, hx, hr]
  exact hK _ _ (h v' w' h2 h3 h4)

theorem strCells_eq (s : ByteArray) : Lib.strCells s = s.data.toList.map bcell := rfl

/-- Raw puts a text's bytes. -/
theorem raw_calls (w : World) (o : Nat) (r : Option Nat) (bs : List UInt8) (s : ByteArray) (h : OutAt w o r bs) (hl : bs.length + s.size < 1000000000) :
    Calls Tryd.prog 74 #[.pointer (some ⟨o, 0, none⟩), .string s] w fun e w' => e = .returned (.pointer (some ⟨o, 0, none⟩)) ∧ Put w o r (bs ++ s.data.toList) w' := by
  have HN := Lib.hid h.row_ne
  obtain ⟨v, h1, h2, h3⟩ := h
  have hcell := cell_of_one h1
  have hfr := free_of_one h1
  have hlt := lt_of_block h1
  have H1 := Lib.hid h1
  have H3 := Lib.hid h3
  clear h1 h3
  obtain ⟨i0, hi, hz0, hz1, hz2⟩ := info_parts Tryd.infoU8
  go_enter Tryd.func74, Tryd.ntmps74
  go_wp2_with ((at_builtin; refine wpList_raw _ rfl _ _ rfl hi hz0 hz1 hz2 _ _ _ rfl h2 s rfl (by omega) ?_))
  intro v' w1 hown hgrow hat
  have hc1' : w1.cell? ⟨o, 0, none⟩ = some v := by
    rw [World.cell?_of_block (w := w) (hgrow.block o hlt (fun e => HN.out (by rw [← H3.out, ← e])))]
    exact hcell
  have hf1' : w1.frozen? ⟨o, 0, none⟩ = false := by
    rw [World.frozen?_of_block (w := w) (hgrow.block o hlt (fun e => HN.out (by rw [← H3.out, ← e])))]
    exact hfr
  have R : Put w o r (bs ++ s.data.toList) (w1.setCell ⟨o, 0, none⟩ v') := by
    refine put_of (n := bs.length + s.size) H1.out H3.out HN.out ?_ ?_ hgrow ?_
    · rw [List.length_append, Array.length_toList]; rfl
    · rw [List.map_append]; exact hown
    · rcases hat with e | e
      · exact .inl e
      · exact .inr ⟨_, e, Nat.le_refl _⟩
  have hv : ∃ a l c, v' = .slice a l c := by
    rcases hown.2 with ⟨e, _⟩ | ⟨g, cap, _, e, _⟩
    · exact ⟨_, _, _, e⟩
    · exact ⟨_, _, _, e⟩
  obtain ⟨a, l, c, hv⟩ := hv
  have HR := Lib.hid R
  clear R hown hgrow hat hcell hfr
  rw [hv] at HR ⊢
  go_wp2
  go_ret
  exact ⟨rfl, HR.out⟩

theorem Put.trans {w1 w2 w3 : World} {o : Nat} {r r2 : Option Nat} {bs : List UInt8} (h : Step w1 w2 o r r2) (k : Put w2 o r2 bs w3) : Put w1 o r bs w3 := by
  obtain ⟨r', h1, h2⟩ := k
  exact ⟨r', h1, h.trans h2⟩

/-- Four puts four bytes. -/
theorem four_calls (w : World) (o : Nat) (r : Option Nat) (bs : List UInt8) (n : Int) (hc0 : 0 ≤ n) (hc1 : n < 4294967296) (h : OutAt w o r bs) (hl : bs.length < 999999000) :
    Calls Tryd.prog 92 #[.pointer (some ⟨o, 0, none⟩), .int .u32 n] w fun e w' => e = .returned (.pointer (some ⟨o, 0, none⟩)) ∧ Put w o r (bs ++ (two (n / 65536) ++ two n)) w' := by
  go_enter Tryd.func92, Tryd.ntmps92
  go_wp2_with fail
  refine (two_calls _ o r bs _ (by omega) (by omega) h (by omega)).mono ?_
  rintro e w1 ⟨rfl, r1, h1, hs1⟩
  go_wp2_with fail
  refine (two_calls _ o r1 _ n (by omega) (by omega) h1 (by simp [two]; omega)).mono ?_
  rintro e w2 ⟨rfl, h2⟩
  have HR := Lib.hid (Put.trans hs1 h2)
  clear h2 hs1 h1 h
  go_wp2
  go_ret
  rw [← List.append_assoc]
  exact ⟨rfl, HR.out⟩

/-- Data puts how many, and these. -/
theorem data_calls (w : World) (o : Nat) (r : Option Nat) (bs : List UInt8) (s : ByteArray) (h : OutAt w o r bs) (hs : s.size ≤ 65535) (hl : bs.length < 999000000) :
    Calls Tryd.prog 44 #[.pointer (some ⟨o, 0, none⟩), .string s] w fun e w' => e = .returned (.pointer (some ⟨o, 0, none⟩)) ∧ Put w o r (bs ++ (two s.size ++ s.data.toList)) w' := by
  go_enter Tryd.func44, Tryd.ntmps44
  go_wp2_with fail
  refine (two_calls _ o r bs _ (by omega) (by omega) h (by omega)).mono ?_
  rintro e w1 ⟨rfl, r1, h1, hs1⟩
  go_wp2_with fail
  refine (raw_calls _ o r1 _ s h1 (by simp [two]; omega)).mono ?_
  rintro e w2 ⟨rfl, h2⟩
  have HR := Lib.hid (Put.trans hs1 h2)
  clear h2 hs1 h1 h
  go_wp2
  go_ret
  rw [← List.append_assoc]
  exact ⟨rfl, HR.out⟩

/-- A scope that begins with code ahead of its one label: what holds when the label is come to. -/
theorem wp_scope_head {P : Program} {a : Act} {w : World} {Q : Exit → Act → World → Prop} {c0 rest : Code} (l : Nat) (J : Act → World → Prop) (μ : Act → World → Nat) (hf : findLabel (c0.seq ((Code.label l).seq rest)) l = some (Code.skip.seq rest))
    (start : c0.wp P (Exit.then J (Exit.jump l J Q)) a w)
    (pass : ∀ a w, J a w → rest.wp P (Exit.jump l (fun a' w' => J a' w' ∧ μ a' w' < μ a w) Q) a w) : (Code.scope (c0.seq ((Code.label l).seq rest))).wp P Q a w := by
  refine wp_scope_jumps l J μ hf (wp_seq (wp_mono start ?_)) (fun a w hJ => wp_seq (wp_skip (pass a w hJ)))
  intro e a1 w1 h
  cases e with
  | normal =>
    refine wp_seq (wp_label ?_)
    refine wp_mono (pass a1 w1 h) ?_
    intro e a2 w2 h2
    cases e with
    | goto l' => exact ⟨h2.1, h2.2.1⟩
    | normal => exact h2
    | exit id => exact h2
    | ret => exact h2
    | panic ch => exact h2
    | outgrown => exact h2
  | goto l' => exact h
  | exit id => exact h
  | ret => exact h
  | panic ch => exact h
  | outgrown => exact h

/-- The bytes of a variable byte integer, of at most k + 1 bytes. -/
def varb : Nat → Nat → List UInt8
  | 0, m => [UInt8.ofNat m]
  | k + 1, m => if m < 128 then [UInt8.ofNat m] else UInt8.ofNat (m % 128 + 128) :: varb k (m / 128)

theorem varb_small (k m : Nat) (h : m < 128) : varb k m = [UInt8.ofNat m] := by
  cases k with
  | zero => rfl
  | succ k => rw [varb, if_pos h]
theorem varb_step (k m : Nat) (h : ¬ m < 128) : varb (k + 1) m = UInt8.ofNat (m % 128 + 128) :: varb k (m / 128) := by rw [varb, if_neg h]
theorem varb_len (k m : Nat) : (varb k m).length ≤ k + 1 := by
  induction k generalizing m with
  | zero => simp [varb]
  | succ k ih =>
    rw [varb]
    split
    · simp
    · simp; exact ih _

/-- What holds at the label of Var. -/
def VarJ (w : World) (o : Nat) (r : Option Nat) (bs : List UInt8) (n : Nat) (a' : Act) (w' : World) : Prop :=
  ∃ (m k : Nat) (pre : List UInt8) (r' : Option Nat) (u5 u6 u7 u8 u9 u10 u11 u12 u13 u14 u15 u16 u17 u18 u19 u20 : Value),
    a' = { tmps := #[.pointer (some ⟨o, 0, none⟩), .int .u32 m, undef, undef, .pointer none, u5, u6, u7, u8, u9, u10, u11, u12, u13, u14, u15, u16, u17, u18, u19, u20], defers := [] } ∧
    OutAt w' o r' (bs ++ pre) ∧ Step w w' o r r' ∧ varb 3 n = pre ++ varb k m ∧ pre.length + k = 3 ∧ m < 128 ^ (k + 1)

set_option maxRecDepth 100000 in
/-- Var puts a variable byte integer. -/
theorem var_any (w : World) (o : Nat) (r : Option Nat) (bs : List UInt8) (n : Int) (N : Nat) (hN : N ≤ 268435455) (hn : n = N ∨ (N = 268435455 ∧ 268435455 < n ∧ n < 4294967296)) (h : OutAt w o r bs) (hl : bs.length < 999999000) :
    Calls Tryd.prog 76 #[.pointer (some ⟨o, 0, none⟩), .int .u32 n] w fun e w' => e = .returned (.pointer (some ⟨o, 0, none⟩)) ∧ Put w o r (bs ++ varb 3 N) w' := by
  have HC := Lib.hid hn
  clear hn
  go_enter Tryd.func76, Tryd.ntmps76
  go_wp2_with fail
  refine wp_scope_head 0 (VarJ w o r bs N) (fun a' _ => (intOf (a'.tmps.getD 1 undef)).toNat) rfl ?_ ?_
  · have HJ := Lib.hid h
    clear h
    rcases HC.out with rfl | ⟨rfl, hg, hg2⟩
    all_goals clear HC
    all_goals go_wp2
    rotate_left
    · exact ⟨268435455, 3, [], r, _, _, _, _, _, _, _, _, _, _, _, _, _, _, _, _, rfl, by rw [List.append_nil]; exact HJ.out, Step.refl _ _ _, rfl, rfl, by decide⟩
    exact ⟨N, 3, [], r, _, _, _, _, _, _, _, _, _, _, _, _, _, _, _, _, rfl, by rw [List.append_nil]; exact HJ.out, Step.refl _ _ _, rfl, rfl, by omega⟩
  · clear h
    rintro a' w' ⟨m, k, pre, r', u5, u6, u7, u8, u9, u10, u11, u12, u13, u14, u15, u16, u17, u18, u19, u20, rfl, ho, hs, hv, hk, hm⟩
    have HS := Lib.hid hs
    have HV := Lib.hid hv
    have hpl : (bs ++ pre).length < 1000000000 := by rw [List.length_append]; omega
    have hmb : m < 268435456 := Nat.lt_of_lt_of_le hm (Nat.le_trans (Nat.pow_le_pow_right (by omega) (show k + 1 ≤ 4 by omega)) (by omega))
    have HM := Lib.hid hm
    have HK := Lib.hid hk
    clear hs hv hm hk
    by_cases hlt : m < 128
    · go_wp2_with fail
      refine (byte_calls _ o r' _ _ (by omega) (by omega) ho hpl).mono ?_
      rintro e w1 ⟨rfl, hp⟩
      have HP := Lib.hid (Put.trans HS.out hp)
      clear hp ho
      go_wp2
      simp only [Exit.jump]
      go_ret
      refine ⟨rfl, ?_⟩
      rw [HV.out, varb_small k m hlt, ← List.append_assoc]
      exact HP.out
    · obtain ⟨k', rfl⟩ : ∃ k', k = k' + 1 := by
        cases k with
        | zero => exact absurd (by simpa using HM.out) hlt
        | succ k => exact ⟨k, rfl⟩
      have hor := u8_or128_right ((m : Int) % 128) (by omega) (by omega)
      go_wp2_with fail
      refine (byte_calls _ o r' _ _ (by omega) (by omega) ho hpl).mono ?_
      rintro e w1 ⟨rfl, r1, h1, hs1⟩
      have HP := Lib.hid (HS.out.trans hs1)
      have HO := Lib.hid h1
      clear h1 hs1 ho hor
      go_wp2
      go_step3
      have e1 : (m : Int) / 128 = ((m / 128 : Nat) : Int) := by omega
      rw [e1]
      have e2 : ((m : Int) % 128 + 128).toNat = m % 128 + 128 := by omega
      rw [e2] at HO
      refine ⟨rfl, ⟨m / 128, k', pre ++ [UInt8.ofNat (m % 128 + 128)], r1, _, _, _, _, _, _, _, _, _, _, _, _, _, _, _, _, rfl, by rw [← List.append_assoc]; exact HO.out, HP.out, ?_, ?_, ?_⟩, ?_⟩
      · rw [HV.out, varb_step k' m hlt, List.append_assoc]; rfl
      · have := HK.out; simp; omega
      · have := HM.out
        rw [Nat.pow_succ] at this
        exact Nat.div_lt_of_lt_mul (by rw [Nat.mul_comm]; exact this)
      · simp [intOf]; omega

theorem var_calls (w : World) (o : Nat) (r : Option Nat) (bs : List UInt8) (n : Int) (hc0 : 0 ≤ n) (hc1 : n ≤ 268435455) (h : OutAt w o r bs) (hl : bs.length < 999999000) :
    Calls Tryd.prog 76 #[.pointer (some ⟨o, 0, none⟩), .int .u32 n] w fun e w' => e = .returned (.pointer (some ⟨o, 0, none⟩)) ∧ Put w o r (bs ++ varb 3 n.toNat) w' :=
  var_any w o r bs n n.toNat (by omega) (.inl (by omega)) h hl

#print axioms var_calls
end Go.Proofs.YtdhdjkpocdfjbabDoor
