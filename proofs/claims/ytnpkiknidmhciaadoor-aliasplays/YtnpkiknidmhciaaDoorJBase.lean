/-
  Several texts, one behind the other. (No statement: contracts that the proofs of the statements use.)
-/
import Derived.Test.YtnpkiknidmhciaaDoorRows
import Derived.WalkKit
import Derived.WalkSpells
import Derived.Lib.AppendStr
import Derived.Maps.AppendAt
import Derived.Lib.Hide
import Derived.ProofKit
import Derived.OpenShut
import Derived.Deep.Slices
import Derived.Deep.Fields
namespace Go.Proofs.YtnpkiknidmhciaaDoor
open Go.RowKit

theorem Tryd.infoU8 : (Tryd.prog.info? 5).map (fun i => (i.zero, i.size, i.bytes)) = some (some (.int .u8 0), 1, 1) := by kernel_rfl

/-- A byte as a cell. -/
def bcell (c : UInt8) : Value := .int .u8 c.toNat
theorem bcells_one (bs : List UInt8) : ∀ u ∈ bs.map bcell, u.oneCell' = true := by
  intro u hu
  obtain ⟨_, _, rfl⟩ := List.mem_map.1 hu
  rfl

theorem own_form {w : World} {v : Value} {n : Nat} {xs : List Value} (h : w.ownsRow 0 5 1 v n xs) (hn : 0 < n) : ∃ g cap, v = .slice (some ⟨g, 0, none⟩) n cap := by
  rcases h.2 with ⟨_, h0⟩ | ⟨g, cap, _, hv, _⟩
  · omega
  · exact ⟨g, cap, hv⟩

/-- Block o holds an Out whose bytes are bs; its row is block r (none: nil). -/
def OutAt (w : World) (o : Nat) (r : Option Nat) (bs : List UInt8) : Prop :=
  ∃ v, w.heap[o]? = some (.cells #[v] 162 (0, 0)) ∧ w.ownsRow 0 5 1 v bs.length (bs.map bcell) ∧ v.ownBlock = r

/-- What a call on the Out at o with row r may have turned: that block, that row, and what is new; r' is the row behind it. -/
structure Step (w w' : World) (o : Nat) (r r' : Option Nat) : Prop where
  os : w'.os = w.os
  tape : w'.tape = w.tape
  output : w'.output = w.output
  size : w.heap.size ≤ w'.heap.size
  block : ∀ k, k < w.heap.size → k ≠ o → some k ≠ r → w'.heap[k]? = w.heap[k]?
  row : r' = r ∨ ∃ g, r' = some g ∧ w.heap.size ≤ g

theorem Step.refl (w : World) (o : Nat) (r : Option Nat) : Step w w o r r := ⟨rfl, rfl, rfl, Nat.le_refl _, fun _ _ _ _ => rfl, .inl rfl⟩
theorem Step.trans {w1 w2 w3 : World} {o : Nat} {r1 r2 r3 : Option Nat} (h : Step w1 w2 o r1 r2) (k : Step w2 w3 o r2 r3) : Step w1 w3 o r1 r3 := by
  refine ⟨k.os.trans h.os, k.tape.trans h.tape, k.output.trans h.output, Nat.le_trans h.size k.size, fun i hi ho hr => ?_, ?_⟩
  · refine (k.block i (Nat.lt_of_lt_of_le hi h.size) ho ?_).trans (h.block i hi ho hr)
    rcases h.row with e | ⟨g, e, hg⟩
    · rw [e]; exact hr
    · rw [e]; intro e'; injection e' with e'; omega
  · rcases k.row with e | ⟨g, e, hg⟩
    · rw [e]; exact h.row
    · exact .inr ⟨g, e, Nat.le_trans h.size hg⟩
/-- What lies below the Out and its row is as it was. -/
theorem Step.below {w w' : World} {o B : Nat} {r r' : Option Nat} (h : Step w w' o r r') (hB : B ≤ w.heap.size) (ho : B ≤ o) (hr : ∀ g, r = some g → B ≤ g) : Below B w w' :=
  ⟨h.os, h.tape, h.output, h.size, fun k hk => h.block k (by omega) (by omega) (fun e => by have := hr k e.symm; omega)⟩

/-- Behind a call the Out at o has the bytes bs. -/
def Put (w : World) (o : Nat) (r : Option Nat) (bs : List UInt8) (w' : World) : Prop := ∃ r', OutAt w' o r' bs ∧ Step w w' o r r'

theorem OutAt.lt {w : World} {o : Nat} {r : Option Nat} {bs : List UInt8} (h : OutAt w o r bs) : o < w.heap.size := by
  obtain ⟨v, h1, _⟩ := h
  exact lt_of_block h1

theorem OutAt.row_ne {w : World} {o : Nat} {r : Option Nat} {bs : List UInt8} (h : OutAt w o r bs) : r ≠ some o := by
  obtain ⟨v, h1, h2, rfl⟩ := h
  rcases h2.2 with ⟨rfl, _⟩ | ⟨g, cap, cur, rfl, _, hh, _⟩
  · simp [Value.ownBlock]
  · intro e
    obtain rfl : g = o := by simpa [Value.ownBlock] using e
    rw [h1] at hh
    simp at hh

theorem OutAt.row_lt {w : World} {o : Nat} {r : Option Nat} {bs : List UInt8} (h : OutAt w o r bs) (g : Nat) (hg : r = some g) : g < w.heap.size := by
  obtain ⟨v, h1, h2, rfl⟩ := h
  rcases h2.2 with ⟨rfl, _⟩ | ⟨g', cap, cur, rfl, _, hh, _⟩
  · simp [Value.ownBlock] at hg
  · obtain rfl : g' = g := by simpa [Value.ownBlock] using hg
    exact lt_of_block hh

/-- An Out that a call elsewhere has not turned. -/
theorem OutAt.keep {w w' : World} {o : Nat} {r : Option Nat} {bs : List UInt8} (h : OutAt w o r bs) (ho : w'.heap[o]? = w.heap[o]?) (hr : ∀ g, r = some g → w'.heap[g]? = w.heap[g]?) : OutAt w' o r bs := by
  obtain ⟨v, h1, h2, h3⟩ := h
  refine ⟨v, ho.trans h1, ⟨h2.1, ?_⟩, h3⟩
  rcases h2.2 with h | ⟨g, cap, cur, hv, hb, hh, rest⟩
  · exact .inl h
  · exact .inr ⟨g, cap, cur, hv, hb, (hr g (by rw [← h3, hv]; rfl)).trans hh, rest⟩

/-- A new Out. -/
theorem OutAt.new (w : World) : OutAt (w.alloc (.cells #[.slice none 0 0] 162)) w.heap.size none [] :=
  ⟨_, heap_alloc_new w _, World.ownsRow_nil _ _ _ _, rfl⟩

/-- What the store of the new slice leaves: the calls' last step. -/
theorem put_of {w w1 : World} {o : Nat} {r : Option Nat} {bs news : List UInt8} {v v' : Value} (h1 : w.heap[o]? = some (.cells #[v] 162 (0, 0)))
    (hv : v.ownBlock = r) (hne : r ≠ some o) {n : Nat} (hn : n = (bs ++ news).length) (hown : w1.ownsRow 0 5 1 v' n ((bs ++ news).map bcell)) (hg : w.grownBy w1 v.ownBlock)
    (hb : v'.ownBlock = v.ownBlock ∨ ∃ g, v'.ownBlock = some g ∧ w.heap.size ≤ g) : Put w o r (bs ++ news) (w1.setCell ⟨o, 0, none⟩ v') := by
  subst hv
  subst hn
  have ho := lt_of_block h1
  have ho1 : w1.heap[o]? = some (.cells #[v] 162 (0, 0)) := (hg.block o ho (fun e => hne e.symm)).trans h1
  refine ⟨v'.ownBlock, ⟨v', one_setCell ho1, ownsRow_setCell_other hown ?_ v', rfl⟩, ?_⟩
  · rcases hb with e | ⟨g, e, hgs⟩
    · rw [e]; exact hne
    · rw [e]; intro e'; injection e' with e'; subst e'; exact absurd hgs (Nat.not_le.2 ho)
  · refine ⟨hg.os, hg.tape, hg.output, by simpa [World.setCell] using hg.size, fun k hk hko hkr => ?_, hb⟩
    exact (Below.heap_setCell w1 ⟨o, 0, none⟩ v' k hko).trans (hg.block k hk hkr)

theorem bcell_of (c : Int) (hc0 : 0 ≤ c) (hc1 : c < 256) : bcell (UInt8.ofNat c.toNat) = .int .u8 c := by
  unfold bcell
  rw [UInt8.toNat_ofNat', Nat.mod_eq_of_lt (by omega), Int.toNat_of_nonneg hc0]

/-- The same, behind the block in which the new bytes lie. -/
theorem put_behind {w w1 : World} {o : Nat} {r : Option Nat} {bs news : List UInt8} {v v' : Value} {ob : Obj} (h1 : w.heap[o]? = some (.cells #[v] 162 (0, 0)))
    (hv : v.ownBlock = r) (hne : r ≠ some o) {n : Nat} (hn : n = (bs ++ news).length) (hown : w1.ownsRow 0 5 1 v' n ((bs ++ news).map bcell)) (hg : (w.alloc ob).grownBy w1 v.ownBlock)
    (hb : v'.ownBlock = v.ownBlock ∨ v'.ownBlock = some (w.heap.size + 1)) : Put w o r (bs ++ news) (w1.setCell ⟨o, 0, none⟩ v') := by
  have hg' : w.grownBy w1 v.ownBlock := ⟨hg.os, hg.tape, hg.output, Nat.le_trans (by simp) hg.size, fun k hk hkr => (hg.block k (by simp; omega) hkr).trans (Below.heap_alloc w ob k hk)⟩
  refine put_of h1 hv hne hn hown hg' ?_
  rcases hb with e | e
  · exact .inl e
  · exact .inr ⟨_, e, by omega⟩

/-- Byte puts one byte. -/
theorem byte_calls (w : World) (o : Nat) (r : Option Nat) (bs : List UInt8) (c : Int) (hc0 : 0 ≤ c) (hc1 : c < 256) (h : OutAt w o r bs) (hl : bs.length < 1000000000) :
    Calls Tryd.prog 87 #[.pointer (some ⟨o, 0, none⟩), .int .u8 c] w fun e w' => e = .returned (.pointer (some ⟨o, 0, none⟩)) ∧ Put w o r (bs ++ [UInt8.ofNat c.toNat]) w' := by
  have HN := Lib.hid h.row_ne
  obtain ⟨v, h1, h2, h3⟩ := h
  have hcell := cell_of_one h1
  have hfr := free_of_one h1
  have hlt := lt_of_block h1
  have H1 := Lib.hid h1
  have H3 := Lib.hid h3
  clear h1 h3
  obtain ⟨i0, hi, hz0, hz1, hz2⟩ := info_parts Tryd.infoU8
  go_enter Tryd.func87, Tryd.ntmps87
  go_wp2_with ((at_builtin; refine wpList_append_own_at _ rfl _ _ 51 rfl 0 5 i0 (.int .u8 0) 1 1 Tryd.underlying51 hi hz0 hz1 hz2 rfl (by decide) _ _ _ rfl (h2.alloc _) ⟨w.heap.size, 0, none⟩ 1 1 [.int .u8 c] rfl rfl (cell_one_new _ _ _) (by simp [Value.oneCell']) (by unfold maxLen; omega) (by omega) (by omega) ?_))
  intro v' w1 hown hgrow _ hat
  have hc1' : w1.cell? ⟨o, 0, none⟩ = some v := by
    rw [World.cell?_of_block (w := w.alloc (.cells #[.int .u8 c] 5)) (hgrow.block o (by simp; omega) (fun e => HN.out (by rw [← H3.out, ← e])))]
    rw [World.cell?_alloc_lt _ _ _ (by exact hlt)]
    exact hcell
  have hf1' : w1.frozen? ⟨o, 0, none⟩ = false := by
    rw [World.frozen?_of_block (w := w.alloc (.cells #[.int .u8 c] 5)) (hgrow.block o (by simp; omega) (fun e => HN.out (by rw [← H3.out, ← e])))]
    rw [World.frozen?_of_block (w := w) (Below.heap_alloc w _ o hlt)]
    exact hfr
  have R : Put w o r (bs ++ [UInt8.ofNat c.toNat]) (w1.setCell ⟨o, 0, none⟩ v') := by
    refine put_behind (n := bs.length + 1) H1.out H3.out HN.out ?_ ?_ hgrow ?_
    · simp
    · rw [List.map_append, List.map_cons, List.map_nil, bcell_of c hc0 hc1]; exact hown
    · simpa using hat
  obtain ⟨g, cap, hv⟩ := own_form hown (by omega)
  have HR := Lib.hid R
  clear R hown hgrow hat hcell hfr
  rw [hv] at HR ⊢
  go_wp2
  go_ret
  exact ⟨rfl, HR.out⟩

theorem two_new (w : World) (x y : Value) (t : TypeId) : ∀ j u, [x, y][j]? = some u → (w.alloc (.cells #[x, y] t)).cell? ((⟨w.heap.size, 0, none⟩ : Addr).add j) = some u := by
  intro j u hj
  match j, hj with
  | 0, hj => simp at hj; subst hj; simp [Addr.add]
  | 1, hj => simp at hj; subst hj; simp [Addr.add]

/-- The bytes of a number in two bytes. -/
def two (n : Int) : List UInt8 := [UInt8.ofNat (n / 256 % 256).toNat, UInt8.ofNat (n % 256).toNat]

/-- Two puts two bytes. -/
theorem two_calls (w : World) (o : Nat) (r : Option Nat) (bs : List UInt8) (n : Int) (_hc0 : 0 ≤ n) (_hc1 : n < 4294967296) (h : OutAt w o r bs) (hl : bs.length < 1000000000) :
    Calls Tryd.prog 89 #[.pointer (some ⟨o, 0, none⟩), .int .u32 n] w fun e w' => e = .returned (.pointer (some ⟨o, 0, none⟩)) ∧ Put w o r (bs ++ two n) w' := by
  have HN := Lib.hid h.row_ne
  obtain ⟨v, h1, h2, h3⟩ := h
  have hcell := cell_of_one h1
  have hfr := free_of_one h1
  have hlt := lt_of_block h1
  have H1 := Lib.hid h1
  have H3 := Lib.hid h3
  clear h1 h3
  obtain ⟨i0, hi, hz0, hz1, hz2⟩ := info_parts Tryd.infoU8
  go_enter Tryd.func89, Tryd.ntmps89
  go_wp2_with ((at_builtin; refine wpList_append_own_at _ rfl _ _ 51 rfl 0 5 i0 (.int .u8 0) 1 1 Tryd.underlying51 hi hz0 hz1 hz2 rfl (by decide) _ _ _ rfl (h2.alloc _) ⟨w.heap.size, 0, none⟩ 2 2 [.int .u8 (n / 256 % 256), .int .u8 (n % 256)] rfl rfl (two_new _ _ _ _) (by simp [Value.oneCell']) (by unfold maxLen; omega) (by omega) (by omega) ?_))
  intro v' w1 hown hgrow _ hat
  have hc1' : w1.cell? ⟨o, 0, none⟩ = some v := by
    rw [World.cell?_of_block (w := w.alloc (.cells #[.int .u8 (n / 256 % 256), .int .u8 (n % 256)] 5)) (hgrow.block o (by simp; omega) (fun e => HN.out (by rw [← H3.out, ← e])))]
    rw [World.cell?_alloc_lt _ _ _ (by exact hlt)]
    exact hcell
  have hf1' : w1.frozen? ⟨o, 0, none⟩ = false := by
    rw [World.frozen?_of_block (w := w.alloc (.cells #[.int .u8 (n / 256 % 256), .int .u8 (n % 256)] 5)) (hgrow.block o (by simp; omega) (fun e => HN.out (by rw [← H3.out, ← e])))]
    rw [World.frozen?_of_block (w := w) (Below.heap_alloc w _ o hlt)]
    exact hfr
  have R : Put w o r (bs ++ two n) (w1.setCell ⟨o, 0, none⟩ v') := by
    refine put_behind (n := bs.length + 2) H1.out H3.out HN.out ?_ ?_ hgrow ?_
    · simp [two]
    · rw [List.map_append, two, List.map_cons, List.map_cons, List.map_nil, bcell_of _ (by omega) (by omega), bcell_of _ (by omega) (by omega)]; exact hown
    · simpa using hat
  obtain ⟨g, cap, hv⟩ := own_form hown (by omega)
  have HR := Lib.hid R
  clear R hown hgrow hat hcell hfr
  rw [hv] at HR ⊢
  go_wp2
  go_ret
  exact ⟨rfl, HR.out⟩

/-- A string's bytes. -/
def str (bs : List UInt8) : ByteArray := ⟨bs.toArray⟩

/-- Text answers all bytes. -/
theorem text_calls (w : World) (o : Nat) (r : Option Nat) (bs : List UInt8) (h : OutAt w o r bs) :
    Calls Tryd.prog 91 #[.pointer (some ⟨o, 0, none⟩)] w fun e w' => e = .returned (.string (str bs)) ∧ w = w' := by
  obtain ⟨v, h1, h2, h3⟩ := h
  have hcell := cell_of_one h1
  have hcv : (convert 51 9 v).run Tryd.prog w = .ok (.string (str bs)) w := by
    rcases h2.2 with ⟨rfl, h0⟩ | ⟨g, cap, cur, rfl, _, hh, hnc, _, _, htake⟩
    · rw [run_convert_bytes_nil w 51 5 Tryd.underlying51 Tryd.underlying5 0 0 9 Tryd.underlying9]
      have : bs = [] := List.eq_nil_of_length_eq_zero h0
      subst this
      rfl
    · rw [run_convert_bytes_arg w 51 5 Tryd.underlying51 Tryd.underlying5 g 0 bs.length cap (bs.map fun c => (c.toNat : Int)) (by simp) ?_ 9 Tryd.underlying9]
      · congr 2
        simp only [strOfNums, str, List.map_map]
        congr 2
        conv => rhs; rw [← List.map_id bs]
        apply List.map_congr_left
        intro c _
        simp
      · intro i hi
        have hc := h2.cellAt i (by omega)
        rw [Nat.zero_add, hc]
        simp [List.getD, bcell, hi]
  have hsl : ∃ a l c, v = .slice a l c := by
    rcases h2.2 with ⟨rfl, h0⟩ | ⟨g, cap, cur, rfl, _⟩
    · exact ⟨_, _, _, rfl⟩
    · exact ⟨_, _, _, rfl⟩
  obtain ⟨a, l, c, rfl⟩ := hsl
  clear h2 h3 h1
  go_enter Tryd.func91, Tryd.ntmps91
  go_wp2
  go_ret
  exact ⟨rfl, rfl⟩

/-- Len answers how many. -/
theorem len_calls (w : World) (o : Nat) (r : Option Nat) (bs : List UInt8) (h : OutAt w o r bs) :
    Calls Tryd.prog 133 #[.pointer (some ⟨o, 0, none⟩)] w fun e w' => e = .returned (.int .i64 bs.length) ∧ w = w' := by
  obtain ⟨v, h1, h2, h3⟩ := h
  have hcell := cell_of_one h1
  have hsl : ∃ a c, v = .slice a bs.length c := by
    rcases h2.2 with ⟨rfl, h0⟩ | ⟨g, cap, cur, rfl, _⟩
    · exact ⟨_, _, by rw [h0]⟩
    · exact ⟨_, _, rfl⟩
  obtain ⟨a, c, rfl⟩ := hsl
  clear h2 h3 h1
  go_enter Tryd.func133, Tryd.ntmps133
  go_wp2
  go_ret
  exact ⟨rfl, rfl⟩

/-- Where the row lies behind an append of a string. -/
theorem string_at {w w' : World} {v v' : Value} {n : Nat} {xs : List Value} {ty : TypeId} {i : TypeInfo} (hi : Tryd.prog.info? 5 = some i) (hz : i.zero = some (.int .u8 0)) (hs : i.size = 1) (hb : i.bytes = 1)
    (hown : w.ownsRow 0 5 1 v n xs) (s : ByteArray) (hn : n + s.size ≤ 140737488355328) (hr : (Builtin.append_ #[51, 9] ty #[v, .string s]).run Tryd.prog w = .ok v' w') :
    v'.ownBlock = v.ownBlock ∨ v'.ownBlock = some w.heap.size := by
  have hxl : xs.length = n := by simpa using hown.1
  rcases hown.2 with ⟨rfl, rfl⟩ | ⟨g, cap, cur, rfl, _, hg, hnc, hcm, hcs, _⟩
  · by_cases hm : s.size = 0
    · have hf := Lib.run_firstCells_string (P := Tryd.prog) w 1 s
      rw [hm] at hf
      simp [Builtin.append_, run_underlying Tryd.underlying51, run_underlying Tryd.underlying9, sizeOf, typeInfo, hi, hs, Builtin.lenOf, hm, hf] at hr
      rw [← hr.1]
      exact .inl rfl
    · have h := run_append_nil_string (P := Tryd.prog) w 51 9 ty 5 i (.int .u8 0) Tryd.underlying51 Tryd.underlying9 hi hz s (by omega) (by omega) (by rw [hb]; omega)
      rw [h] at hr
      injection hr with e _
      rw [← e]
      exact .inr rfl
  · by_cases hroom : n + s.size ≤ cap
    · have hcs' : cur.size = cap := by simpa using hcs
      have h := Lib.run_append_room_string (P := Tryd.prog) w 51 9 ty 5 i Tryd.underlying51 Tryd.underlying9 hi hs g n cap cur hg s hroom (by omega)
      rw [h] at hr
      injection hr with e _
      rw [← e]
      exact .inl rfl
    · have holds : ∀ j u, xs[j]? = some u → w.cell? ((⟨g, 0, none⟩ : Addr).add j) = some u := hown.cells (g := g) rfl
      have h := Lib.run_append_grow_string (P := Tryd.prog) w 51 9 ty 5 i (.int .u8 0) Tryd.underlying51 Tryd.underlying9 hi hz ⟨g, 0, none⟩ n cap xs (by rw [hs]; simpa using hxl) holds s (by omega) (by omega) (by rw [hb]; exact growslice_fits (by omega) (by omega))
      rw [h] at hr
      injection hr with e _
      rw [← e]
      exact .inr rfl

theorem wpList_raw (w : World) {ops : Array Oper} {rest : List Oper} {o : Oper} {a : Act} {Q : Exit → Act → World → Prop} (hgd : o.guard = none) (sl x : Operand)
    (ho : o.op = .call { callee := .builtin .append, args := #[sl, x], argTypes := #[51, 9] }) {i : TypeInfo} (hi : Tryd.prog.info? 5 = some i) (hz : i.zero = some (.int .u8 0)) (hsz : i.size = 1) (hb : i.bytes = 1)
    (v : Value) (n : Nat) (xs : List Value) (hs : a.eval sl = v) (hown : w.ownsRow 0 5 1 v n xs) (s : ByteArray) (hx : a.eval x = .string s) (hn : n + s.size ≤ 140737488355328)
    (h : ∀ v' w', w'.ownsRow 0 5 1 v' (n + s.size) (xs ++ Lib.strCells s) → w.grownBy w' v.ownBlock → (v'.ownBlock = v.ownBlock ∨ v'.ownBlock = some w.heap.size) → wpList Tryd.prog ops Q rest (a.put o.dst v') w') : wpList Tryd.prog ops Q (o :: rest) a w := by
  refine wpList_plain hgd fun K hK => ?_
  obtain ⟨v', w', hr, h2, h3, _⟩ := Lib.run_append_own_string (P := Tryd.prog) w 0 51 9 o.type 5 i Tryd.underlying51 Tryd.underlying9 hi hz hsz hb v n xs hown s (by unfold maxLen; omega) hn (Nat.zero_le _)
  have h4 := string_at hi hz hsz hb hown s hn hr
  unfold Oper.wp execOp
  simp only [ho, resolve, invoke, builtin, Sem.run_bind, Sem.run_pure, Result.andThen_ok, List.map_toArray, List.map_cons, List.map_nil, hs, hx, hr]
  exact hK _ _ (h v' w' h2 h3 h4)

theorem strCells_eq (s : ByteArray) : Lib.strCells s = s.data.toList.map bcell := rfl

/-- Raw puts a text's bytes. -/
theorem raw_calls (w : World) (o : Nat) (r : Option Nat) (bs : List UInt8) (s : ByteArray) (h : OutAt w o r bs) (hl : bs.length + s.size < 1000000000) :
    Calls Tryd.prog 107 #[.pointer (some ⟨o, 0, none⟩), .string s] w fun e w' => e = .returned (.pointer (some ⟨o, 0, none⟩)) ∧ Put w o r (bs ++ s.data.toList) w' := by
  have HN := Lib.hid h.row_ne
  obtain ⟨v, h1, h2, h3⟩ := h
  have hcell := cell_of_one h1
  have hfr := free_of_one h1
  have hlt := lt_of_block h1
  have H1 := Lib.hid h1
  have H3 := Lib.hid h3
  clear h1 h3
  obtain ⟨i0, hi, hz0, hz1, hz2⟩ := info_parts Tryd.infoU8
  go_enter Tryd.func107, Tryd.ntmps107
  go_wp2_with ((at_builtin; refine wpList_raw _ rfl _ _ rfl hi hz0 hz1 hz2 _ _ _ rfl h2 s rfl (by omega) ?_))
  intro v' w1 hown hgrow hat
  have hc1' : w1.cell? ⟨o, 0, none⟩ = some v := by
    rw [World.cell?_of_block (w := w) (hgrow.block o hlt (fun e => HN.out (by rw [← H3.out, ← e])))]
    exact hcell
  have hf1' : w1.frozen? ⟨o, 0, none⟩ = false := by
    rw [World.frozen?_of_block (w := w) (hgrow.block o hlt (fun e => HN.out (by rw [← H3.out, ← e])))]
    exact hfr
  have R : Put w o r (bs ++ s.data.toList) (w1.setCell ⟨o, 0, none⟩ v') := by
    refine put_of (n := bs.length + s.size) H1.out H3.out HN.out ?_ ?_ hgrow ?_
    · rw [List.length_append, Array.length_toList]; rfl
    · rw [List.map_append]; exact hown
    · rcases hat with e | e
      · exact .inl e
      · exact .inr ⟨_, e, Nat.le_refl _⟩
  have hv : ∃ a l c, v' = .slice a l c := by
    rcases hown.2 with ⟨e, _⟩ | ⟨g, cap, _, e, _⟩
    · exact ⟨_, _, _, e⟩
    · exact ⟨_, _, _, e⟩
  obtain ⟨a, l, c, hv⟩ := hv
  have HR := Lib.hid R
  clear R hown hgrow hat hcell hfr
  rw [hv] at HR ⊢
  go_wp2
  go_ret
  exact ⟨rfl, HR.out⟩

theorem Put.trans {w1 w2 w3 : World} {o : Nat} {r r2 : Option Nat} {bs : List UInt8} (h : Step w1 w2 o r r2) (k : Put w2 o r2 bs w3) : Put w1 o r bs w3 := by
  obtain ⟨r', h1, h2⟩ := k
  exact ⟨r', h1, h.trans h2⟩

/-- Four puts four bytes. -/
theorem four_calls (w : World) (o : Nat) (r : Option Nat) (bs : List UInt8) (n : Int) (hc0 : 0 ≤ n) (hc1 : n < 4294967296) (h : OutAt w o r bs) (hl : bs.length < 999999000) :
    Calls Tryd.prog 151 #[.pointer (some ⟨o, 0, none⟩), .int .u32 n] w fun e w' => e = .returned (.pointer (some ⟨o, 0, none⟩)) ∧ Put w o r (bs ++ (two (n / 65536) ++ two n)) w' := by
  go_enter Tryd.func151, Tryd.ntmps151
  go_wp2_with fail
  refine (two_calls _ o r bs _ (by omega) (by omega) h (by omega)).mono ?_
  rintro e w1 ⟨rfl, r1, h1, hs1⟩
  go_wp2_with fail
  refine (two_calls _ o r1 _ n (by omega) (by omega) h1 (by simp [two]; omega)).mono ?_
  rintro e w2 ⟨rfl, h2⟩
  have HR := Lib.hid (Put.trans hs1 h2)
  clear h2 hs1 h1 h
  go_wp2
  go_ret
  rw [← List.append_assoc]
  exact ⟨rfl, HR.out⟩

/-- Data puts how many, and these. -/
theorem data_calls (w : World) (o : Nat) (r : Option Nat) (bs : List UInt8) (s : ByteArray) (h : OutAt w o r bs) (hs : s.size ≤ 65535) (hl : bs.length < 999000000) :
    Calls Tryd.prog 86 #[.pointer (some ⟨o, 0, none⟩), .string s] w fun e w' => e = .returned (.pointer (some ⟨o, 0, none⟩)) ∧ Put w o r (bs ++ (two s.size ++ s.data.toList)) w' := by
  go_enter Tryd.func86, Tryd.ntmps86
  go_wp2_with fail
  refine (two_calls _ o r bs _ (by omega) (by omega) h (by omega)).mono ?_
  rintro e w1 ⟨rfl, r1, h1, hs1⟩
  go_wp2_with fail
  refine (raw_calls _ o r1 _ s h1 (by simp [two]; omega)).mono ?_
  rintro e w2 ⟨rfl, h2⟩
  have HR := Lib.hid (Put.trans hs1 h2)
  clear h2 hs1 h1 h
  go_wp2
  go_ret
  rw [← List.append_assoc]
  exact ⟨rfl, HR.out⟩

/-- A scope that begins with code ahead of its one label: what holds when the label is come to. -/
theorem wp_scope_head {P : Program} {a : Act} {w : World} {Q : Exit → Act → World → Prop} {c0 rest : Code} (l : Nat) (J : Act → World → Prop) (μ : Act → World → Nat) (hf : findLabel (c0.seq ((Code.label l).seq rest)) l = some (Code.skip.seq rest))
    (start : c0.wp P (Exit.then J (Exit.jump l J Q)) a w)
    (pass : ∀ a w, J a w → rest.wp P (Exit.jump l (fun a' w' => J a' w' ∧ μ a' w' < μ a w) Q) a w) : (Code.scope (c0.seq ((Code.label l).seq rest))).wp P Q a w := by
  refine wp_scope_jumps l J μ hf (wp_seq (wp_mono start ?_)) (fun a w hJ => wp_seq (wp_skip (pass a w hJ)))
  intro e a1 w1 h
  cases e with
  | normal =>
    refine wp_seq (wp_label ?_)
    refine wp_mono (pass a1 w1 h) ?_
    intro e a2 w2 h2
    cases e with
    | goto l' => exact ⟨h2.1, h2.2.1⟩
    | normal => exact h2
    | exit id => exact h2
    | ret => exact h2
    | panic ch => exact h2
    | outgrown => exact h2
  | goto l' => exact h
  | exit id => exact h
  | ret => exact h
  | panic ch => exact h
  | outgrown => exact h

/-- The bytes of a variable byte integer, of at most k + 1 bytes. -/
def varb : Nat → Nat → List UInt8
  | 0, m => [UInt8.ofNat m]
  | k + 1, m => if m < 128 then [UInt8.ofNat m] else UInt8.ofNat (m % 128 + 128) :: varb k (m / 128)

theorem varb_small (k m : Nat) (h : m < 128) : varb k m = [UInt8.ofNat m] := by
  cases k with
  | zero => rfl
  | succ k => rw [varb, if_pos h]
theorem varb_step (k m : Nat) (h : ¬ m < 128) : varb (k + 1) m = UInt8.ofNat (m % 128 + 128) :: varb k (m / 128) := by rw [varb, if_neg h]
theorem varb_len (k m : Nat) : (varb k m).length ≤ k + 1 := by
  induction k generalizing m with
  | zero => simp [varb]
  | succ k ih =>
    rw [varb]
    split
    · simp
    · simp; exact ih _

/-- What holds at the label of Var. -/
def VarJ (w : World) (o : Nat) (r : Option Nat) (bs : List UInt8) (n : Nat) (a' : Act) (w' : World) : Prop :=
  ∃ (m k : Nat) (pre : List UInt8) (r' : Option Nat) (u5 u6 u7 u8 u9 u10 u11 u12 u13 u14 u15 u16 u17 u18 u19 u20 : Value),
    a' = { tmps := #[.pointer (some ⟨o, 0, none⟩), .int .u32 m, undef, undef, .pointer none, u5, u6, u7, u8, u9, u10, u11, u12, u13, u14, u15, u16, u17, u18, u19, u20], defers := [] } ∧
    OutAt w' o r' (bs ++ pre) ∧ Step w w' o r r' ∧ varb 3 n = pre ++ varb k m ∧ pre.length + k = 3 ∧ m < 128 ^ (k + 1)

set_option maxRecDepth 100000 in
/-- Var puts a variable byte integer. -/
theorem var_any (w : World) (o : Nat) (r : Option Nat) (bs : List UInt8) (n : Int) (N : Nat) (hN : N ≤ 268435455) (hn : n = N ∨ (N = 268435455 ∧ 268435455 < n ∧ n < 4294967296)) (h : OutAt w o r bs) (hl : bs.length < 999999000) :
    Calls Tryd.prog 132 #[.pointer (some ⟨o, 0, none⟩), .int .u32 n] w fun e w' => e = .returned (.pointer (some ⟨o, 0, none⟩)) ∧ Put w o r (bs ++ varb 3 N) w' := by
  have HC := Lib.hid hn
  clear hn
  go_enter Tryd.func132, Tryd.ntmps132
  go_wp2_with fail
  refine wp_scope_head 0 (VarJ w o r bs N) (fun a' _ => (intOf (a'.tmps.getD 1 undef)).toNat) rfl ?_ ?_
  · have HJ := Lib.hid h
    clear h
    rcases HC.out with rfl | ⟨rfl, hg, hg2⟩
    all_goals clear HC
    all_goals go_wp2
    rotate_left
    · exact ⟨268435455, 3, [], r, _, _, _, _, _, _, _, _, _, _, _, _, _, _, _, _, rfl, by rw [List.append_nil]; exact HJ.out, Step.refl _ _ _, rfl, rfl, by decide⟩
    exact ⟨N, 3, [], r, _, _, _, _, _, _, _, _, _, _, _, _, _, _, _, _, rfl, by rw [List.append_nil]; exact HJ.out, Step.refl _ _ _, rfl, rfl, by omega⟩
  · clear h
    rintro a' w' ⟨m, k, pre, r', u5, u6, u7, u8, u9, u10, u11, u12, u13, u14, u15, u16, u17, u18, u19, u20, rfl, ho, hs, hv, hk, hm⟩
    have HS := Lib.hid hs
    have HV := Lib.hid hv
    have hpl : (bs ++ pre).length < 1000000000 := by rw [List.length_append]; omega
    have hmb : m < 268435456 := Nat.lt_of_lt_of_le hm (Nat.le_trans (Nat.pow_le_pow_right (by omega) (show k + 1 ≤ 4 by omega)) (by omega))
    have HM := Lib.hid hm
    have HK := Lib.hid hk
    clear hs hv hm hk
    by_cases hlt : m < 128
    · go_wp2_with fail
      refine (byte_calls _ o r' _ _ (by omega) (by omega) ho hpl).mono ?_
      rintro e w1 ⟨rfl, hp⟩
      have HP := Lib.hid (Put.trans HS.out hp)
      clear hp ho
      go_wp2
      simp only [Exit.jump]
      go_ret
      refine ⟨rfl, ?_⟩
      rw [HV.out, varb_small k m hlt, ← List.append_assoc]
      exact HP.out
    · obtain ⟨k', rfl⟩ : ∃ k', k = k' + 1 := by
        cases k with
        | zero => exact absurd (by simpa using HM.out) hlt
        | succ k => exact ⟨k, rfl⟩
      have hor := u8_or128_right ((m : Int) % 128) (by omega) (by omega)
      go_wp2_with fail
      refine (byte_calls _ o r' _ _ (by omega) (by omega) ho hpl).mono ?_
      rintro e w1 ⟨rfl, r1, h1, hs1⟩
      have HP := Lib.hid (HS.out.trans hs1)
      have HO := Lib.hid h1
      clear h1 hs1 ho hor
      go_wp2
      go_step3
      have e1 : (m : Int) / 128 = ((m / 128 : Nat) : Int) := by omega
      rw [e1]
      have e2 : ((m : Int) % 128 + 128).toNat = m % 128 + 128 := by omega
      rw [e2] at HO
      refine ⟨rfl, ⟨m / 128, k', pre ++ [UInt8.ofNat (m % 128 + 128)], r1, _, _, _, _, _, _, _, _, _, _, _, _, _, _, _, _, rfl, by rw [← List.append_assoc]; exact HO.out, HP.out, ?_, ?_, ?_⟩, ?_⟩
      · rw [HV.out, varb_step k' m hlt, List.append_assoc]; rfl
      · have := HK.out; simp; omega
      · have := HM.out
        rw [Nat.pow_succ] at this
        exact Nat.div_lt_of_lt_mul (by rw [Nat.mul_comm]; exact this)
      · simp [intOf]; omega

theorem var_calls (w : World) (o : Nat) (r : Option Nat) (bs : List UInt8) (n : Int) (hc0 : 0 ≤ n) (hc1 : n ≤ 268435455) (h : OutAt w o r bs) (hl : bs.length < 999999000) :
    Calls Tryd.prog 132 #[.pointer (some ⟨o, 0, none⟩), .int .u32 n] w fun e w' => e = .returned (.pointer (some ⟨o, 0, none⟩)) ∧ Put w o r (bs ++ varb 3 n.toNat) w' :=
  var_any w o r bs n n.toNat (by omega) (.inl (by omega)) h hl

#print axioms var_calls
end Go.Proofs.YtnpkiknidmhciaaDoor

namespace Go.Proofs.YtnpkiknidmhciaaDoor
open Go.RowKit

/-- Block p holds an In that has s left, and the error e. -/
def InAt (w : World) (p : Nat) (s : ByteArray) (e : Int) : Prop := w.heap[p]? = some (.cells #[.string s, .int .i64 e] 185 (0, 0))

/-- Block p alone has turned. -/
structure Only (p : Nat) (w w' : World) : Prop where
  os : w'.os = w.os
  tape : w'.tape = w.tape
  output : w'.output = w.output
  size : w'.heap.size = w.heap.size
  block : ∀ k, k ≠ p → w'.heap[k]? = w.heap[k]?

theorem Only.refl (p : Nat) (w : World) : Only p w w := ⟨rfl, rfl, rfl, rfl, fun _ _ => rfl⟩
theorem Only.trans {p : Nat} {w1 w2 w3 : World} (h : Only p w1 w2) (k : Only p w2 w3) : Only p w1 w3 :=
  ⟨k.os.trans h.os, k.tape.trans h.tape, k.output.trans h.output, k.size.trans h.size, fun i hi => (k.block i hi).trans (h.block i hi)⟩
theorem Only.set {p : Nat} {w w' : World} (h : Only p w w') (j : Nat) (u : Value) : Only p w (w'.setCell ⟨p, j, none⟩ u) :=
  ⟨h.os, h.tape, h.output, by simpa [World.setCell] using h.size, fun k hk => (Below.heap_setCell w' ⟨p, j, none⟩ u k hk).trans (h.block k hk)⟩
theorem Only.below {p B : Nat} {w w' : World} (h : Only p w w') (hB : B ≤ p) : Below B w w' :=
  ⟨h.os, h.tape, h.output, Nat.le_of_eq h.size.symm, fun k hk => h.block k (by omega)⟩
theorem Only.out {p : Nat} {w w' : World} (h : Only p w w') {o : Nat} {r : Option Nat} {bs : List UInt8} (ho : OutAt w o r bs) (h1 : o ≠ p) (h2 : r ≠ some p) : OutAt w' o r bs :=
  ho.keep (h.block o h1) (fun g hg => h.block g (fun e => h2 (by rw [hg, e])))

section
variable {w : World} {p : Nat} {s : ByteArray} {e : Int}
theorem InAt.lt (h : InAt w p s e) : p < w.heap.size := lt_of_block h
theorem InAt.cell0 (h : InAt w p s e) : w.cell? ⟨p, 0, none⟩ = some (.string s) := by unfold InAt at h; simp [World.cell?, h]
theorem InAt.cell1 (h : InAt w p s e) : w.cell? ⟨p, 1, none⟩ = some (.int .i64 e) := by unfold InAt at h; simp [World.cell?, h]
theorem InAt.free (h : InAt w p s e) (j : Nat) : w.frozen? ⟨p, j, none⟩ = false := by unfold InAt at h; simp [World.frozen?, h]
theorem InAt.set0 (h : InAt w p s e) (s' : ByteArray) : InAt (w.setCell ⟨p, 0, none⟩ (.string s')) p s' e := by
  unfold InAt at h ⊢
  simp [World.setCell, Array.getElem?_modify, h]
theorem InAt.set1 (h : InAt w p s e) (e' : Int) : InAt (w.setCell ⟨p, 1, none⟩ (.int .i64 e')) p s e' := by
  unfold InAt at h ⊢
  simp [World.setCell, Array.getElem?_modify, h]
theorem InAt.keep {w' : World} (h : InAt w p s e) (hk : w'.heap[p]? = w.heap[p]?) : InAt w' p s e := hk.trans h
end

theorem InAt.below {w w' : World} {p : Nat} {s : ByteArray} {x : Int} (h : InAt w p s x) (hb : Below w.heap.size w w') : InAt w' p s x := h.keep (hb.block p h.lt)

/-- Over: a new In. -/
theorem over_calls (w : World) (s : ByteArray) :
    Calls Tryd.prog 67 #[.string s] w fun e w' => e = .returned (.pointer (some ⟨w.heap.size, 0, none⟩)) ∧ w' = w.alloc (.cells #[.string s, .int .i64 0] 185) := by
  go_enter Tryd.func67, Tryd.ntmps67
  go_wp2
  go_ret
  exact ⟨rfl, rfl⟩

theorem InAt.new (w : World) (s : ByteArray) : InAt (w.alloc (.cells #[.string s, .int .i64 0] 185)) w.heap.size s 0 := heap_alloc_new w _

theorem err_calls (w : World) (p : Nat) (s : ByteArray) (x : Int) (h : InAt w p s x) :
    Calls Tryd.prog 118 #[.pointer (some ⟨p, 0, none⟩)] w fun e w' => e = .returned (.int .i64 x) ∧ w = w' := by
  have h1 := h.cell1
  clear h
  go_enter Tryd.func118, Tryd.ntmps118
  go_wp2
  go_ret
  exact ⟨rfl, rfl⟩

theorem left_calls (w : World) (p : Nat) (s : ByteArray) (x : Int) (h : InAt w p s x) :
    Calls Tryd.prog 137 #[.pointer (some ⟨p, 0, none⟩)] w fun e w' => e = .returned (.int .i64 s.size) ∧ w = w' := by
  have h1 := h.cell0
  clear h
  go_enter Tryd.func137, Tryd.ntmps137
  go_wp2
  go_ret
  exact ⟨rfl, rfl⟩

/-- The error behind Fail. -/
def failed (x f : Int) : Int := if x = 0 then f else x

theorem fail_calls (w : World) (p : Nat) (s : ByteArray) (x f : Int) (h : InAt w p s x) :
    Calls Tryd.prog 82 #[.pointer (some ⟨p, 0, none⟩), .int .i64 f] w fun e w' => e = .returned (.tuple #[]) ∧ InAt w' p s (failed x f) ∧ Only p w w' := by
  have h1 := h.cell1
  have h2 := h.free 1
  have H := Lib.hid h
  clear h
  unfold failed
  by_cases hx : x = 0
  · subst hx
    go_enter Tryd.func82, Tryd.ntmps82
    go_wp2
    go_end0
    exact ⟨rfl, H.out.set1 f, (Only.refl p w).set 1 _⟩
  · have hb : (x == 0) = false := by simp [hx]
    rw [if_neg hx]
    go_enter Tryd.func82, Tryd.ntmps82
    go_wp2
    go_end0
    exact ⟨rfl, H.out, Only.refl p w⟩

/-- What Raw takes of s with error x: the bytes, what is left, the error. -/
def rawT (s : ByteArray) (x n : Int) : ByteArray × ByteArray × Int :=
  if x ≠ 0 then (⟨#[]⟩, s, x) else if (s.size : Int) < n then (⟨#[]⟩, s, 1) else if n ≤ 0 then (⟨#[]⟩, s, 0) else (s.extract 0 n.toNat, s.extract n.toNat s.size, 0)

/-- An In that a call has taken t of. -/
def Took (w : World) (p : Nat) (s : ByteArray) (x : Int) (w' : World) : Prop := InAt w' p s x ∧ Only p w w'

theorem rawIn_calls (w : World) (p : Nat) (s : ByteArray) (x n : Int) (h : InAt w p s x) :
    Calls Tryd.prog 116 #[.pointer (some ⟨p, 0, none⟩), .int .i64 n] w fun e w' => e = .returned (.string (rawT s x n).1) ∧ Took w p (rawT s x n).2.1 (rawT s x n).2.2 w' := by
  have h0 := h.cell0
  have h1 := h.cell1
  have f0 := h.free 0
  have f1 := h.free 1
  by_cases hx : x = 0
  · subst hx
    by_cases hg : (s.size : Int) < n
    · have e : rawT s 0 n = (⟨#[]⟩, s, 1) := by simp [rawT, hg]
      rw [e]
      go_enter Tryd.func116, Tryd.ntmps116
      go_wp2_with fail
      refine (fail_calls _ p s 0 1 h).mono ?_
      rintro e w1 ⟨rfl, hi, ho⟩
      have c0 := hi.cell0
      have c1 := hi.cell1
      have HI := Lib.hid (show Took w p s 1 w1 from ⟨hi, ho⟩)
      clear hi ho h h0 h1 f0 f1
      have c1' : w1.cell? ⟨p, 1, none⟩ = some (.int .i64 1) := c1
      clear c1
      go_wp2
      go_ret
      exact ⟨rfl, HI.out⟩
    · by_cases hz : n ≤ 0
      · have e : rawT s 0 n = (⟨#[]⟩, s, 0) := by simp [rawT, hg, hz]
        rw [e]
        have HI := Lib.hid (show Took w p s 0 w from ⟨h, Only.refl _ _⟩)
        clear h
        go_enter Tryd.func116, Tryd.ntmps116
        go_wp2
        go_ret
        exact ⟨rfl, HI.out⟩
      · obtain ⟨k, rfl⟩ := Int.eq_ofNat_of_zero_le (show 0 ≤ n by omega)
        have e : rawT s 0 k = (s.extract 0 k, s.extract k s.size, 0) := by simp [rawT, hg, show ¬ (k = 0) by omega]
        rw [e]
        have HI := Lib.hid (show Took w p (s.extract k s.size) 0 (w.setCell ⟨p, 0, none⟩ (.string (s.extract k s.size))) from ⟨h.set0 _, (Only.refl _ _).set 0 _⟩)
        clear h
        go_enter Tryd.func116, Tryd.ntmps116
        go_wp2
        go_ret
        exact ⟨rfl, HI.out⟩
  · have hb : (x == 0) = false := by simp [hx]
    have hb' : (x != 0) = true := by simp [hx]
    have e : rawT s x n = (⟨#[]⟩, s, x) := by simp [rawT, hx]
    rw [e]
    by_cases hg : (s.size : Int) < n
    · go_enter Tryd.func116, Tryd.ntmps116
      go_wp2_with fail
      refine (fail_calls _ p s x 1 h).mono ?_
      rintro e w1 ⟨rfl, hi, ho⟩
      rw [failed, if_neg hx] at hi
      have c1 := hi.cell1
      have HI := Lib.hid (show Took w p s x w1 from ⟨hi, ho⟩)
      clear hi ho h h0 h1 f0 f1
      go_wp2
      go_ret
      exact ⟨rfl, HI.out⟩
    · have HI := Lib.hid (show Took w p s x w from ⟨h, Only.refl _ _⟩)
      clear h
      go_enter Tryd.func116, Tryd.ntmps116
      go_wp2
      go_ret
      exact ⟨rfl, HI.out⟩

/-- A number, its highest byte first. -/
def numL (l : List UInt8) : Nat := l.foldl (fun v c => v * 256 + c.toNat) 0
theorem numL_snoc (l : List UInt8) (c : UInt8) : numL (l ++ [c]) = numL l * 256 + c.toNat := by simp [numL]
theorem numL_lt_acc (l : List UInt8) : ∀ a : Nat, l.foldl (fun v c => v * 256 + c.toNat) a < (a + 1) * 256 ^ l.length := by
  induction l with
  | nil => intro a; simp
  | cons c l ih =>
    intro a
    have hc := c.toNat_lt
    refine Nat.lt_of_lt_of_le (ih _) ?_
    rw [List.length_cons, Nat.pow_succ, Nat.mul_comm (256 ^ l.length) 256, ← Nat.mul_assoc]
    exact Nat.mul_le_mul_right _ (show a * 256 + c.toNat + 1 ≤ (a + 1) * 256 by omega)
theorem numL_lt (l : List UInt8) : numL l < 256 ^ l.length := by have h := numL_lt_acc l 0; simp only [Nat.zero_add, Nat.one_mul] at h; exact h
theorem numL_lt3 (l : List UInt8) (h : l.length ≤ 3) : numL l < 16777216 := Nat.lt_of_lt_of_le (numL_lt l) (Nat.le_trans (Nat.pow_le_pow_right (by omega) h) (by omega))
theorem numL_lt4 (l : List UInt8) (h : l.length ≤ 4) : numL l < 4294967296 := Nat.lt_of_lt_of_le (numL_lt l) (Nat.le_trans (Nat.pow_le_pow_right (by omega) h) (by omega))

theorem rawT_size (s : ByteArray) (x n : Int) : ((rawT s x n).1.size : Int) ≤ max n 0 := by
  have e : (⟨#[]⟩ : ByteArray).size = 0 := rfl
  unfold rawT
  split
  · show ((⟨#[]⟩ : ByteArray).size : Int) ≤ _; rw [e]; omega
  · split
    · show ((⟨#[]⟩ : ByteArray).size : Int) ≤ _; rw [e]; omega
    · split
      · show ((⟨#[]⟩ : ByteArray).size : Int) ≤ _; rw [e]; omega
      · simp; omega

theorem take_snoc (s : ByteArray) (k : Nat) (h : k < s.size) : s.data.toList.take (k + 1) = s.data.toList.take k ++ [s[k]] := by
  rw [List.take_succ_eq_append_getElem (by simpa using h)]; rfl

theorem or_byte (a c : Nat) (ha : a < 16777216) (hc : c < 256) : bits .or .u32 ((a : Int) * 256) (c : Int) = (a : Int) * 256 + c := by
  have e : ((a : Int) * 256) = ((a * 256 : Nat) : Int) := by omega
  rw [e, u32_or_nat _ _ (by omega) (by omega)]
  have h := Nat.two_pow_add_eq_or_of_lt (i := 8) (b := c) (by omega) a
  have e2 : a * 256 ||| c = a * 256 + c := by rw [show a * 256 = 2 ^ 8 * a by omega]; exact h.symm
  rw [e2]
  omega

theorem rest_calls (w : World) (p : Nat) (s : ByteArray) (x : Int) (h : InAt w p s x) :
    Calls Tryd.prog 102 #[.pointer (some ⟨p, 0, none⟩)] w fun e w' => e = .returned (.string (rawT s x s.size).1) ∧ Took w p (rawT s x s.size).2.1 (rawT s x s.size).2.2 w' := by
  have h0 := h.cell0
  go_enter Tryd.func102, Tryd.ntmps102
  go_wp2_with fail
  refine (rawIn_calls _ p s x _ h).mono ?_
  rintro e w1 ⟨rfl, ht⟩
  have HT := Lib.hid ht
  clear ht h0 h
  go_wp2
  go_ret
  exact ⟨rfl, HT.out⟩

theorem number_calls (w : World) (p : Nat) (s : ByteArray) (x n : Int) (t s' : ByteArray) (x' : Int) (hr : rawT s x n = (t, s', x')) (h : InAt w p s x) (hn : n ≤ 4) :
    Calls Tryd.prog 115 #[.pointer (some ⟨p, 0, none⟩), .int .i64 n] w fun e w' => e = .returned (.int .u32 (numL t.data.toList)) ∧ Took w p s' x' w' := by
  have hsz : t.size ≤ 4 := by have := rawT_size s x n; rw [hr] at this; dsimp only at this; omega
  have HR := Lib.hid hr
  clear hr
  go_enter Tryd.func115, Tryd.ntmps115
  go_wp2_with fail
  refine (rawIn_calls _ p s x _ h).mono ?_
  rw [HR.out]
  rintro e w1 ⟨rfl, ht⟩
  have HT := Lib.hid ht
  clear ht h
  go_wp2
  go_loop [5, 13] (fun v i => ∃ k : Nat, k ≤ t.size ∧ i = .int .i64 k ∧ v = .int .u32 (numL (t.data.toList.take k))) (fun _ i => t.size - (intOf i).toNat)
  case atStart => exact ⟨0, Nat.zero_le _, rfl, rfl⟩
  case round =>
    obtain ⟨k, hk, rfl, rfl⟩ := hrel
    by_cases hlt : k < t.size
    · have hts := numL_snoc (t.data.toList.take k) t[k]
      rw [← take_snoc t k hlt] at hts
      have HS := Lib.hid hts
      clear hts
      have hb := numL_lt3 (t.data.toList.take k) (by simp; omega)
      have hc := t[k].toNat_lt
      have hor := or_byte (numL (t.data.toList.take k)) t[k].toNat hb (by omega)
      generalize numL (t.data.toList.take k) = v at *
      go_wp2
      go_round
      case rel => exact ⟨k + 1, by omega, by go_num, by rw [HS.out]; go_num⟩
      case measure => simp [intOf]; omega
    · have e : t.data.toList.take k = t.data.toList := List.take_of_length_le (by simp; omega)
      rw [e]
      go_wp2
      go_ret
      exact ⟨rfl, HT.out⟩

#print axioms rawIn_calls
end Go.Proofs.YtnpkiknidmhciaaDoor

namespace Go.Proofs.YtnpkiknidmhciaaDoor
open Go.RowKit

theorem num_lt1 (s : ByteArray) (x : Int) (t s' : ByteArray) (x' : Int) (hr : rawT s x 1 = (t, s', x')) : numL t.data.toList < 256 := by
  have hsz : t.size ≤ 1 := by have := rawT_size s x 1; rw [hr] at this; dsimp only at this; omega
  exact Nat.lt_of_lt_of_le (numL_lt _) (Nat.le_trans (Nat.pow_le_pow_right (by omega) (show t.data.toList.length ≤ 1 by simpa using hsz)) (by omega))
theorem num_lt2 (s : ByteArray) (x : Int) (t s' : ByteArray) (x' : Int) (hr : rawT s x 2 = (t, s', x')) : numL t.data.toList < 65536 := by
  have hsz : t.size ≤ 2 := by have := rawT_size s x 2; rw [hr] at this; dsimp only at this; omega
  exact Nat.lt_of_lt_of_le (numL_lt _) (Nat.le_trans (Nat.pow_le_pow_right (by omega) (show t.data.toList.length ≤ 2 by simpa using hsz)) (by omega))

theorem byteIn_calls (w : World) (p : Nat) (s : ByteArray) (x : Int) (t s' : ByteArray) (x' : Int) (hr : rawT s x 1 = (t, s', x')) (h : InAt w p s x) :
    Calls Tryd.prog 81 #[.pointer (some ⟨p, 0, none⟩)] w fun e w' => e = .returned (.int .u8 (numL t.data.toList)) ∧ Took w p s' x' w' := by
  have hb := num_lt1 s x t s' x' hr
  have HR := Lib.hid hr
  clear hr
  go_enter Tryd.func81, Tryd.ntmps81
  go_wp2_with fail
  refine (number_calls _ p s x 1 t s' x' HR.out h (by omega)).mono ?_
  rintro e w1 ⟨rfl, ht⟩
  have HT := Lib.hid ht
  clear ht h
  go_wp2
  go_ret
  exact ⟨rfl, HT.out⟩

theorem twoIn_calls (w : World) (p : Nat) (s : ByteArray) (x : Int) (t s' : ByteArray) (x' : Int) (hr : rawT s x 2 = (t, s', x')) (h : InAt w p s x) :
    Calls Tryd.prog 70 #[.pointer (some ⟨p, 0, none⟩)] w fun e w' => e = .returned (.int .u32 (numL t.data.toList)) ∧ Took w p s' x' w' := by
  have HR := Lib.hid hr
  clear hr
  go_enter Tryd.func70, Tryd.ntmps70
  go_wp2_with fail
  refine (number_calls _ p s x 2 t s' x' HR.out h (by omega)).mono ?_
  rintro e w1 ⟨rfl, ht⟩
  have HT := Lib.hid ht
  clear ht h
  go_wp2
  go_ret
  exact ⟨rfl, HT.out⟩

theorem fourIn_calls (w : World) (p : Nat) (s : ByteArray) (x : Int) (t s' : ByteArray) (x' : Int) (hr : rawT s x 4 = (t, s', x')) (h : InAt w p s x) :
    Calls Tryd.prog 157 #[.pointer (some ⟨p, 0, none⟩)] w fun e w' => e = .returned (.int .u32 (numL t.data.toList)) ∧ Took w p s' x' w' := by
  have HR := Lib.hid hr
  clear hr
  go_enter Tryd.func157, Tryd.ntmps157
  go_wp2_with fail
  refine (number_calls _ p s x 4 t s' x' HR.out h (by omega)).mono ?_
  rintro e w1 ⟨rfl, ht⟩
  have HT := Lib.hid ht
  clear ht h
  go_wp2
  go_ret
  exact ⟨rfl, HT.out⟩

theorem Took.trans {w1 w2 w3 : World} {p : Nat} {s s' : ByteArray} {x x' : Int} (h : Took w1 p s x w2) (k : Took w2 p s' x' w3) : Took w1 p s' x' w3 := ⟨k.1, h.2.trans k.2⟩

theorem dataIn_calls (w : World) (p : Nat) (s : ByteArray) (x : Int) (t s1 : ByteArray) (x1 : Int) (hr : rawT s x 2 = (t, s1, x1)) (t2 s2 : ByteArray) (x2 : Int) (hr2 : rawT s1 x1 (numL t.data.toList) = (t2, s2, x2)) (h : InAt w p s x) :
    Calls Tryd.prog 73 #[.pointer (some ⟨p, 0, none⟩)] w fun e w' => e = .returned (.string t2) ∧ Took w p s2 x2 w' := by
  have hb := num_lt2 s x t s1 x1 hr
  have HR := Lib.hid hr
  have HR2 := Lib.hid hr2
  clear hr hr2
  go_enter Tryd.func73, Tryd.ntmps73
  go_wp2_with fail
  refine (twoIn_calls _ p s x t s1 x1 HR.out h).mono ?_
  rintro e w1 ⟨rfl, ht⟩
  generalize numL t.data.toList = c at *
  go_wp2_with fail
  refine (rawIn_calls _ p s1 x1 _ ht.1).mono ?_
  rw [HR2.out]
  rintro e w2 ⟨rfl, ht2⟩
  have HT := Lib.hid (ht.trans ht2)
  clear ht ht2 h
  go_wp2
  go_ret
  exact ⟨rfl, HT.out⟩

/-- How a packet ended. -/
def endT (s : ByteArray) (x : Int) : Int := if x = 1 ∨ (x = 0 ∧ s.size ≠ 0) then 2 else x

theorem end_calls (w : World) (p : Nat) (s : ByteArray) (x : Int) (h : InAt w p s x) :
    Calls Tryd.prog 74 #[.pointer (some ⟨p, 0, none⟩)] w fun e w' => e = .returned (.int .i64 (endT s x)) ∧ w = w' := by
  have h0 := h.cell0
  have h1 := h.cell1
  clear h
  by_cases hx1 : x = 1
  · subst hx1
    have e : endT s 1 = 2 := by simp [endT]
    rw [e]
    go_enter Tryd.func74, Tryd.ntmps74
    go_wp2
    go_ret
    exact ⟨rfl, rfl⟩
  · have b1 : (x == 1) = false := by simp [hx1]
    by_cases hx0 : x = 0
    · subst hx0
      by_cases hs : s.size = 0
      · have e : endT s 0 = 0 := by simp [endT, hs]
        rw [e]
        have hs1 : s.toList = [] := by
          rw [ByteArray.toList_eq]
          exact List.eq_nil_of_length_eq_zero hs
        have hs2 : s.toList.isEmpty = true := by rw [hs1]; rfl
        have hs3 : (!s.toList.isEmpty) = false := by rw [hs2]; rfl
        go_enter Tryd.func74, Tryd.ntmps74
        go_wp2
        go_ret
        exact ⟨rfl, rfl⟩
      · have e : endT s 0 = 2 := by simp [endT, hs]
        rw [e]
        have hs1 : ¬ s.toList = [] := by
          intro h
          rw [ByteArray.toList_eq] at h
          exact hs (congrArg List.length h)
        have hs2 : s.toList.isEmpty = false := by cases hh : s.toList.isEmpty <;> simp_all
        have hs3 : (!s.toList.isEmpty) = true := by rw [hs2]; rfl
        go_enter Tryd.func74, Tryd.ntmps74
        go_wp2
        go_ret
        exact ⟨rfl, rfl⟩
    · have b0 : (x == 0) = false := by simp [hx0]
      have e : endT s x = x := by simp [endT, hx1, hx0]
      rw [e]
      go_enter Tryd.func74, Tryd.ntmps74
      go_wp2
      go_ret
      exact ⟨rfl, rfl⟩

/-- What Var answers behind its last byte c: the number, what is left, the error. -/
def varEnd (i n c : Nat) (s : ByteArray) (x : Int) : Nat × ByteArray × Int :=
  let x2 := if 128 ≤ c ∨ (c = 0 ∧ 0 < i) then failed x 2 else x
  (if x2 = 0 then n else 0, s, x2)

/-- What Var takes from its byte i on, n being what it has. -/
def varT : Nat → Nat → Nat → ByteArray → Int → Nat × ByteArray × Int
  | 0, i, n, s, x => varEnd i (n + numL (rawT s x 1).1.data.toList % 128 * 128 ^ i) (numL (rawT s x 1).1.data.toList) (rawT s x 1).2.1 (rawT s x 1).2.2
  | k + 1, i, n, s, x =>
    if 128 ≤ numL (rawT s x 1).1.data.toList then varT k (i + 1) (n + numL (rawT s x 1).1.data.toList % 128 * 128 ^ i) (rawT s x 1).2.1 (rawT s x 1).2.2
    else varEnd i (n + numL (rawT s x 1).1.data.toList % 128 * 128 ^ i) (numL (rawT s x 1).1.data.toList) (rawT s x 1).2.1 (rawT s x 1).2.2

section
variable {k i m : Nat} {s1 t s2 : ByteArray} {x1 x2 : Int}
theorem varT_go (hr : rawT s1 x1 1 = (t, s2, x2)) (hc : 128 ≤ numL t.data.toList) : varT (k + 1) i m s1 x1 = varT k (i + 1) (m + numL t.data.toList % 128 * 128 ^ i) s2 x2 := by
  rw [varT, hr]; simp only; rw [if_pos hc]
theorem varT_end (hr : rawT s1 x1 1 = (t, s2, x2)) (hc : k = 0 ∨ numL t.data.toList < 128) : varT k i m s1 x1 = varEnd i (m + numL t.data.toList % 128 * 128 ^ i) (numL t.data.toList) s2 x2 := by
  cases k with
  | zero => rw [varT, hr]
  | succ k =>
    have : ¬ 128 ≤ numL t.data.toList := by rcases hc with h | h <;> omega
    rw [varT, hr]; simp only; rw [if_neg this]
theorem failed_ne (x : Int) : failed x 2 ≠ 0 := by unfold failed; split <;> omega
theorem varT_bad (hr : rawT s1 x1 1 = (t, s2, x2)) (hc : k = 0 ∨ numL t.data.toList < 128) (hb : 128 ≤ numL t.data.toList ∨ (numL t.data.toList = 0 ∧ 0 < i)) : varT k i m s1 x1 = (0, s2, failed x2 2) := by
  rw [varT_end hr hc, varEnd, if_pos hb, if_neg (failed_ne _)]
theorem varT_ok (hr : rawT s1 x1 1 = (t, s2, x2)) (hb : ¬ (128 ≤ numL t.data.toList ∨ (numL t.data.toList = 0 ∧ 0 < i))) : varT k i m s1 x1 = (if x2 = 0 then m + numL t.data.toList % 128 * 128 ^ i else 0, s2, x2) := by
  rw [varT_end hr (.inr (by omega)), varEnd, if_neg hb]
end

theorem or_shift (m c K j : Nat) (hK : K = 2 ^ j) (hm : m < K) (hj : K ≤ 2097152) : bits .or .u32 (m : Int) ((c : Int) % 128 * K) = (m : Int) + c % 128 * K := by
  have e : ((c : Int) % 128 * K) = ((c % 128 * K : Nat) : Int) := by simp
  have hb : c % 128 * K ≤ 127 * 2097152 := Nat.mul_le_mul (by omega) hj
  rw [e, u32_or_nat _ _ (by omega) (by omega)]
  have h := Nat.two_pow_add_eq_or_of_lt (i := j) (b := m) (by omega) (c % 128)
  have e2 : m ||| c % 128 * K = m + c % 128 * K := by
    rw [Nat.or_comm, hK, Nat.mul_comm (c % 128), ← h, Nat.add_comm]
  rw [e2, Int.natCast_add]

def VarI (w : World) (p : Nat) (r : Nat × ByteArray × Int) (a' : Act) (w' : World) : Prop :=
  ∃ (k i n : Nat) (s' : ByteArray) (x' : Int) (u5 u6 u7 u8 u9 u10 u11 u12 u13 u14 u15 u16 u17 u18 u19 u20 u21 u22 u23 u24 u25 u26 u27 u28 u29 u30 u31 u32 u33 u34 u35 u36 u37 u38 u39 u40 : Value),
    a' = { tmps := #[.pointer (some ⟨p, 0, none⟩), undef, .int .u32 0, .int .u32 n, .int .i64 ((7 * i : Nat) : Int), u5, u6, u7, u8, u9, u10, u11, u12, u13, u14, u15, u16, u17, u18, u19, u20, u21, u22, u23, u24, u25, u26, u27, u28, u29, u30, u31, u32, u33, u34, u35, u36, u37, u38, u39, u40], defers := [] } ∧
    InAt w' p s' x' ∧ Only p w w' ∧ r = varT k i n s' x' ∧ k + i = 3 ∧ n < 128 ^ i

set_option maxRecDepth 100000 in
set_option maxHeartbeats 1600000 in
theorem varIn_calls (w : World) (p : Nat) (s : ByteArray) (x : Int) (n : Nat) (s' : ByteArray) (x' : Int) (hr : varT 3 0 0 s x = (n, s', x')) (h : InAt w p s x) :
    Calls Tryd.prog 117 #[.pointer (some ⟨p, 0, none⟩)] w fun e w' => e = .returned (.int .u32 n) ∧ Took w p s' x' w' := by
  have HR := Lib.hid hr
  clear hr
  go_enter Tryd.func117, Tryd.ntmps117
  go_wp2_with fail
  refine wp_scope_head 0 (VarI w p (n, s', x')) (fun a' _ => (28 - intOf (a'.tmps.getD 4 undef)).toNat) rfl ?_ ?_
  · have HJ := Lib.hid h
    clear h
    go_wp2
    exact ⟨3, 0, 0, s, x, _, _, _, _, _, _, _, _, _, _, _, _, _, _, _, _, _, _, _, _, _, _, _, _, _, _, _, _, _, _, _, _, _, _, _, _, rfl, HJ.out, Only.refl _ _, HR.out.symm, rfl, by decide⟩
  · clear h HR
    rintro a' w1 ⟨k, i, m, s1, x1, u5, u6, u7, u8, u9, u10, u11, u12, u13, u14, u15, u16, u17, u18, u19, u20, u21, u22, u23, u24, u25, u26, u27, u28, u29, u30, u31, u32, u33, u34, u35, u36, u37, u38, u39, u40, rfl, hi, ho, hv, hk, hm⟩
    have HV := Lib.hid hv
    have HO := Lib.hid ho
    clear hv ho
    obtain ⟨t, s2, x2, ht⟩ : ∃ t s2 x2, rawT s1 x1 1 = (t, s2, x2) := ⟨_, _, _, rfl⟩
    have hc := num_lt1 s1 x1 t s2 x2 ht
    have HT := Lib.hid ht
    clear ht
    rcases (show i = 0 ∨ i = 1 ∨ i = 2 ∨ i = 3 by omega) with rfl | rfl | rfl | rfl
    · obtain rfl : k = 3 := by omega
      clear hk
      have hm' : m < 1 := by simpa using hm
      clear hm
      obtain rfl : m = 0 := by omega
      clear hm'
      go_wp2_with fail
      refine (byteIn_calls _ p s1 x1 t s2 x2 HT.out hi).mono ?_
      rintro e w2 ⟨rfl, htk⟩
      have HK := Lib.hid (show Took w p s2 x2 w2 from ⟨htk.1, HO.out.trans htk.2⟩)
      clear htk hi
      have hor : bits .or .u32 0 ((numL t.data.toList : Int) % 128) = (numL t.data.toList : Int) % 128 := by
        have := or_shift 0 (numL t.data.toList) 1 0 (by decide) (by decide) (by decide)
        simpa using this
      by_cases h128 : 128 ≤ numL t.data.toList
      · have HE := Lib.hid (HV.out.trans (varT_go HT.out h128))
        go_wp2
        go_step3
        have e3 : (numL t.data.toList : Int) % 128 = ((0 + numL t.data.toList % 128 * 128 ^ 0 : Nat) : Int) := by simp
        rw [e3]
        refine ⟨rfl, ⟨2, 1, _, s2, x2, _, _, _, _, _, _, _, _, _, _, _, _, _, _, _, _, _, _, _, _, _, _, _, _, _, _, _, _, _, _, _, _, _, _, _, _, rfl, HK.out.1, HK.out.2, HE.out, rfl, ?_⟩, ?_⟩
        · have hlt := Nat.mod_lt (numL t.data.toList) (show 128 > 0 by omega)
          generalize numL t.data.toList % 128 = q at *
          simp; omega
        · simp [intOf]
      · have HE := Lib.hid (HV.out.trans (varT_ok HT.out (by omega)))
        by_cases h0 : numL t.data.toList = 0
        · have hbz : ((numL t.data.toList : Int) == 0) = true := by rw [h0]; rfl
          have c1 := HK.out.1.cell1
          by_cases hx : x2 = 0
          · rw [if_pos hx] at HE
            subst hx
            go_wp2
            simp only [Exit.jump]
            go_ret
            have HE' := HE.out
            injection HE' with E1 E23
            injection E23 with E2 E3
            refine ⟨?_, ?_⟩
            · rw [E1]
              exact congrArg (fun z => Ending.returned (.int .u32 z)) (show (0 : Int) = ((0 + numL t.data.toList % 128 * 128 ^ 0 : Nat) : Int) by rw [h0]; rfl)
            · rw [E2, E3]
              exact HK.out
          · rw [if_neg hx] at HE
            have hb1 : (x2 != 0) = true := by simp [hx]
            have hb2 : (x2 == 0) = false := by simp [hx]
            go_wp2
            simp only [Exit.jump]
            go_ret
            have HE' := HE.out
            injection HE' with E1 E23
            injection E23 with E2 E3
            refine ⟨by rw [E1]; rfl, ?_⟩
            rw [E2, E3]
            exact HK.out
        · have hbz : ((numL t.data.toList : Int) == 0) = false := by simp [h0]
          have c1 := HK.out.1.cell1
          by_cases hx : x2 = 0
          · rw [if_pos hx] at HE
            subst hx
            go_wp2
            simp only [Exit.jump]
            go_ret
            have HE' := HE.out
            injection HE' with E1 E23
            injection E23 with E2 E3
            refine ⟨?_, ?_⟩
            · rw [E1]
              exact congrArg (fun z => Ending.returned (.int .u32 z)) (show (numL t.data.toList : Int) % 128 = ((0 + numL t.data.toList % 128 * 128 ^ 0 : Nat) : Int) by simp)
            · rw [E2, E3]
              exact HK.out
          · rw [if_neg hx] at HE
            have hb1 : (x2 != 0) = true := by simp [hx]
            have hb2 : (x2 == 0) = false := by simp [hx]
            go_wp2
            simp only [Exit.jump]
            go_ret
            have HE' := HE.out
            injection HE' with E1 E23
            injection E23 with E2 E3
            refine ⟨by rw [E1]; rfl, ?_⟩
            rw [E2, E3]
            exact HK.out
    · obtain rfl : k = 2 := by omega
      clear hk
      have hm' : m < 128 := by simpa using hm
      clear hm
      go_wp2_with fail
      refine (byteIn_calls _ p s1 x1 t s2 x2 HT.out hi).mono ?_
      rintro e w2 ⟨rfl, htk⟩
      have HK := Lib.hid (show Took w p s2 x2 w2 from ⟨htk.1, HO.out.trans htk.2⟩)
      clear htk hi
      have hor : bits .or .u32 (m : Int) ((numL t.data.toList : Int) % 128 * 128) = (m : Int) + (numL t.data.toList : Int) % 128 * 128 := by
        have := or_shift m (numL t.data.toList) 128 7 (by decide) hm' (by decide)
        simpa using this
      by_cases h128 : 128 ≤ numL t.data.toList
      · have HE := Lib.hid (HV.out.trans (varT_go HT.out h128))
        go_wp2
        go_step3
        have e3 : (m : Int) + (numL t.data.toList : Int) % 128 * 128 = ((m + numL t.data.toList % 128 * 128 ^ 1 : Nat) : Int) := by simp
        rw [e3]
        refine ⟨rfl, ⟨1, 2, _, s2, x2, _, _, _, _, _, _, _, _, _, _, _, _, _, _, _, _, _, _, _, _, _, _, _, _, _, _, _, _, _, _, _, _, _, _, _, _, rfl, HK.out.1, HK.out.2, HE.out, rfl, ?_⟩, ?_⟩
        · have hlt := Nat.mod_lt (numL t.data.toList) (show 128 > 0 by omega)
          generalize numL t.data.toList % 128 = q at *
          omega
        · simp [intOf]
      · by_cases h0 : numL t.data.toList = 0
        · have HE := Lib.hid (HV.out.trans (varT_bad HT.out (.inr (by omega)) (.inr ⟨h0, by omega⟩)))
          go_wp2_with fail
          refine (fail_calls _ p s2 x2 2 HK.out.1).mono ?_
          rintro e w3 ⟨rfl, hi3, ho3⟩
          have hfn := failed_ne x2
          have hb1 : (failed x2 2 != 0) = true := by simp [hfn]
          have hb2 : (failed x2 2 == 0) = false := by simp [hfn]
          have c1 := hi3.cell1
          have HF := Lib.hid (show Took w p s2 (failed x2 2) w3 from ⟨hi3, HK.out.2.trans ho3⟩)
          clear hi3 ho3 hfn
          generalize failed x2 2 = xf at *
          go_wp2
          simp only [Exit.jump]
          go_ret
          have HE' := HE.out
          injection HE' with E1 E23
          injection E23 with E2 E3
          refine ⟨by rw [E1]; rfl, ?_⟩
          rw [E2, E3]
          exact HF.out
        · have HE := Lib.hid (HV.out.trans (varT_ok HT.out (by omega)))
          have c1 := HK.out.1.cell1
          by_cases hx : x2 = 0
          · rw [if_pos hx] at HE
            subst hx
            go_wp2
            simp only [Exit.jump]
            go_ret
            have HE' := HE.out
            injection HE' with E1 E23
            injection E23 with E2 E3
            refine ⟨?_, ?_⟩
            · rw [E1]
              exact congrArg (fun z => Ending.returned (.int .u32 z)) (show (m : Int) + (numL t.data.toList : Int) % 128 * 128 = ((m + numL t.data.toList % 128 * 128 ^ 1 : Nat) : Int) by simp)
            · rw [E2, E3]
              exact HK.out
          · rw [if_neg hx] at HE
            have hb1 : (x2 != 0) = true := by simp [hx]
            have hb2 : (x2 == 0) = false := by simp [hx]
            go_wp2
            simp only [Exit.jump]
            go_ret
            have HE' := HE.out
            injection HE' with E1 E23
            injection E23 with E2 E3
            refine ⟨by rw [E1]; rfl, ?_⟩
            rw [E2, E3]
            exact HK.out
    · obtain rfl : k = 1 := by omega
      clear hk
      have hm' : m < 16384 := by simpa using hm
      clear hm
      go_wp2_with fail
      refine (byteIn_calls _ p s1 x1 t s2 x2 HT.out hi).mono ?_
      rintro e w2 ⟨rfl, htk⟩
      have HK := Lib.hid (show Took w p s2 x2 w2 from ⟨htk.1, HO.out.trans htk.2⟩)
      clear htk hi
      have hor : bits .or .u32 (m : Int) ((numL t.data.toList : Int) % 128 * 16384) = (m : Int) + (numL t.data.toList : Int) % 128 * 16384 := by
        have := or_shift m (numL t.data.toList) 16384 14 (by decide) hm' (by decide)
        simpa using this
      by_cases h128 : 128 ≤ numL t.data.toList
      · have HE := Lib.hid (HV.out.trans (varT_go HT.out h128))
        go_wp2
        go_step3
        have e3 : (m : Int) + (numL t.data.toList : Int) % 128 * 16384 = ((m + numL t.data.toList % 128 * 128 ^ 2 : Nat) : Int) := by simp
        rw [e3]
        refine ⟨rfl, ⟨0, 3, _, s2, x2, _, _, _, _, _, _, _, _, _, _, _, _, _, _, _, _, _, _, _, _, _, _, _, _, _, _, _, _, _, _, _, _, _, _, _, _, rfl, HK.out.1, HK.out.2, HE.out, rfl, ?_⟩, ?_⟩
        · have hlt := Nat.mod_lt (numL t.data.toList) (show 128 > 0 by omega)
          generalize numL t.data.toList % 128 = q at *
          omega
        · simp [intOf]
      · by_cases h0 : numL t.data.toList = 0
        · have HE := Lib.hid (HV.out.trans (varT_bad HT.out (.inr (by omega)) (.inr ⟨h0, by omega⟩)))
          go_wp2_with fail
          refine (fail_calls _ p s2 x2 2 HK.out.1).mono ?_
          rintro e w3 ⟨rfl, hi3, ho3⟩
          have hfn := failed_ne x2
          have hb1 : (failed x2 2 != 0) = true := by simp [hfn]
          have hb2 : (failed x2 2 == 0) = false := by simp [hfn]
          have c1 := hi3.cell1
          have HF := Lib.hid (show Took w p s2 (failed x2 2) w3 from ⟨hi3, HK.out.2.trans ho3⟩)
          clear hi3 ho3 hfn
          generalize failed x2 2 = xf at *
          go_wp2
          simp only [Exit.jump]
          go_ret
          have HE' := HE.out
          injection HE' with E1 E23
          injection E23 with E2 E3
          refine ⟨by rw [E1]; rfl, ?_⟩
          rw [E2, E3]
          exact HF.out
        · have HE := Lib.hid (HV.out.trans (varT_ok HT.out (by omega)))
          have c1 := HK.out.1.cell1
          by_cases hx : x2 = 0
          · rw [if_pos hx] at HE
            subst hx
            go_wp2
            simp only [Exit.jump]
            go_ret
            have HE' := HE.out
            injection HE' with E1 E23
            injection E23 with E2 E3
            refine ⟨?_, ?_⟩
            · rw [E1]
              exact congrArg (fun z => Ending.returned (.int .u32 z)) (show (m : Int) + (numL t.data.toList : Int) % 128 * 16384 = ((m + numL t.data.toList % 128 * 128 ^ 2 : Nat) : Int) by simp)
            · rw [E2, E3]
              exact HK.out
          · rw [if_neg hx] at HE
            have hb1 : (x2 != 0) = true := by simp [hx]
            have hb2 : (x2 == 0) = false := by simp [hx]
            go_wp2
            simp only [Exit.jump]
            go_ret
            have HE' := HE.out
            injection HE' with E1 E23
            injection E23 with E2 E3
            refine ⟨by rw [E1]; rfl, ?_⟩
            rw [E2, E3]
            exact HK.out
    · obtain rfl : k = 0 := by omega
      clear hk
      have hm' : m < 2097152 := by simpa using hm
      clear hm
      go_wp2_with fail
      refine (byteIn_calls _ p s1 x1 t s2 x2 HT.out hi).mono ?_
      rintro e w2 ⟨rfl, htk⟩
      have HK := Lib.hid (show Took w p s2 x2 w2 from ⟨htk.1, HO.out.trans htk.2⟩)
      clear htk hi
      have hor : bits .or .u32 (m : Int) ((numL t.data.toList : Int) % 128 * 2097152) = (m : Int) + (numL t.data.toList : Int) % 128 * 2097152 := by
        have := or_shift m (numL t.data.toList) 2097152 21 (by decide) hm' (by decide)
        simpa using this
      by_cases h128 : 128 ≤ numL t.data.toList
      · have HE := Lib.hid (HV.out.trans (varT_bad HT.out (.inl rfl) (.inl h128)))
        go_wp2_with fail
        refine (fail_calls _ p s2 x2 2 HK.out.1).mono ?_
        rintro e w3 ⟨rfl, hi3, ho3⟩
        have hfn := failed_ne x2
        have hb1 : (failed x2 2 != 0) = true := by simp [hfn]
        have hb2 : (failed x2 2 == 0) = false := by simp [hfn]
        have c1 := hi3.cell1
        have HF := Lib.hid (show Took w p s2 (failed x2 2) w3 from ⟨hi3, HK.out.2.trans ho3⟩)
        clear hi3 ho3 hfn
        generalize failed x2 2 = xf at *
        go_wp2
        simp only [Exit.jump]
        go_ret
        have HE' := HE.out
        injection HE' with E1 E23
        injection E23 with E2 E3
        refine ⟨by rw [E1]; rfl, ?_⟩
        rw [E2, E3]
        exact HF.out
      · by_cases h0 : numL t.data.toList = 0
        · have HE := Lib.hid (HV.out.trans (varT_bad HT.out (.inr (by omega)) (.inr ⟨h0, by omega⟩)))
          go_wp2_with fail
          refine (fail_calls _ p s2 x2 2 HK.out.1).mono ?_
          rintro e w3 ⟨rfl, hi3, ho3⟩
          have hfn := failed_ne x2
          have hb1 : (failed x2 2 != 0) = true := by simp [hfn]
          have hb2 : (failed x2 2 == 0) = false := by simp [hfn]
          have c1 := hi3.cell1
          have HF := Lib.hid (show Took w p s2 (failed x2 2) w3 from ⟨hi3, HK.out.2.trans ho3⟩)
          clear hi3 ho3 hfn
          generalize failed x2 2 = xf at *
          go_wp2
          simp only [Exit.jump]
          go_ret
          have HE' := HE.out
          injection HE' with E1 E23
          injection E23 with E2 E3
          refine ⟨by rw [E1]; rfl, ?_⟩
          rw [E2, E3]
          exact HF.out
        · have HE := Lib.hid (HV.out.trans (varT_ok HT.out (by omega)))
          have c1 := HK.out.1.cell1
          by_cases hx : x2 = 0
          · rw [if_pos hx] at HE
            subst hx
            go_wp2
            simp only [Exit.jump]
            go_ret
            have HE' := HE.out
            injection HE' with E1 E23
            injection E23 with E2 E3
            refine ⟨?_, ?_⟩
            · rw [E1]
              exact congrArg (fun z => Ending.returned (.int .u32 z)) (show (m : Int) + (numL t.data.toList : Int) % 128 * 2097152 = ((m + numL t.data.toList % 128 * 128 ^ 3 : Nat) : Int) by simp)
            · rw [E2, E3]
              exact HK.out
          · rw [if_neg hx] at HE
            have hb1 : (x2 != 0) = true := by simp [hx]
            have hb2 : (x2 == 0) = false := by simp [hx]
            go_wp2
            simp only [Exit.jump]
            go_ret
            have HE' := HE.out
            injection HE' with E1 E23
            injection E23 with E2 E3
            refine ⟨by rw [E1]; rfl, ?_⟩
            rw [E2, E3]
            exact HK.out

#print axioms end_calls
end Go.Proofs.YtnpkiknidmhciaaDoor

namespace Go.Proofs.YtnpkiknidmhciaaDoor
open Go.RowKit

theorem cut_calls (w : World) (s : ByteArray) (n : Nat) (_hs : s.size ≤ maxLen) :
    Calls Tryd.prog 23 #[.string s, .int .i64 n] w fun e w' => e = .returned (.string (s.extract 0 n)) ∧ w = w' := by
  by_cases h : n < s.size
  · go_enter Tryd.func23, Tryd.ntmps23
    go_wp2
    go_ret
    exact ⟨rfl, rfl⟩
  · have e : s.extract 0 n = s := by
      apply ByteArray.ext
      rw [ByteArray.data_extract]
      apply Array.ext'
      simp
      exact List.take_of_length_le (by simp; omega)
    rw [e]
    go_enter Tryd.func23, Tryd.ntmps23
    go_wp2
    go_ret
    exact ⟨rfl, rfl⟩

theorem two_ab : str ([] ++ varb 3 (321 : Int).toNat ++ (two ((⟨#[97, 98]⟩ : ByteArray).size : Nat) ++ (⟨#[97, 98]⟩ : ByteArray).data.toList)) = ⟨#[193, 2, 0, 2, 97, 98]⟩ := by decide +kernel
theorem var_80 : varT 3 0 0 ⟨#[128, 0]⟩ 0 = (0, ⟨#[]⟩, 2) := by decide +kernel

theorem OutAt.alloc {w : World} {o : Nat} {r : Option Nat} {bs : List UInt8} (h : OutAt w o r bs) (ob : Obj) : OutAt (w.alloc ob) o r bs :=
  h.keep (Below.heap_alloc w ob o h.lt) (fun g hg => Below.heap_alloc w ob g (h.row_lt g hg))

theorem Step.row_ge {w w' : World} {o B : Nat} {r r' : Option Nat} (h : Step w w' o r r') (hB : B ≤ w.heap.size) (hr : ∀ g, r = some g → B ≤ g) : ∀ g, r' = some g → B ≤ g := by
  intro g hg
  rcases h.row with e | ⟨g', e, hg'⟩
  · exact hr g (by rw [← e]; exact hg)
  · rw [e] at hg; injection hg with hg; omega

end Go.Proofs.YtnpkiknidmhciaaDoor

namespace Go.Proofs.YtnpkiknidmhciaaDoor
open Go.RowKit

theorem str_list (l : List UInt8) : (str l).toList = l := by rw [ByteArray.toList_eq]; simp [str]
theorem str_data (l : List UInt8) : (str l).data.toList = l := by simp [str]
theorem str_size (l : List UInt8) : (str l).size = l.length := by simp [str, ByteArray.size]
theorem ba_ext {a b : ByteArray} (h : a.data.toList = b.data.toList) : a = b := by
  apply ByteArray.ext
  exact Array.ext' h
theorem ba_str (s : ByteArray) : s = str s.data.toList := ba_ext (str_data _).symm
theorem ba_size (s : ByteArray) : s.data.toList.length = s.size := by rw [Array.length_toList]; rfl
theorem ba_extract (s : ByteArray) (a b : Nat) : (s.extract a b).data.toList = (s.data.toList.drop a).take (b - a) := by
  rw [ByteArray.data_extract, Array.toList_extract, List.extract_eq_take_drop]
theorem ba_take (s : ByteArray) (n : Nat) : s.extract 0 n = str (s.data.toList.take n) := ba_ext (by rw [ba_extract, str_data]; simp)
theorem ba_drop (s : ByteArray) (n : Nat) : s.extract n s.size = str (s.data.toList.drop n) := ba_ext (by
  rw [ba_extract, str_data]
  exact List.take_of_length_le (by simp))
theorem str_append (a b : List UInt8) : str a ++ str b = str (a ++ b) := ba_ext (by simp [str, ByteArray.data_append])

/-- Raw on lists. -/
theorem rawT_list (l : List UInt8) (n : Nat) (h : n ≤ l.length) : rawT (str l) 0 n = (str (l.take n), str (l.drop n), 0) := by
  unfold rawT
  rw [if_neg (by omega), if_neg (by rw [str_size]; omega)]
  by_cases h0 : (n : Int) ≤ 0
  · obtain rfl : n = 0 := by omega
    rw [if_pos h0, List.take_zero, List.drop_zero]; rfl
  · rw [if_neg h0, Int.toNat_natCast, ba_take, ba_drop, str_data]
theorem rawT_short (l : List UInt8) (n : Nat) (h : l.length < n) : rawT (str l) 0 n = (⟨#[]⟩, str l, 1) := by
  unfold rawT
  rw [if_neg (by omega), if_pos (by rw [str_size]; omega)]
theorem rawT_err (s : ByteArray) (f n : Int) (hf : f ≠ 0) : rawT s f n = (⟨#[]⟩, s, f) := by simp [rawT, hf]

theorem byte_ofNat (c : UInt8) : UInt8.ofNat c.toNat = c := by simp

/-- There is one spelling: what Var takes is what is put. -/
theorem varT_one : ∀ (k i n : Nat) (l : List UInt8) (N : Nat) (s' : ByteArray), varT k i n (str l) 0 = (N, s', 0) →
    ∃ m, N = n + m * 128 ^ i ∧ m < 128 ^ (k + 1) ∧ l = varb k m ++ s'.data.toList ∧ (0 < i → m ≠ 0) := by
  intro k
  induction k with
  | zero =>
    intro i n l N s' h
    cases l with
    | nil =>
      exfalso
      have hr := rawT_short [] 1 (by simp)
      rw [varT_end (t := ⟨#[]⟩) hr (.inl rfl), varEnd] at h
      injection h with _ h
      injection h with _ h
      revert h
      split
      · intro h; exact failed_ne _ h
      · intro h; omega
    | cons c l =>
      have hr : rawT (str (c :: l)) 0 1 = (str [c], str l, 0) := rawT_list (c :: l) 1 (by simp)
      have hn : numL (str [c]).data.toList = c.toNat := by rw [str_data]; simp [numL]
      rw [varT_end hr (.inl rfl), varEnd, hn] at h
      by_cases hb : 128 ≤ c.toNat ∨ (c.toNat = 0 ∧ 0 < i)
      · rw [if_pos hb] at h
        injection h with _ h
        injection h with _ h
        exact absurd h (failed_ne _)
      · rw [if_neg hb, if_pos rfl] at h
        injection h with h1 h
        injection h with h2 _
        refine ⟨c.toNat, ?_, ?_, ?_, ?_⟩
        · rw [← h1, Nat.mod_eq_of_lt (by omega)]
        · simp; omega
        · rw [← h2, str_data, varb, byte_ofNat]; rfl
        · intro hi h0; exact hb (.inr ⟨h0, hi⟩)
  | succ k ih =>
    intro i n l N s' h
    cases l with
    | nil =>
      exfalso
      have hr := rawT_short [] 1 (by simp)
      rw [varT_end (t := ⟨#[]⟩) hr (.inr (by decide)), varEnd] at h
      injection h with _ h
      injection h with _ h
      revert h
      split
      · intro h; exact failed_ne _ h
      · intro h; omega
    | cons c l =>
      have hr : rawT (str (c :: l)) 0 1 = (str [c], str l, 0) := rawT_list (c :: l) 1 (by simp)
      have hn : numL (str [c]).data.toList = c.toNat := by rw [str_data]; simp [numL]
      have hc := c.toNat_lt
      by_cases hg : 128 ≤ c.toNat
      · rw [varT_go hr (by rw [hn]; exact hg), hn] at h
        obtain ⟨m, h1, h2, h3, h4⟩ := ih (i + 1) _ l N s' h
        have hm := h4 (by omega)
        refine ⟨c.toNat % 128 + 128 * m, ?_, ?_, ?_, ?_⟩
        · rw [h1, Nat.pow_succ, Nat.add_mul, Nat.add_assoc, Nat.mul_assoc 128 m, Nat.mul_comm 128 (m * 128 ^ i), ← Nat.mul_assoc, Nat.mul_assoc m]
        · rw [Nat.pow_succ]; omega
        · rw [varb_step k _ (by omega), show (c.toNat % 128 + 128 * m) % 128 + 128 = c.toNat by omega, show (c.toNat % 128 + 128 * m) / 128 = m by omega, byte_ofNat, List.cons_append, ← h3]
        · omega
      · rw [varT_end hr (.inr (by rw [hn]; omega)), varEnd, hn] at h
        by_cases hb : 128 ≤ c.toNat ∨ (c.toNat = 0 ∧ 0 < i)
        · rw [if_pos hb] at h
          injection h with _ h
          injection h with _ h
          exact absurd h (failed_ne _)
        · rw [if_neg hb, if_pos rfl] at h
          injection h with h1 h
          injection h with h2 _
          refine ⟨c.toNat, ?_, ?_, ?_, ?_⟩
          · rw [← h1, Nat.mod_eq_of_lt (by omega)]
          · rw [Nat.pow_succ]
            have : 0 < 128 ^ (k + 1) := Nat.pow_pos (by omega)
            omega
          · rw [← h2, str_data, varb_small _ _ (by omega), byte_ofNat]; rfl
          · intro hi h0; exact hb (.inr ⟨h0, hi⟩)

/-- Beside an error Var answers 0. -/
theorem varT_err (k : Nat) : ∀ (i n : Nat) (s : ByteArray) (x : Int) (N : Nat) (s' : ByteArray) (x' : Int), varT k i n s x = (N, s', x') → x' ≠ 0 → N = 0 := by
  have hend : ∀ (i n c : Nat) (s : ByteArray) (x : Int) (N : Nat) (s' : ByteArray) (x' : Int), varEnd i n c s x = (N, s', x') → x' ≠ 0 → N = 0 := by
    intro i n c s x N s' x' h hx
    unfold varEnd at h
    injection h with h1 h
    injection h with _ h3
    rw [h3, if_neg hx] at h1
    exact h1.symm
  induction k with
  | zero => intro i n s x N s' x' h hx; exact hend _ _ _ _ _ _ _ _ h hx
  | succ k ih =>
    intro i n s x N s' x' h hx
    rw [varT] at h
    split at h
    · exact ih _ _ _ _ _ _ _ h hx
    · exact hend _ _ _ _ _ _ _ _ h hx

#print axioms varT_one
end Go.Proofs.YtnpkiknidmhciaaDoor

namespace Go.Proofs.YtnpkiknidmhciaaDoor
open Go.RowKit

theorem numL_one (c : UInt8) : numL [c] = c.toNat := by simp [numL]
theorem ofNat_toNat (n : Int) (h0 : 0 ≤ n) (h1 : n < 256) : ((UInt8.ofNat n.toNat).toNat : Int) = n := by
  rw [UInt8.toNat_ofNat', Nat.mod_eq_of_lt (by omega)]; omega
theorem numL_two (n : Int) (_h0 : 0 ≤ n) : (numL (two n) : Int) = n % 65536 := by
  have a := ofNat_toNat (n / 256 % 256) (by omega) (by omega)
  have b := ofNat_toNat (n % 256) (by omega) (by omega)
  unfold numL two
  simp only [List.foldl_cons, List.foldl_nil]
  omega
theorem numL_four (n : Int) (_h0 : 0 ≤ n) (_h1 : n < 4294967296) : (numL (two (n / 65536) ++ two n) : Int) = n := by
  have a := ofNat_toNat (n / 65536 / 256 % 256) (by omega) (by omega)
  have b := ofNat_toNat (n / 65536 % 256) (by omega) (by omega)
  have c := ofNat_toNat (n / 256 % 256) (by omega) (by omega)
  have d := ofNat_toNat (n % 256) (by omega) (by omega)
  unfold numL two
  simp only [List.foldl_cons, List.foldl_nil, List.cons_append, List.nil_append]
  omega
theorem two_len (n : Int) : (two n).length = 2 := rfl

theorem rawT_app (a b : List UInt8) (n : Int) (h : n = a.length) : rawT (str (a ++ b)) 0 n = (str a, str b, 0) := by
  subst h
  rw [rawT_list (a ++ b) a.length (by simp), List.take_left, List.drop_left]

/-- What is put as a variable byte integer is taken again. -/
theorem varT_back : ∀ (k i n m : Nat) (l : List UInt8), m < 128 ^ (k + 1) → (0 < i → m ≠ 0) → varT k i n (str (varb k m ++ l)) 0 = (n + m * 128 ^ i, str l, 0) := by
  have hend : ∀ (k i n m : Nat) (l : List UInt8), m < 128 → (0 < i → m ≠ 0) → varT k i n (str ([UInt8.ofNat m] ++ l)) 0 = (n + m * 128 ^ i, str l, 0) := by
    intro k i n m l hm h0
    have hr := rawT_app [UInt8.ofNat m] l 1 (by simp)
    have hn : numL (str [UInt8.ofNat m]).data.toList = m := by rw [str_data, numL_one, UInt8.toNat_ofNat', Nat.mod_eq_of_lt (by omega)]
    rw [varT_ok hr (by rw [hn]; omega), hn, if_pos rfl, Nat.mod_eq_of_lt (by omega)]
  intro k
  induction k with
  | zero =>
    intro i n m l hm h0
    simp at hm
    rw [varb_small 0 m hm]
    exact hend 0 i n m l hm h0
  | succ k ih =>
    intro i n m l hm h0
    by_cases hs : m < 128
    · rw [varb_small _ m hs]
      exact hend _ i n m l hs h0
    · rw [varb_step k m hs]
      have hr := rawT_app [UInt8.ofNat (m % 128 + 128)] (varb k (m / 128) ++ l) 1 (by simp)
      have hn : numL (str [UInt8.ofNat (m % 128 + 128)]).data.toList = m % 128 + 128 := by rw [str_data, numL_one, UInt8.toNat_ofNat', Nat.mod_eq_of_lt (by omega)]
      have e : UInt8.ofNat (m % 128 + 128) :: varb k (m / 128) ++ l = [UInt8.ofNat (m % 128 + 128)] ++ (varb k (m / 128) ++ l) := rfl
      rw [e, varT_go hr (by rw [hn]; omega), hn, ih (i + 1) _ (m / 128) l (Nat.div_lt_of_lt_mul (by rw [Nat.mul_comm]; rwa [Nat.pow_succ] at hm)) (by omega)]
      have e2 : n + (m % 128 + 128) % 128 * 128 ^ i + m / 128 * 128 ^ (i + 1) = n + m * 128 ^ i := by
        rw [Nat.add_mod_right, Nat.mod_mod, Nat.pow_succ, Nat.add_assoc, Nat.mul_comm (128 ^ i) 128, ← Nat.mul_assoc, ← Nat.add_mul, show m % 128 + m / 128 * 128 = m by omega]
      rw [e2]

theorem and_low (b : Int) (h0 : 0 ≤ b) (h1 : b < 4294967296) : bits .and .u32 b 65535 = b % 65536 := by
  obtain ⟨n, rfl⟩ := Int.eq_ofNat_of_zero_le h0
  have h := u32_and_nat n 65535 (by omega) (by omega)
  have e : n &&& 65535 = n % 65536 := Nat.and_two_pow_sub_one_eq_mod n 16
  rw [e] at h
  exact h.trans (by omega)

theorem rawT_none {s t s' : ByteArray} {x n x' : Int} (h : rawT s x n = (t, s', x')) (hx : x' ≠ 0) : t = ⟨#[]⟩ := by
  unfold rawT at h
  split at h
  · injection h with h1 _; exact h1.symm
  · split at h
    · injection h with h1 _; exact h1.symm
    · split at h
      · injection h with h1 _; exact h1.symm
      · injection h with _ h
        injection h with _ h
        exact absurd h.symm hx

theorem varT_stop {k i m : Nat} {s1 t s2 : ByteArray} {x1 x2 : Int} (hr : rawT s1 x1 1 = (t, s2, x2)) (hx : x2 ≠ 0) : varT k i m s1 x1 = (0, s2, x2) := by
  have ht := rawT_none hr hx
  have hn : numL t.data.toList = 0 := by rw [ht]; rfl
  by_cases hi : 0 < i
  · rw [varT_bad hr (.inr (by omega)) (.inr ⟨hn, hi⟩), failed, if_neg hx]
  · rw [varT_ok hr (by omega), if_neg hx]

#print axioms varT_back
end Go.Proofs.YtnpkiknidmhciaaDoor

namespace Go.Proofs.YtnpkiknidmhciaaDoor
open Go.RowKit Go.ChangeShapes Go.WideShapes Go.Deep

theorem Step.of_below {w w' : World} (h : Below w.heap.size w w') (o : Nat) (r : Option Nat) : Step w w' o r r := ⟨h.os, h.tape, h.output, h.size, fun k hk _ _ => h.block k hk, .inl rfl⟩
theorem OutAt.below {w w' : World} {o : Nat} {r : Option Nat} {bs : List UInt8} (h : OutAt w o r bs) (hb : Below w.heap.size w w') : OutAt w' o r bs :=
  h.keep (hb.block o h.lt) (fun g hg => hb.block g (h.row_lt g hg))
theorem below_one (w : World) (ob : Obj) : Below w.heap.size w (w.alloc ob) := (Below.refl _ w).alloc (Nat.le_refl _) ob
theorem Below.next {w1 w2 w3 : World} (h : Below w1.heap.size w1 w2) (k : Below w2.heap.size w2 w3) : Below w1.heap.size w1 w3 := h.trans (k.mono h.size)

set_option maxRecDepth 100000 in
/-- A slice of structs, each field one cell, that came in: each element's cells, each with its reading. -/
theorem open_cells {H : Type} {enc : TypeId × Value → H} {W : World} {t e : TypeId} {fs : Array Field} {v : Value} {d : DataW H} {p : List MemPlace} (ht : Tryd.prog.underlying t = some (.slice e)) (he : Tryd.prog.underlying e = some (.struct fs))
    (hone : oneCellFields Tryd.prog fs = true) (hC : Tryd.prog.cellsOf e = fs.size) {base : Nat} (hv : Value.okWide Tryd.prog W .any base t v) (h : DataW.Trod enc Tryd.prog W 0 (fun _ => true) true t v d p) :
    ∃ A len cap, v = .slice A len cap ∧ len ≤ cap ∧ cap ≤ maxLen ∧ ∀ i, i < len → ∃ ad, A = some ad ∧ ∀ (j : Nat) (f : Field), fs[j]? = some f →
      ∃ u n y, W.cell? (ad.add (i * fs.size + j)) = some u ∧ DataW.trod enc Tryd.prog W 0 (fun _ => true) true n f.type [u] = some y := by
  obtain ⟨A, len, cap, rfl⟩ := okWide_slice ht hv
  obtain ⟨fuel, hf⟩ := h
  rcases open_slice ht hf with ⟨hcs, _⟩ | ⟨ad, l, c, m, n, D, Pl, hcs, _, hl, hm, hmm, _, hall⟩
  · simp [Value.cells] at hcs
    obtain ⟨rfl, rfl, rfl⟩ := hcs
    exact ⟨none, 0, 0, rfl, Nat.le_refl _, Nat.zero_le _, fun i hi => absurd hi (Nat.not_lt_zero _)⟩
  · simp [Value.cells] at hcs
    obtain ⟨rfl, rfl, rfl⟩ := hcs
    simp only [if_true] at hmm
    refine ⟨some ad, len, cap, rfl, hl, hm, fun i hi => ⟨ad, rfl, fun j f hj => ?_⟩⟩
    obtain ⟨cs, hc, htr⟩ := hall i (by omega)
    rw [hC] at hc
    obtain ⟨xs, k, _, _, _, hxl, hfields⟩ := DataW.trod_struct he htr
    obtain ⟨_, hlen, hat⟩ := World.cells?_some hc
    obtain ⟨hoff, hone1⟩ := hone_of hone j f hj
    have hjs : j < fs.size := (Array.getElem?_eq_some_iff.1 hj).1
    have h1 := hfields j f hj
    rw [hoff, hone1] at h1
    obtain ⟨u, hu⟩ : ∃ u, cs[j]? = some u := ⟨_, List.getElem?_eq_getElem (show j < cs.length by omega)⟩
    have e1 : (cs.drop j).take 1 = [u] := by
      rw [List.drop_eq_getElem_cons (show j < cs.length by omega), List.take_succ_cons, List.take_zero, (List.getElem?_eq_some_iff.1 hu).2]
    rw [e1] at h1
    exact ⟨u, k, _, by rw [← add_add, hat j hjs, hu], h1.trans (List.getElem?_eq_getElem (show j < xs.length by omega))⟩

/-- A list of things that came in: kind, number, text. -/
def Things (W : World) (v : Value) (T : List (Int × Int × ByteArray)) : Prop :=
  ∃ A cap, v = .slice A T.length cap ∧ T.length ≤ maxLen ∧ ∀ (i : Nat) (x : Int × Int × ByteArray), T[i]? = some x →
    ∃ b off, A = some ⟨b, off, none⟩ ∧ b < W.heap.size ∧ W.cell? ⟨b, off + i * 3, none⟩ = some (.int .i64 x.1) ∧ W.cell? ⟨b, off + i * 3 + 1, none⟩ = some (.int .u32 x.2.1) ∧ W.cell? ⟨b, off + i * 3 + 2, none⟩ = some (.string x.2.2) ∧
      0 ≤ x.2.1 ∧ x.2.1 < 4294967296 ∧ x.2.2.size ≤ maxLen

end Go.Proofs.YtnpkiknidmhciaaDoor

namespace Go.Proofs.YtnpkiknidmhciaaDoor
open Go.RowKit

theorem conv1 (w : World) (x : Int) : (convert 51 9 (.slice (some ⟨w.heap.size, 0, none⟩) 1 1)).run Tryd.prog (w.alloc (.cells #[.int .u8 x] 5)) = .ok (.string (str [UInt8.ofNat x.toNat])) (w.alloc (.cells #[.int .u8 x] 5)) := by
  rw [run_convert_bytes_arg _ 51 5 Tryd.underlying51 Tryd.underlying5 w.heap.size 0 1 1 [x] rfl ?_ 9 Tryd.underlying9]
  · rfl
  · intro i hi
    obtain rfl : i = 0 := by omega
    simp
theorem conv2 (w : World) (x y : Int) : (convert 51 9 (.slice (some ⟨w.heap.size, 0, none⟩) 2 2)).run Tryd.prog (w.alloc (.cells #[.int .u8 x, .int .u8 y] 5)) = .ok (.string (str [UInt8.ofNat x.toNat, UInt8.ofNat y.toNat])) (w.alloc (.cells #[.int .u8 x, .int .u8 y] 5)) := by
  rw [run_convert_bytes_arg _ 51 5 Tryd.underlying51 Tryd.underlying5 w.heap.size 0 2 2 [x, y] rfl ?_ 9 Tryd.underlying9]
  · rfl
  · intro i hi
    obtain rfl | rfl : i = 0 ∨ i = 1 := by omega
    · simp
    · simp

theorem r1two_calls (w : World) (n : Int) (h0 : 0 ≤ n) (h1 : n < 4294967296) :
    Calls Tryd.prog 95 #[.int .u32 n] w fun e w' => e = .returned (.string (str (two n))) ∧ Below w.heap.size w w' := by
  have hcv := conv2 w (n / 256 % 256) (n % 256)
  rw [show [UInt8.ofNat (n / 256 % 256).toNat, UInt8.ofNat (n % 256).toNat] = two n from rfl] at hcv
  go_enter Tryd.func95, Tryd.ntmps95
  go_wp2
  go_ret
  exact ⟨rfl, below_one _ _⟩

theorem r1four_calls (w : World) (n : Int) (h0 : 0 ≤ n) (h1 : n < 4294967296) :
    Calls Tryd.prog 152 #[.int .u32 n] w fun e w' => e = .returned (.string (str (two (n / 65536) ++ two n))) ∧ Below w.heap.size w w' := by
  go_enter Tryd.func152, Tryd.ntmps152
  go_wp2_with fail
  refine (r1two_calls _ _ (by omega) (by omega)).mono ?_
  rintro e w1 ⟨rfl, b1⟩
  go_wp2_with fail
  refine (r1two_calls _ n (by omega) (by omega)).mono ?_
  rintro e w2 ⟨rfl, b2⟩
  have HB := Lib.hid (Below.next b1 b2)
  clear b1 b2
  have z1 : (str (two (n / 65536))).size = 2 := by rw [str_size]; rfl
  have z2 : (str (two n)).size = 2 := by rw [str_size]; rfl
  have ha := str_append (two (n / 65536)) (two n)
  go_wp2
  go_ret
  exact ⟨rfl, HB.out⟩

theorem r1data_calls (w : World) (s : ByteArray) (hs : s.size ≤ 65535) :
    Calls Tryd.prog 93 #[.string s] w fun e w' => e = .returned (.string (str (two s.size ++ s.data.toList))) ∧ Below w.heap.size w w' := by
  go_enter Tryd.func93, Tryd.ntmps93
  go_wp2_with fail
  refine (r1two_calls _ _ (by omega) (by omega)).mono ?_
  rintro e w1 ⟨rfl, b1⟩
  have HB := Lib.hid b1
  clear b1
  have z1 : (str (two s.size)).size = 2 := by rw [str_size]; rfl
  have ha : str (two s.size) ++ s = str (two s.size ++ s.data.toList) := by
    have h := str_append (two s.size) s.data.toList
    rwa [← ba_str] at h
  go_wp2
  go_ret
  exact ⟨rfl, HB.out⟩

/-- What holds behind i rounds of the document's Var. -/
def VarAt (N : Nat) (pre : List UInt8) (i m : Nat) : Prop := varb 3 N = pre ++ varb (3 - i) m ∧ m < 128 ^ (4 - i) ∧ pre.length = i

theorem VarAt.step {N : Nat} {pre : List UInt8} {i m : Nat} (h : VarAt N pre i m) (hi : i < 3) (hm : ¬ m < 128) : VarAt N (pre ++ [UInt8.ofNat (m % 128 + 128)]) (i + 1) (m / 128) := by
  obtain ⟨h1, h2, h3⟩ := h
  refine ⟨?_, ?_, by simp [h3]⟩
  · rw [h1, show 3 - i = (3 - (i + 1)) + 1 by omega, varb_step _ m hm, List.append_assoc]; rfl
  · rw [show 4 - i = (4 - (i + 1)) + 1 by omega, Nat.pow_succ] at h2
    exact Nat.div_lt_of_lt_mul (by rw [Nat.mul_comm]; exact h2)
theorem VarAt.last {N : Nat} {pre : List UInt8} {i m : Nat} (h : VarAt N pre i m) (hi : i ≤ 3) (hm : ¬ (i < 3 ∧ ¬ m < 128)) : m < 128 ∧ varb 3 N = pre ++ [UInt8.ofNat m] := by
  obtain ⟨h1, h2, h3⟩ := h
  have hlt : m < 128 := by
    by_cases h : i < 3
    · omega
    · obtain rfl : i = 3 := by omega
      simpa using h2
  exact ⟨hlt, by rw [h1, varb_small _ m hlt]⟩

set_option maxRecDepth 100000 in
set_option maxHeartbeats 1000000 in
theorem r1var_any (w : World) (n : Int) (N : Nat) (hN : N ≤ 268435455) (hn : n = N ∨ (N = 268435455 ∧ 268435455 < n ∧ n < 4294967296)) :
    Calls Tryd.prog 136 #[.int .u32 n] w fun e w' => e = .returned (.string (str (varb 3 N))) ∧ Below w.heap.size w w' := by
  have hst : VarAt N [] 0 N := ⟨rfl, by omega, rfl⟩
  have HST := Lib.hid hst
  clear hst
  rcases hn with rfl | ⟨hN', hg, hg2⟩
  all_goals (try have HN := Lib.hid hN'; clear hN')
  all_goals
    go_enter Tryd.func136, Tryd.ntmps136
    go_wp2
    go_loopw [0, 3, 4] (fun a b c wr => ∃ (m i : Nat) (pre : List UInt8), a = .int .u32 m ∧ b = .string (str pre) ∧ c = .int .i64 i ∧ i ≤ 3 ∧ m ≤ 268435455 ∧ VarAt N pre i m ∧ Below w.heap.size w wr) (fun _ _ c _ => 3 - (intOf c).toNat)
    case atStart =>
      first
        | exact ⟨N, 0, [], rfl, rfl, rfl, by omega, hN, HST.out, Below.refl _ _⟩
        | exact ⟨268435455, 0, [], rfl, rfl, rfl, by omega, by omega, by have := HST.out; rwa [HN.out] at this ⊢, Below.refl _ _⟩
    case round =>
      obtain ⟨m, i, pre, rfl, rfl, rfl, hi, hm, hv, hb⟩ := hrel
      have HV := Lib.hid hv
      have hpl : (str pre).size ≤ 3 := by rw [str_size, hv.2.2]; exact hi
      have hz := hb.size
      have HB := Lib.hid hb
      clear hv hb
      by_cases hc : i < 3 ∧ ¬ m < 128
      · obtain ⟨hi3, hm1⟩ := hc
        have hcv := conv1 wr (128 + (m : Int) % 128)
        rw [show (128 + (m : Int) % 128).toNat = m % 128 + 128 by omega] at hcv
        have ha := str_append pre [UInt8.ofNat (m % 128 + 128)]
        have hz1 : (str [UInt8.ofNat (m % 128 + 128)]).size = 1 := by rw [str_size]; rfl
        have HV' := Lib.hid (HV.out.step hi3 hm1)
        generalize UInt8.ofNat (m % 128 + 128) = q at *
        go_wp2
        go_roundw
        case rel => exact ⟨m / 128, i + 1, pre ++ [q], by go_num, rfl, by go_num, by omega, by omega, HV'.out, HB.out.alloc hz _⟩
        case measure => simp [intOf]; omega
      · obtain ⟨hm1, he⟩ := HV.out.last hi hc
        have HE := Lib.hid he
        clear he
        have hcv := conv1 wr (m : Int)
        rw [Int.toNat_natCast] at hcv
        have ha := str_append pre [UInt8.ofNat m]
        have hz1 : (str [UInt8.ofNat m]).size = 1 := by rw [str_size]; rfl
        clear hc
        by_cases hi3 : i < 3
        all_goals
          go_wp2
          go_ret
          rw [HE.out]
          exact ⟨rfl, HB.out.alloc hz _⟩

#print axioms r1four_calls
end Go.Proofs.YtnpkiknidmhciaaDoor

namespace Go.Proofs.YtnpkiknidmhciaaDoor
open Go.RowKit

/-- The bytes of a thing. -/
def putB (k n : Int) (s : ByteArray) : List UInt8 :=
  if k = 1 then [UInt8.ofNat (n % 256).toNat] else if k = 2 then two n else if k = 3 then two (n / 65536) ++ two n else if k = 4 then varb 3 (min n.toNat 268435455)
  else if k = 5 then s.data.toList.take 50 else if k = 6 then two (s.data.toList.take 50).length ++ s.data.toList.take 50 else []

theorem putB_len (k n : Int) (s : ByteArray) : (putB k n s).length ≤ 52 := by
  have hv := varb_len 3 (min n.toNat 268435455)
  unfold putB
  repeat' split
  all_goals first | omega | (simp only [List.length_cons, List.length_nil, List.length_append, two_len, List.length_take]; omega) | simp

theorem min_clamp (n : Int) (h0 : 0 ≤ n) (h1 : n < 4294967296) : n = (min n.toNat 268435455 : Nat) ∨ (min n.toNat 268435455 = 268435455 ∧ 268435455 < n ∧ n < 4294967296) := by omega

section
variable {w w' : World} {o : Nat} {r r' : Option Nat} {bs : List UInt8} {ob : Obj}
theorem box_kept (h : OutAt w o r bs) (hs : Step (w.alloc ob) w' o r r') : w'.heap[w.heap.size]? = some ob := by
  rw [hs.block w.heap.size (by simp) (by have := h.lt; omega) (fun e => by have := h.row_lt _ e.symm; omega)]
  exact heap_alloc_new w ob
theorem step_box (w : World) (ob : Obj) (o : Nat) (r : Option Nat) : Step w (w.alloc ob) o r r := Step.of_below (below_one w ob) o r
theorem Put.below {w1 w2 : World} (h : Put w o r bs w1) (hb : Below w1.heap.size w1 w2) : Put w o r bs w2 := by
  obtain ⟨r1, h1, h2⟩ := h
  exact ⟨r1, h1.below hb, h2.trans (Step.of_below hb o r1)⟩
end

end Go.Proofs.YtnpkiknidmhciaaDoor

namespace Go.Proofs.YtnpkiknidmhciaaDoor
open Go.RowKit

/-- A cursor as a value. -/
abbrev cur (s : ByteArray) (x : Int) : Value := .agg #[.string s, .int .i64 x]

theorem below_two (w : World) (o1 o2 : Obj) : Below w.heap.size w ((w.alloc o1).alloc o2) := (below_one w o1).alloc (by simp) o2

theorem r1raw_calls (w : World) (s : ByteArray) (x n : Int) (t s' : ByteArray) (x' : Int) (hr : rawT s x n = (t, s', x')) :
    Calls Tryd.prog 123 #[cur s x, .int .i64 n] w fun e w' => e = .returned (.tuple #[cur s' x', .string t]) ∧ Below w.heap.size w w' := by
  by_cases hx : x = 0
  · subst hx
    by_cases hg : (s.size : Int) < n
    · have e : rawT s 0 n = (⟨#[]⟩, s, 1) := by simp [rawT, hg]
      rw [e] at hr
      injection hr with e1 e2
      injection e2 with e2 e3
      subst e1 e2 e3
      clear e
      go_enter Tryd.func123, Tryd.ntmps123
      go_wp2
      exact bodyPost_ret (v := .tuple #[cur s 1, .string ⟨#[]⟩]) (by simp [results, Tryd.results123, go_sem]) rfl ⟨rfl, below_two _ _ _⟩
    · by_cases hz : n ≤ 0
      · have e : rawT s 0 n = (⟨#[]⟩, s, 0) := by simp [rawT, hg, hz]
        rw [e] at hr
        injection hr with e1 e2
        injection e2 with e2 e3
        subst e1 e2 e3
        clear e
        have hm : (if n < 0 then 0 else n) = 0 := by split <;> omega
        have hs0 : (0 : Int) ≤ s.size := by omega
        clear hg hz
        go_enter Tryd.func123, Tryd.ntmps123
        go_wp2
        go_region
        all_goals go_wp2
        exact bodyPost_ret (v := .tuple #[cur s 0, .string ByteArray.empty]) (by simp [results, Tryd.results123, go_sem]) rfl ⟨rfl, (below_two _ _ _).drew⟩
      · obtain ⟨k, rfl⟩ := Int.eq_ofNat_of_zero_le (show 0 ≤ n by omega)
        have e : rawT s 0 k = (s.extract 0 k, s.extract k s.size, 0) := by simp [rawT, hg, show ¬ (k = 0) by omega]
        rw [e] at hr
        injection hr with e1 e2
        injection e2 with e2 e3
        subst e1 e2 e3
        clear e
        go_enter Tryd.func123, Tryd.ntmps123
        go_wp2
        go_region
        all_goals go_wp2
        exact bodyPost_ret (v := .tuple #[cur (s.extract k s.size) 0, .string (s.extract 0 k)]) (by simp [results, Tryd.results123, go_sem]) rfl ⟨rfl, (below_two _ _ _).drew⟩
  · have e : rawT s x n = (⟨#[]⟩, s, x) := by simp [rawT, hx]
    have hb : (x != 0) = true := by simp [hx]
    rw [e] at hr
    injection hr with e1 e2
    injection e2 with e2 e3
    subst e1 e2 e3
    clear e
    go_enter Tryd.func123, Tryd.ntmps123
    go_wp2
    exact bodyPost_ret (v := .tuple #[cur s x, .string ⟨#[]⟩]) (by simp [results, Tryd.results123, go_sem]) rfl ⟨rfl, below_two _ _ _⟩

/-- Two blocks that a call has laid, behind another call. -/
theorem two_kept {w w1 : World} {o1 o2 : Obj} (h : Below ((w.alloc o1).alloc o2).heap.size ((w.alloc o1).alloc o2) w1) : w1.heap[w.heap.size]? = some o1 ∧ w1.heap[w.heap.size + 1]? = some o2 ∧ w.heap.size + 2 ≤ w1.heap.size ∧ Below w.heap.size w w1 := by
  have hs : ((w.alloc o1).alloc o2).heap.size = w.heap.size + 2 := by simp
  refine ⟨?_, ?_, by rw [← hs]; exact h.size, Below.next (below_two w o1 o2) h⟩
  · rw [h.block _ (by omega), Below.heap_alloc _ _ _ (by simp)]
    exact heap_alloc_new w o1
  · rw [h.block _ (by omega)]
    have := heap_alloc_new (w.alloc o1) o2
    simpa using this

theorem pair_cells {w : World} {b : Nat} {u v : Value} {t : TypeId} (h : w.heap[b]? = some (.cells #[u, v] t (0, 0))) : w.cell? ⟨b, 0, none⟩ = some u ∧ w.cell? ⟨b, 1, none⟩ = some v ∧ w.frozen? ⟨b, 0, none⟩ = false ∧ w.frozen? ⟨b, 1, none⟩ = false := by
  refine ⟨?_, ?_, ?_, ?_⟩
  · simp [World.cell?, h]
  · simp [World.cell?, h]
  · simp [World.frozen?, h]
  · simp [World.frozen?, h]

theorem r1number_calls (w : World) (s : ByteArray) (x n : Int) (t s' : ByteArray) (x' : Int) (hr : rawT s x n = (t, s', x')) (hn : n ≤ 4) :
    Calls Tryd.prog 77 #[cur s x, .int .i64 n] w fun e w' => e = .returned (.tuple #[cur s' x', .int .u32 (numL t.data.toList)]) ∧ Below w.heap.size w w' := by
  have hsz : t.size ≤ 4 := by have := rawT_size s x n; rw [hr] at this; dsimp only at this; omega
  have HR := Lib.hid hr
  clear hr
  go_enter Tryd.func77, Tryd.ntmps77
  go_wp2_with fail
  refine (r1raw_calls _ s x n t s' x' HR.out).mono ?_
  rintro e w1 ⟨rfl, hb⟩
  obtain ⟨k1, k2, hz, hbl⟩ := two_kept hb
  obtain ⟨c0, c1, f0, f1⟩ := pair_cells k1
  obtain ⟨d0, d1, g0, g1⟩ := pair_cells k2
  have HB := Lib.hid hbl
  clear hb k1 k2 hbl HR
  go_wp2
  go_loop [7, 8] (fun v i => ∃ k : Nat, k ≤ t.size ∧ i = .int .i64 k ∧ v = .int .u32 (numL (t.data.toList.take k))) (fun _ i => t.size - (intOf i).toNat)
  case atStart => exact ⟨0, Nat.zero_le _, rfl, rfl⟩
  case round =>
    obtain ⟨k, hk, rfl, rfl⟩ := hrel
    by_cases hlt : k < t.size
    · have hts := numL_snoc (t.data.toList.take k) t[k]
      rw [← take_snoc t k hlt] at hts
      have HS := Lib.hid hts
      clear hts
      have hb := numL_lt3 (t.data.toList.take k) (by simp; omega)
      have hc := t[k].toNat_lt
      generalize numL (t.data.toList.take k) = v at *
      go_wp2
      go_round
      case rel => exact ⟨k + 1, by omega, by go_num, by rw [HS.out]; go_num⟩
      case measure => simp [intOf]; omega
    · have e : t.data.toList.take k = t.data.toList := List.take_of_length_le (by simp; omega)
      rw [e]
      go_wp2
      exact bodyPost_ret (v := .tuple #[cur s' x', .int .u32 (numL t.data.toList)]) (by simp [results, Tryd.results77, go_sem, d0, d1]) rfl
        ⟨rfl, (((HB.out.setCell (Nat.le_refl _) _).setCell (Nat.le_refl _) _).setCell (Nat.le_succ _) _).setCell (Nat.le_succ _) _⟩

theorem r1data2_calls (w : World) (s : ByteArray) (x : Int) (t s1 : ByteArray) (x1 : Int) (hr : rawT s x 2 = (t, s1, x1)) (t2 s2 : ByteArray) (x2 : Int) (hr2 : rawT s1 x1 (numL t.data.toList) = (t2, s2, x2)) :
    Calls Tryd.prog 79 #[cur s x] w fun e w' => e = .returned (.tuple #[cur s2 x2, .string t2]) ∧ Below w.heap.size w w' := by
  have hb := num_lt2 s x t s1 x1 hr
  have HR := Lib.hid hr
  have HR2 := Lib.hid hr2
  clear hr hr2
  go_enter Tryd.func79, Tryd.ntmps79
  go_wp2_with fail
  refine (r1number_calls _ s x 2 t s1 x1 HR.out (by omega)).mono ?_
  rintro e w1 ⟨rfl, hb1⟩
  obtain ⟨k1, k2, hz, hbl⟩ := two_kept hb1
  obtain ⟨c0, c1, f0, f1⟩ := pair_cells k1
  obtain ⟨d0, d1, g0, g1⟩ := pair_cells k2
  generalize numL t.data.toList = c at *
  have HB := Lib.hid hbl
  have K2 := Lib.hid k2
  clear hb1 k1 k2 hbl HR
  go_wp2_with fail
  refine (r1raw_calls _ s1 x1 _ t2 s2 x2 HR2.out).mono ?_
  rintro e w2 ⟨rfl, hb2⟩
  have k2' : w2.heap[w.heap.size + 1]? = some (.cells #[.string ⟨#[]⟩, .int .i64 0] 148 (0, 0)) := by
    rw [hb2.block _ (by simp [World.setCell]; omega), Below.heap_setCell _ _ _ _ (by simp), Below.heap_setCell _ _ _ _ (by simp)]
    exact K2.out
  have HB2 : Hid (Below w.heap.size w w2) := ((HB.out.setCell (Nat.le_refl _) _).setCell (Nat.le_refl _) _).trans (hb2.mono (by simp [World.setCell]; omega))
  clear hb2 HB K2 d0 d1 g0 g1 c0 c1 f0 f1 HR2
  obtain ⟨d0, d1, g0, g1⟩ := pair_cells k2'
  clear k2'
  go_wp2
  exact bodyPost_ret (v := .tuple #[cur s2 x2, .string t2]) (by simp [results, Tryd.results79, go_sem, d0, d1]) rfl
    ⟨rfl, (HB2.out.setCell (Nat.le_succ _) _).setCell (Nat.le_succ _) _⟩

#print axioms r1raw_calls
end Go.Proofs.YtnpkiknidmhciaaDoor

namespace Go.Proofs.YtnpkiknidmhciaaDoor
open Go.RowKit

/-- What holds behind i rounds: R is what is to be answered. -/
def VarR (R : Nat × ByteArray × Int) (i m : Nat) (s1 : ByteArray) (x1 : Int) : Prop :=
  (i ≤ 3 ∧ R = varT (3 - i) i m s1 x1 ∧ m < 128 ^ i) ∨ (i = 4 ∧ R = (0, s1, 2))

theorem cells_kept {w w1 : World} {b : Nat} {o : Obj} (h : Below w.heap.size w w1) (hb : w.heap[b]? = some o) : w1.heap[b]? = some o := (h.block b (lt_of_block hb)).trans hb
theorem pair_set {w : World} {b : Nat} {u v u' v' : Value} {t : TypeId} (h : w.heap[b]? = some (.cells #[u, v] t (0, 0))) : ((w.setCell ⟨b, 0, none⟩ u').setCell ⟨b, 1, none⟩ v').heap[b]? = some (.cells #[u', v'] t (0, 0)) := by
  simp [World.setCell, Array.getElem?_modify, h]
theorem far_set {w : World} {b c : Nat} {u' v' : Value} (hne : c ≠ b) : ((w.setCell ⟨b, 0, none⟩ u').setCell ⟨b, 1, none⟩ v').heap[c]? = w.heap[c]? := by
  rw [Below.heap_setCell _ _ _ _ hne, Below.heap_setCell _ _ _ _ hne]

set_option maxRecDepth 100000 in
set_option maxHeartbeats 4000000 in
theorem r1takevar_calls (w : World) (s : ByteArray) (x : Int) (n : Nat) (s' : ByteArray) (x' : Int) (hr : varT 3 0 0 s x = (n, s', x')) :
    Calls Tryd.prog 124 #[cur s x] w fun e w' => e = .returned (.tuple #[cur s' x', .int .u32 n]) ∧ Below w.heap.size w w' := by
  have HR := Lib.hid hr
  clear hr
  go_enter Tryd.func124, Tryd.ntmps124
  go_wp2
  go_loopw [4, 5, 6] (fun a b c wr => ∃ (i m : Nat) (s1 : ByteArray) (x1 : Int), a = .int .u32 m ∧ b = .int .u32 ((128 ^ i : Nat) : Int) ∧ c = .int .i64 i ∧ i ≤ 4 ∧ VarR (n, s', x') i m s1 x1 ∧
      wr.heap[w.heap.size]? = some (.cells #[.string s1, .int .i64 x1] 148 (0, 0)) ∧ wr.heap[w.heap.size + 1]? = some (.cells #[.string ⟨#[]⟩, .int .i64 0] 148 (0, 0)) ∧ Below w.heap.size w wr) (fun _ _ c _ => 4 - (intOf c).toNat)
  case atStart =>
    exact ⟨0, 0, s, x, rfl, rfl, rfl, by omega, .inl ⟨by omega, HR.out.symm, by decide⟩, by rw [Below.heap_alloc _ _ _ (by simp)]; exact heap_alloc_new w _, by have := heap_alloc_new (w.alloc (.cells #[.string s, .int .i64 x] 148)) (.cells #[.string ⟨#[]⟩, .int .i64 0] 148); simpa using this, below_two _ _ _⟩
  case round =>
    clear HR
    obtain ⟨i, m, s1, x1, rfl, rfl, rfl, hi, hv, k1, k2, hb⟩ := hrel
    have hz : w.heap.size + 1 < wr.heap.size := lt_of_block k2
    by_cases hi4 : i = 4
    · subst hi4
      have hR : (n, s', x') = (0, s1, 2) := by
        rcases hv with ⟨h, _⟩ | ⟨_, h⟩
        · omega
        · exact h
      injection hR with e1 e2
      injection e2 with e2 e3
      obtain ⟨c0, c1, f0, f1⟩ := pair_cells k1
      obtain ⟨d0, d1, g0, g1⟩ := pair_cells k2
      have HB := Lib.hid hb
      have E1 := Lib.hid e1
      have E2 := Lib.hid e2
      have E3 := Lib.hid e3
      clear hv k1 k2 hb e1 e2 e3
      go_wp2
      refine bodyPost_ret (v := .tuple #[cur s1 2, .int .u32 0]) (by simp [results, Tryd.results124, go_sem, d0, d1]) rfl ?_
      rw [E1.out, E2.out, E3.out]
      exact ⟨rfl, (HB.out.setCell (Nat.le_succ _) _).setCell (Nat.le_succ _) _⟩
    · obtain ⟨t, s2, x2, ht⟩ : ∃ t s2 x2, rawT s1 x1 1 = (t, s2, x2) := ⟨_, _, _, rfl⟩
      have hc := num_lt1 s1 x1 t s2 x2 ht
      have HT := Lib.hid ht
      have hv' : (n, s', x') = varT (3 - i) i m s1 x1 ∧ m < 128 ^ i := by
        rcases hv with ⟨_, h⟩ | ⟨h, _⟩
        · exact h
        · exact absurd h hi4
      have HV := Lib.hid hv'.1
      have HM := Lib.hid hv'.2
      clear ht hv hv'
      obtain ⟨c0, c1, f0, f1⟩ := pair_cells k1
      have hi3 : i ≤ 3 := by omega
      clear hi4 hi
      go_wp2_with fail
      refine (r1number_calls _ s1 x1 1 t s2 x2 HT.out (by omega)).mono ?_
      rintro e w3 ⟨rfl, hb3⟩
      have K1 := cells_kept hb3 k1
      have K2 := cells_kept hb3 k2
      have hb4 := hb.trans (hb3.mono hb.size)
      have hz3 : w.heap.size + 1 < w3.heap.size := lt_of_block K2
      have hz0 : w.heap.size < w3.heap.size := lt_of_block K1
      clear hb3 hb k1 k2 c0 c1 f0 f1 hz
      obtain ⟨c0, c1, f0, f1⟩ := pair_cells K1
      obtain ⟨d0, d1, g0, g1⟩ := pair_cells K2
      have HK1 := Lib.hid K1
      have HK2 := Lib.hid K2
      have HB := Lib.hid hb4
      clear K1 K2 hb4
      by_cases hx : x2 = 0
      · subst hx
        rcases (show i = 0 ∨ i = 1 ∨ i = 2 ∨ i = 3 by omega) with rfl | rfl | rfl | rfl
        · have hm : m < 1 := by simpa using HM.out
          clear HM hi3
          obtain rfl : m = 0 := by omega
          clear hm
          have P1 := pair_set (u' := .string s2) (v' := .int .i64 0) HK1.out
          have P2 := (far_set (w := w3) (b := w.heap.size) (c := w.heap.size + 1) (u' := .string s2) (v' := .int .i64 0) (by omega)).trans HK2.out
          have A1 := Lib.hid ((Below.heap_alloc _ (.cells #[.string s2, .int .i64 0] 148) _ (lt_of_block P1)).trans P1)
          have A2 := Lib.hid ((Below.heap_alloc _ (.cells #[.string s2, .int .i64 0] 148) _ (lt_of_block P2)).trans P2)
          have HP2 := Lib.hid P2
          have HZ : Hid (w.heap.size ≤ ((w3.setCell ⟨w.heap.size, 0, none⟩ (.string s2)).setCell ⟨w.heap.size, 1, none⟩ (.int .i64 0)).heap.size) := by unfold Hid; simp [World.setCell]; omega
          have HB1 := Lib.hid (((HB.out.setCell (p := ⟨w.heap.size, 0, none⟩) (Nat.le_refl _) (.string s2)).setCell (p := ⟨w.heap.size, 1, none⟩) (Nat.le_refl _) (.int .i64 0)))
          clear P1 P2 HB HK1 HK2
          by_cases h128 : 128 ≤ numL t.data.toList
          · have HE : Hid (VarR (n, s', x') 1 (0 + numL t.data.toList % 128 * 128 ^ 0) s2 0) := by
              refine .inl ⟨by omega, HV.out.trans (varT_go HT.out h128), ?_⟩
              have hlt := Nat.mod_lt (numL t.data.toList) (show 128 > 0 by omega)
              generalize numL t.data.toList % 128 = q at *
              simp; omega
            clear HV HT
            go_wp2
            go_roundw
            case rel => exact ⟨1, 0 + numL t.data.toList % 128 * 128 ^ 0, s2, 0, congrArg (Value.int .u32) (show (numL t.data.toList : Int) % 128 = ((0 + numL t.data.toList % 128 * 128 ^ 0 : Nat) : Int) by simp), rfl, rfl, by omega, HE.out, A1.out, A2.out, HB1.out.alloc HZ.out _⟩
            case measure => simp [intOf]
          · have hlt8 : numL t.data.toList < 128 := by omega
            clear h128
            by_cases h0 : numL t.data.toList = 0
            · have hbz : ((numL t.data.toList : Int) == 0) = true := by rw [h0]; rfl
              have hR := HV.out.trans (varT_ok HT.out (by omega))
              injection hR with e1 e2
              injection e2 with e2 e3
              rw [if_pos rfl] at e1
              have E1 := Lib.hid e1
              have E2 := Lib.hid e2
              have E3 := Lib.hid e3
              clear e1 e2 e3
              have P3 := pair_set (u' := .string s2) (v' := .int .i64 0) HP2.out
              obtain ⟨p0, p1, _, _⟩ := pair_cells ((Below.heap_alloc _ (.cells #[.string s2, .int .i64 0] 148) _ (lt_of_block P3)).trans P3)
              have Q0 := Lib.hid p0
              have Q1 := Lib.hid p1
              have HZ3 : Hid (w.heap.size ≤ ((((w3.setCell ⟨w.heap.size, 0, none⟩ (.string s2)).setCell ⟨w.heap.size, 1, none⟩ (.int .i64 0)).setCell ⟨w.heap.size + 1, 0, none⟩ (.string s2)).setCell ⟨w.heap.size + 1, 1, none⟩ (.int .i64 0)).heap.size) := by unfold Hid; simp [World.setCell]; omega
              clear P3 p0 p1 HV HT A1 A2 HP2 HZ
              generalize numL t.data.toList = c at *
              go_wp2
              have p0 := Q0.out
              have p1 := Q1.out
              refine bodyPost_ret (v := .tuple #[cur s2 0, .int .u32 (0)]) (by simp [results, Tryd.results124, go_sem, p0, p1]) rfl ?_
              rw [E1.out, E2.out, E3.out]
              exact ⟨congrArg (fun z => Ending.returned (.tuple #[cur s2 0, .int .u32 z])) (show (0 : Int) = ((0 + c % 128 * 128 ^ 0 : Nat) : Int) by rw [h0]; rfl), ((HB1.out.setCell (Nat.le_succ _) _).setCell (Nat.le_succ _) _).alloc HZ3.out _⟩
            · have hbz : ((numL t.data.toList : Int) == 0) = false := by simp [h0]
              have hR := HV.out.trans (varT_ok HT.out (by omega))
              injection hR with e1 e2
              injection e2 with e2 e3
              rw [if_pos rfl] at e1
              have E1 := Lib.hid e1
              have E2 := Lib.hid e2
              have E3 := Lib.hid e3
              clear e1 e2 e3
              have P3 := pair_set (u' := .string s2) (v' := .int .i64 0) HP2.out
              obtain ⟨p0, p1, _, _⟩ := pair_cells ((Below.heap_alloc _ (.cells #[.string s2, .int .i64 0] 148) _ (lt_of_block P3)).trans P3)
              have Q0 := Lib.hid p0
              have Q1 := Lib.hid p1
              have HZ3 : Hid (w.heap.size ≤ ((((w3.setCell ⟨w.heap.size, 0, none⟩ (.string s2)).setCell ⟨w.heap.size, 1, none⟩ (.int .i64 0)).setCell ⟨w.heap.size + 1, 0, none⟩ (.string s2)).setCell ⟨w.heap.size + 1, 1, none⟩ (.int .i64 0)).heap.size) := by unfold Hid; simp [World.setCell]; omega
              clear P3 p0 p1 HV HT A1 A2 HP2 HZ
              generalize numL t.data.toList = c at *
              go_wp2
              have p0 := Q0.out
              have p1 := Q1.out
              refine bodyPost_ret (v := .tuple #[cur s2 0, .int .u32 ((c : Int) % 128)]) (by simp [results, Tryd.results124, go_sem, p0, p1]) rfl ?_
              rw [E1.out, E2.out, E3.out]
              exact ⟨congrArg (fun z => Ending.returned (.tuple #[cur s2 0, .int .u32 z])) (show (c : Int) % 128 = ((0 + c % 128 * 128 ^ 0 : Nat) : Int) by simp), ((HB1.out.setCell (Nat.le_succ _) _).setCell (Nat.le_succ _) _).alloc HZ3.out _⟩
        · have hm : m < 128 := by simpa using HM.out
          clear HM hi3
          have P1 := pair_set (u' := .string s2) (v' := .int .i64 0) HK1.out
          have P2 := (far_set (w := w3) (b := w.heap.size) (c := w.heap.size + 1) (u' := .string s2) (v' := .int .i64 0) (by omega)).trans HK2.out
          have A1 := Lib.hid ((Below.heap_alloc _ (.cells #[.string s2, .int .i64 0] 148) _ (lt_of_block P1)).trans P1)
          have A2 := Lib.hid ((Below.heap_alloc _ (.cells #[.string s2, .int .i64 0] 148) _ (lt_of_block P2)).trans P2)
          have HP2 := Lib.hid P2
          have HZ : Hid (w.heap.size ≤ ((w3.setCell ⟨w.heap.size, 0, none⟩ (.string s2)).setCell ⟨w.heap.size, 1, none⟩ (.int .i64 0)).heap.size) := by unfold Hid; simp [World.setCell]; omega
          have HB1 := Lib.hid (((HB.out.setCell (p := ⟨w.heap.size, 0, none⟩) (Nat.le_refl _) (.string s2)).setCell (p := ⟨w.heap.size, 1, none⟩) (Nat.le_refl _) (.int .i64 0)))
          clear P1 P2 HB HK1 HK2
          by_cases h128 : 128 ≤ numL t.data.toList
          · have HE : Hid (VarR (n, s', x') 2 (m + numL t.data.toList % 128 * 128 ^ 1) s2 0) := by
              refine .inl ⟨by omega, HV.out.trans (varT_go HT.out h128), ?_⟩
              have hlt := Nat.mod_lt (numL t.data.toList) (show 128 > 0 by omega)
              generalize numL t.data.toList % 128 = q at *
              omega
            clear HV HT
            go_wp2
            go_roundw
            case rel => exact ⟨2, m + numL t.data.toList % 128 * 128 ^ 1, s2, 0, congrArg (Value.int .u32) (show (m : Int) + 128 * ((numL t.data.toList : Int) % 128) = ((m + numL t.data.toList % 128 * 128 ^ 1 : Nat) : Int) by rw [Nat.mul_comm]; simp), rfl, rfl, by omega, HE.out, A1.out, A2.out, HB1.out.alloc HZ.out _⟩
            case measure => simp [intOf]
          · have hlt8 : numL t.data.toList < 128 := by omega
            clear h128
            by_cases h0 : numL t.data.toList = 0
            · have hbz : ((numL t.data.toList : Int) == 0) = true := by rw [h0]; rfl
              have hR := HV.out.trans (varT_bad HT.out (.inr (by omega)) (.inr ⟨h0, by omega⟩))
              injection hR with e1 e2
              injection e2 with e2 e3
              rw [failed, if_pos rfl] at e3
              have E1 := Lib.hid e1
              have E2 := Lib.hid e2
              have E3 := Lib.hid e3
              clear e1 e2 e3
              have P3 := pair_set (u' := .string s2) (v' := .int .i64 2) HP2.out
              obtain ⟨p0, p1, _, _⟩ := pair_cells ((Below.heap_alloc _ (.cells #[.string s2, .int .i64 0] 148) _ (lt_of_block P3)).trans P3)
              have Q0 := Lib.hid p0
              have Q1 := Lib.hid p1
              have HZ3 : Hid (w.heap.size ≤ ((((w3.setCell ⟨w.heap.size, 0, none⟩ (.string s2)).setCell ⟨w.heap.size, 1, none⟩ (.int .i64 0)).setCell ⟨w.heap.size + 1, 0, none⟩ (.string s2)).setCell ⟨w.heap.size + 1, 1, none⟩ (.int .i64 2)).heap.size) := by unfold Hid; simp [World.setCell]; omega
              clear P3 p0 p1 HV HT A1 A2 HP2 HZ
              generalize numL t.data.toList = c at *
              go_wp2
              have p0 := Q0.out
              have p1 := Q1.out
              refine bodyPost_ret (v := .tuple #[cur s2 2, .int .u32 0]) (by simp [results, Tryd.results124, go_sem, p0, p1]) rfl ?_
              rw [E1.out, E2.out, E3.out]
              exact ⟨rfl, ((HB1.out.setCell (Nat.le_succ _) _).setCell (Nat.le_succ _) _).alloc HZ3.out _⟩
            · have hbz : ((numL t.data.toList : Int) == 0) = false := by simp [h0]
              have hR := HV.out.trans (varT_ok HT.out (by omega))
              injection hR with e1 e2
              injection e2 with e2 e3
              rw [if_pos rfl] at e1
              have E1 := Lib.hid e1
              have E2 := Lib.hid e2
              have E3 := Lib.hid e3
              clear e1 e2 e3
              have P3 := pair_set (u' := .string s2) (v' := .int .i64 0) HP2.out
              obtain ⟨p0, p1, _, _⟩ := pair_cells ((Below.heap_alloc _ (.cells #[.string s2, .int .i64 0] 148) _ (lt_of_block P3)).trans P3)
              have Q0 := Lib.hid p0
              have Q1 := Lib.hid p1
              have HZ3 : Hid (w.heap.size ≤ ((((w3.setCell ⟨w.heap.size, 0, none⟩ (.string s2)).setCell ⟨w.heap.size, 1, none⟩ (.int .i64 0)).setCell ⟨w.heap.size + 1, 0, none⟩ (.string s2)).setCell ⟨w.heap.size + 1, 1, none⟩ (.int .i64 0)).heap.size) := by unfold Hid; simp [World.setCell]; omega
              clear P3 p0 p1 HV HT A1 A2 HP2 HZ
              generalize numL t.data.toList = c at *
              go_wp2
              have p0 := Q0.out
              have p1 := Q1.out
              refine bodyPost_ret (v := .tuple #[cur s2 0, .int .u32 ((m : Int) + 128 * ((c : Int) % 128))]) (by simp [results, Tryd.results124, go_sem, p0, p1]) rfl ?_
              rw [E1.out, E2.out, E3.out]
              exact ⟨congrArg (fun z => Ending.returned (.tuple #[cur s2 0, .int .u32 z])) (show (m : Int) + 128 * ((c : Int) % 128) = ((m + c % 128 * 128 ^ 1 : Nat) : Int) by rw [Nat.mul_comm]; simp), ((HB1.out.setCell (Nat.le_succ _) _).setCell (Nat.le_succ _) _).alloc HZ3.out _⟩
        · have hm : m < 16384 := by simpa using HM.out
          clear HM hi3
          have P1 := pair_set (u' := .string s2) (v' := .int .i64 0) HK1.out
          have P2 := (far_set (w := w3) (b := w.heap.size) (c := w.heap.size + 1) (u' := .string s2) (v' := .int .i64 0) (by omega)).trans HK2.out
          have A1 := Lib.hid ((Below.heap_alloc _ (.cells #[.string s2, .int .i64 0] 148) _ (lt_of_block P1)).trans P1)
          have A2 := Lib.hid ((Below.heap_alloc _ (.cells #[.string s2, .int .i64 0] 148) _ (lt_of_block P2)).trans P2)
          have HP2 := Lib.hid P2
          have HZ : Hid (w.heap.size ≤ ((w3.setCell ⟨w.heap.size, 0, none⟩ (.string s2)).setCell ⟨w.heap.size, 1, none⟩ (.int .i64 0)).heap.size) := by unfold Hid; simp [World.setCell]; omega
          have HB1 := Lib.hid (((HB.out.setCell (p := ⟨w.heap.size, 0, none⟩) (Nat.le_refl _) (.string s2)).setCell (p := ⟨w.heap.size, 1, none⟩) (Nat.le_refl _) (.int .i64 0)))
          clear P1 P2 HB HK1 HK2
          by_cases h128 : 128 ≤ numL t.data.toList
          · have HE : Hid (VarR (n, s', x') 3 (m + numL t.data.toList % 128 * 128 ^ 2) s2 0) := by
              refine .inl ⟨by omega, HV.out.trans (varT_go HT.out h128), ?_⟩
              have hlt := Nat.mod_lt (numL t.data.toList) (show 128 > 0 by omega)
              generalize numL t.data.toList % 128 = q at *
              omega
            clear HV HT
            go_wp2
            go_roundw
            case rel => exact ⟨3, m + numL t.data.toList % 128 * 128 ^ 2, s2, 0, congrArg (Value.int .u32) (show (m : Int) + 16384 * ((numL t.data.toList : Int) % 128) = ((m + numL t.data.toList % 128 * 128 ^ 2 : Nat) : Int) by rw [Nat.mul_comm]; simp), rfl, rfl, by omega, HE.out, A1.out, A2.out, HB1.out.alloc HZ.out _⟩
            case measure => simp [intOf]
          · have hlt8 : numL t.data.toList < 128 := by omega
            clear h128
            by_cases h0 : numL t.data.toList = 0
            · have hbz : ((numL t.data.toList : Int) == 0) = true := by rw [h0]; rfl
              have hR := HV.out.trans (varT_bad HT.out (.inr (by omega)) (.inr ⟨h0, by omega⟩))
              injection hR with e1 e2
              injection e2 with e2 e3
              rw [failed, if_pos rfl] at e3
              have E1 := Lib.hid e1
              have E2 := Lib.hid e2
              have E3 := Lib.hid e3
              clear e1 e2 e3
              have P3 := pair_set (u' := .string s2) (v' := .int .i64 2) HP2.out
              obtain ⟨p0, p1, _, _⟩ := pair_cells ((Below.heap_alloc _ (.cells #[.string s2, .int .i64 0] 148) _ (lt_of_block P3)).trans P3)
              have Q0 := Lib.hid p0
              have Q1 := Lib.hid p1
              have HZ3 : Hid (w.heap.size ≤ ((((w3.setCell ⟨w.heap.size, 0, none⟩ (.string s2)).setCell ⟨w.heap.size, 1, none⟩ (.int .i64 0)).setCell ⟨w.heap.size + 1, 0, none⟩ (.string s2)).setCell ⟨w.heap.size + 1, 1, none⟩ (.int .i64 2)).heap.size) := by unfold Hid; simp [World.setCell]; omega
              clear P3 p0 p1 HV HT A1 A2 HP2 HZ
              generalize numL t.data.toList = c at *
              go_wp2
              have p0 := Q0.out
              have p1 := Q1.out
              refine bodyPost_ret (v := .tuple #[cur s2 2, .int .u32 0]) (by simp [results, Tryd.results124, go_sem, p0, p1]) rfl ?_
              rw [E1.out, E2.out, E3.out]
              exact ⟨rfl, ((HB1.out.setCell (Nat.le_succ _) _).setCell (Nat.le_succ _) _).alloc HZ3.out _⟩
            · have hbz : ((numL t.data.toList : Int) == 0) = false := by simp [h0]
              have hR := HV.out.trans (varT_ok HT.out (by omega))
              injection hR with e1 e2
              injection e2 with e2 e3
              rw [if_pos rfl] at e1
              have E1 := Lib.hid e1
              have E2 := Lib.hid e2
              have E3 := Lib.hid e3
              clear e1 e2 e3
              have P3 := pair_set (u' := .string s2) (v' := .int .i64 0) HP2.out
              obtain ⟨p0, p1, _, _⟩ := pair_cells ((Below.heap_alloc _ (.cells #[.string s2, .int .i64 0] 148) _ (lt_of_block P3)).trans P3)
              have Q0 := Lib.hid p0
              have Q1 := Lib.hid p1
              have HZ3 : Hid (w.heap.size ≤ ((((w3.setCell ⟨w.heap.size, 0, none⟩ (.string s2)).setCell ⟨w.heap.size, 1, none⟩ (.int .i64 0)).setCell ⟨w.heap.size + 1, 0, none⟩ (.string s2)).setCell ⟨w.heap.size + 1, 1, none⟩ (.int .i64 0)).heap.size) := by unfold Hid; simp [World.setCell]; omega
              clear P3 p0 p1 HV HT A1 A2 HP2 HZ
              generalize numL t.data.toList = c at *
              go_wp2
              have p0 := Q0.out
              have p1 := Q1.out
              refine bodyPost_ret (v := .tuple #[cur s2 0, .int .u32 ((m : Int) + 16384 * ((c : Int) % 128))]) (by simp [results, Tryd.results124, go_sem, p0, p1]) rfl ?_
              rw [E1.out, E2.out, E3.out]
              exact ⟨congrArg (fun z => Ending.returned (.tuple #[cur s2 0, .int .u32 z])) (show (m : Int) + 16384 * ((c : Int) % 128) = ((m + c % 128 * 128 ^ 2 : Nat) : Int) by rw [Nat.mul_comm]; simp), ((HB1.out.setCell (Nat.le_succ _) _).setCell (Nat.le_succ _) _).alloc HZ3.out _⟩
        · have hm : m < 2097152 := by simpa using HM.out
          clear HM hi3
          have P1 := pair_set (u' := .string s2) (v' := .int .i64 0) HK1.out
          have P2 := (far_set (w := w3) (b := w.heap.size) (c := w.heap.size + 1) (u' := .string s2) (v' := .int .i64 0) (by omega)).trans HK2.out
          have A1 := Lib.hid ((Below.heap_alloc _ (.cells #[.string s2, .int .i64 0] 148) _ (lt_of_block P1)).trans P1)
          have A2 := Lib.hid ((Below.heap_alloc _ (.cells #[.string s2, .int .i64 0] 148) _ (lt_of_block P2)).trans P2)
          have HP2 := Lib.hid P2
          have HZ : Hid (w.heap.size ≤ ((w3.setCell ⟨w.heap.size, 0, none⟩ (.string s2)).setCell ⟨w.heap.size, 1, none⟩ (.int .i64 0)).heap.size) := by unfold Hid; simp [World.setCell]; omega
          have HB1 := Lib.hid (((HB.out.setCell (p := ⟨w.heap.size, 0, none⟩) (Nat.le_refl _) (.string s2)).setCell (p := ⟨w.heap.size, 1, none⟩) (Nat.le_refl _) (.int .i64 0)))
          clear P1 P2 HB HK1 HK2
          by_cases h128 : 128 ≤ numL t.data.toList
          · have HE : Hid (VarR (n, s', x') 4 (m + numL t.data.toList % 128 * 128 ^ 3) s2 0) := .inr ⟨rfl, HV.out.trans (varT_bad HT.out (.inl rfl) (.inl h128))⟩
            clear HV HT
            go_wp2
            go_roundw
            case rel => exact ⟨4, m + numL t.data.toList % 128 * 128 ^ 3, s2, 0, congrArg (Value.int .u32) (show (m : Int) + 2097152 * ((numL t.data.toList : Int) % 128) = ((m + numL t.data.toList % 128 * 128 ^ 3 : Nat) : Int) by rw [Nat.mul_comm]; simp), rfl, rfl, by omega, HE.out, A1.out, A2.out, HB1.out.alloc HZ.out _⟩
            case measure => simp [intOf]
          · have hlt8 : numL t.data.toList < 128 := by omega
            clear h128
            by_cases h0 : numL t.data.toList = 0
            · have hbz : ((numL t.data.toList : Int) == 0) = true := by rw [h0]; rfl
              have hR := HV.out.trans (varT_bad HT.out (.inr (by omega)) (.inr ⟨h0, by omega⟩))
              injection hR with e1 e2
              injection e2 with e2 e3
              rw [failed, if_pos rfl] at e3
              have E1 := Lib.hid e1
              have E2 := Lib.hid e2
              have E3 := Lib.hid e3
              clear e1 e2 e3
              have P3 := pair_set (u' := .string s2) (v' := .int .i64 2) HP2.out
              obtain ⟨p0, p1, _, _⟩ := pair_cells ((Below.heap_alloc _ (.cells #[.string s2, .int .i64 0] 148) _ (lt_of_block P3)).trans P3)
              have Q0 := Lib.hid p0
              have Q1 := Lib.hid p1
              have HZ3 : Hid (w.heap.size ≤ ((((w3.setCell ⟨w.heap.size, 0, none⟩ (.string s2)).setCell ⟨w.heap.size, 1, none⟩ (.int .i64 0)).setCell ⟨w.heap.size + 1, 0, none⟩ (.string s2)).setCell ⟨w.heap.size + 1, 1, none⟩ (.int .i64 2)).heap.size) := by unfold Hid; simp [World.setCell]; omega
              clear P3 p0 p1 HV HT A1 A2 HP2 HZ
              generalize numL t.data.toList = c at *
              go_wp2
              have p0 := Q0.out
              have p1 := Q1.out
              refine bodyPost_ret (v := .tuple #[cur s2 2, .int .u32 0]) (by simp [results, Tryd.results124, go_sem, p0, p1]) rfl ?_
              rw [E1.out, E2.out, E3.out]
              exact ⟨rfl, ((HB1.out.setCell (Nat.le_succ _) _).setCell (Nat.le_succ _) _).alloc HZ3.out _⟩
            · have hbz : ((numL t.data.toList : Int) == 0) = false := by simp [h0]
              have hR := HV.out.trans (varT_ok HT.out (by omega))
              injection hR with e1 e2
              injection e2 with e2 e3
              rw [if_pos rfl] at e1
              have E1 := Lib.hid e1
              have E2 := Lib.hid e2
              have E3 := Lib.hid e3
              clear e1 e2 e3
              have P3 := pair_set (u' := .string s2) (v' := .int .i64 0) HP2.out
              obtain ⟨p0, p1, _, _⟩ := pair_cells ((Below.heap_alloc _ (.cells #[.string s2, .int .i64 0] 148) _ (lt_of_block P3)).trans P3)
              have Q0 := Lib.hid p0
              have Q1 := Lib.hid p1
              have HZ3 : Hid (w.heap.size ≤ ((((w3.setCell ⟨w.heap.size, 0, none⟩ (.string s2)).setCell ⟨w.heap.size, 1, none⟩ (.int .i64 0)).setCell ⟨w.heap.size + 1, 0, none⟩ (.string s2)).setCell ⟨w.heap.size + 1, 1, none⟩ (.int .i64 0)).heap.size) := by unfold Hid; simp [World.setCell]; omega
              clear P3 p0 p1 HV HT A1 A2 HP2 HZ
              generalize numL t.data.toList = c at *
              go_wp2
              have p0 := Q0.out
              have p1 := Q1.out
              refine bodyPost_ret (v := .tuple #[cur s2 0, .int .u32 ((m : Int) + 2097152 * ((c : Int) % 128))]) (by simp [results, Tryd.results124, go_sem, p0, p1]) rfl ?_
              rw [E1.out, E2.out, E3.out]
              exact ⟨congrArg (fun z => Ending.returned (.tuple #[cur s2 0, .int .u32 z])) (show (m : Int) + 2097152 * ((c : Int) % 128) = ((m + c % 128 * 128 ^ 3 : Nat) : Int) by rw [Nat.mul_comm]; simp), ((HB1.out.setCell (Nat.le_succ _) _).setCell (Nat.le_succ _) _).alloc HZ3.out _⟩
      · have hb1 : (x2 != 0) = true := by simp [hx]
        have hR := HV.out.trans (varT_stop HT.out hx)
        injection hR with e1 e2
        injection e2 with e2 e3
        have E1 := Lib.hid e1
        have E2 := Lib.hid e2
        have E3 := Lib.hid e3
        clear e1 e2 e3 HV HM HT
        have P := pair_set (u' := .string s2) (v' := .int .i64 x2) HK2.out
        obtain ⟨p0, p1, _, _⟩ := pair_cells ((Below.heap_alloc _ (.cells #[.string s2, .int .i64 x2] 148) _ (lt_of_block P)).trans P)
        have Q0 := Lib.hid p0
        have Q1 := Lib.hid p1
        have HZ : Hid (w.heap.size ≤ ((w3.setCell ⟨w.heap.size + 1, 0, none⟩ (.string s2)).setCell ⟨w.heap.size + 1, 1, none⟩ (.int .i64 x2)).heap.size) := by unfold Hid; simp [World.setCell]; omega
        clear P p0 p1
        go_wp2
        have p0 := Q0.out
        have p1 := Q1.out
        refine bodyPost_ret (v := .tuple #[cur s2 x2, .int .u32 0]) (by simp [results, Tryd.results124, go_sem, p0, p1]) rfl ?_
        rw [E1.out, E2.out, E3.out]
        exact ⟨rfl, ((HB.out.setCell (Nat.le_succ _) _).setCell (Nat.le_succ _) _).alloc HZ.out _⟩

#print axioms r1takevar_calls
end Go.Proofs.YtnpkiknidmhciaaDoor
