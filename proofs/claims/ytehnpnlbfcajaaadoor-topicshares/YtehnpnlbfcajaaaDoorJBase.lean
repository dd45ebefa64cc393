/-
  Several texts, one behind the other. (No statement: contracts that the proofs of the statements use.)
-/
import Derived.Test.YtehnpnlbfcajaaaDoorRows
import Derived.WalkKit
import Derived.WalkSpells
import Derived.Lib.AppendStr
import Derived.Maps.AppendAt
import Derived.Lib.Hide
import Derived.ProofKit
import Derived.OpenShut
import Derived.Deep.Slices
import Derived.Deep.Fields
namespace Go.Proofs.YtehnpnlbfcajaaaDoor
open Go.RowKit

theorem Tryd.infoU8 : (Tryd.prog.info? 5).map (fun i => (i.zero, i.size, i.bytes)) = some (some (.int .u8 0), 1, 1) := by kernel_rfl

/-- A byte as a cell. -/
def bcell (c : UInt8) : Value := .int .u8 c.toNat
theorem bcells_one (bs : List UInt8) : ∀ u ∈ bs.map bcell, u.oneCell' = true := by
  intro u hu
  obtain ⟨_, _, rfl⟩ := List.mem_map.1 hu
  rfl

theorem own_form {w : World} {v : Value} {n : Nat} {xs : List Value} (h : w.ownsRow 0 5 1 v n xs) (hn : 0 < n) : ∃ g cap, v = .slice (some ⟨g, 0, none⟩) n cap := by
  rcases h.2 with ⟨_, h0⟩ | ⟨g, cap, _, hv, _⟩
  · omega
  · exact ⟨g, cap, hv⟩

/-- What a call on the Out at o with row r may have turned: that block, that row, and what is new; r' is the row behind it. -/
structure Step (w w' : World) (o : Nat) (r r' : Option Nat) : Prop where
  os : w'.os = w.os
  tape : w'.tape = w.tape
  output : w'.output = w.output
  size : w.heap.size ≤ w'.heap.size
  block : ∀ k, k < w.heap.size → k ≠ o → some k ≠ r → w'.heap[k]? = w.heap[k]?
  row : r' = r ∨ ∃ g, r' = some g ∧ w.heap.size ≤ g

theorem Step.refl (w : World) (o : Nat) (r : Option Nat) : Step w w o r r := ⟨rfl, rfl, rfl, Nat.le_refl _, fun _ _ _ _ => rfl, .inl rfl⟩
theorem Step.trans {w1 w2 w3 : World} {o : Nat} {r1 r2 r3 : Option Nat} (h : Step w1 w2 o r1 r2) (k : Step w2 w3 o r2 r3) : Step w1 w3 o r1 r3 := by
  refine ⟨k.os.trans h.os, k.tape.trans h.tape, k.output.trans h.output, Nat.le_trans h.size k.size, fun i hi ho hr => ?_, ?_⟩
  · refine (k.block i (Nat.lt_of_lt_of_le hi h.size) ho ?_).trans (h.block i hi ho hr)
    rcases h.row with e | ⟨g, e, hg⟩
    · rw [e]; exact hr
    · rw [e]; intro e'; injection e' with e'; omega
  · rcases k.row with e | ⟨g, e, hg⟩
    · rw [e]; exact h.row
    · exact .inr ⟨g, e, Nat.le_trans h.size hg⟩
/-- What lies below the Out and its row is as it was. -/
theorem Step.below {w w' : World} {o B : Nat} {r r' : Option Nat} (h : Step w w' o r r') (hB : B ≤ w.heap.size) (ho : B ≤ o) (hr : ∀ g, r = some g → B ≤ g) : Below B w w' :=
  ⟨h.os, h.tape, h.output, h.size, fun k hk => h.block k (by omega) (by omega) (fun e => by have := hr k e.symm; omega)⟩

theorem bcell_of (c : Int) (hc0 : 0 ≤ c) (hc1 : c < 256) : bcell (UInt8.ofNat c.toNat) = .int .u8 c := by
  unfold bcell
  rw [UInt8.toNat_ofNat', Nat.mod_eq_of_lt (by omega), Int.toNat_of_nonneg hc0]

theorem two_new (w : World) (x y : Value) (t : TypeId) : ∀ j u, [x, y][j]? = some u → (w.alloc (.cells #[x, y] t)).cell? ((⟨w.heap.size, 0, none⟩ : Addr).add j) = some u := by
  intro j u hj
  match j, hj with
  | 0, hj => simp at hj; subst hj; simp [Addr.add]
  | 1, hj => simp at hj; subst hj; simp [Addr.add]

/-- The bytes of a number in two bytes. -/
def two (n : Int) : List UInt8 := [UInt8.ofNat (n / 256 % 256).toNat, UInt8.ofNat (n % 256).toNat]

/-- A string's bytes. -/
def str (bs : List UInt8) : ByteArray := ⟨bs.toArray⟩

/-- Where the row lies behind an append of a string. -/
theorem string_at {w w' : World} {v v' : Value} {n : Nat} {xs : List Value} {ty : TypeId} {i : TypeInfo} (hi : Tryd.prog.info? 5 = some i) (hz : i.zero = some (.int .u8 0)) (hs : i.size = 1) (hb : i.bytes = 1)
    (hown : w.ownsRow 0 5 1 v n xs) (s : ByteArray) (hn : n + s.size ≤ 140737488355328) (hr : (Builtin.append_ #[40, 9] ty #[v, .string s]).run Tryd.prog w = .ok v' w') :
    v'.ownBlock = v.ownBlock ∨ v'.ownBlock = some w.heap.size := by
  have hxl : xs.length = n := by simpa using hown.1
  rcases hown.2 with ⟨rfl, rfl⟩ | ⟨g, cap, cur, rfl, _, hg, hnc, hcm, hcs, _⟩
  · by_cases hm : s.size = 0
    · have hf := Lib.run_firstCells_string (P := Tryd.prog) w 1 s
      rw [hm] at hf
      simp [Builtin.append_, run_underlying Tryd.underlying40, run_underlying Tryd.underlying9, sizeOf, typeInfo, hi, hs, Builtin.lenOf, hm, hf] at hr
      rw [← hr.1]
      exact .inl rfl
    · have h := run_append_nil_string (P := Tryd.prog) w 40 9 ty 5 i (.int .u8 0) Tryd.underlying40 Tryd.underlying9 hi hz s (by omega) (by omega) (by rw [hb]; omega)
      rw [h] at hr
      injection hr with e _
      rw [← e]
      exact .inr rfl
  · by_cases hroom : n + s.size ≤ cap
    · have hcs' : cur.size = cap := by simpa using hcs
      have h := Lib.run_append_room_string (P := Tryd.prog) w 40 9 ty 5 i Tryd.underlying40 Tryd.underlying9 hi hs g n cap cur hg s hroom (by omega)
      rw [h] at hr
      injection hr with e _
      rw [← e]
      exact .inl rfl
    · have holds : ∀ j u, xs[j]? = some u → w.cell? ((⟨g, 0, none⟩ : Addr).add j) = some u := hown.cells (g := g) rfl
      have h := Lib.run_append_grow_string (P := Tryd.prog) w 40 9 ty 5 i (.int .u8 0) Tryd.underlying40 Tryd.underlying9 hi hz ⟨g, 0, none⟩ n cap xs (by rw [hs]; simpa using hxl) holds s (by omega) (by omega) (by rw [hb]; exact growslice_fits (by omega) (by omega))
      rw [h] at hr
      injection hr with e _
      rw [← e]
      exact .inr rfl

theorem wpList_raw (w : World) {ops : Array Oper} {rest : List Oper} {o : Oper} {a : Act} {Q : Exit → Act → World → Prop} (hgd : o.guard = none) (sl x : Operand)
    (ho : o.op = .call { callee := .builtin .append, args := #[sl, x], argTypes := #[40, 9] }) {i : TypeInfo} (hi : Tryd.prog.info? 5 = some i) (hz : i.zero = some (.int .u8 0)) (hsz : i.size = 1) (hb : i.bytes = 1)
    (v : Value) (n : Nat) (xs : List Value) (hs : a.eval sl = v) (hown : w.ownsRow 0 5 1 v n xs) (s : ByteArray) (hx : a.eval x = .string s) (hn : n + s.size ≤ 140737488355328)
    (h : ∀ v' w', w'.ownsRow 0 5 1 v' (n + s.size) (xs ++ Lib.strCells s) → w.grownBy w' v.ownBlock → (v'.ownBlock = v.ownBlock ∨ v'.ownBlock = some w.heap.size) → wpList Tryd.prog ops Q rest (a.put o.dst v') w') : wpList Tryd.prog ops Q (o :: rest) a w := by
  refine wpList_plain hgd fun K hK => ?_
  obtain ⟨v', w', hr, h2, h3, _⟩ := Lib.run_append_own_string (P := Tryd.prog) w 0 40 9 o.type 5 i Tryd.underlying40 Tryd.underlying9 hi hz hsz hb v n xs hown s (by unfold maxLen; omega) hn (Nat.zero_le _)
  have h4 := string_at hi hz hsz hb hown s hn hr
  unfold Oper.wp execOp
  simp only [ho, resolve, invoke, builtin, Sem.run_bind, Sem.run_pure, Result.andThen_ok, List.map_toArray, List.map_cons, List.map_nil, hs, hx, hr]
  exact hK _ _ (h v' w' h2 h3 h4)

theorem strCells_eq (s : ByteArray) : Lib.strCells s = s.data.toList.map bcell := rfl

/-- A scope that begins with code ahead of its one label: what holds when the label is come to. -/
theorem wp_scope_head {P : Program} {a : Act} {w : World} {Q : Exit → Act → World → Prop} {c0 rest : Code} (l : Nat) (J : Act → World → Prop) (μ : Act → World → Nat) (hf : findLabel (c0.seq ((Code.label l).seq rest)) l = some (Code.skip.seq rest))
    (start : c0.wp P (Exit.then J (Exit.jump l J Q)) a w)
    (pass : ∀ a w, J a w → rest.wp P (Exit.jump l (fun a' w' => J a' w' ∧ μ a' w' < μ a w) Q) a w) : (Code.scope (c0.seq ((Code.label l).seq rest))).wp P Q a w := by
  refine wp_scope_jumps l J μ hf (wp_seq (wp_mono start ?_)) (fun a w hJ => wp_seq (wp_skip (pass a w hJ)))
  intro e a1 w1 h
  cases e with
  | normal =>
    refine wp_seq (wp_label ?_)
    refine wp_mono (pass a1 w1 h) ?_
    intro e a2 w2 h2
    cases e with
    | goto l' => exact ⟨h2.1, h2.2.1⟩
    | normal => exact h2
    | exit id => exact h2
    | ret => exact h2
    | panic ch => exact h2
    | outgrown => exact h2
  | goto l' => exact h
  | exit id => exact h
  | ret => exact h
  | panic ch => exact h
  | outgrown => exact h

/-- The bytes of a variable byte integer, of at most k + 1 bytes. -/
def varb : Nat → Nat → List UInt8
  | 0, m => [UInt8.ofNat m]
  | k + 1, m => if m < 128 then [UInt8.ofNat m] else UInt8.ofNat (m % 128 + 128) :: varb k (m / 128)

theorem varb_small (k m : Nat) (h : m < 128) : varb k m = [UInt8.ofNat m] := by
  cases k with
  | zero => rfl
  | succ k => rw [varb, if_pos h]
theorem varb_step (k m : Nat) (h : ¬ m < 128) : varb (k + 1) m = UInt8.ofNat (m % 128 + 128) :: varb k (m / 128) := by rw [varb, if_neg h]
theorem varb_len (k m : Nat) : (varb k m).length ≤ k + 1 := by
  induction k generalizing m with
  | zero => simp [varb]
  | succ k ih =>
    rw [varb]
    split
    · simp
    · simp; exact ih _

end Go.Proofs.YtehnpnlbfcajaaaDoor

namespace Go.Proofs.YtehnpnlbfcajaaaDoor
open Go.RowKit

/-- Block p alone has turned. -/
structure Only (p : Nat) (w w' : World) : Prop where
  os : w'.os = w.os
  tape : w'.tape = w.tape
  output : w'.output = w.output
  size : w'.heap.size = w.heap.size
  block : ∀ k, k ≠ p → w'.heap[k]? = w.heap[k]?

/-- The error behind Fail. -/
def failed (x f : Int) : Int := if x = 0 then f else x

/-- What Raw takes of s with error x: the bytes, what is left, the error. -/
def rawT (s : ByteArray) (x n : Int) : ByteArray × ByteArray × Int :=
  if x ≠ 0 then (⟨#[]⟩, s, x) else if (s.size : Int) < n then (⟨#[]⟩, s, 1) else if n ≤ 0 then (⟨#[]⟩, s, 0) else (s.extract 0 n.toNat, s.extract n.toNat s.size, 0)

/-- A number, its highest byte first. -/
def numL (l : List UInt8) : Nat := l.foldl (fun v c => v * 256 + c.toNat) 0
theorem numL_snoc (l : List UInt8) (c : UInt8) : numL (l ++ [c]) = numL l * 256 + c.toNat := by simp [numL]
theorem numL_lt_acc (l : List UInt8) : ∀ a : Nat, l.foldl (fun v c => v * 256 + c.toNat) a < (a + 1) * 256 ^ l.length := by
  induction l with
  | nil => intro a; simp
  | cons c l ih =>
    intro a
    have hc := c.toNat_lt
    refine Nat.lt_of_lt_of_le (ih _) ?_
    rw [List.length_cons, Nat.pow_succ, Nat.mul_comm (256 ^ l.length) 256, ← Nat.mul_assoc]
    exact Nat.mul_le_mul_right _ (show a * 256 + c.toNat + 1 ≤ (a + 1) * 256 by omega)
theorem numL_lt (l : List UInt8) : numL l < 256 ^ l.length := by have h := numL_lt_acc l 0; simp only [Nat.zero_add, Nat.one_mul] at h; exact h
theorem numL_lt3 (l : List UInt8) (h : l.length ≤ 3) : numL l < 16777216 := Nat.lt_of_lt_of_le (numL_lt l) (Nat.le_trans (Nat.pow_le_pow_right (by omega) h) (by omega))
theorem numL_lt4 (l : List UInt8) (h : l.length ≤ 4) : numL l < 4294967296 := Nat.lt_of_lt_of_le (numL_lt l) (Nat.le_trans (Nat.pow_le_pow_right (by omega) h) (by omega))

theorem rawT_size (s : ByteArray) (x n : Int) : ((rawT s x n).1.size : Int) ≤ max n 0 := by
  have e : (⟨#[]⟩ : ByteArray).size = 0 := rfl
  unfold rawT
  split
  · show ((⟨#[]⟩ : ByteArray).size : Int) ≤ _; rw [e]; omega
  · split
    · show ((⟨#[]⟩ : ByteArray).size : Int) ≤ _; rw [e]; omega
    · split
      · show ((⟨#[]⟩ : ByteArray).size : Int) ≤ _; rw [e]; omega
      · simp; omega

theorem take_snoc (s : ByteArray) (k : Nat) (h : k < s.size) : s.data.toList.take (k + 1) = s.data.toList.take k ++ [s[k]] := by
  rw [List.take_succ_eq_append_getElem (by simpa using h)]; rfl

theorem or_byte (a c : Nat) (ha : a < 16777216) (hc : c < 256) : bits .or .u32 ((a : Int) * 256) (c : Int) = (a : Int) * 256 + c := by
  have e : ((a : Int) * 256) = ((a * 256 : Nat) : Int) := by omega
  rw [e, u32_or_nat _ _ (by omega) (by omega)]
  have h := Nat.two_pow_add_eq_or_of_lt (i := 8) (b := c) (by omega) a
  have e2 : a * 256 ||| c = a * 256 + c := by rw [show a * 256 = 2 ^ 8 * a by omega]; exact h.symm
  rw [e2]
  omega

end Go.Proofs.YtehnpnlbfcajaaaDoor

namespace Go.Proofs.YtehnpnlbfcajaaaDoor
open Go.RowKit

theorem num_lt1 (s : ByteArray) (x : Int) (t s' : ByteArray) (x' : Int) (hr : rawT s x 1 = (t, s', x')) : numL t.data.toList < 256 := by
  have hsz : t.size ≤ 1 := by have := rawT_size s x 1; rw [hr] at this; dsimp only at this; omega
  exact Nat.lt_of_lt_of_le (numL_lt _) (Nat.le_trans (Nat.pow_le_pow_right (by omega) (show t.data.toList.length ≤ 1 by simpa using hsz)) (by omega))
theorem num_lt2 (s : ByteArray) (x : Int) (t s' : ByteArray) (x' : Int) (hr : rawT s x 2 = (t, s', x')) : numL t.data.toList < 65536 := by
  have hsz : t.size ≤ 2 := by have := rawT_size s x 2; rw [hr] at this; dsimp only at this; omega
  exact Nat.lt_of_lt_of_le (numL_lt _) (Nat.le_trans (Nat.pow_le_pow_right (by omega) (show t.data.toList.length ≤ 2 by simpa using hsz)) (by omega))

/-- How a packet ended. -/
def endT (s : ByteArray) (x : Int) : Int := if x = 1 ∨ (x = 0 ∧ s.size ≠ 0) then 2 else x

/-- What Var answers behind its last byte c: the number, what is left, the error. -/
def varEnd (i n c : Nat) (s : ByteArray) (x : Int) : Nat × ByteArray × Int :=
  let x2 := if 128 ≤ c ∨ (c = 0 ∧ 0 < i) then failed x 2 else x
  (if x2 = 0 then n else 0, s, x2)

/-- What Var takes from its byte i on, n being what it has. -/
def varT : Nat → Nat → Nat → ByteArray → Int → Nat × ByteArray × Int
  | 0, i, n, s, x => varEnd i (n + numL (rawT s x 1).1.data.toList % 128 * 128 ^ i) (numL (rawT s x 1).1.data.toList) (rawT s x 1).2.1 (rawT s x 1).2.2
  | k + 1, i, n, s, x =>
    if 128 ≤ numL (rawT s x 1).1.data.toList then varT k (i + 1) (n + numL (rawT s x 1).1.data.toList % 128 * 128 ^ i) (rawT s x 1).2.1 (rawT s x 1).2.2
    else varEnd i (n + numL (rawT s x 1).1.data.toList % 128 * 128 ^ i) (numL (rawT s x 1).1.data.toList) (rawT s x 1).2.1 (rawT s x 1).2.2

section
variable {k i m : Nat} {s1 t s2 : ByteArray} {x1 x2 : Int}
theorem varT_go (hr : rawT s1 x1 1 = (t, s2, x2)) (hc : 128 ≤ numL t.data.toList) : varT (k + 1) i m s1 x1 = varT k (i + 1) (m + numL t.data.toList % 128 * 128 ^ i) s2 x2 := by
  rw [varT, hr]; simp only; rw [if_pos hc]
theorem varT_end (hr : rawT s1 x1 1 = (t, s2, x2)) (hc : k = 0 ∨ numL t.data.toList < 128) : varT k i m s1 x1 = varEnd i (m + numL t.data.toList % 128 * 128 ^ i) (numL t.data.toList) s2 x2 := by
  cases k with
  | zero => rw [varT, hr]
  | succ k =>
    have : ¬ 128 ≤ numL t.data.toList := by rcases hc with h | h <;> omega
    rw [varT, hr]; simp only; rw [if_neg this]
theorem failed_ne (x : Int) : failed x 2 ≠ 0 := by unfold failed; split <;> omega
theorem varT_bad (hr : rawT s1 x1 1 = (t, s2, x2)) (hc : k = 0 ∨ numL t.data.toList < 128) (hb : 128 ≤ numL t.data.toList ∨ (numL t.data.toList = 0 ∧ 0 < i)) : varT k i m s1 x1 = (0, s2, failed x2 2) := by
  rw [varT_end hr hc, varEnd, if_pos hb, if_neg (failed_ne _)]
theorem varT_ok (hr : rawT s1 x1 1 = (t, s2, x2)) (hb : ¬ (128 ≤ numL t.data.toList ∨ (numL t.data.toList = 0 ∧ 0 < i))) : varT k i m s1 x1 = (if x2 = 0 then m + numL t.data.toList % 128 * 128 ^ i else 0, s2, x2) := by
  rw [varT_end hr (.inr (by omega)), varEnd, if_neg hb]
end

theorem or_shift (m c K j : Nat) (hK : K = 2 ^ j) (hm : m < K) (hj : K ≤ 2097152) : bits .or .u32 (m : Int) ((c : Int) % 128 * K) = (m : Int) + c % 128 * K := by
  have e : ((c : Int) % 128 * K) = ((c % 128 * K : Nat) : Int) := by simp
  have hb : c % 128 * K ≤ 127 * 2097152 := Nat.mul_le_mul (by omega) hj
  rw [e, u32_or_nat _ _ (by omega) (by omega)]
  have h := Nat.two_pow_add_eq_or_of_lt (i := j) (b := m) (by omega) (c % 128)
  have e2 : m ||| c % 128 * K = m + c % 128 * K := by
    rw [Nat.or_comm, hK, Nat.mul_comm (c % 128), ← h, Nat.add_comm]
  rw [e2, Int.natCast_add]

end Go.Proofs.YtehnpnlbfcajaaaDoor

namespace Go.Proofs.YtehnpnlbfcajaaaDoor
open Go.RowKit

theorem cut_calls (w : World) (s : ByteArray) (n : Nat) (_hs : s.size ≤ maxLen) :
    Calls Tryd.prog 9 #[.string s, .int .i64 n] w fun e w' => e = .returned (.string (s.extract 0 n)) ∧ w = w' := by
  by_cases h : n < s.size
  · go_enter Tryd.func9, Tryd.ntmps9
    go_wp2
    go_ret
    exact ⟨rfl, rfl⟩
  · have e : s.extract 0 n = s := by
      apply ByteArray.ext
      rw [ByteArray.data_extract]
      apply Array.ext'
      simp
      exact List.take_of_length_le (by simp; omega)
    rw [e]
    go_enter Tryd.func9, Tryd.ntmps9
    go_wp2
    go_ret
    exact ⟨rfl, rfl⟩

theorem two_ab : str ([] ++ varb 3 (321 : Int).toNat ++ (two ((⟨#[97, 98]⟩ : ByteArray).size : Nat) ++ (⟨#[97, 98]⟩ : ByteArray).data.toList)) = ⟨#[193, 2, 0, 2, 97, 98]⟩ := by decide +kernel
theorem var_80 : varT 3 0 0 ⟨#[128, 0]⟩ 0 = (0, ⟨#[]⟩, 2) := by decide +kernel

theorem Step.row_ge {w w' : World} {o B : Nat} {r r' : Option Nat} (h : Step w w' o r r') (hB : B ≤ w.heap.size) (hr : ∀ g, r = some g → B ≤ g) : ∀ g, r' = some g → B ≤ g := by
  intro g hg
  rcases h.row with e | ⟨g', e, hg'⟩
  · exact hr g (by rw [← e]; exact hg)
  · rw [e] at hg; injection hg with hg; omega

end Go.Proofs.YtehnpnlbfcajaaaDoor

namespace Go.Proofs.YtehnpnlbfcajaaaDoor
open Go.RowKit

theorem str_list (l : List UInt8) : (str l).toList = l := by rw [ByteArray.toList_eq]; simp [str]
theorem str_data (l : List UInt8) : (str l).data.toList = l := by simp [str]
theorem str_size (l : List UInt8) : (str l).size = l.length := by simp [str, ByteArray.size]
theorem ba_ext {a b : ByteArray} (h : a.data.toList = b.data.toList) : a = b := by
  apply ByteArray.ext
  exact Array.ext' h
theorem ba_str (s : ByteArray) : s = str s.data.toList := ba_ext (str_data _).symm
theorem ba_size (s : ByteArray) : s.data.toList.length = s.size := by rw [Array.length_toList]; rfl
theorem ba_extract (s : ByteArray) (a b : Nat) : (s.extract a b).data.toList = (s.data.toList.drop a).take (b - a) := by
  rw [ByteArray.data_extract, Array.toList_extract, List.extract_eq_take_drop]
theorem ba_take (s : ByteArray) (n : Nat) : s.extract 0 n = str (s.data.toList.take n) := ba_ext (by rw [ba_extract, str_data]; simp)
theorem ba_drop (s : ByteArray) (n : Nat) : s.extract n s.size = str (s.data.toList.drop n) := ba_ext (by
  rw [ba_extract, str_data]
  exact List.take_of_length_le (by simp))
theorem str_append (a b : List UInt8) : str a ++ str b = str (a ++ b) := ba_ext (by simp [str, ByteArray.data_append])

/-- Raw on lists. -/
theorem rawT_list (l : List UInt8) (n : Nat) (h : n ≤ l.length) : rawT (str l) 0 n = (str (l.take n), str (l.drop n), 0) := by
  unfold rawT
  rw [if_neg (by omega), if_neg (by rw [str_size]; omega)]
  by_cases h0 : (n : Int) ≤ 0
  · obtain rfl : n = 0 := by omega
    rw [if_pos h0, List.take_zero, List.drop_zero]; rfl
  · rw [if_neg h0, Int.toNat_natCast, ba_take, ba_drop, str_data]
theorem rawT_short (l : List UInt8) (n : Nat) (h : l.length < n) : rawT (str l) 0 n = (⟨#[]⟩, str l, 1) := by
  unfold rawT
  rw [if_neg (by omega), if_pos (by rw [str_size]; omega)]
theorem rawT_err (s : ByteArray) (f n : Int) (hf : f ≠ 0) : rawT s f n = (⟨#[]⟩, s, f) := by simp [rawT, hf]

theorem byte_ofNat (c : UInt8) : UInt8.ofNat c.toNat = c := by simp

/-- There is one spelling: what Var takes is what is put. -/
theorem varT_one : ∀ (k i n : Nat) (l : List UInt8) (N : Nat) (s' : ByteArray), varT k i n (str l) 0 = (N, s', 0) →
    ∃ m, N = n + m * 128 ^ i ∧ m < 128 ^ (k + 1) ∧ l = varb k m ++ s'.data.toList ∧ (0 < i → m ≠ 0) := by
  intro k
  induction k with
  | zero =>
    intro i n l N s' h
    cases l with
    | nil =>
      exfalso
      have hr := rawT_short [] 1 (by simp)
      rw [varT_end (t := ⟨#[]⟩) hr (.inl rfl), varEnd] at h
      injection h with _ h
      injection h with _ h
      revert h
      split
      · intro h; exact failed_ne _ h
      · intro h; omega
    | cons c l =>
      have hr : rawT (str (c :: l)) 0 1 = (str [c], str l, 0) := rawT_list (c :: l) 1 (by simp)
      have hn : numL (str [c]).data.toList = c.toNat := by rw [str_data]; simp [numL]
      rw [varT_end hr (.inl rfl), varEnd, hn] at h
      by_cases hb : 128 ≤ c.toNat ∨ (c.toNat = 0 ∧ 0 < i)
      · rw [if_pos hb] at h
        injection h with _ h
        injection h with _ h
        exact absurd h (failed_ne _)
      · rw [if_neg hb, if_pos rfl] at h
        injection h with h1 h
        injection h with h2 _
        refine ⟨c.toNat, ?_, ?_, ?_, ?_⟩
        · rw [← h1, Nat.mod_eq_of_lt (by omega)]
        · simp; omega
        · rw [← h2, str_data, varb, byte_ofNat]; rfl
        · intro hi h0; exact hb (.inr ⟨h0, hi⟩)
  | succ k ih =>
    intro i n l N s' h
    cases l with
    | nil =>
      exfalso
      have hr := rawT_short [] 1 (by simp)
      rw [varT_end (t := ⟨#[]⟩) hr (.inr (by decide)), varEnd] at h
      injection h with _ h
      injection h with _ h
      revert h
      split
      · intro h; exact failed_ne _ h
      · intro h; omega
    | cons c l =>
      have hr : rawT (str (c :: l)) 0 1 = (str [c], str l, 0) := rawT_list (c :: l) 1 (by simp)
      have hn : numL (str [c]).data.toList = c.toNat := by rw [str_data]; simp [numL]
      have hc := c.toNat_lt
      by_cases hg : 128 ≤ c.toNat
      · rw [varT_go hr (by rw [hn]; exact hg), hn] at h
        obtain ⟨m, h1, h2, h3, h4⟩ := ih (i + 1) _ l N s' h
        have hm := h4 (by omega)
        refine ⟨c.toNat % 128 + 128 * m, ?_, ?_, ?_, ?_⟩
        · rw [h1, Nat.pow_succ, Nat.add_mul, Nat.add_assoc, Nat.mul_assoc 128 m, Nat.mul_comm 128 (m * 128 ^ i), ← Nat.mul_assoc, Nat.mul_assoc m]
        · rw [Nat.pow_succ]; omega
        · rw [varb_step k _ (by omega), show (c.toNat % 128 + 128 * m) % 128 + 128 = c.toNat by omega, show (c.toNat % 128 + 128 * m) / 128 = m by omega, byte_ofNat, List.cons_append, ← h3]
        · omega
      · rw [varT_end hr (.inr (by rw [hn]; omega)), varEnd, hn] at h
        by_cases hb : 128 ≤ c.toNat ∨ (c.toNat = 0 ∧ 0 < i)
        · rw [if_pos hb] at h
          injection h with _ h
          injection h with _ h
          exact absurd h (failed_ne _)
        · rw [if_neg hb, if_pos rfl] at h
          injection h with h1 h
          injection h with h2 _
          refine ⟨c.toNat, ?_, ?_, ?_, ?_⟩
          · rw [← h1, Nat.mod_eq_of_lt (by omega)]
          · rw [Nat.pow_succ]
            have : 0 < 128 ^ (k + 1) := Nat.pow_pos (by omega)
            omega
          · rw [← h2, str_data, varb_small _ _ (by omega), byte_ofNat]; rfl
          · intro hi h0; exact hb (.inr ⟨h0, hi⟩)

/-- Beside an error Var answers 0. -/
theorem varT_err (k : Nat) : ∀ (i n : Nat) (s : ByteArray) (x : Int) (N : Nat) (s' : ByteArray) (x' : Int), varT k i n s x = (N, s', x') → x' ≠ 0 → N = 0 := by
  have hend : ∀ (i n c : Nat) (s : ByteArray) (x : Int) (N : Nat) (s' : ByteArray) (x' : Int), varEnd i n c s x = (N, s', x') → x' ≠ 0 → N = 0 := by
    intro i n c s x N s' x' h hx
    unfold varEnd at h
    injection h with h1 h
    injection h with _ h3
    rw [h3, if_neg hx] at h1
    exact h1.symm
  induction k with
  | zero => intro i n s x N s' x' h hx; exact hend _ _ _ _ _ _ _ _ h hx
  | succ k ih =>
    intro i n s x N s' x' h hx
    rw [varT] at h
    split at h
    · exact ih _ _ _ _ _ _ _ h hx
    · exact hend _ _ _ _ _ _ _ _ h hx

#print axioms varT_one
end Go.Proofs.YtehnpnlbfcajaaaDoor

namespace Go.Proofs.YtehnpnlbfcajaaaDoor
open Go.RowKit

theorem numL_one (c : UInt8) : numL [c] = c.toNat := by simp [numL]
theorem ofNat_toNat (n : Int) (h0 : 0 ≤ n) (h1 : n < 256) : ((UInt8.ofNat n.toNat).toNat : Int) = n := by
  rw [UInt8.toNat_ofNat', Nat.mod_eq_of_lt (by omega)]; omega
theorem numL_two (n : Int) (_h0 : 0 ≤ n) : (numL (two n) : Int) = n % 65536 := by
  have a := ofNat_toNat (n / 256 % 256) (by omega) (by omega)
  have b := ofNat_toNat (n % 256) (by omega) (by omega)
  unfold numL two
  simp only [List.foldl_cons, List.foldl_nil]
  omega
theorem numL_four (n : Int) (_h0 : 0 ≤ n) (_h1 : n < 4294967296) : (numL (two (n / 65536) ++ two n) : Int) = n := by
  have a := ofNat_toNat (n / 65536 / 256 % 256) (by omega) (by omega)
  have b := ofNat_toNat (n / 65536 % 256) (by omega) (by omega)
  have c := ofNat_toNat (n / 256 % 256) (by omega) (by omega)
  have d := ofNat_toNat (n % 256) (by omega) (by omega)
  unfold numL two
  simp only [List.foldl_cons, List.foldl_nil, List.cons_append, List.nil_append]
  omega
theorem two_len (n : Int) : (two n).length = 2 := rfl

theorem rawT_app (a b : List UInt8) (n : Int) (h : n = a.length) : rawT (str (a ++ b)) 0 n = (str a, str b, 0) := by
  subst h
  rw [rawT_list (a ++ b) a.length (by simp), List.take_left, List.drop_left]

/-- What is put as a variable byte integer is taken again. -/
theorem varT_back : ∀ (k i n m : Nat) (l : List UInt8), m < 128 ^ (k + 1) → (0 < i → m ≠ 0) → varT k i n (str (varb k m ++ l)) 0 = (n + m * 128 ^ i, str l, 0) := by
  have hend : ∀ (k i n m : Nat) (l : List UInt8), m < 128 → (0 < i → m ≠ 0) → varT k i n (str ([UInt8.ofNat m] ++ l)) 0 = (n + m * 128 ^ i, str l, 0) := by
    intro k i n m l hm h0
    have hr := rawT_app [UInt8.ofNat m] l 1 (by simp)
    have hn : numL (str [UInt8.ofNat m]).data.toList = m := by rw [str_data, numL_one, UInt8.toNat_ofNat', Nat.mod_eq_of_lt (by omega)]
    rw [varT_ok hr (by rw [hn]; omega), hn, if_pos rfl, Nat.mod_eq_of_lt (by omega)]
  intro k
  induction k with
  | zero =>
    intro i n m l hm h0
    simp at hm
    rw [varb_small 0 m hm]
    exact hend 0 i n m l hm h0
  | succ k ih =>
    intro i n m l hm h0
    by_cases hs : m < 128
    · rw [varb_small _ m hs]
      exact hend _ i n m l hs h0
    · rw [varb_step k m hs]
      have hr := rawT_app [UInt8.ofNat (m % 128 + 128)] (varb k (m / 128) ++ l) 1 (by simp)
      have hn : numL (str [UInt8.ofNat (m % 128 + 128)]).data.toList = m % 128 + 128 := by rw [str_data, numL_one, UInt8.toNat_ofNat', Nat.mod_eq_of_lt (by omega)]
      have e : UInt8.ofNat (m % 128 + 128) :: varb k (m / 128) ++ l = [UInt8.ofNat (m % 128 + 128)] ++ (varb k (m / 128) ++ l) := rfl
      rw [e, varT_go hr (by rw [hn]; omega), hn, ih (i + 1) _ (m / 128) l (Nat.div_lt_of_lt_mul (by rw [Nat.mul_comm]; rwa [Nat.pow_succ] at hm)) (by omega)]
      have e2 : n + (m % 128 + 128) % 128 * 128 ^ i + m / 128 * 128 ^ (i + 1) = n + m * 128 ^ i := by
        rw [Nat.add_mod_right, Nat.mod_mod, Nat.pow_succ, Nat.add_assoc, Nat.mul_comm (128 ^ i) 128, ← Nat.mul_assoc, ← Nat.add_mul, show m % 128 + m / 128 * 128 = m by omega]
      rw [e2]

theorem and_low (b : Int) (h0 : 0 ≤ b) (h1 : b < 4294967296) : bits .and .u32 b 65535 = b % 65536 := by
  obtain ⟨n, rfl⟩ := Int.eq_ofNat_of_zero_le h0
  have h := u32_and_nat n 65535 (by omega) (by omega)
  have e : n &&& 65535 = n % 65536 := Nat.and_two_pow_sub_one_eq_mod n 16
  rw [e] at h
  exact h.trans (by omega)

theorem rawT_none {s t s' : ByteArray} {x n x' : Int} (h : rawT s x n = (t, s', x')) (hx : x' ≠ 0) : t = ⟨#[]⟩ := by
  unfold rawT at h
  split at h
  · injection h with h1 _; exact h1.symm
  · split at h
    · injection h with h1 _; exact h1.symm
    · split at h
      · injection h with h1 _; exact h1.symm
      · injection h with _ h
        injection h with _ h
        exact absurd h.symm hx

theorem varT_stop {k i m : Nat} {s1 t s2 : ByteArray} {x1 x2 : Int} (hr : rawT s1 x1 1 = (t, s2, x2)) (hx : x2 ≠ 0) : varT k i m s1 x1 = (0, s2, x2) := by
  have ht := rawT_none hr hx
  have hn : numL t.data.toList = 0 := by rw [ht]; rfl
  by_cases hi : 0 < i
  · rw [varT_bad hr (.inr (by omega)) (.inr ⟨hn, hi⟩), failed, if_neg hx]
  · rw [varT_ok hr (by omega), if_neg hx]

#print axioms varT_back
end Go.Proofs.YtehnpnlbfcajaaaDoor

namespace Go.Proofs.YtehnpnlbfcajaaaDoor
open Go.RowKit Go.ChangeShapes Go.WideShapes Go.Deep

set_option maxRecDepth 100000 in
/-- A slice of structs, each field one cell, that came in: each element's cells, each with its reading. -/
theorem open_cells {H : Type} {enc : TypeId × Value → H} {W : World} {t e : TypeId} {fs : Array Field} {v : Value} {d : DataW H} {p : List MemPlace} (ht : Tryd.prog.underlying t = some (.slice e)) (he : Tryd.prog.underlying e = some (.struct fs))
    (hone : oneCellFields Tryd.prog fs = true) (hC : Tryd.prog.cellsOf e = fs.size) {base : Nat} (hv : Value.okWide Tryd.prog W .any base t v) (h : DataW.Trod enc Tryd.prog W 0 (fun _ => true) true t v d p) :
    ∃ A len cap, v = .slice A len cap ∧ len ≤ cap ∧ cap ≤ maxLen ∧ ∀ i, i < len → ∃ ad, A = some ad ∧ ∀ (j : Nat) (f : Field), fs[j]? = some f →
      ∃ u n y, W.cell? (ad.add (i * fs.size + j)) = some u ∧ DataW.trod enc Tryd.prog W 0 (fun _ => true) true n f.type [u] = some y := by
  obtain ⟨A, len, cap, rfl⟩ := okWide_slice ht hv
  obtain ⟨fuel, hf⟩ := h
  rcases open_slice ht hf with ⟨hcs, _⟩ | ⟨ad, l, c, m, n, D, Pl, hcs, _, hl, hm, hmm, _, hall⟩
  · simp [Value.cells] at hcs
    obtain ⟨rfl, rfl, rfl⟩ := hcs
    exact ⟨none, 0, 0, rfl, Nat.le_refl _, Nat.zero_le _, fun i hi => absurd hi (Nat.not_lt_zero _)⟩
  · simp [Value.cells] at hcs
    obtain ⟨rfl, rfl, rfl⟩ := hcs
    simp only [if_true] at hmm
    refine ⟨some ad, len, cap, rfl, hl, hm, fun i hi => ⟨ad, rfl, fun j f hj => ?_⟩⟩
    obtain ⟨cs, hc, htr⟩ := hall i (by omega)
    rw [hC] at hc
    obtain ⟨xs, k, _, _, _, hxl, hfields⟩ := DataW.trod_struct he htr
    obtain ⟨_, hlen, hat⟩ := World.cells?_some hc
    obtain ⟨hoff, hone1⟩ := hone_of hone j f hj
    have hjs : j < fs.size := (Array.getElem?_eq_some_iff.1 hj).1
    have h1 := hfields j f hj
    rw [hoff, hone1] at h1
    obtain ⟨u, hu⟩ : ∃ u, cs[j]? = some u := ⟨_, List.getElem?_eq_getElem (show j < cs.length by omega)⟩
    have e1 : (cs.drop j).take 1 = [u] := by
      rw [List.drop_eq_getElem_cons (show j < cs.length by omega), List.take_succ_cons, List.take_zero, (List.getElem?_eq_some_iff.1 hu).2]
    rw [e1] at h1
    exact ⟨u, k, _, by rw [← add_add, hat j hjs, hu], h1.trans (List.getElem?_eq_getElem (show j < xs.length by omega))⟩

/-- A list of things that came in: kind, number, text. -/
def Things (W : World) (v : Value) (T : List (Int × Int × ByteArray)) : Prop :=
  ∃ A cap, v = .slice A T.length cap ∧ T.length ≤ maxLen ∧ ∀ (i : Nat) (x : Int × Int × ByteArray), T[i]? = some x →
    ∃ b off, A = some ⟨b, off, none⟩ ∧ b < W.heap.size ∧ W.cell? ⟨b, off + i * 3, none⟩ = some (.int .i64 x.1) ∧ W.cell? ⟨b, off + i * 3 + 1, none⟩ = some (.int .u32 x.2.1) ∧ W.cell? ⟨b, off + i * 3 + 2, none⟩ = some (.string x.2.2) ∧
      0 ≤ x.2.1 ∧ x.2.1 < 4294967296 ∧ x.2.2.size ≤ maxLen

end Go.Proofs.YtehnpnlbfcajaaaDoor

namespace Go.Proofs.YtehnpnlbfcajaaaDoor
open Go.RowKit

theorem conv1 (w : World) (x : Int) : (convert 40 9 (.slice (some ⟨w.heap.size, 0, none⟩) 1 1)).run Tryd.prog (w.alloc (.cells #[.int .u8 x] 5)) = .ok (.string (str [UInt8.ofNat x.toNat])) (w.alloc (.cells #[.int .u8 x] 5)) := by
  rw [run_convert_bytes_arg _ 40 5 Tryd.underlying40 Tryd.underlying5 w.heap.size 0 1 1 [x] rfl ?_ 9 Tryd.underlying9]
  · rfl
  · intro i hi
    obtain rfl : i = 0 := by omega
    simp
theorem conv2 (w : World) (x y : Int) : (convert 40 9 (.slice (some ⟨w.heap.size, 0, none⟩) 2 2)).run Tryd.prog (w.alloc (.cells #[.int .u8 x, .int .u8 y] 5)) = .ok (.string (str [UInt8.ofNat x.toNat, UInt8.ofNat y.toNat])) (w.alloc (.cells #[.int .u8 x, .int .u8 y] 5)) := by
  rw [run_convert_bytes_arg _ 40 5 Tryd.underlying40 Tryd.underlying5 w.heap.size 0 2 2 [x, y] rfl ?_ 9 Tryd.underlying9]
  · rfl
  · intro i hi
    obtain rfl | rfl : i = 0 ∨ i = 1 := by omega
    · simp
    · simp

/-- What holds behind i rounds of the document's Var. -/
def VarAt (N : Nat) (pre : List UInt8) (i m : Nat) : Prop := varb 3 N = pre ++ varb (3 - i) m ∧ m < 128 ^ (4 - i) ∧ pre.length = i

theorem VarAt.step {N : Nat} {pre : List UInt8} {i m : Nat} (h : VarAt N pre i m) (hi : i < 3) (hm : ¬ m < 128) : VarAt N (pre ++ [UInt8.ofNat (m % 128 + 128)]) (i + 1) (m / 128) := by
  obtain ⟨h1, h2, h3⟩ := h
  refine ⟨?_, ?_, by simp [h3]⟩
  · rw [h1, show 3 - i = (3 - (i + 1)) + 1 by omega, varb_step _ m hm, List.append_assoc]; rfl
  · rw [show 4 - i = (4 - (i + 1)) + 1 by omega, Nat.pow_succ] at h2
    exact Nat.div_lt_of_lt_mul (by rw [Nat.mul_comm]; exact h2)
theorem VarAt.last {N : Nat} {pre : List UInt8} {i m : Nat} (h : VarAt N pre i m) (hi : i ≤ 3) (hm : ¬ (i < 3 ∧ ¬ m < 128)) : m < 128 ∧ varb 3 N = pre ++ [UInt8.ofNat m] := by
  obtain ⟨h1, h2, h3⟩ := h
  have hlt : m < 128 := by
    by_cases h : i < 3
    · omega
    · obtain rfl : i = 3 := by omega
      simpa using h2
  exact ⟨hlt, by rw [h1, varb_small _ m hlt]⟩

end Go.Proofs.YtehnpnlbfcajaaaDoor

namespace Go.Proofs.YtehnpnlbfcajaaaDoor
open Go.RowKit

/-- The bytes of a thing. -/
def putB (k n : Int) (s : ByteArray) : List UInt8 :=
  if k = 1 then [UInt8.ofNat (n % 256).toNat] else if k = 2 then two n else if k = 3 then two (n / 65536) ++ two n else if k = 4 then varb 3 (min n.toNat 268435455)
  else if k = 5 then s.data.toList.take 50 else if k = 6 then two (s.data.toList.take 50).length ++ s.data.toList.take 50 else []

theorem putB_len (k n : Int) (s : ByteArray) : (putB k n s).length ≤ 52 := by
  have hv := varb_len 3 (min n.toNat 268435455)
  unfold putB
  repeat' split
  all_goals first | omega | (simp only [List.length_cons, List.length_nil, List.length_append, two_len, List.length_take]; omega) | simp

theorem min_clamp (n : Int) (h0 : 0 ≤ n) (h1 : n < 4294967296) : n = (min n.toNat 268435455 : Nat) ∨ (min n.toNat 268435455 = 268435455 ∧ 268435455 < n ∧ n < 4294967296) := by omega

end Go.Proofs.YtehnpnlbfcajaaaDoor

namespace Go.Proofs.YtehnpnlbfcajaaaDoor
open Go.RowKit

/-- A cursor as a value. -/
abbrev cur (s : ByteArray) (x : Int) : Value := .agg #[.string s, .int .i64 x]

theorem pair_cells {w : World} {b : Nat} {u v : Value} {t : TypeId} (h : w.heap[b]? = some (.cells #[u, v] t (0, 0))) : w.cell? ⟨b, 0, none⟩ = some u ∧ w.cell? ⟨b, 1, none⟩ = some v ∧ w.frozen? ⟨b, 0, none⟩ = false ∧ w.frozen? ⟨b, 1, none⟩ = false := by
  refine ⟨?_, ?_, ?_, ?_⟩
  · simp [World.cell?, h]
  · simp [World.cell?, h]
  · simp [World.frozen?, h]
  · simp [World.frozen?, h]

end Go.Proofs.YtehnpnlbfcajaaaDoor
