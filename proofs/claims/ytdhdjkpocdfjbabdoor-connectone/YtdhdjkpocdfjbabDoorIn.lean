/-
  The calls of octet.In: what each takes. (No statement: contracts that the proofs of the statements use.)
-/
import Derived.Test.YtdhdjkpocdfjbabDoorOut
namespace Go.Proofs.YtdhdjkpocdfjbabDoor
open Go.RowKit

/-- Block p holds an In that has s left, and the error e. -/
def InAt (w : World) (p : Nat) (s : ByteArray) (e : Int) : Prop := w.heap[p]? = some (.cells #[.string s, .int .i64 e] 103 (0, 0))

/-- Block p alone has turned. -/
structure Only (p : Nat) (w w' : World) : Prop where
  os : w'.os = w.os
  tape : w'.tape = w.tape
  output : w'.output = w.output
  size : w'.heap.size = w.heap.size
  block : ∀ k, k ≠ p → w'.heap[k]? = w.heap[k]?

theorem Only.refl (p : Nat) (w : World) : Only p w w := ⟨rfl, rfl, rfl, rfl, fun _ _ => rfl⟩
theorem Only.trans {p : Nat} {w1 w2 w3 : World} (h : Only p w1 w2) (k : Only p w2 w3) : Only p w1 w3 :=
  ⟨k.os.trans h.os, k.tape.trans h.tape, k.output.trans h.output, k.size.trans h.size, fun i hi => (k.block i hi).trans (h.block i hi)⟩
theorem Only.set {p : Nat} {w w' : World} (h : Only p w w') (j : Nat) (u : Value) : Only p w (w'.setCell ⟨p, j, none⟩ u) :=
  ⟨h.os, h.tape, h.output, by simpa [World.setCell] using h.size, fun k hk => (Below.heap_setCell w' ⟨p, j, none⟩ u k hk).trans (h.block k hk)⟩
theorem Only.below {p B : Nat} {w w' : World} (h : Only p w w') (hB : B ≤ p) : Below B w w' :=
  ⟨h.os, h.tape, h.output, Nat.le_of_eq h.size.symm, fun k hk => h.block k (by omega)⟩
theorem Only.out {p : Nat} {w w' : World} (h : Only p w w') {o : Nat} {r : Option Nat} {bs : List UInt8} (ho : OutAt w o r bs) (h1 : o ≠ p) (h2 : r ≠ some p) : OutAt w' o r bs :=
  ho.keep (h.block o h1) (fun g hg => h.block g (fun e => h2 (by rw [hg, e])))

section
variable {w : World} {p : Nat} {s : ByteArray} {e : Int}
theorem InAt.lt (h : InAt w p s e) : p < w.heap.size := lt_of_block h
theorem InAt.cell0 (h : InAt w p s e) : w.cell? ⟨p, 0, none⟩ = some (.string s) := by unfold InAt at h; simp [World.cell?, h]
theorem InAt.cell1 (h : InAt w p s e) : w.cell? ⟨p, 1, none⟩ = some (.int .i64 e) := by unfold InAt at h; simp [World.cell?, h]
theorem InAt.free (h : InAt w p s e) (j : Nat) : w.frozen? ⟨p, j, none⟩ = false := by unfold InAt at h; simp [World.frozen?, h]
theorem InAt.set0 (h : InAt w p s e) (s' : ByteArray) : InAt (w.setCell ⟨p, 0, none⟩ (.string s')) p s' e := by
  unfold InAt at h ⊢
  simp [World.setCell, Array.getElem?_modify, h]
theorem InAt.set1 (h : InAt w p s e) (e' : Int) : InAt (w.setCell ⟨p, 1, none⟩ (.int .i64 e')) p s e' := by
  unfold InAt at h ⊢
  simp [World.setCell, Array.getElem?_modify, h]
theorem InAt.keep {w' : World} (h : InAt w p s e) (hk : w'.heap[p]? = w.heap[p]?) : InAt w' p s e := hk.trans h
end

theorem InAt.below {w w' : World} {p : Nat} {s : ByteArray} {x : Int} (h : InAt w p s x) (hb : Below w.heap.size w w') : InAt w' p s x := h.keep (hb.block p h.lt)

/-- Over: a new In. -/
theorem over_calls (w : World) (s : ByteArray) :
    Calls Tryd.prog 25 #[.string s] w fun e w' => e = .returned (.pointer (some ⟨w.heap.size, 0, none⟩)) ∧ w' = w.alloc (.cells #[.string s, .int .i64 0] 103) := by
  go_enter Tryd.func25, Tryd.ntmps25
  go_wp2
  go_ret
  exact ⟨rfl, rfl⟩

theorem InAt.new (w : World) (s : ByteArray) : InAt (w.alloc (.cells #[.string s, .int .i64 0] 103)) w.heap.size s 0 := heap_alloc_new w _

theorem err_calls (w : World) (p : Nat) (s : ByteArray) (x : Int) (h : InAt w p s x) :
    Calls Tryd.prog 61 #[.pointer (some ⟨p, 0, none⟩)] w fun e w' => e = .returned (.int .i64 x) ∧ w = w' := by
  have h1 := h.cell1
  clear h
  go_enter Tryd.func61, Tryd.ntmps61
  go_wp2
  go_ret
  exact ⟨rfl, rfl⟩

theorem left_calls (w : World) (p : Nat) (s : ByteArray) (x : Int) (h : InAt w p s x) :
    Calls Tryd.prog 81 #[.pointer (some ⟨p, 0, none⟩)] w fun e w' => e = .returned (.int .i64 s.size) ∧ w = w' := by
  have h1 := h.cell0
  clear h
  go_enter Tryd.func81, Tryd.ntmps81
  go_wp2
  go_ret
  exact ⟨rfl, rfl⟩

/-- The error behind Fail. -/
def failed (x f : Int) : Int := if x = 0 then f else x

theorem fail_calls (w : World) (p : Nat) (s : ByteArray) (x f : Int) (h : InAt w p s x) :
    Calls Tryd.prog 40 #[.pointer (some ⟨p, 0, none⟩), .int .i64 f] w fun e w' => e = .returned (.tuple #[]) ∧ InAt w' p s (failed x f) ∧ Only p w w' := by
  have h1 := h.cell1
  have h2 := h.free 1
  have H := Lib.hid h
  clear h
  unfold failed
  by_cases hx : x = 0
  · subst hx
    go_enter Tryd.func40, Tryd.ntmps40
    go_wp2
    go_end0
    exact ⟨rfl, H.out.set1 f, (Only.refl p w).set 1 _⟩
  · have hb : (x == 0) = false := by simp [hx]
    rw [if_neg hx]
    go_enter Tryd.func40, Tryd.ntmps40
    go_wp2
    go_end0
    exact ⟨rfl, H.out, Only.refl p w⟩

/-- What Raw takes of s with error x: the bytes, what is left, the error. -/
def rawT (s : ByteArray) (x n : Int) : ByteArray × ByteArray × Int :=
  if x ≠ 0 then (⟨#[]⟩, s, x) else if (s.size : Int) < n then (⟨#[]⟩, s, 1) else if n ≤ 0 then (⟨#[]⟩, s, 0) else (s.extract 0 n.toNat, s.extract n.toNat s.size, 0)

/-- An In that a call has taken t of. -/
def Took (w : World) (p : Nat) (s : ByteArray) (x : Int) (w' : World) : Prop := InAt w' p s x ∧ Only p w w'

theorem rawIn_calls (w : World) (p : Nat) (s : ByteArray) (x n : Int) (h : InAt w p s x) :
    Calls Tryd.prog 59 #[.pointer (some ⟨p, 0, none⟩), .int .i64 n] w fun e w' => e = .returned (.string (rawT s x n).1) ∧ Took w p (rawT s x n).2.1 (rawT s x n).2.2 w' := by
  have h0 := h.cell0
  have h1 := h.cell1
  have f0 := h.free 0
  have f1 := h.free 1
  by_cases hx : x = 0
  · subst hx
    by_cases hg : (s.size : Int) < n
    · have e : rawT s 0 n = (⟨#[]⟩, s, 1) := by simp [rawT, hg]
      rw [e]
      go_enter Tryd.func59, Tryd.ntmps59
      go_wp2_with fail
      refine (fail_calls _ p s 0 1 h).mono ?_
      rintro e w1 ⟨rfl, hi, ho⟩
      have c0 := hi.cell0
      have c1 := hi.cell1
      have HI := Lib.hid (show Took w p s 1 w1 from ⟨hi, ho⟩)
      clear hi ho h h0 h1 f0 f1
      have c1' : w1.cell? ⟨p, 1, none⟩ = some (.int .i64 1) := c1
      clear c1
      go_wp2
      go_ret
      exact ⟨rfl, HI.out⟩
    · by_cases hz : n ≤ 0
      · have e : rawT s 0 n = (⟨#[]⟩, s, 0) := by simp [rawT, hg, hz]
        rw [e]
        have HI := Lib.hid (show Took w p s 0 w from ⟨h, Only.refl _ _⟩)
        clear h
        go_enter Tryd.func59, Tryd.ntmps59
        go_wp2
        go_ret
        exact ⟨rfl, HI.out⟩
      · obtain ⟨k, rfl⟩ := Int.eq_ofNat_of_zero_le (show 0 ≤ n by omega)
        have e : rawT s 0 k = (s.extract 0 k, s.extract k s.size, 0) := by simp [rawT, hg, show ¬ (k = 0) by omega]
        rw [e]
        have HI := Lib.hid (show Took w p (s.extract k s.size) 0 (w.setCell ⟨p, 0, none⟩ (.string (s.extract k s.size))) from ⟨h.set0 _, (Only.refl _ _).set 0 _⟩)
        clear h
        go_enter Tryd.func59, Tryd.ntmps59
        go_wp2
        go_ret
        exact ⟨rfl, HI.out⟩
  · have hb : (x == 0) = false := by simp [hx]
    have hb' : (x != 0) = true := by simp [hx]
    have e : rawT s x n = (⟨#[]⟩, s, x) := by simp [rawT, hx]
    rw [e]
    by_cases hg : (s.size : Int) < n
    · go_enter Tryd.func59, Tryd.ntmps59
      go_wp2_with fail
      refine (fail_calls _ p s x 1 h).mono ?_
      rintro e w1 ⟨rfl, hi, ho⟩
      rw [failed, if_neg hx] at hi
      have c1 := hi.cell1
      have HI := Lib.hid (show Took w p s x w1 from ⟨hi, ho⟩)
      clear hi ho h h0 h1 f0 f1
      go_wp2
      go_ret
      exact ⟨rfl, HI.out⟩
    · have HI := Lib.hid (show Took w p s x w from ⟨h, Only.refl _ _⟩)
      clear h
      go_enter Tryd.func59, Tryd.ntmps59
      go_wp2
      go_ret
      exact ⟨rfl, HI.out⟩

/-- A number, its highest byte first. -/
def numL (l : List UInt8) : Nat := l.foldl (fun v c => v * 256 + c.toNat) 0
theorem numL_snoc (l : List UInt8) (c : UInt8) : numL (l ++ [c]) = numL l * 256 + c.toNat := by simp [numL]
theorem numL_lt_acc (l : List UInt8) : ∀ a : Nat, l.foldl (fun v c => v * 256 + c.toNat) a < (a + 1) * 256 ^ l.length := by
  induction l with
  | nil => intro a; simp
  | cons c l ih =>
    intro a
    have hc := c.toNat_lt
    refine Nat.lt_of_lt_of_le (ih _) ?_
    rw [List.length_cons, Nat.pow_succ, Nat.mul_comm (256 ^ l.length) 256, ← Nat.mul_assoc]
    exact Nat.mul_le_mul_right _ (show a * 256 + c.toNat + 1 ≤ (a + 1) * 256 by omega)
theorem numL_lt (l : List UInt8) : numL l < 256 ^ l.length := by have h := numL_lt_acc l 0; simp only [Nat.zero_add, Nat.one_mul] at h; exact h
theorem numL_lt3 (l : List UInt8) (h : l.length ≤ 3) : numL l < 16777216 := Nat.lt_of_lt_of_le (numL_lt l) (Nat.le_trans (Nat.pow_le_pow_right (by omega) h) (by omega))
theorem numL_lt4 (l : List UInt8) (h : l.length ≤ 4) : numL l < 4294967296 := Nat.lt_of_lt_of_le (numL_lt l) (Nat.le_trans (Nat.pow_le_pow_right (by omega) h) (by omega))

theorem rawT_size (s : ByteArray) (x n : Int) : ((rawT s x n).1.size : Int) ≤ max n 0 := by
  have e : (⟨#[]⟩ : ByteArray).size = 0 := rfl
  unfold rawT
  split
  · show ((⟨#[]⟩ : ByteArray).size : Int) ≤ _; rw [e]; omega
  · split
    · show ((⟨#[]⟩ : ByteArray).size : Int) ≤ _; rw [e]; omega
    · split
      · show ((⟨#[]⟩ : ByteArray).size : Int) ≤ _; rw [e]; omega
      · simp; omega

theorem take_snoc (s : ByteArray) (k : Nat) (h : k < s.size) : s.data.toList.take (k + 1) = s.data.toList.take k ++ [s[k]] := by
  rw [List.take_succ_eq_append_getElem (by simpa using h)]; rfl

theorem or_byte (a c : Nat) (ha : a < 16777216) (hc : c < 256) : bits .or .u32 ((a : Int) * 256) (c : Int) = (a : Int) * 256 + c := by
  have e : ((a : Int) * 256) = ((a * 256 : Nat) : Int) := by omega
  rw [e, u32_or_nat _ _ (by omega) (by omega)]
  have h := Nat.two_pow_add_eq_or_of_lt (i := 8) (b := c) (by omega) a
  have e2 : a * 256 ||| c = a * 256 + c := by rw [show a * 256 = 2 ^ 8 * a by omega]; exact h.symm
  rw [e2]
  omega

theorem number_calls (w : World) (p : Nat) (s : ByteArray) (x n : Int) (t s' : ByteArray) (x' : Int) (hr : rawT s x n = (t, s', x')) (h : InAt w p s x) (hn : n ≤ 4) :
    Calls Tryd.prog 58 #[.pointer (some ⟨p, 0, none⟩), .int .i64 n] w fun e w' => e = .returned (.int .u32 (numL t.data.toList)) ∧ Took w p s' x' w' := by
  have hsz : t.size ≤ 4 := by have := rawT_size s x n; rw [hr] at this; dsimp only at this; omega
  have HR := Lib.hid hr
  clear hr
  go_enter Tryd.func58, Tryd.ntmps58
  go_wp2_with fail
  refine (rawIn_calls _ p s x _ h).mono ?_
  rw [HR.out]
  rintro e w1 ⟨rfl, ht⟩
  have HT := Lib.hid ht
  clear ht h
  go_wp2
  go_loop [5, 13] (fun v i => ∃ k : Nat, k ≤ t.size ∧ i = .int .i64 k ∧ v = .int .u32 (numL (t.data.toList.take k))) (fun _ i => t.size - (intOf i).toNat)
  case atStart => exact ⟨0, Nat.zero_le _, rfl, rfl⟩
  case round =>
    obtain ⟨k, hk, rfl, rfl⟩ := hrel
    by_cases hlt : k < t.size
    · have hts := numL_snoc (t.data.toList.take k) t[k]
      rw [← take_snoc t k hlt] at hts
      have HS := Lib.hid hts
      clear hts
      have hb := numL_lt3 (t.data.toList.take k) (by simp; omega)
      have hc := t[k].toNat_lt
      have hor := or_byte (numL (t.data.toList.take k)) t[k].toNat hb (by omega)
      generalize numL (t.data.toList.take k) = v at *
      go_wp2
      go_round
      case rel => exact ⟨k + 1, by omega, by go_num, by rw [HS.out]; go_num⟩
      case measure => simp [intOf]; omega
    · have e : t.data.toList.take k = t.data.toList := List.take_of_length_le (by simp; omega)
      rw [e]
      go_wp2
      go_ret
      exact ⟨rfl, HT.out⟩

#print axioms rawIn_calls
end Go.Proofs.YtdhdjkpocdfjbabDoor
