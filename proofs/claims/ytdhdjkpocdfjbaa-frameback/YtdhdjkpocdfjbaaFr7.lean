/-
  Packets that are made, and read. (No statement: what the proofs of the statements use.)
-/
import Derived.Test.YtdhdjkpocdfjbaaFr6
import Derived.Laws.MakeOwn
namespace Go.Proofs.Ytdhdjkpocdfjbaa
open Go.RowKit

section
variable {k f n : Nat} {most : Int} {rest : List UInt8}
theorem byte_kf (hk : k ≤ 15) (hf : f ≤ 15) : (UInt8.ofNat (k * 16 + f)).toNat = k * 16 + f := by rw [UInt8.toNat_ofNat']; omega
theorem chk_kf (hk : k ≤ 15) (hf : f ≤ 15) (hc : chkB k f = true) : chkB (((UInt8.ofNat (k * 16 + f)).toNat / 16 : Nat) : Int) (((UInt8.ofNat (k * 16 + f)).toNat % 16 : Nat) : Int) = true := by
  rw [byte_kf hk hf, show (k * 16 + f) / 16 = k by omega, show (k * 16 + f) % 16 = f by omega]
  exact hc
theorem make_var (hn : n ≤ 268435455) : varT 3 0 0 (str (varb 3 n ++ rest)) 0 = (n, str rest, 0) := by
  have := varT_back 3 0 0 n rest (by omega) (fun h => absurd h (by omega))
  simpa using this
theorem make_big (hk : k ≤ 15) (hf : f ≤ 15) (hc : chkB k f = true) (hn : n ≤ 268435455) (hm : most < ((1 + (varb 3 n).length + n : Nat) : Int)) : nextF most (UInt8.ofNat (k * 16 + f) :: (varb 3 n ++ rest)) = ((0, 0, []), 4) :=
  next_big (chk_kf hk hf hc) (make_var hn) hm
theorem make_cut (hk : k ≤ 15) (hf : f ≤ 15) (hc : chkB k f = true) (hn : n ≤ 268435455) (hm : ¬ most < ((1 + (varb 3 n).length + n : Nat) : Int)) (hl : rest.length < n) : nextF most (UInt8.ofNat (k * 16 + f) :: (varb 3 n ++ rest)) = ((0, 0, []), 1) :=
  next_cut (chk_kf hk hf hc) (make_var hn) hm (by simp; omega)
theorem make_ok (hk : k ≤ 15) (hf : f ≤ 15) (hc : chkB k f = true) (hn : n ≤ 268435455) (hm : ¬ most < ((1 + (varb 3 n).length + n : Nat) : Int)) (hl : ¬ rest.length < n) : nextF most (UInt8.ofNat (k * 16 + f) :: (varb 3 n ++ rest)) = ((k, f, rest.take n), 0) := by
  rw [next_ok (chk_kf hk hf hc) (make_var hn) hm (by simp; omega), byte_kf hk hf, show (k * 16 + f) / 16 = k by omega, show (k * 16 + f) % 16 = f by omega, List.drop_left]
end

theorem frame_len (k f : Nat) (b : List UInt8) : (frameL k f b).length = 1 + (varb 3 b.length).length + b.length := by simp [frameL]; omega
theorem frame_cons (k f : Nat) (b rest : List UInt8) : frameL k f b ++ rest = UInt8.ofNat (k * 16 + f) :: (varb 3 b.length ++ (b ++ rest)) := by simp [frameL]
/-- A packet, and what is behind it. -/
theorem frame_next (k f : Nat) (hk : k ≤ 15) (hf : f ≤ 15) (hc : chkB k f = true) (b rest : List UInt8) (hb : b.length ≤ 268435455) (most : Int) (hm : ((frameL k f b).length : Int) ≤ most) :
    nextF most (frameL k f b ++ rest) = ((k, f, b), 0) ∧ leftR (k, f, b) 0 (frameL k f b ++ rest) = rest := by
  rw [frame_len] at hm
  refine ⟨?_, ?_⟩
  · rw [frame_cons, make_ok hk hf hc hb (by omega) (by simp), List.take_left]
  · unfold leftR
    rw [if_pos rfl]
    dsimp only
    rw [← frame_len k f b, List.drop_left]

theorem zeros_at (n i : Nat) (hi : i < n) : (madeCells (Value.int .u8 0).cells n)[i]? = some (.int .u8 0) := by
  have hs : (madeCells (Value.int .u8 0).cells n).size = n := size_madeCells _ _
  rw [Array.getElem?_eq_getElem (by omega)]
  congr 1
  simp only [madeCells, Array.getElem_map, Array.getElem_range]
  have : (Value.int IntKind.u8 0).cells = #[Value.int IntKind.u8 0] := rfl
  rw [this]
  simp [Nat.mod_one]

/-- So many zeros, as a string. -/
theorem conv_zeros (w : World) (n : Nat) : (convert 50 9 (.slice (some ⟨w.heap.size, 0, none⟩) n n)).run Try.prog (w.alloc (.cells (madeCells (Value.int .u8 0).cells n) 5)) = .ok (.string (str (List.replicate n 0))) (w.alloc (.cells (madeCells (Value.int .u8 0).cells n) 5)) := by
  rw [run_convert_bytes_arg _ 50 5 Try.underlying50 Try.underlying5 w.heap.size 0 n n (List.replicate n 0) (by simp) ?_ 9 Try.underlying9]
  · congr 2
    simp [strOfNums, str]
  · intro i hi
    have hh : (w.alloc (.cells (madeCells (Value.int .u8 0).cells n) 5)).heap[w.heap.size]? = some (.cells (madeCells (Value.int .u8 0).cells n) 5 (0, 0)) := heap_alloc_new w _
    simp only [World.cell?, hh, Nat.zero_add]
    rw [zeros_at n i hi]
    simp [List.getD, hi]

theorem run_zeros (w : World) (n : Nat) (hn : n ≤ 20000) : (Instr.makeSlice 50 (.int .i64 n) (.int .i64 n)).run Try.prog w = .ok (.slice (some ⟨w.heap.size, 0, none⟩) n n) (w.alloc (.cells (madeCells (Value.int .u8 0).cells n) 5)) := by
  obtain ⟨i0, hi, hz0, hz1, hz2⟩ := info_parts Try.infoU8
  have := run_make w 50 5 i0 (.int .u8 0) Try.underlying50 hi hz0 .i64 .i64 n n (by omega) (by omega) (by rw [hz2]; omega) (by omega)
  rw [hz1, Nat.mul_one, Int.toNat_natCast] at this
  exact this

#print axioms run_zeros
end Go.Proofs.Ytdhdjkpocdfjbaa
