/-
  The document's variable byte integer, taken. (No statement: a contract that the proofs of the statements use.)
-/
import Derived.Test.YtdhdjkpocdfjbabDoorRef1b
namespace Go.Proofs.YtdhdjkpocdfjbabDoor
open Go.RowKit

/-- What holds behind i rounds: R is what is to be answered. -/
def VarR (R : Nat × ByteArray × Int) (i m : Nat) (s1 : ByteArray) (x1 : Int) : Prop :=
  (i ≤ 3 ∧ R = varT (3 - i) i m s1 x1 ∧ m < 128 ^ i) ∨ (i = 4 ∧ R = (0, s1, 2))

theorem cells_kept {w w1 : World} {b : Nat} {o : Obj} (h : Below w.heap.size w w1) (hb : w.heap[b]? = some o) : w1.heap[b]? = some o := (h.block b (lt_of_block hb)).trans hb
theorem pair_set {w : World} {b : Nat} {u v u' v' : Value} {t : TypeId} (h : w.heap[b]? = some (.cells #[u, v] t (0, 0))) : ((w.setCell ⟨b, 0, none⟩ u').setCell ⟨b, 1, none⟩ v').heap[b]? = some (.cells #[u', v'] t (0, 0)) := by
  simp [World.setCell, Array.getElem?_modify, h]
theorem far_set {w : World} {b c : Nat} {u' v' : Value} (hne : c ≠ b) : ((w.setCell ⟨b, 0, none⟩ u').setCell ⟨b, 1, none⟩ v').heap[c]? = w.heap[c]? := by
  rw [Below.heap_setCell _ _ _ _ hne, Below.heap_setCell _ _ _ _ hne]

set_option maxRecDepth 100000 in
set_option maxHeartbeats 4000000 in
theorem r1takevar_calls (w : World) (s : ByteArray) (x : Int) (n : Nat) (s' : ByteArray) (x' : Int) (hr : varT 3 0 0 s x = (n, s', x')) :
    Calls Tryd.prog 67 #[cur s x] w fun e w' => e = .returned (.tuple #[cur s' x', .int .u32 n]) ∧ Below w.heap.size w w' := by
  have HR := Lib.hid hr
  clear hr
  go_enter Tryd.func67, Tryd.ntmps67
  go_wp2
  go_loopw [4, 5, 6] (fun a b c wr => ∃ (i m : Nat) (s1 : ByteArray) (x1 : Int), a = .int .u32 m ∧ b = .int .u32 ((128 ^ i : Nat) : Int) ∧ c = .int .i64 i ∧ i ≤ 4 ∧ VarR (n, s', x') i m s1 x1 ∧
      wr.heap[w.heap.size]? = some (.cells #[.string s1, .int .i64 x1] 73 (0, 0)) ∧ wr.heap[w.heap.size + 1]? = some (.cells #[.string ⟨#[]⟩, .int .i64 0] 73 (0, 0)) ∧ Below w.heap.size w wr) (fun _ _ c _ => 4 - (intOf c).toNat)
  case atStart =>
    exact ⟨0, 0, s, x, rfl, rfl, rfl, by omega, .inl ⟨by omega, HR.out.symm, by decide⟩, by rw [Below.heap_alloc _ _ _ (by simp)]; exact heap_alloc_new w _, by have := heap_alloc_new (w.alloc (.cells #[.string s, .int .i64 x] 73)) (.cells #[.string ⟨#[]⟩, .int .i64 0] 73); simpa using this, below_two _ _ _⟩
  case round =>
    clear HR
    obtain ⟨i, m, s1, x1, rfl, rfl, rfl, hi, hv, k1, k2, hb⟩ := hrel
    have hz : w.heap.size + 1 < wr.heap.size := lt_of_block k2
    by_cases hi4 : i = 4
    · subst hi4
      have hR : (n, s', x') = (0, s1, 2) := by
        rcases hv with ⟨h, _⟩ | ⟨_, h⟩
        · omega
        · exact h
      injection hR with e1 e2
      injection e2 with e2 e3
      obtain ⟨c0, c1, f0, f1⟩ := pair_cells k1
      obtain ⟨d0, d1, g0, g1⟩ := pair_cells k2
      have HB := Lib.hid hb
      have E1 := Lib.hid e1
      have E2 := Lib.hid e2
      have E3 := Lib.hid e3
      clear hv k1 k2 hb e1 e2 e3
      go_wp2
      refine bodyPost_ret (v := .tuple #[cur s1 2, .int .u32 0]) (by simp [results, Tryd.results67, go_sem, d0, d1]) rfl ?_
      rw [E1.out, E2.out, E3.out]
      exact ⟨rfl, (HB.out.setCell (Nat.le_succ _) _).setCell (Nat.le_succ _) _⟩
    · obtain ⟨t, s2, x2, ht⟩ : ∃ t s2 x2, rawT s1 x1 1 = (t, s2, x2) := ⟨_, _, _, rfl⟩
      have hc := num_lt1 s1 x1 t s2 x2 ht
      have HT := Lib.hid ht
      have hv' : (n, s', x') = varT (3 - i) i m s1 x1 ∧ m < 128 ^ i := by
        rcases hv with ⟨_, h⟩ | ⟨h, _⟩
        · exact h
        · exact absurd h hi4
      have HV := Lib.hid hv'.1
      have HM := Lib.hid hv'.2
      clear ht hv hv'
      obtain ⟨c0, c1, f0, f1⟩ := pair_cells k1
      have hi3 : i ≤ 3 := by omega
      clear hi4 hi
      go_wp2_with fail
      refine (r1number_calls _ s1 x1 1 t s2 x2 HT.out (by omega)).mono ?_
      rintro e w3 ⟨rfl, hb3⟩
      have K1 := cells_kept hb3 k1
      have K2 := cells_kept hb3 k2
      have hb4 := hb.trans (hb3.mono hb.size)
      have hz3 : w.heap.size + 1 < w3.heap.size := lt_of_block K2
      have hz0 : w.heap.size < w3.heap.size := lt_of_block K1
      clear hb3 hb k1 k2 c0 c1 f0 f1 hz
      obtain ⟨c0, c1, f0, f1⟩ := pair_cells K1
      obtain ⟨d0, d1, g0, g1⟩ := pair_cells K2
      have HK1 := Lib.hid K1
      have HK2 := Lib.hid K2
      have HB := Lib.hid hb4
      clear K1 K2 hb4
      by_cases hx : x2 = 0
      · subst hx
        rcases (show i = 0 ∨ i = 1 ∨ i = 2 ∨ i = 3 by omega) with rfl | rfl | rfl | rfl
        · have hm : m < 1 := by simpa using HM.out
          clear HM hi3
          obtain rfl : m = 0 := by omega
          clear hm
          have P1 := pair_set (u' := .string s2) (v' := .int .i64 0) HK1.out
          have P2 := (far_set (w := w3) (b := w.heap.size) (c := w.heap.size + 1) (u' := .string s2) (v' := .int .i64 0) (by omega)).trans HK2.out
          have A1 := Lib.hid ((Below.heap_alloc _ (.cells #[.string s2, .int .i64 0] 73) _ (lt_of_block P1)).trans P1)
          have A2 := Lib.hid ((Below.heap_alloc _ (.cells #[.string s2, .int .i64 0] 73) _ (lt_of_block P2)).trans P2)
          have HP2 := Lib.hid P2
          have HZ : Hid (w.heap.size ≤ ((w3.setCell ⟨w.heap.size, 0, none⟩ (.string s2)).setCell ⟨w.heap.size, 1, none⟩ (.int .i64 0)).heap.size) := by unfold Hid; simp [World.setCell]; omega
          have HB1 := Lib.hid (((HB.out.setCell (p := ⟨w.heap.size, 0, none⟩) (Nat.le_refl _) (.string s2)).setCell (p := ⟨w.heap.size, 1, none⟩) (Nat.le_refl _) (.int .i64 0)))
          clear P1 P2 HB HK1 HK2
          by_cases h128 : 128 ≤ numL t.data.toList
          · have HE : Hid (VarR (n, s', x') 1 (0 + numL t.data.toList % 128 * 128 ^ 0) s2 0) := by
              refine .inl ⟨by omega, HV.out.trans (varT_go HT.out h128), ?_⟩
              have hlt := Nat.mod_lt (numL t.data.toList) (show 128 > 0 by omega)
              generalize numL t.data.toList % 128 = q at *
              simp; omega
            clear HV HT
            go_wp2
            go_roundw
            case rel => exact ⟨1, 0 + numL t.data.toList % 128 * 128 ^ 0, s2, 0, congrArg (Value.int .u32) (show (numL t.data.toList : Int) % 128 = ((0 + numL t.data.toList % 128 * 128 ^ 0 : Nat) : Int) by simp), rfl, rfl, by omega, HE.out, A1.out, A2.out, HB1.out.alloc HZ.out _⟩
            case measure => simp [intOf]
          · have hlt8 : numL t.data.toList < 128 := by omega
            clear h128
            by_cases h0 : numL t.data.toList = 0
            · have hbz : ((numL t.data.toList : Int) == 0) = true := by rw [h0]; rfl
              have hR := HV.out.trans (varT_ok HT.out (by omega))
              injection hR with e1 e2
              injection e2 with e2 e3
              rw [if_pos rfl] at e1
              have E1 := Lib.hid e1
              have E2 := Lib.hid e2
              have E3 := Lib.hid e3
              clear e1 e2 e3
              have P3 := pair_set (u' := .string s2) (v' := .int .i64 0) HP2.out
              obtain ⟨p0, p1, _, _⟩ := pair_cells ((Below.heap_alloc _ (.cells #[.string s2, .int .i64 0] 73) _ (lt_of_block P3)).trans P3)
              have Q0 := Lib.hid p0
              have Q1 := Lib.hid p1
              have HZ3 : Hid (w.heap.size ≤ ((((w3.setCell ⟨w.heap.size, 0, none⟩ (.string s2)).setCell ⟨w.heap.size, 1, none⟩ (.int .i64 0)).setCell ⟨w.heap.size + 1, 0, none⟩ (.string s2)).setCell ⟨w.heap.size + 1, 1, none⟩ (.int .i64 0)).heap.size) := by unfold Hid; simp [World.setCell]; omega
              clear P3 p0 p1 HV HT A1 A2 HP2 HZ
              generalize numL t.data.toList = c at *
              go_wp2
              have p0 := Q0.out
              have p1 := Q1.out
              refine bodyPost_ret (v := .tuple #[cur s2 0, .int .u32 (0)]) (by simp [results, Tryd.results67, go_sem, p0, p1]) rfl ?_
              rw [E1.out, E2.out, E3.out]
              exact ⟨congrArg (fun z => Ending.returned (.tuple #[cur s2 0, .int .u32 z])) (show (0 : Int) = ((0 + c % 128 * 128 ^ 0 : Nat) : Int) by rw [h0]; rfl), ((HB1.out.setCell (Nat.le_succ _) _).setCell (Nat.le_succ _) _).alloc HZ3.out _⟩
            · have hbz : ((numL t.data.toList : Int) == 0) = false := by simp [h0]
              have hR := HV.out.trans (varT_ok HT.out (by omega))
              injection hR with e1 e2
              injection e2 with e2 e3
              rw [if_pos rfl] at e1
              have E1 := Lib.hid e1
              have E2 := Lib.hid e2
              have E3 := Lib.hid e3
              clear e1 e2 e3
              have P3 := pair_set (u' := .string s2) (v' := .int .i64 0) HP2.out
              obtain ⟨p0, p1, _, _⟩ := pair_cells ((Below.heap_alloc _ (.cells #[.string s2, .int .i64 0] 73) _ (lt_of_block P3)).trans P3)
              have Q0 := Lib.hid p0
              have Q1 := Lib.hid p1
              have HZ3 : Hid (w.heap.size ≤ ((((w3.setCell ⟨w.heap.size, 0, none⟩ (.string s2)).setCell ⟨w.heap.size, 1, none⟩ (.int .i64 0)).setCell ⟨w.heap.size + 1, 0, none⟩ (.string s2)).setCell ⟨w.heap.size + 1, 1, none⟩ (.int .i64 0)).heap.size) := by unfold Hid; simp [World.setCell]; omega
              clear P3 p0 p1 HV HT A1 A2 HP2 HZ
              generalize numL t.data.toList = c at *
              go_wp2
              have p0 := Q0.out
              have p1 := Q1.out
              refine bodyPost_ret (v := .tuple #[cur s2 0, .int .u32 ((c : Int) % 128)]) (by simp [results, Tryd.results67, go_sem, p0, p1]) rfl ?_
              rw [E1.out, E2.out, E3.out]
              exact ⟨congrArg (fun z => Ending.returned (.tuple #[cur s2 0, .int .u32 z])) (show (c : Int) % 128 = ((0 + c % 128 * 128 ^ 0 : Nat) : Int) by simp), ((HB1.out.setCell (Nat.le_succ _) _).setCell (Nat.le_succ _) _).alloc HZ3.out _⟩
        · have hm : m < 128 := by simpa using HM.out
          clear HM hi3
          have P1 := pair_set (u' := .string s2) (v' := .int .i64 0) HK1.out
          have P2 := (far_set (w := w3) (b := w.heap.size) (c := w.heap.size + 1) (u' := .string s2) (v' := .int .i64 0) (by omega)).trans HK2.out
          have A1 := Lib.hid ((Below.heap_alloc _ (.cells #[.string s2, .int .i64 0] 73) _ (lt_of_block P1)).trans P1)
          have A2 := Lib.hid ((Below.heap_alloc _ (.cells #[.string s2, .int .i64 0] 73) _ (lt_of_block P2)).trans P2)
          have HP2 := Lib.hid P2
          have HZ : Hid (w.heap.size ≤ ((w3.setCell ⟨w.heap.size, 0, none⟩ (.string s2)).setCell ⟨w.heap.size, 1, none⟩ (.int .i64 0)).heap.size) := by unfold Hid; simp [World.setCell]; omega
          have HB1 := Lib.hid (((HB.out.setCell (p := ⟨w.heap.size, 0, none⟩) (Nat.le_refl _) (.string s2)).setCell (p := ⟨w.heap.size, 1, none⟩) (Nat.le_refl _) (.int .i64 0)))
          clear P1 P2 HB HK1 HK2
          by_cases h128 : 128 ≤ numL t.data.toList
          · have HE : Hid (VarR (n, s', x') 2 (m + numL t.data.toList % 128 * 128 ^ 1) s2 0) := by
              refine .inl ⟨by omega, HV.out.trans (varT_go HT.out h128), ?_⟩
              have hlt := Nat.mod_lt (numL t.data.toList) (show 128 > 0 by omega)
              generalize numL t.data.toList % 128 = q at *
              omega
            clear HV HT
            go_wp2
            go_roundw
            case rel => exact ⟨2, m + numL t.data.toList % 128 * 128 ^ 1, s2, 0, congrArg (Value.int .u32) (show (m : Int) + 128 * ((numL t.data.toList : Int) % 128) = ((m + numL t.data.toList % 128 * 128 ^ 1 : Nat) : Int) by rw [Nat.mul_comm]; simp), rfl, rfl, by omega, HE.out, A1.out, A2.out, HB1.out.alloc HZ.out _⟩
            case measure => simp [intOf]
          · have hlt8 : numL t.data.toList < 128 := by omega
            clear h128
            by_cases h0 : numL t.data.toList = 0
            · have hbz : ((numL t.data.toList : Int) == 0) = true := by rw [h0]; rfl
              have hR := HV.out.trans (varT_bad HT.out (.inr (by omega)) (.inr ⟨h0, by omega⟩))
              injection hR with e1 e2
              injection e2 with e2 e3
              rw [failed, if_pos rfl] at e3
              have E1 := Lib.hid e1
              have E2 := Lib.hid e2
              have E3 := Lib.hid e3
              clear e1 e2 e3
              have P3 := pair_set (u' := .string s2) (v' := .int .i64 2) HP2.out
              obtain ⟨p0, p1, _, _⟩ := pair_cells ((Below.heap_alloc _ (.cells #[.string s2, .int .i64 0] 73) _ (lt_of_block P3)).trans P3)
              have Q0 := Lib.hid p0
              have Q1 := Lib.hid p1
              have HZ3 : Hid (w.heap.size ≤ ((((w3.setCell ⟨w.heap.size, 0, none⟩ (.string s2)).setCell ⟨w.heap.size, 1, none⟩ (.int .i64 0)).setCell ⟨w.heap.size + 1, 0, none⟩ (.string s2)).setCell ⟨w.heap.size + 1, 1, none⟩ (.int .i64 2)).heap.size) := by unfold Hid; simp [World.setCell]; omega
              clear P3 p0 p1 HV HT A1 A2 HP2 HZ
              generalize numL t.data.toList = c at *
              go_wp2
              have p0 := Q0.out
              have p1 := Q1.out
              refine bodyPost_ret (v := .tuple #[cur s2 2, .int .u32 0]) (by simp [results, Tryd.results67, go_sem, p0, p1]) rfl ?_
              rw [E1.out, E2.out, E3.out]
              exact ⟨rfl, ((HB1.out.setCell (Nat.le_succ _) _).setCell (Nat.le_succ _) _).alloc HZ3.out _⟩
            · have hbz : ((numL t.data.toList : Int) == 0) = false := by simp [h0]
              have hR := HV.out.trans (varT_ok HT.out (by omega))
              injection hR with e1 e2
              injection e2 with e2 e3
              rw [if_pos rfl] at e1
              have E1 := Lib.hid e1
              have E2 := Lib.hid e2
              have E3 := Lib.hid e3
              clear e1 e2 e3
              have P3 := pair_set (u' := .string s2) (v' := .int .i64 0) HP2.out
              obtain ⟨p0, p1, _, _⟩ := pair_cells ((Below.heap_alloc _ (.cells #[.string s2, .int .i64 0] 73) _ (lt_of_block P3)).trans P3)
              have Q0 := Lib.hid p0
              have Q1 := Lib.hid p1
              have HZ3 : Hid (w.heap.size ≤ ((((w3.setCell ⟨w.heap.size, 0, none⟩ (.string s2)).setCell ⟨w.heap.size, 1, none⟩ (.int .i64 0)).setCell ⟨w.heap.size + 1, 0, none⟩ (.string s2)).setCell ⟨w.heap.size + 1, 1, none⟩ (.int .i64 0)).heap.size) := by unfold Hid; simp [World.setCell]; omega
              clear P3 p0 p1 HV HT A1 A2 HP2 HZ
              generalize numL t.data.toList = c at *
              go_wp2
              have p0 := Q0.out
              have p1 := Q1.out
              refine bodyPost_ret (v := .tuple #[cur s2 0, .int .u32 ((m : Int) + 128 * ((c : Int) % 128))]) (by simp [results, Tryd.results67, go_sem, p0, p1]) rfl ?_
              rw [E1.out, E2.out, E3.out]
              exact ⟨congrArg (fun z => Ending.returned (.tuple #[cur s2 0, .int .u32 z])) (show (m : Int) + 128 * ((c : Int) % 128) = ((m + c % 128 * 128 ^ 1 : Nat) : Int) by rw [Nat.mul_comm]; simp), ((HB1.out.setCell (Nat.le_succ _) _).setCell (Nat.le_succ _) _).alloc HZ3.out _⟩
        · have hm : m < 16384 := by simpa using HM.out
          clear HM hi3
          have P1 := pair_set (u' := .string s2) (v' := .int .i64 0) HK1.out
          have P2 := (far_set (w := w3) (b := w.heap.size) (c := w.heap.size + 1) (u' := .string s2) (v' := .int .i64 0) (by omega)).trans HK2.out
          have A1 := Lib.hid ((Below.heap_alloc _ (.cells #[.string s2, .int .i64 0] 73) _ (lt_of_block P1)).trans P1)
          have A2 := Lib.hid ((Below.heap_alloc _ (.cells #[.string s2, .int .i64 0] 73) _ (lt_of_block P2)).trans P2)
          have HP2 := Lib.hid P2
          have HZ : Hid (w.heap.size ≤ ((w3.setCell ⟨w.heap.size, 0, none⟩ (.string s2)).setCell ⟨w.heap.size, 1, none⟩ (.int .i64 0)).heap.size) := by unfold Hid; simp [World.setCell]; omega
          have HB1 := Lib.hid (((HB.out.setCell (p := ⟨w.heap.size, 0, none⟩) (Nat.le_refl _) (.string s2)).setCell (p := ⟨w.heap.size, 1, none⟩) (Nat.le_refl _) (.int .i64 0)))
          clear P1 P2 HB HK1 HK2
          by_cases h128 : 128 ≤ numL t.data.toList
          · have HE : Hid (VarR (n, s', x') 3 (m + numL t.data.toList % 128 * 128 ^ 2) s2 0) := by
              refine .inl ⟨by omega, HV.out.trans (varT_go HT.out h128), ?_⟩
              have hlt := Nat.mod_lt (numL t.data.toList) (show 128 > 0 by omega)
              generalize numL t.data.toList % 128 = q at *
              omega
            clear HV HT
            go_wp2
            go_roundw
            case rel => exact ⟨3, m + numL t.data.toList % 128 * 128 ^ 2, s2, 0, congrArg (Value.int .u32) (show (m : Int) + 16384 * ((numL t.data.toList : Int) % 128) = ((m + numL t.data.toList % 128 * 128 ^ 2 : Nat) : Int) by rw [Nat.mul_comm]; simp), rfl, rfl, by omega, HE.out, A1.out, A2.out, HB1.out.alloc HZ.out _⟩
            case measure => simp [intOf]
          · have hlt8 : numL t.data.toList < 128 := by omega
            clear h128
            by_cases h0 : numL t.data.toList = 0
            · have hbz : ((numL t.data.toList : Int) == 0) = true := by rw [h0]; rfl
              have hR := HV.out.trans (varT_bad HT.out (.inr (by omega)) (.inr ⟨h0, by omega⟩))
              injection hR with e1 e2
              injection e2 with e2 e3
              rw [failed, if_pos rfl] at e3
              have E1 := Lib.hid e1
              have E2 := Lib.hid e2
              have E3 := Lib.hid e3
              clear e1 e2 e3
              have P3 := pair_set (u' := .string s2) (v' := .int .i64 2) HP2.out
              obtain ⟨p0, p1, _, _⟩ := pair_cells ((Below.heap_alloc _ (.cells #[.string s2, .int .i64 0] 73) _ (lt_of_block P3)).trans P3)
              have Q0 := Lib.hid p0
              have Q1 := Lib.hid p1
              have HZ3 : Hid (w.heap.size ≤ ((((w3.setCell ⟨w.heap.size, 0, none⟩ (.string s2)).setCell ⟨w.heap.size, 1, none⟩ (.int .i64 0)).setCell ⟨w.heap.size + 1, 0, none⟩ (.string s2)).setCell ⟨w.heap.size + 1, 1, none⟩ (.int .i64 2)).heap.size) := by unfold Hid; simp [World.setCell]; omega
              clear P3 p0 p1 HV HT A1 A2 HP2 HZ
              generalize numL t.data.toList = c at *
              go_wp2
              have p0 := Q0.out
              have p1 := Q1.out
              refine bodyPost_ret (v := .tuple #[cur s2 2, .int .u32 0]) (by simp [results, Tryd.results67, go_sem, p0, p1]) rfl ?_
              rw [E1.out, E2.out, E3.out]
              exact ⟨rfl, ((HB1.out.setCell (Nat.le_succ _) _).setCell (Nat.le_succ _) _).alloc HZ3.out _⟩
            · have hbz : ((numL t.data.toList : Int) == 0) = false := by simp [h0]
              have hR := HV.out.trans (varT_ok HT.out (by omega))
              injection hR with e1 e2
              injection e2 with e2 e3
              rw [if_pos rfl] at e1
              have E1 := Lib.hid e1
              have E2 := Lib.hid e2
              have E3 := Lib.hid e3
              clear e1 e2 e3
              have P3 := pair_set (u' := .string s2) (v' := .int .i64 0) HP2.out
              obtain ⟨p0, p1, _, _⟩ := pair_cells ((Below.heap_alloc _ (.cells #[.string s2, .int .i64 0] 73) _ (lt_of_block P3)).trans P3)
              have Q0 := Lib.hid p0
              have Q1 := Lib.hid p1
              have HZ3 : Hid (w.heap.size ≤ ((((w3.setCell ⟨w.heap.size, 0, none⟩ (.string s2)).setCell ⟨w.heap.size, 1, none⟩ (.int .i64 0)).setCell ⟨w.heap.size + 1, 0, none⟩ (.string s2)).setCell ⟨w.heap.size + 1, 1, none⟩ (.int .i64 0)).heap.size) := by unfold Hid; simp [World.setCell]; omega
              clear P3 p0 p1 HV HT A1 A2 HP2 HZ
              generalize numL t.data.toList = c at *
              go_wp2
              have p0 := Q0.out
              have p1 := Q1.out
              refine bodyPost_ret (v := .tuple #[cur s2 0, .int .u32 ((m : Int) + 16384 * ((c : Int) % 128))]) (by simp [results, Tryd.results67, go_sem, p0, p1]) rfl ?_
              rw [E1.out, E2.out, E3.out]
              exact ⟨congrArg (fun z => Ending.returned (.tuple #[cur s2 0, .int .u32 z])) (show (m : Int) + 16384 * ((c : Int) % 128) = ((m + c % 128 * 128 ^ 2 : Nat) : Int) by rw [Nat.mul_comm]; simp), ((HB1.out.setCell (Nat.le_succ _) _).setCell (Nat.le_succ _) _).alloc HZ3.out _⟩
        · have hm : m < 2097152 := by simpa using HM.out
          clear HM hi3
          have P1 := pair_set (u' := .string s2) (v' := .int .i64 0) HK1.out
          have P2 := (far_set (w := w3) (b := w.heap.size) (c := w.heap.size + 1) (u' := .string s2) (v' := .int .i64 0) (by omega)).trans HK2.out
          have A1 := Lib.hid ((Below.heap_alloc _ (.cells #[.string s2, .int .i64 0] 73) _ (lt_of_block P1)).trans P1)
          have A2 := Lib.hid ((Below.heap_alloc _ (.cells #[.string s2, .int .i64 0] 73) _ (lt_of_block P2)).trans P2)
          have HP2 := Lib.hid P2
          have HZ : Hid (w.heap.size ≤ ((w3.setCell ⟨w.heap.size, 0, none⟩ (.string s2)).setCell ⟨w.heap.size, 1, none⟩ (.int .i64 0)).heap.size) := by unfold Hid; simp [World.setCell]; omega
          have HB1 := Lib.hid (((HB.out.setCell (p := ⟨w.heap.size, 0, none⟩) (Nat.le_refl _) (.string s2)).setCell (p := ⟨w.heap.size, 1, none⟩) (Nat.le_refl _) (.int .i64 0)))
          clear P1 P2 HB HK1 HK2
          by_cases h128 : 128 ≤ numL t.data.toList
          · have HE : Hid (VarR (n, s', x') 4 (m + numL t.data.toList % 128 * 128 ^ 3) s2 0) := .inr ⟨rfl, HV.out.trans (varT_bad HT.out (.inl rfl) (.inl h128))⟩
            clear HV HT
            go_wp2
            go_roundw
            case rel => exact ⟨4, m + numL t.data.toList % 128 * 128 ^ 3, s2, 0, congrArg (Value.int .u32) (show (m : Int) + 2097152 * ((numL t.data.toList : Int) % 128) = ((m + numL t.data.toList % 128 * 128 ^ 3 : Nat) : Int) by rw [Nat.mul_comm]; simp), rfl, rfl, by omega, HE.out, A1.out, A2.out, HB1.out.alloc HZ.out _⟩
            case measure => simp [intOf]
          · have hlt8 : numL t.data.toList < 128 := by omega
            clear h128
            by_cases h0 : numL t.data.toList = 0
            · have hbz : ((numL t.data.toList : Int) == 0) = true := by rw [h0]; rfl
              have hR := HV.out.trans (varT_bad HT.out (.inr (by omega)) (.inr ⟨h0, by omega⟩))
              injection hR with e1 e2
              injection e2 with e2 e3
              rw [failed, if_pos rfl] at e3
              have E1 := Lib.hid e1
              have E2 := Lib.hid e2
              have E3 := Lib.hid e3
              clear e1 e2 e3
              have P3 := pair_set (u' := .string s2) (v' := .int .i64 2) HP2.out
              obtain ⟨p0, p1, _, _⟩ := pair_cells ((Below.heap_alloc _ (.cells #[.string s2, .int .i64 0] 73) _ (lt_of_block P3)).trans P3)
              have Q0 := Lib.hid p0
              have Q1 := Lib.hid p1
              have HZ3 : Hid (w.heap.size ≤ ((((w3.setCell ⟨w.heap.size, 0, none⟩ (.string s2)).setCell ⟨w.heap.size, 1, none⟩ (.int .i64 0)).setCell ⟨w.heap.size + 1, 0, none⟩ (.string s2)).setCell ⟨w.heap.size + 1, 1, none⟩ (.int .i64 2)).heap.size) := by unfold Hid; simp [World.setCell]; omega
              clear P3 p0 p1 HV HT A1 A2 HP2 HZ
              generalize numL t.data.toList = c at *
              go_wp2
              have p0 := Q0.out
              have p1 := Q1.out
              refine bodyPost_ret (v := .tuple #[cur s2 2, .int .u32 0]) (by simp [results, Tryd.results67, go_sem, p0, p1]) rfl ?_
              rw [E1.out, E2.out, E3.out]
              exact ⟨rfl, ((HB1.out.setCell (Nat.le_succ _) _).setCell (Nat.le_succ _) _).alloc HZ3.out _⟩
            · have hbz : ((numL t.data.toList : Int) == 0) = false := by simp [h0]
              have hR := HV.out.trans (varT_ok HT.out (by omega))
              injection hR with e1 e2
              injection e2 with e2 e3
              rw [if_pos rfl] at e1
              have E1 := Lib.hid e1
              have E2 := Lib.hid e2
              have E3 := Lib.hid e3
              clear e1 e2 e3
              have P3 := pair_set (u' := .string s2) (v' := .int .i64 0) HP2.out
              obtain ⟨p0, p1, _, _⟩ := pair_cells ((Below.heap_alloc _ (.cells #[.string s2, .int .i64 0] 73) _ (lt_of_block P3)).trans P3)
              have Q0 := Lib.hid p0
              have Q1 := Lib.hid p1
              have HZ3 : Hid (w.heap.size ≤ ((((w3.setCell ⟨w.heap.size, 0, none⟩ (.string s2)).setCell ⟨w.heap.size, 1, none⟩ (.int .i64 0)).setCell ⟨w.heap.size + 1, 0, none⟩ (.string s2)).setCell ⟨w.heap.size + 1, 1, none⟩ (.int .i64 0)).heap.size) := by unfold Hid; simp [World.setCell]; omega
              clear P3 p0 p1 HV HT A1 A2 HP2 HZ
              generalize numL t.data.toList = c at *
              go_wp2
              have p0 := Q0.out
              have p1 := Q1.out
              refine bodyPost_ret (v := .tuple #[cur s2 0, .int .u32 ((m : Int) + 2097152 * ((c : Int) % 128))]) (by simp [results, Tryd.results67, go_sem, p0, p1]) rfl ?_
              rw [E1.out, E2.out, E3.out]
              exact ⟨congrArg (fun z => Ending.returned (.tuple #[cur s2 0, .int .u32 z])) (show (m : Int) + 2097152 * ((c : Int) % 128) = ((m + c % 128 * 128 ^ 3 : Nat) : Int) by rw [Nat.mul_comm]; simp), ((HB1.out.setCell (Nat.le_succ _) _).setCell (Nat.le_succ _) _).alloc HZ3.out _⟩
      · have hb1 : (x2 != 0) = true := by simp [hx]
        have hR := HV.out.trans (varT_stop HT.out hx)
        injection hR with e1 e2
        injection e2 with e2 e3
        have E1 := Lib.hid e1
        have E2 := Lib.hid e2
        have E3 := Lib.hid e3
        clear e1 e2 e3 HV HM HT
        have P := pair_set (u' := .string s2) (v' := .int .i64 x2) HK2.out
        obtain ⟨p0, p1, _, _⟩ := pair_cells ((Below.heap_alloc _ (.cells #[.string s2, .int .i64 x2] 73) _ (lt_of_block P)).trans P)
        have Q0 := Lib.hid p0
        have Q1 := Lib.hid p1
        have HZ : Hid (w.heap.size ≤ ((w3.setCell ⟨w.heap.size + 1, 0, none⟩ (.string s2)).setCell ⟨w.heap.size + 1, 1, none⟩ (.int .i64 x2)).heap.size) := by unfold Hid; simp [World.setCell]; omega
        clear P p0 p1
        go_wp2
        have p0 := Q0.out
        have p1 := Q1.out
        refine bodyPost_ret (v := .tuple #[cur s2 x2, .int .u32 0]) (by simp [results, Tryd.results67, go_sem, p0, p1]) rfl ?_
        rw [E1.out, E2.out, E3.out]
        exact ⟨rfl, ((HB.out.setCell (Nat.le_succ _) _).setCell (Nat.le_succ _) _).alloc HZ.out _⟩

#print axioms r1takevar_calls
end Go.Proofs.YtdhdjkpocdfjbabDoor
