/-
  The document's answers for layer 1, what is taken, as calls. (No statement: contracts that the proofs of the statements use.)
-/
import Derived.Test.YtdhdjkpocdfjbabDoorL1p
namespace Go.Proofs.YtdhdjkpocdfjbabDoor
open Go.RowKit

/-- A cursor as a value. -/
abbrev cur (s : ByteArray) (x : Int) : Value := .agg #[.string s, .int .i64 x]

theorem below_two (w : World) (o1 o2 : Obj) : Below w.heap.size w ((w.alloc o1).alloc o2) := (below_one w o1).alloc (by simp) o2

theorem r1raw_calls (w : World) (s : ByteArray) (x n : Int) (t s' : ByteArray) (x' : Int) (hr : rawT s x n = (t, s', x')) :
    Calls Tryd.prog 66 #[cur s x, .int .i64 n] w fun e w' => e = .returned (.tuple #[cur s' x', .string t]) ∧ Below w.heap.size w w' := by
  by_cases hx : x = 0
  · subst hx
    by_cases hg : (s.size : Int) < n
    · have e : rawT s 0 n = (⟨#[]⟩, s, 1) := by simp [rawT, hg]
      rw [e] at hr
      injection hr with e1 e2
      injection e2 with e2 e3
      subst e1 e2 e3
      clear e
      go_enter Tryd.func66, Tryd.ntmps66
      go_wp2
      exact bodyPost_ret (v := .tuple #[cur s 1, .string ⟨#[]⟩]) (by simp [results, Tryd.results66, go_sem]) rfl ⟨rfl, below_two _ _ _⟩
    · by_cases hz : n ≤ 0
      · have e : rawT s 0 n = (⟨#[]⟩, s, 0) := by simp [rawT, hg, hz]
        rw [e] at hr
        injection hr with e1 e2
        injection e2 with e2 e3
        subst e1 e2 e3
        clear e
        have hm : (if n < 0 then 0 else n) = 0 := by split <;> omega
        have hs0 : (0 : Int) ≤ s.size := by omega
        clear hg hz
        go_enter Tryd.func66, Tryd.ntmps66
        go_wp2
        go_region
        all_goals go_wp2
        exact bodyPost_ret (v := .tuple #[cur s 0, .string ByteArray.empty]) (by simp [results, Tryd.results66, go_sem]) rfl ⟨rfl, (below_two _ _ _).drew⟩
      · obtain ⟨k, rfl⟩ := Int.eq_ofNat_of_zero_le (show 0 ≤ n by omega)
        have e : rawT s 0 k = (s.extract 0 k, s.extract k s.size, 0) := by simp [rawT, hg, show ¬ (k = 0) by omega]
        rw [e] at hr
        injection hr with e1 e2
        injection e2 with e2 e3
        subst e1 e2 e3
        clear e
        go_enter Tryd.func66, Tryd.ntmps66
        go_wp2
        go_region
        all_goals go_wp2
        exact bodyPost_ret (v := .tuple #[cur (s.extract k s.size) 0, .string (s.extract 0 k)]) (by simp [results, Tryd.results66, go_sem]) rfl ⟨rfl, (below_two _ _ _).drew⟩
  · have e : rawT s x n = (⟨#[]⟩, s, x) := by simp [rawT, hx]
    have hb : (x != 0) = true := by simp [hx]
    rw [e] at hr
    injection hr with e1 e2
    injection e2 with e2 e3
    subst e1 e2 e3
    clear e
    go_enter Tryd.func66, Tryd.ntmps66
    go_wp2
    exact bodyPost_ret (v := .tuple #[cur s x, .string ⟨#[]⟩]) (by simp [results, Tryd.results66, go_sem]) rfl ⟨rfl, below_two _ _ _⟩

/-- Two blocks that a call has laid, behind another call. -/
theorem two_kept {w w1 : World} {o1 o2 : Obj} (h : Below ((w.alloc o1).alloc o2).heap.size ((w.alloc o1).alloc o2) w1) : w1.heap[w.heap.size]? = some o1 ∧ w1.heap[w.heap.size + 1]? = some o2 ∧ w.heap.size + 2 ≤ w1.heap.size ∧ Below w.heap.size w w1 := by
  have hs : ((w.alloc o1).alloc o2).heap.size = w.heap.size + 2 := by simp
  refine ⟨?_, ?_, by rw [← hs]; exact h.size, Below.next (below_two w o1 o2) h⟩
  · rw [h.block _ (by omega), Below.heap_alloc _ _ _ (by simp)]
    exact heap_alloc_new w o1
  · rw [h.block _ (by omega)]
    have := heap_alloc_new (w.alloc o1) o2
    simpa using this

theorem pair_cells {w : World} {b : Nat} {u v : Value} {t : TypeId} (h : w.heap[b]? = some (.cells #[u, v] t (0, 0))) : w.cell? ⟨b, 0, none⟩ = some u ∧ w.cell? ⟨b, 1, none⟩ = some v ∧ w.frozen? ⟨b, 0, none⟩ = false ∧ w.frozen? ⟨b, 1, none⟩ = false := by
  refine ⟨?_, ?_, ?_, ?_⟩
  · simp [World.cell?, h]
  · simp [World.cell?, h]
  · simp [World.frozen?, h]
  · simp [World.frozen?, h]

theorem r1number_calls (w : World) (s : ByteArray) (x n : Int) (t s' : ByteArray) (x' : Int) (hr : rawT s x n = (t, s', x')) (hn : n ≤ 4) :
    Calls Tryd.prog 35 #[cur s x, .int .i64 n] w fun e w' => e = .returned (.tuple #[cur s' x', .int .u32 (numL t.data.toList)]) ∧ Below w.heap.size w w' := by
  have hsz : t.size ≤ 4 := by have := rawT_size s x n; rw [hr] at this; dsimp only at this; omega
  have HR := Lib.hid hr
  clear hr
  go_enter Tryd.func35, Tryd.ntmps35
  go_wp2_with fail
  refine (r1raw_calls _ s x n t s' x' HR.out).mono ?_
  rintro e w1 ⟨rfl, hb⟩
  obtain ⟨k1, k2, hz, hbl⟩ := two_kept hb
  obtain ⟨c0, c1, f0, f1⟩ := pair_cells k1
  obtain ⟨d0, d1, g0, g1⟩ := pair_cells k2
  have HB := Lib.hid hbl
  clear hb k1 k2 hbl HR
  go_wp2
  go_loop [7, 8] (fun v i => ∃ k : Nat, k ≤ t.size ∧ i = .int .i64 k ∧ v = .int .u32 (numL (t.data.toList.take k))) (fun _ i => t.size - (intOf i).toNat)
  case atStart => exact ⟨0, Nat.zero_le _, rfl, rfl⟩
  case round =>
    obtain ⟨k, hk, rfl, rfl⟩ := hrel
    by_cases hlt : k < t.size
    · have hts := numL_snoc (t.data.toList.take k) t[k]
      rw [← take_snoc t k hlt] at hts
      have HS := Lib.hid hts
      clear hts
      have hb := numL_lt3 (t.data.toList.take k) (by simp; omega)
      have hc := t[k].toNat_lt
      generalize numL (t.data.toList.take k) = v at *
      go_wp2
      go_round
      case rel => exact ⟨k + 1, by omega, by go_num, by rw [HS.out]; go_num⟩
      case measure => simp [intOf]; omega
    · have e : t.data.toList.take k = t.data.toList := List.take_of_length_le (by simp; omega)
      rw [e]
      go_wp2
      exact bodyPost_ret (v := .tuple #[cur s' x', .int .u32 (numL t.data.toList)]) (by simp [results, Tryd.results35, go_sem, d0, d1]) rfl
        ⟨rfl, (((HB.out.setCell (Nat.le_refl _) _).setCell (Nat.le_refl _) _).setCell (Nat.le_succ _) _).setCell (Nat.le_succ _) _⟩

theorem r1data2_calls (w : World) (s : ByteArray) (x : Int) (t s1 : ByteArray) (x1 : Int) (hr : rawT s x 2 = (t, s1, x1)) (t2 s2 : ByteArray) (x2 : Int) (hr2 : rawT s1 x1 (numL t.data.toList) = (t2, s2, x2)) :
    Calls Tryd.prog 37 #[cur s x] w fun e w' => e = .returned (.tuple #[cur s2 x2, .string t2]) ∧ Below w.heap.size w w' := by
  have hb := num_lt2 s x t s1 x1 hr
  have HR := Lib.hid hr
  have HR2 := Lib.hid hr2
  clear hr hr2
  go_enter Tryd.func37, Tryd.ntmps37
  go_wp2_with fail
  refine (r1number_calls _ s x 2 t s1 x1 HR.out (by omega)).mono ?_
  rintro e w1 ⟨rfl, hb1⟩
  obtain ⟨k1, k2, hz, hbl⟩ := two_kept hb1
  obtain ⟨c0, c1, f0, f1⟩ := pair_cells k1
  obtain ⟨d0, d1, g0, g1⟩ := pair_cells k2
  generalize numL t.data.toList = c at *
  have HB := Lib.hid hbl
  have K2 := Lib.hid k2
  clear hb1 k1 k2 hbl HR
  go_wp2_with fail
  refine (r1raw_calls _ s1 x1 _ t2 s2 x2 HR2.out).mono ?_
  rintro e w2 ⟨rfl, hb2⟩
  have k2' : w2.heap[w.heap.size + 1]? = some (.cells #[.string ⟨#[]⟩, .int .i64 0] 73 (0, 0)) := by
    rw [hb2.block _ (by simp [World.setCell]; omega), Below.heap_setCell _ _ _ _ (by simp), Below.heap_setCell _ _ _ _ (by simp)]
    exact K2.out
  have HB2 : Hid (Below w.heap.size w w2) := ((HB.out.setCell (Nat.le_refl _) _).setCell (Nat.le_refl _) _).trans (hb2.mono (by simp [World.setCell]; omega))
  clear hb2 HB K2 d0 d1 g0 g1 c0 c1 f0 f1 HR2
  obtain ⟨d0, d1, g0, g1⟩ := pair_cells k2'
  clear k2'
  go_wp2
  exact bodyPost_ret (v := .tuple #[cur s2 x2, .string t2]) (by simp [results, Tryd.results37, go_sem, d0, d1]) rfl
    ⟨rfl, (HB2.out.setCell (Nat.le_succ _) _).setCell (Nat.le_succ _) _⟩

#print axioms r1raw_calls
end Go.Proofs.YtdhdjkpocdfjbabDoor
