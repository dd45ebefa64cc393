/-
  The calls of queue.Queue: which is the first light one; Push. (No statement: contracts that the proofs of the statements use.)
-/
import Derived.Test.YteofjcmpelcmaaaJQue4
namespace Go.Proofs.Yteofjcmpelcmaaa
open Go.RowKit

theorem qPush1_calls (w : World) (m : Ms) (v : Value) (hv : ∃ A n c, v = .slice A n c) :
    Calls Try.prog 66 #[msV m v] w fun e w' => e = .returned (.bool (decide (m.q = 0))) ∧ Below w.heap.size w w' := by
  obtain ⟨A, n, c, rfl⟩ := hv
  have hd : (m.q == 0) = decide (m.q = 0) := rfl
  go_enter Try.func66, Try.ntmps66
  go_wp2
  go_ret
  exact ⟨rfl, below_one w _⟩

theorem enters_gen {f : FuncId} {fn : Func} {c : Code} (hf : Try.prog.funcs[f]? = some fn) (hname : (fn.name == "runtime.NumGoroutine") = false) (hb : fn.body = some c) (args : Array Value) (w : World) : (callFunc f args).run Try.prog w = .ok (.enter f args) w := by
  have h1 : fn.name ≠ "runtime.NumGoroutine" := by simpa using hname
  simp [callFunc, hf, h1, hb, mark]

/-- The place of the first light one. -/
def light1 : List (Ms × Value) → Nat
  | [] => 0
  | e :: L => if e.1.q = 0 then 0 else light1 L + 1

theorem light1_split : ∀ (L : List (Ms × Value)), 0 < lightL (L.map Prod.fst) → ∃ L1 e L2, L = L1 ++ e :: L2 ∧ e.1.q = 0 ∧ (∀ x ∈ L1, x.1.q ≠ 0)
  | [], h => by simp [lightL] at h
  | e :: L, h => by
    by_cases he : e.1.q = 0
    · exact ⟨[], e, L, rfl, he, fun x hx => by cases hx⟩
    · have h' : 0 < lightL (L.map Prod.fst) := by simpa [lightL, he] using h
      obtain ⟨L1, e', L2, rfl, h1, h2⟩ := light1_split L h'
      exact ⟨e :: L1, e', L2, rfl, h1, fun x hx => by
        rcases List.mem_cons.1 hx with rfl | hx
        · exact he
        · exact h2 x hx⟩

set_option maxRecDepth 100000 in
set_option maxHeartbeats 2000000 in
theorem sIdx_calls (w : World) (A : Option Addr) (b off cap : Nat) (L1 L2 : List (Ms × Value)) (e : Ms × Value) (h : RowQ w A b off cap (cellsQ (L1 ++ e :: L2))) (hb : b < w.heap.size) (he : e.1.q = 0) (h1 : ∀ x ∈ L1, x.1.q ≠ 0)
    (hs : ∀ x ∈ L1 ++ e :: L2, ∃ A n c, x.2 = Value.slice A n c) (hn : (L1 ++ e :: L2).length ≤ 100) :
    Calls Try.prog 65 #[.slice A (L1 ++ e :: L2).length cap, .func (.func 66) #[] #[]] w fun en w' => en = .returned (.int .i64 L1.length) ∧ Below w.heap.size w w' := by
  obtain ⟨hA, -⟩ := row_at h
  subst hA
  generalize hL : L1 ++ e :: L2 = L at *
  have HR := Lib.hid h
  have HL := Lib.hid hL
  have H1 := Lib.hid h1
  have HS := Lib.hid hs
  have hlen : L1.length < L.length := by rw [← hL]; simp
  clear h hL h1 hs
  go_enter Try.func65, Try.ntmps65
  have eg : ∀ args w, (callFunc 66 args).run Try.prog w = .ok (.enter 66 args) w := enters_gen Try.func66 (by kernel_rfl) rfl
  go_wp2
  go_loopw [8] (fun i wr => ∃ k : Nat, k ≤ L1.length ∧ i = .int .i64 k ∧ Below w.heap.size w wr) (fun i _ => L1.length + 1 - (intOf i).toNat)
  case atStart => exact ⟨0, by omega, rfl, Below.refl _ _⟩
  case round =>
    obtain ⟨k, hk, rfl, hbw⟩ := hrel
    have HB := Lib.hid hbw
    have hz := hbw.size
    obtain ⟨x, hx⟩ : ∃ x, L[k]? = some x := ⟨_, List.getElem?_eq_getElem (by omega)⟩
    have hxm : x ∈ L := List.mem_of_getElem? hx
    obtain ⟨A1, n1, c1, hxv⟩ := HS.out x hxm
    have hrow : ∀ i, i < 7 → wr.cell? ⟨b, off + k * 7 + i, none⟩ = (msC x.1 x.2)[i]? := fun i hi => by
      have h1 := cellsQ_at L k i hi
      rw [hx] at h1
      obtain ⟨u, hu⟩ : ∃ u, (msC x.1 x.2)[i]? = some u := ⟨_, List.getElem?_eq_getElem (by simpa using hi)⟩
      have h2 : (cellsQ L)[k * 7 + i]? = some u := h1.trans hu
      rw [hu, Nat.add_assoc, hbw.cell (p := ⟨b, _, none⟩) hb]
      exact HR.out.holds _ _ h2
    have hxq : x.1.q = 0 ↔ k = L1.length := by
      rw [← HL.out] at hx
      constructor
      · intro h0
        by_cases hlt : k < L1.length
        · rw [List.getElem?_append_left hlt] at hx
          exact absurd h0 (H1.out x (List.mem_of_getElem? hx))
        · omega
      · rintro rfl
        rw [List.getElem?_append_right (Nat.le_refl _), Nat.sub_self] at hx
        injection hx with hx
        rw [← hx]; exact he
    obtain ⟨m, v⟩ := x
    dsimp only at hxv hrow hxq
    subst hxv
    have a0 := hrow 0 (by omega)
    have a1 := hrow 1 (by omega)
    have a2 := hrow 2 (by omega)
    have a3 := hrow 3 (by omega)
    have a4 := hrow 4 (by omega)
    have a5 := hrow 5 (by omega)
    have a6 := hrow 6 (by omega)
    rw [Nat.add_zero] at a0
    simp only [List.getElem?_cons_zero, List.getElem?_cons_succ] at a0 a1 a2 a3 a4 a5 a6
    have hkl : (k : Int) < L.length := by omega
    have HQ := Lib.hid hxq
    clear hrow hx hxm hbw hxq
    by_cases hq : m.q = 0
    · obtain rfl := HQ.out.1 hq
      have HD := Lib.hid (decide_eq_true hq)
      clear hq
      go_wp2_with fail
      refine (qPush1_calls _ m _ ⟨_, _, _, rfl⟩).mono ?_
      rw [HD.out]
      rintro e w' ⟨rfl, hb'⟩
      go_wp2
      go_ret
      exact ⟨rfl, Below.next HB.out hb'⟩
    · have hkn : k ≠ L1.length := fun e => hq (HQ.out.2 e)
      have HD := Lib.hid (decide_eq_false hq)
      clear hq
      go_wp2_with fail
      refine (qPush1_calls _ m _ ⟨_, _, _, rfl⟩).mono ?_
      rw [HD.out]
      rintro e w' ⟨rfl, hb'⟩
      go_wp2
      go_roundw
      case rel => exact ⟨k + 1, by omega, by go_num, Below.next HB.out hb'⟩
      case measure => simp [intOf]; omega

#print axioms sIdx_calls
end Go.Proofs.Yteofjcmpelcmaaa
