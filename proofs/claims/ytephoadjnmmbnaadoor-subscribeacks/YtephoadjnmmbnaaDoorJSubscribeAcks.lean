/-
  An answer to a subscribe or an unsubscribe has the codes that its kind may say, and as many as there are.
  Its conditions: none beside those of the row itself (the two tables of unicode/utf8 start as the library's text lays them: the card ties them).
-/
import Derived.Test.YtephoadjnmmbnaaDoorCards
import Derived.Test.YtephoadjnmmbnaaDoorTie
import Derived.Test.YtephoadjnmmbnaaDoorJSubscribeAcksw
import Derived.Test.YtephoadjnmmbnaaDoorJSubscribeAcksf
import Derived.Test.YtephoadjnmmbnaaDoorJAcs3
import Derived.Test.YtephoadjnmmbnaaDoorJSub7
import Derived.ProofKit
import Derived.Deep.RegionHeld3
import Derived.OpenShut
import Derived.ShutString
import Derived.ChangeOld
import Derived.Deep.DeepHandedRow
import Derived.Deep.DeepWitnessRowRef
import Derived.Lib.LaidU8T
import Derived.Lib.LaidTab
import Derived.Lib.LaidIn
namespace Go.Proofs.YtephoadjnmmbnaaDoor.subscribeAcks
open Go.ChangeShapes Go.WideShapes Go.ChangeAt Go.RowKit Go.Lib
open Go.ChangeMaps (open_string shut_string)
set_option linter.unusedVariables false

set_option linter.unusedSimpArgs false

/-- What lies where ahead of the last statement. -/
structure AcJ (w : World) (ab xb : Nat) (A X : Array Value) (V : World) : Prop where
  a : V.heap[ab]? = some (.cells A 113 (0, 0))
  x : V.heap[xb]? = some (.cells X 113 (0, 0))
  bel : Below w.heap.size w V
theorem AcJ.below {w : World} {ab xb : Nat} {A X : Array Value} {W V : World} (h : AcJ w ab xb A X W) (hb : Below W.heap.size W V) : AcJ w ab xb A X V :=
  ⟨(hb.block _ (lt_of_block h.a)).trans h.a, (hb.block _ (lt_of_block h.x)).trans h.x, h.bel.trans (hb.mono h.bel.size)⟩
theorem AcJ.drew {w : World} {ab xb : Nat} {A X : Array Value} {W : World} (h : AcJ w ab xb A X W) : AcJ w ab xb A X W.drew := ⟨h.a, h.x, h.bel.drew⟩

set_option maxRecDepth 100000 in
set_option maxHeartbeats 4000000 in
theorem walk9 (a1 : Int) (a2 : ByteArray) (w2 : a2.size ≤ maxLen) (w : World) (hT : Tabs w) (n : Int) (hn : IntKind.u32.wrap (1 + IntKind.u32.wrap (a1.tmod 65535)) = n) (hn' : (1 + a1.tmod 65535) % 4294967296 = n) (C : List UInt8) (hC : a2.extract 0 30 = str C) (BODY : ByteArray) (E : Int)
    (hX : ∀ W, Calls Tryd.prog 73 #[.agg #[.int .i64 9, .int .u32 n, .slice none 0 0, .string (str C)]] W (fun e w' => e = .returned (.string BODY) ∧ Below W.heap.size W w'))
    (hcase : (C = [] ∧ E = 3) ∨ (C ≠ [] ∧ E = 2) ∨ (C ≠ [] ∧ E = 0))
    (hP : ∀ W, Tabs W → Calls Tryd.prog 81 #[.int .i64 9, .string BODY] W (fun e w' => ∃ xk xn xs xc xa xb, e = .returned (.tuple #[.agg #[.int .i64 xk, .int .u32 xn, .slice xa xs xb, .string xc], .int .i64 E]) ∧ (E = 0 → xk = 9 ∧ xn = n ∧ xs = 0 ∧ xc = str C) ∧ Below W.heap.size W w'))
    (hR : ∀ W, Calls Tryd.prog 82 #[.int .i64 9, .string BODY] W (fun e w' => ∃ xk xn xs xc xa xb, e = .returned (.tuple #[.agg #[.int .i64 xk, .int .u32 xn, .slice xa xs xb, .string xc], .int .i64 E]) ∧ Below W.heap.size W w')) :
    Calls Tryd.prog 12 #[.bool false, .int .u32 a1, .string a2] w fun e w' => e = .returned (.bool true) ∧ Below w.heap.size w w' := by
  have HT := Lib.hid hT
  have HX := Lib.hid hX
  have HP := Lib.hid hP
  have HR := Lib.hid hR
  have HCASE := Lib.hid hcase
  have HA := Lib.hid (show ∀ W (va : Option Addr) (vc : Nat), Calls Tryd.prog 75 #[.agg #[.int .i64 9, .int .u32 n, .slice va 0 vc, .string (str C)]] W (fun e w' => ∃ p c, e = .returned (.agg #[.int .i64 9, .int .u32 n, .slice p 0 c, .string (str C)]) ∧ Below W.heap.size W w') from fun W va vc => (acks8_calls W ⟨9, n, [], str C⟩ va 0 vc ⟨va, vc, rfl, fun i x hx => by simp at hx⟩ (by show 0 ≤ 1000000; decide)).mono (by
    rintro e w' ⟨a, m, p, rfl, ⟨A', cap, hA, -⟩, hb⟩
    injection hA with e1 e2 e3
    subst e1 e2 e3
    exact ⟨_, _, rfl, hb⟩))
  have HM := Lib.hid (show ∀ W (va : Option Addr) (vc : Nat) (ua : Option Addr) (uc : Nat), Calls Tryd.prog 83 #[.agg #[.int .i64 9, .int .u32 n, .slice va 0 vc, .string (str C)], .agg #[.int .i64 9, .int .u32 n, .slice ua 0 uc, .string (str C)]] W (fun e w' => e = .returned (.bool true) ∧ Below W.heap.size W w') from fun W va vc ua uc => sameAck8_calls W 9 n (str C) va 0 vc ua 0 uc [] ⟨va, vc, rfl, fun i x hx => by simp at hx⟩ ⟨ua, uc, rfl, fun i x hx => by simp at hx⟩ (by decide))
  have hem : (str C).toList.isEmpty = decide (C = []) := by rw [str_list]; cases C <;> simp
  clear hT hX hP hR hcase
  go_enter Tryd.func12, Tryd.ntmps12
  go_wp2_with fail
  refine (cut_calls _ a2 30 w2).mono ?_
  rintro e v3 ⟨rfl, rfl⟩
  rw [hC]
  have ha1 := heap_alloc_new w (.cells #[.int .i64 9, .int .u32 n, .slice none 0 0, .string (str C)] 113)
  have B1 := Lib.hid (below_one w (.cells #[.int .i64 9, .int .u32 n, .slice none 0 0, .string (str C)] 113))
  go_wp2_with fail
  generalize w.alloc (.cells #[.int .i64 9, .int .u32 n, .slice none 0 0, .string (str C)] 113) = W1 at *
  refine (HX.out _).mono ?_
  rintro e W2 ⟨rfl, b2⟩
  have HA2 := Lib.hid ((b2.block _ (lt_of_block ha1)).trans ha1)
  have B2 := Lib.hid (Below.next B1.out b2)
  clear b2 ha1 B1
  go_wp2_with fail
  refine (HP.out _ (HT.out.below B2.out)).mono ?_
  rintro e W3 ⟨xk, xn, xs, xc, xa, xb, rfl, hx0, b3⟩
  have bn := below_one W3 (.cells #[.int .i64 xk, .int .u32 xn, .slice xa xs xb, .string xc] 113)
  have HX0 := Lib.hid hx0
  have HA3 := Lib.hid ((b3.block _ (lt_of_block HA2.out)).trans HA2.out)
  have J := Lib.hid (show AcJ w w.heap.size W3.heap.size #[.int .i64 9, .int .u32 n, .slice none 0 0, .string (str C)] #[.int .i64 xk, .int .u32 xn, .slice xa xs xb, .string xc] (W3.alloc (.cells #[.int .i64 xk, .int .u32 xn, .slice xa xs xb, .string xc] 113)) from ⟨(bn.block _ (lt_of_block HA3.out)).trans HA3.out, heap_alloc_new W3 _, Below.next (Below.next B2.out b3) bn⟩)
  clear b3 bn HA2 HA3 B2 hx0
  go_wp2_with fail
  generalize W3.alloc (.cells #[.int .i64 xk, .int .u32 xn, .slice xa xs xb, .string xc] 113) = W4 at *
  generalize W3.heap.size = xbk at *
  refine (awake8_calls _ (HT.out.below J.out.bel)).mono ?_
  rintro e W5 ⟨rfl, b5⟩
  have J5 := Lib.hid (J.out.below b5)
  clear b5 J
  obtain ⟨⟨a0, a1', a2', a3⟩, -⟩ := four_cells J5.out.a
  have hla := lt_of_block J5.out.a
  go_wp2_with fail
  refine (HX.out _).mono ?_
  rintro e W6 ⟨rfl, b6⟩
  have J6 := Lib.hid (J5.out.below b6)
  clear b6 J5 a0 a1' a2' a3 hla
  go_wp2_with fail
  refine (HR.out _).mono ?_
  rintro e W7 ⟨yk, yn, ys, yc, ya, yb, rfl, b7⟩
  have J7 := Lib.hid ((J6.out.below b7).below (below_one W7 (.cells #[.int .i64 yk, .int .u32 yn, .slice ya ys yb, .string yc] 125)))
  clear b7 J6
  go_upto_region 10 with fail
  generalize W7.alloc (.cells #[.int .i64 yk, .int .u32 yn, .slice ya ys yb, .string yc] 125) = W8 at *
  rcases HCASE.out with ⟨hc, rfl⟩ | ⟨hc, rfl⟩ | ⟨hc, rfl⟩
  · rw [decide_eq_true hc] at hem
    have HB := Lib.hid J7.out.bel.drew
    clear hc HCASE
    refine wp_region_quiet_cls (fun V => Below w.heap.size w V) (by kernel_rfl) (by kernel_rfl) HB.out ?_
    iterate 23
      refine wpQuiet_step (fun K hK => ?_)
      go_simp
      first
        | (refine hK _ ?_; clear hK K)
        | (apply Exists.intro
           refine ⟨fun wx hwx => ?_, hK _ ?_⟩
           · exact rfl
           clear hK K)
    refine wpQuiet_nil ?_
    intro w2 hb2
    have HB2 := Lib.hid hb2
    clear hb2
    go_wp2
    go_ret
    exact ⟨rfl, HB2.out⟩
  · rw [decide_eq_false hc] at hem
    have HB := Lib.hid J7.out.bel.drew
    clear hc HCASE
    refine wp_region_quiet_cls (fun V => Below w.heap.size w V) (by kernel_rfl) (by kernel_rfl) HB.out ?_
    iterate 23
      refine wpQuiet_step (fun K hK => ?_)
      go_simp
      first
        | (refine hK _ ?_; clear hK K)
        | (apply Exists.intro
           refine ⟨fun wx hwx => ?_, hK _ ?_⟩
           · exact rfl
           clear hK K)
    refine wpQuiet_nil ?_
    intro w2 hb2
    have HB2 := Lib.hid hb2
    clear hb2
    go_wp2
    go_ret
    exact ⟨rfl, HB2.out⟩
  · rw [decide_eq_false hc] at hem
    obtain ⟨rfl, rfl, rfl, rfl⟩ := HX0.out rfl
    have JD := Lib.hid J7.out.drew
    clear hc HCASE J7 HX0
    have KC := Lib.hid (show ∀ V, AcJ w w.heap.size xbk #[.int .i64 9, .int .u32 xn, .slice none 0 0, .string (str C)] #[.int .i64 9, .int .u32 xn, .slice xa 0 xb, .string (str C)] V → (V.cell? ⟨w.heap.size, 0, none⟩ = some (.int .i64 9) ∧ V.cell? ⟨w.heap.size, 1, none⟩ = some (.int .u32 xn) ∧ V.cell? ⟨w.heap.size, 2, none⟩ = some (.slice none 0 0) ∧ V.cell? ⟨w.heap.size, 3, none⟩ = some (.string (str C))) ∧ (V.cell? ⟨xbk, 0, none⟩ = some (.int .i64 9) ∧ V.cell? ⟨xbk, 1, none⟩ = some (.int .u32 xn) ∧ V.cell? ⟨xbk, 2, none⟩ = some (.slice xa 0 xb) ∧ V.cell? ⟨xbk, 3, none⟩ = some (.string (str C))) from fun V h => by
      obtain ⟨a, -⟩ := four_cells h.a
      obtain ⟨x, -⟩ := four_cells h.x
      exact ⟨a, x⟩)
    refine wp_region_held_drew (S := fun V => (V.cell? ⟨w.heap.size, 0, none⟩ = some (.int .i64 9) ∧ V.cell? ⟨w.heap.size, 1, none⟩ = some (.int .u32 xn) ∧ V.cell? ⟨w.heap.size, 2, none⟩ = some (.slice none 0 0) ∧ V.cell? ⟨w.heap.size, 3, none⟩ = some (.string (str C))) ∧ (V.cell? ⟨xbk, 0, none⟩ = some (.int .i64 9) ∧ V.cell? ⟨xbk, 1, none⟩ = some (.int .u32 xn) ∧ V.cell? ⟨xbk, 2, none⟩ = some (.slice xa 0 xb) ∧ V.cell? ⟨xbk, 3, none⟩ = some (.string (str C)))) (by kernel_rfl) (KC.out _ JD.out) (fun hHeld => ?_)
    refine wpAnyH_take (i := 0) (oi := _) (v := ?_) rfl (by kernel_rfl) (by kernel_rfl) (by kernel_rfl) (fun _ _ _ h => h) (Or.inl ⟨by rfl, ?_⟩) (by assumption) ?_
    rotate_left
    · intro wx hSw
      obtain ⟨⟨y0, y1, y2, y3⟩, z0, z1, z2, z3⟩ := hSw
      (go_simp) <;> (with_reducible rfl)
    simp only [Act.put, List.getElem_toArray, List.getElem_cons_zero, List.getElem_cons_succ, List.setIfInBounds_toArray, List.set_cons_zero, List.set_cons_succ]
    refine wpAnyH_take (i := 1) (oi := _) (v := ?_) rfl (by kernel_rfl) (by kernel_rfl) (by kernel_rfl) (fun _ _ _ h => h) (Or.inl ⟨by rfl, ?_⟩) (by assumption) ?_
    rotate_left
    · intro wx hSw
      obtain ⟨⟨y0, y1, y2, y3⟩, z0, z1, z2, z3⟩ := hSw
      (go_simp) <;> (with_reducible rfl)
    simp only [Act.put, List.getElem_toArray, List.getElem_cons_zero, List.getElem_cons_succ, List.setIfInBounds_toArray, List.set_cons_zero, List.set_cons_succ]
    refine wpAnyH_take (i := 2) (oi := _) (v := ?_) rfl (by kernel_rfl) (by kernel_rfl) (by kernel_rfl) (fun _ _ _ h => h) (Or.inl ⟨by rfl, ?_⟩) (by assumption) ?_
    rotate_left
    · intro wx hSw
      obtain ⟨⟨y0, y1, y2, y3⟩, z0, z1, z2, z3⟩ := hSw
      (go_simp) <;> (with_reducible rfl)
    simp only [Act.put, List.getElem_toArray, List.getElem_cons_zero, List.getElem_cons_succ, List.setIfInBounds_toArray, List.set_cons_zero, List.set_cons_succ]
    refine wpAnyH_take (i := 3) (oi := _) (v := ?_) rfl (by kernel_rfl) (by kernel_rfl) (by kernel_rfl) (fun _ _ _ h => h) (Or.inl ⟨by rfl, ?_⟩) (by assumption) ?_
    rotate_left
    · intro wx hSw
      obtain ⟨⟨y0, y1, y2, y3⟩, z0, z1, z2, z3⟩ := hSw
      (go_simp) <;> (with_reducible rfl)
    simp only [Act.put, List.getElem_toArray, List.getElem_cons_zero, List.getElem_cons_succ, List.setIfInBounds_toArray, List.set_cons_zero, List.set_cons_succ]
    refine wpAnyH_take (i := 4) (oi := _) (v := ?_) rfl (by kernel_rfl) (by kernel_rfl) (by kernel_rfl) (fun _ _ _ h => h) (Or.inl ⟨by rfl, ?_⟩) (by assumption) ?_
    rotate_left
    · intro wx hSw
      obtain ⟨⟨y0, y1, y2, y3⟩, z0, z1, z2, z3⟩ := hSw
      (go_simp) <;> (with_reducible rfl)
    simp only [Act.put, List.getElem_toArray, List.getElem_cons_zero, List.getElem_cons_succ, List.setIfInBounds_toArray, List.set_cons_zero, List.set_cons_succ]
    refine wpAnyH_take (i := 5) (oi := _) (v := ?_) rfl (by kernel_rfl) (by kernel_rfl) (by kernel_rfl) (fun _ _ _ h => h) (Or.inl ⟨by rfl, ?_⟩) (by assumption) ?_
    rotate_left
    · intro wx hSw
      obtain ⟨⟨y0, y1, y2, y3⟩, z0, z1, z2, z3⟩ := hSw
      (go_simp) <;> (with_reducible rfl)
    simp only [Act.put, List.getElem_toArray, List.getElem_cons_zero, List.getElem_cons_succ, List.setIfInBounds_toArray, List.set_cons_zero, List.set_cons_succ]
    refine wpAnyH_take (i := 6) (oi := _) (v := ?_) rfl (by kernel_rfl) (by kernel_rfl) (by kernel_rfl) (fun _ _ _ h => h) (Or.inl ⟨by rfl, ?_⟩) (by assumption) ?_
    rotate_left
    · intro wx hSw
      obtain ⟨⟨y0, y1, y2, y3⟩, z0, z1, z2, z3⟩ := hSw
      (go_simp) <;> (with_reducible rfl)
    simp only [Act.put, List.getElem_toArray, List.getElem_cons_zero, List.getElem_cons_succ, List.setIfInBounds_toArray, List.set_cons_zero, List.set_cons_succ]
    refine wpAnyH_take (i := 7) (oi := _) (v := ?_) rfl (by kernel_rfl) (by kernel_rfl) (by kernel_rfl) (fun _ _ _ h => h) (Or.inl ⟨by rfl, ?_⟩) (by assumption) ?_
    rotate_left
    · intro wx hSw
      obtain ⟨⟨y0, y1, y2, y3⟩, z0, z1, z2, z3⟩ := hSw
      (go_simp) <;> (with_reducible rfl)
    simp only [Act.put, List.getElem_toArray, List.getElem_cons_zero, List.getElem_cons_succ, List.setIfInBounds_toArray, List.set_cons_zero, List.set_cons_succ]
    refine wpAnyH_take (i := 9) (oi := _) (v := ?_) rfl (by kernel_rfl) (by kernel_rfl) (by kernel_rfl) (fun _ _ _ h => h) (Or.inl ⟨by rfl, ?_⟩) (by assumption) ?_
    rotate_left
    · intro wx hSw
      obtain ⟨⟨y0, y1, y2, y3⟩, z0, z1, z2, z3⟩ := hSw
      (go_simp) <;> (with_reducible rfl)
    simp only [Act.put, List.getElem_toArray, List.getElem_cons_zero, List.getElem_cons_succ, List.setIfInBounds_toArray, List.set_cons_zero, List.set_cons_succ]
    refine wpAnyH_ready (rs := [8]) (by kernel_rfl) (by simp) ?_
    refine AllReadyH.cons (o := _) rfl (fun K hK => ?_) AllReadyH.nil
    simp only [Act.put, List.getElem_toArray, List.getElem_cons_zero, List.getElem_cons_succ, List.setIfInBounds_toArray, List.set_cons_zero, List.set_cons_succ]
    go_simp
    refine (HA.out _ _ _).mono ?_
    rintro e V1 ⟨p1, c1, rfl, b⟩
    go_simp
    have JD := Lib.hid (JD.out.below b)
    refine hK.out _ _ (KC.out _ JD.out) (fun hHeld => ?_)
    clear hK K b
    (try simp only [Act.put, List.getElem_toArray, List.getElem_cons_zero, List.getElem_cons_succ, List.setIfInBounds_toArray, List.set_cons_zero, List.set_cons_succ])
    refine wpAnyH_ready (rs := [10]) (by kernel_rfl) (by simp) ?_
    refine AllReadyH.cons (o := _) rfl (fun K hK => ?_) AllReadyH.nil
    simp only [Act.put, List.getElem_toArray, List.getElem_cons_zero, List.getElem_cons_succ, List.setIfInBounds_toArray, List.set_cons_zero, List.set_cons_succ]
    go_simp
    refine (HA.out _ _ _).mono ?_
    rintro e V2 ⟨p2, c2, rfl, b⟩
    go_simp
    have JD := Lib.hid (JD.out.below b)
    refine hK.out _ _ (KC.out _ JD.out) (fun hHeld => ?_)
    clear hK K b
    (try simp only [Act.put, List.getElem_toArray, List.getElem_cons_zero, List.getElem_cons_succ, List.setIfInBounds_toArray, List.set_cons_zero, List.set_cons_succ])
    refine wpAnyH_ready (rs := [11]) (by kernel_rfl) (by simp) ?_
    refine AllReadyH.cons (o := _) rfl (fun K hK => ?_) AllReadyH.nil
    simp only [Act.put, List.getElem_toArray, List.getElem_cons_zero, List.getElem_cons_succ, List.setIfInBounds_toArray, List.set_cons_zero, List.set_cons_succ]
    go_simp
    refine (HM.out _ _ _ _ _).mono ?_
    rintro e V3 ⟨rfl, b⟩
    go_simp
    have JD := Lib.hid (JD.out.below b)
    refine hK.out _ _ (KC.out _ JD.out) (fun hHeld => ?_)
    clear hK K b
    (try simp only [Act.put, List.getElem_toArray, List.getElem_cons_zero, List.getElem_cons_succ, List.setIfInBounds_toArray, List.set_cons_zero, List.set_cons_succ])
    refine wpAnyH_take (i := 12) (oi := _) (v := ?_) rfl (by kernel_rfl) (by kernel_rfl) (by kernel_rfl) (fun _ _ _ h => h) (Or.inl ⟨by rfl, ?_⟩) (by assumption) ?_
    rotate_left
    · intro wx hSw
      obtain ⟨⟨y0, y1, y2, y3⟩, z0, z1, z2, z3⟩ := hSw
      (go_simp) <;> (with_reducible rfl)
    simp only [Act.put, List.getElem_toArray, List.getElem_cons_zero, List.getElem_cons_succ, List.setIfInBounds_toArray, List.set_cons_zero, List.set_cons_succ]
    refine wpAnyH_take (i := 13) (oi := _) (v := ?_) rfl (by kernel_rfl) (by kernel_rfl) (by kernel_rfl) (fun _ _ _ h => h) (Or.inl ⟨by rfl, ?_⟩) (by assumption) ?_
    rotate_left
    · intro wx hSw
      obtain ⟨⟨y0, y1, y2, y3⟩, z0, z1, z2, z3⟩ := hSw
      (go_simp) <;> (with_reducible rfl)
    simp only [Act.put, List.getElem_toArray, List.getElem_cons_zero, List.getElem_cons_succ, List.setIfInBounds_toArray, List.set_cons_zero, List.set_cons_succ]
    refine wpAnyH_take (i := 14) (oi := _) (v := ?_) rfl (by kernel_rfl) (by kernel_rfl) (by kernel_rfl) (fun _ _ _ h => h) (Or.inl ⟨by rfl, ?_⟩) (by assumption) ?_
    rotate_left
    · intro wx hSw
      obtain ⟨⟨y0, y1, y2, y3⟩, z0, z1, z2, z3⟩ := hSw
      (go_simp) <;> (with_reducible rfl)
    simp only [Act.put, List.getElem_toArray, List.getElem_cons_zero, List.getElem_cons_succ, List.setIfInBounds_toArray, List.set_cons_zero, List.set_cons_succ]
    refine wpAnyH_take (i := 15) (oi := _) (v := ?_) rfl (by kernel_rfl) (by kernel_rfl) (by kernel_rfl) (fun _ _ _ h => h) (Or.inl ⟨by rfl, ?_⟩) (by assumption) ?_
    rotate_left
    · intro wx hSw
      obtain ⟨⟨y0, y1, y2, y3⟩, z0, z1, z2, z3⟩ := hSw
      (go_simp) <;> (with_reducible rfl)
    simp only [Act.put, List.getElem_toArray, List.getElem_cons_zero, List.getElem_cons_succ, List.setIfInBounds_toArray, List.set_cons_zero, List.set_cons_succ]
    refine wpAnyH_take (i := 16) (oi := _) (v := ?_) rfl (by kernel_rfl) (by kernel_rfl) (by kernel_rfl) (fun _ _ _ h => h) (Or.inl ⟨by rfl, ?_⟩) (by assumption) ?_
    rotate_left
    · intro wx hSw
      obtain ⟨⟨y0, y1, y2, y3⟩, z0, z1, z2, z3⟩ := hSw
      (go_simp) <;> (with_reducible rfl)
    simp only [Act.put, List.getElem_toArray, List.getElem_cons_zero, List.getElem_cons_succ, List.setIfInBounds_toArray, List.set_cons_zero, List.set_cons_succ]
    refine wpAnyH_take (i := 17) (oi := _) (v := ?_) rfl (by kernel_rfl) (by kernel_rfl) (by kernel_rfl) (fun _ _ _ h => h) (Or.inl ⟨by rfl, ?_⟩) (by assumption) ?_
    rotate_left
    · intro wx hSw
      obtain ⟨⟨y0, y1, y2, y3⟩, z0, z1, z2, z3⟩ := hSw
      (go_simp) <;> (with_reducible rfl)
    simp only [Act.put, List.getElem_toArray, List.getElem_cons_zero, List.getElem_cons_succ, List.setIfInBounds_toArray, List.set_cons_zero, List.set_cons_succ]
    refine wpAnyH_take (i := 18) (oi := _) (v := undef) rfl (by kernel_rfl) (by kernel_rfl) (by kernel_rfl) (fun _ _ _ h => h) (Or.inr ⟨by rfl, rfl⟩) (by assumption) ?_
    simp only [Act.put, List.getElem_toArray, List.getElem_cons_zero, List.getElem_cons_succ, List.setIfInBounds_toArray, List.set_cons_zero, List.set_cons_succ]
    refine wpAnyH_take (i := 19) (oi := _) (v := undef) rfl (by kernel_rfl) (by kernel_rfl) (by kernel_rfl) (fun _ _ _ h => h) (Or.inr ⟨by rfl, rfl⟩) (by assumption) ?_
    simp only [Act.put, List.getElem_toArray, List.getElem_cons_zero, List.getElem_cons_succ, List.setIfInBounds_toArray, List.set_cons_zero, List.set_cons_succ]
    refine wpAnyH_take (i := 20) (oi := _) (v := ?_) rfl (by kernel_rfl) (by kernel_rfl) (by kernel_rfl) (fun _ _ _ h => h) (Or.inl ⟨by rfl, ?_⟩) (by assumption) ?_
    rotate_left
    · intro wx hSw
      obtain ⟨⟨y0, y1, y2, y3⟩, z0, z1, z2, z3⟩ := hSw
      (go_simp) <;> (with_reducible rfl)
    simp only [Act.put, List.getElem_toArray, List.getElem_cons_zero, List.getElem_cons_succ, List.setIfInBounds_toArray, List.set_cons_zero, List.set_cons_succ]
    refine wpAnyH_take (i := 21) (oi := _) (v := ?_) rfl (by kernel_rfl) (by kernel_rfl) (by kernel_rfl) (fun _ _ _ h => h) (Or.inl ⟨by rfl, ?_⟩) (by assumption) ?_
    rotate_left
    · intro wx hSw
      obtain ⟨⟨y0, y1, y2, y3⟩, z0, z1, z2, z3⟩ := hSw
      (go_simp) <;> (with_reducible rfl)
    simp only [Act.put, List.getElem_toArray, List.getElem_cons_zero, List.getElem_cons_succ, List.setIfInBounds_toArray, List.set_cons_zero, List.set_cons_succ]
    refine wpAnyH_take (i := 22) (oi := _) (v := ?_) rfl (by kernel_rfl) (by kernel_rfl) (by kernel_rfl) (fun _ _ _ h => h) (Or.inl ⟨by rfl, ?_⟩) (by assumption) ?_
    rotate_left
    · intro wx hSw
      obtain ⟨⟨y0, y1, y2, y3⟩, z0, z1, z2, z3⟩ := hSw
      (go_simp) <;> (with_reducible rfl)
    simp only [Act.put, List.getElem_toArray, List.getElem_cons_zero, List.getElem_cons_succ, List.setIfInBounds_toArray, List.set_cons_zero, List.set_cons_succ]
    refine wpAnyH_done (by kernel_rfl) ?_ _
    all_goals
      go_wp2
      go_ret
      exact ⟨rfl, JD.out.bel⟩

set_option maxRecDepth 100000 in
set_option maxHeartbeats 4000000 in
theorem walk11 (a1 : Int) (a2 : ByteArray) (w2 : a2.size ≤ maxLen) (w : World) (hT : Tabs w) (n : Int) (hn : IntKind.u32.wrap (1 + IntKind.u32.wrap (a1.tmod 65535)) = n) (hn' : (1 + a1.tmod 65535) % 4294967296 = n) (C : List UInt8) (hC : a2.extract 0 30 = str C) (BODY : ByteArray) (E : Int)
    (hX : ∀ W, Calls Tryd.prog 73 #[.agg #[.int .i64 11, .int .u32 n, .slice none 0 0, .string (str C)]] W (fun e w' => e = .returned (.string BODY) ∧ Below W.heap.size W w'))
    (hcase : (C = [] ∧ E = 3) ∨ (C ≠ [] ∧ E = 2) ∨ (C ≠ [] ∧ E = 0))
    (hP : ∀ W, Tabs W → Calls Tryd.prog 81 #[.int .i64 11, .string BODY] W (fun e w' => ∃ xk xn xs xc xa xb, e = .returned (.tuple #[.agg #[.int .i64 xk, .int .u32 xn, .slice xa xs xb, .string xc], .int .i64 E]) ∧ (E = 0 → xk = 11 ∧ xn = n ∧ xs = 0 ∧ xc = str C) ∧ Below W.heap.size W w'))
    (hR : ∀ W, Calls Tryd.prog 82 #[.int .i64 11, .string BODY] W (fun e w' => ∃ xk xn xs xc xa xb, e = .returned (.tuple #[.agg #[.int .i64 xk, .int .u32 xn, .slice xa xs xb, .string xc], .int .i64 E]) ∧ Below W.heap.size W w')) :
    Calls Tryd.prog 12 #[.bool true, .int .u32 a1, .string a2] w fun e w' => e = .returned (.bool true) ∧ Below w.heap.size w w' := by
  have HT := Lib.hid hT
  have HX := Lib.hid hX
  have HP := Lib.hid hP
  have HR := Lib.hid hR
  have HCASE := Lib.hid hcase
  have HA := Lib.hid (show ∀ W (va : Option Addr) (vc : Nat), Calls Tryd.prog 75 #[.agg #[.int .i64 11, .int .u32 n, .slice va 0 vc, .string (str C)]] W (fun e w' => ∃ p c, e = .returned (.agg #[.int .i64 11, .int .u32 n, .slice p 0 c, .string (str C)]) ∧ Below W.heap.size W w') from fun W va vc => (acks8_calls W ⟨11, n, [], str C⟩ va 0 vc ⟨va, vc, rfl, fun i x hx => by simp at hx⟩ (by show 0 ≤ 1000000; decide)).mono (by
    rintro e w' ⟨a, m, p, rfl, ⟨A', cap, hA, -⟩, hb⟩
    injection hA with e1 e2 e3
    subst e1 e2 e3
    exact ⟨_, _, rfl, hb⟩))
  have HM := Lib.hid (show ∀ W (va : Option Addr) (vc : Nat) (ua : Option Addr) (uc : Nat), Calls Tryd.prog 83 #[.agg #[.int .i64 11, .int .u32 n, .slice va 0 vc, .string (str C)], .agg #[.int .i64 11, .int .u32 n, .slice ua 0 uc, .string (str C)]] W (fun e w' => e = .returned (.bool true) ∧ Below W.heap.size W w') from fun W va vc ua uc => sameAck8_calls W 11 n (str C) va 0 vc ua 0 uc [] ⟨va, vc, rfl, fun i x hx => by simp at hx⟩ ⟨ua, uc, rfl, fun i x hx => by simp at hx⟩ (by decide))
  have hem : (str C).toList.isEmpty = decide (C = []) := by rw [str_list]; cases C <;> simp
  clear hT hX hP hR hcase
  go_enter Tryd.func12, Tryd.ntmps12
  go_wp2_with fail
  refine (cut_calls _ a2 30 w2).mono ?_
  rintro e v3 ⟨rfl, rfl⟩
  rw [hC]
  have ha1 := heap_alloc_new w (.cells #[.int .i64 11, .int .u32 n, .slice none 0 0, .string (str C)] 113)
  have B1 := Lib.hid (below_one w (.cells #[.int .i64 11, .int .u32 n, .slice none 0 0, .string (str C)] 113))
  go_wp2_with fail
  generalize w.alloc (.cells #[.int .i64 11, .int .u32 n, .slice none 0 0, .string (str C)] 113) = W1 at *
  refine (HX.out _).mono ?_
  rintro e W2 ⟨rfl, b2⟩
  have HA2 := Lib.hid ((b2.block _ (lt_of_block ha1)).trans ha1)
  have B2 := Lib.hid (Below.next B1.out b2)
  clear b2 ha1 B1
  go_wp2_with fail
  refine (HP.out _ (HT.out.below B2.out)).mono ?_
  rintro e W3 ⟨xk, xn, xs, xc, xa, xb, rfl, hx0, b3⟩
  have bn := below_one W3 (.cells #[.int .i64 xk, .int .u32 xn, .slice xa xs xb, .string xc] 113)
  have HX0 := Lib.hid hx0
  have HA3 := Lib.hid ((b3.block _ (lt_of_block HA2.out)).trans HA2.out)
  have J := Lib.hid (show AcJ w w.heap.size W3.heap.size #[.int .i64 11, .int .u32 n, .slice none 0 0, .string (str C)] #[.int .i64 xk, .int .u32 xn, .slice xa xs xb, .string xc] (W3.alloc (.cells #[.int .i64 xk, .int .u32 xn, .slice xa xs xb, .string xc] 113)) from ⟨(bn.block _ (lt_of_block HA3.out)).trans HA3.out, heap_alloc_new W3 _, Below.next (Below.next B2.out b3) bn⟩)
  clear b3 bn HA2 HA3 B2 hx0
  go_wp2_with fail
  generalize W3.alloc (.cells #[.int .i64 xk, .int .u32 xn, .slice xa xs xb, .string xc] 113) = W4 at *
  generalize W3.heap.size = xbk at *
  refine (awake8_calls _ (HT.out.below J.out.bel)).mono ?_
  rintro e W5 ⟨rfl, b5⟩
  have J5 := Lib.hid (J.out.below b5)
  clear b5 J
  obtain ⟨⟨a0, a1', a2', a3⟩, -⟩ := four_cells J5.out.a
  have hla := lt_of_block J5.out.a
  go_wp2_with fail
  refine (HX.out _).mono ?_
  rintro e W6 ⟨rfl, b6⟩
  have J6 := Lib.hid (J5.out.below b6)
  clear b6 J5 a0 a1' a2' a3 hla
  go_wp2_with fail
  refine (HR.out _).mono ?_
  rintro e W7 ⟨yk, yn, ys, yc, ya, yb, rfl, b7⟩
  have J7 := Lib.hid ((J6.out.below b7).below (below_one W7 (.cells #[.int .i64 yk, .int .u32 yn, .slice ya ys yb, .string yc] 125)))
  clear b7 J6
  go_upto_region 10 with fail
  generalize W7.alloc (.cells #[.int .i64 yk, .int .u32 yn, .slice ya ys yb, .string yc] 125) = W8 at *
  rcases HCASE.out with ⟨hc, rfl⟩ | ⟨hc, rfl⟩ | ⟨hc, rfl⟩
  · rw [decide_eq_true hc] at hem
    have HB := Lib.hid J7.out.bel.drew
    clear hc HCASE
    refine wp_region_quiet_cls (fun V => Below w.heap.size w V) (by kernel_rfl) (by kernel_rfl) HB.out ?_
    iterate 23
      refine wpQuiet_step (fun K hK => ?_)
      go_simp
      first
        | (refine hK _ ?_; clear hK K)
        | (apply Exists.intro
           refine ⟨fun wx hwx => ?_, hK _ ?_⟩
           · exact rfl
           clear hK K)
    refine wpQuiet_nil ?_
    intro w2 hb2
    have HB2 := Lib.hid hb2
    clear hb2
    go_wp2
    go_ret
    exact ⟨rfl, HB2.out⟩
  · rw [decide_eq_false hc] at hem
    have HB := Lib.hid J7.out.bel.drew
    clear hc HCASE
    refine wp_region_quiet_cls (fun V => Below w.heap.size w V) (by kernel_rfl) (by kernel_rfl) HB.out ?_
    iterate 23
      refine wpQuiet_step (fun K hK => ?_)
      go_simp
      first
        | (refine hK _ ?_; clear hK K)
        | (apply Exists.intro
           refine ⟨fun wx hwx => ?_, hK _ ?_⟩
           · exact rfl
           clear hK K)
    refine wpQuiet_nil ?_
    intro w2 hb2
    have HB2 := Lib.hid hb2
    clear hb2
    go_wp2
    go_ret
    exact ⟨rfl, HB2.out⟩
  · rw [decide_eq_false hc] at hem
    obtain ⟨rfl, rfl, rfl, rfl⟩ := HX0.out rfl
    have JD := Lib.hid J7.out.drew
    clear hc HCASE J7 HX0
    have KC := Lib.hid (show ∀ V, AcJ w w.heap.size xbk #[.int .i64 11, .int .u32 xn, .slice none 0 0, .string (str C)] #[.int .i64 11, .int .u32 xn, .slice xa 0 xb, .string (str C)] V → (V.cell? ⟨w.heap.size, 0, none⟩ = some (.int .i64 11) ∧ V.cell? ⟨w.heap.size, 1, none⟩ = some (.int .u32 xn) ∧ V.cell? ⟨w.heap.size, 2, none⟩ = some (.slice none 0 0) ∧ V.cell? ⟨w.heap.size, 3, none⟩ = some (.string (str C))) ∧ (V.cell? ⟨xbk, 0, none⟩ = some (.int .i64 11) ∧ V.cell? ⟨xbk, 1, none⟩ = some (.int .u32 xn) ∧ V.cell? ⟨xbk, 2, none⟩ = some (.slice xa 0 xb) ∧ V.cell? ⟨xbk, 3, none⟩ = some (.string (str C))) from fun V h => by
      obtain ⟨a, -⟩ := four_cells h.a
      obtain ⟨x, -⟩ := four_cells h.x
      exact ⟨a, x⟩)
    refine wp_region_held_drew (S := fun V => (V.cell? ⟨w.heap.size, 0, none⟩ = some (.int .i64 11) ∧ V.cell? ⟨w.heap.size, 1, none⟩ = some (.int .u32 xn) ∧ V.cell? ⟨w.heap.size, 2, none⟩ = some (.slice none 0 0) ∧ V.cell? ⟨w.heap.size, 3, none⟩ = some (.string (str C))) ∧ (V.cell? ⟨xbk, 0, none⟩ = some (.int .i64 11) ∧ V.cell? ⟨xbk, 1, none⟩ = some (.int .u32 xn) ∧ V.cell? ⟨xbk, 2, none⟩ = some (.slice xa 0 xb) ∧ V.cell? ⟨xbk, 3, none⟩ = some (.string (str C)))) (by kernel_rfl) (KC.out _ JD.out) (fun hHeld => ?_)
    refine wpAnyH_take (i := 0) (oi := _) (v := ?_) rfl (by kernel_rfl) (by kernel_rfl) (by kernel_rfl) (fun _ _ _ h => h) (Or.inl ⟨by rfl, ?_⟩) (by assumption) ?_
    rotate_left
    · intro wx hSw
      obtain ⟨⟨y0, y1, y2, y3⟩, z0, z1, z2, z3⟩ := hSw
      (go_simp) <;> (with_reducible rfl)
    simp only [Act.put, List.getElem_toArray, List.getElem_cons_zero, List.getElem_cons_succ, List.setIfInBounds_toArray, List.set_cons_zero, List.set_cons_succ]
    refine wpAnyH_take (i := 1) (oi := _) (v := ?_) rfl (by kernel_rfl) (by kernel_rfl) (by kernel_rfl) (fun _ _ _ h => h) (Or.inl ⟨by rfl, ?_⟩) (by assumption) ?_
    rotate_left
    · intro wx hSw
      obtain ⟨⟨y0, y1, y2, y3⟩, z0, z1, z2, z3⟩ := hSw
      (go_simp) <;> (with_reducible rfl)
    simp only [Act.put, List.getElem_toArray, List.getElem_cons_zero, List.getElem_cons_succ, List.setIfInBounds_toArray, List.set_cons_zero, List.set_cons_succ]
    refine wpAnyH_take (i := 2) (oi := _) (v := ?_) rfl (by kernel_rfl) (by kernel_rfl) (by kernel_rfl) (fun _ _ _ h => h) (Or.inl ⟨by rfl, ?_⟩) (by assumption) ?_
    rotate_left
    · intro wx hSw
      obtain ⟨⟨y0, y1, y2, y3⟩, z0, z1, z2, z3⟩ := hSw
      (go_simp) <;> (with_reducible rfl)
    simp only [Act.put, List.getElem_toArray, List.getElem_cons_zero, List.getElem_cons_succ, List.setIfInBounds_toArray, List.set_cons_zero, List.set_cons_succ]
    refine wpAnyH_take (i := 3) (oi := _) (v := ?_) rfl (by kernel_rfl) (by kernel_rfl) (by kernel_rfl) (fun _ _ _ h => h) (Or.inl ⟨by rfl, ?_⟩) (by assumption) ?_
    rotate_left
    · intro wx hSw
      obtain ⟨⟨y0, y1, y2, y3⟩, z0, z1, z2, z3⟩ := hSw
      (go_simp) <;> (with_reducible rfl)
    simp only [Act.put, List.getElem_toArray, List.getElem_cons_zero, List.getElem_cons_succ, List.setIfInBounds_toArray, List.set_cons_zero, List.set_cons_succ]
    refine wpAnyH_take (i := 4) (oi := _) (v := ?_) rfl (by kernel_rfl) (by kernel_rfl) (by kernel_rfl) (fun _ _ _ h => h) (Or.inl ⟨by rfl, ?_⟩) (by assumption) ?_
    rotate_left
    · intro wx hSw
      obtain ⟨⟨y0, y1, y2, y3⟩, z0, z1, z2, z3⟩ := hSw
      (go_simp) <;> (with_reducible rfl)
    simp only [Act.put, List.getElem_toArray, List.getElem_cons_zero, List.getElem_cons_succ, List.setIfInBounds_toArray, List.set_cons_zero, List.set_cons_succ]
    refine wpAnyH_take (i := 5) (oi := _) (v := ?_) rfl (by kernel_rfl) (by kernel_rfl) (by kernel_rfl) (fun _ _ _ h => h) (Or.inl ⟨by rfl, ?_⟩) (by assumption) ?_
    rotate_left
    · intro wx hSw
      obtain ⟨⟨y0, y1, y2, y3⟩, z0, z1, z2, z3⟩ := hSw
      (go_simp) <;> (with_reducible rfl)
    simp only [Act.put, List.getElem_toArray, List.getElem_cons_zero, List.getElem_cons_succ, List.setIfInBounds_toArray, List.set_cons_zero, List.set_cons_succ]
    refine wpAnyH_take (i := 6) (oi := _) (v := ?_) rfl (by kernel_rfl) (by kernel_rfl) (by kernel_rfl) (fun _ _ _ h => h) (Or.inl ⟨by rfl, ?_⟩) (by assumption) ?_
    rotate_left
    · intro wx hSw
      obtain ⟨⟨y0, y1, y2, y3⟩, z0, z1, z2, z3⟩ := hSw
      (go_simp) <;> (with_reducible rfl)
    simp only [Act.put, List.getElem_toArray, List.getElem_cons_zero, List.getElem_cons_succ, List.setIfInBounds_toArray, List.set_cons_zero, List.set_cons_succ]
    refine wpAnyH_take (i := 7) (oi := _) (v := ?_) rfl (by kernel_rfl) (by kernel_rfl) (by kernel_rfl) (fun _ _ _ h => h) (Or.inl ⟨by rfl, ?_⟩) (by assumption) ?_
    rotate_left
    · intro wx hSw
      obtain ⟨⟨y0, y1, y2, y3⟩, z0, z1, z2, z3⟩ := hSw
      (go_simp) <;> (with_reducible rfl)
    simp only [Act.put, List.getElem_toArray, List.getElem_cons_zero, List.getElem_cons_succ, List.setIfInBounds_toArray, List.set_cons_zero, List.set_cons_succ]
    refine wpAnyH_take (i := 9) (oi := _) (v := ?_) rfl (by kernel_rfl) (by kernel_rfl) (by kernel_rfl) (fun _ _ _ h => h) (Or.inl ⟨by rfl, ?_⟩) (by assumption) ?_
    rotate_left
    · intro wx hSw
      obtain ⟨⟨y0, y1, y2, y3⟩, z0, z1, z2, z3⟩ := hSw
      (go_simp) <;> (with_reducible rfl)
    simp only [Act.put, List.getElem_toArray, List.getElem_cons_zero, List.getElem_cons_succ, List.setIfInBounds_toArray, List.set_cons_zero, List.set_cons_succ]
    refine wpAnyH_ready (rs := [8]) (by kernel_rfl) (by simp) ?_
    refine AllReadyH.cons (o := _) rfl (fun K hK => ?_) AllReadyH.nil
    simp only [Act.put, List.getElem_toArray, List.getElem_cons_zero, List.getElem_cons_succ, List.setIfInBounds_toArray, List.set_cons_zero, List.set_cons_succ]
    go_simp
    refine (HA.out _ _ _).mono ?_
    rintro e V1 ⟨p1, c1, rfl, b⟩
    go_simp
    have JD := Lib.hid (JD.out.below b)
    refine hK.out _ _ (KC.out _ JD.out) (fun hHeld => ?_)
    clear hK K b
    (try simp only [Act.put, List.getElem_toArray, List.getElem_cons_zero, List.getElem_cons_succ, List.setIfInBounds_toArray, List.set_cons_zero, List.set_cons_succ])
    refine wpAnyH_ready (rs := [10]) (by kernel_rfl) (by simp) ?_
    refine AllReadyH.cons (o := _) rfl (fun K hK => ?_) AllReadyH.nil
    simp only [Act.put, List.getElem_toArray, List.getElem_cons_zero, List.getElem_cons_succ, List.setIfInBounds_toArray, List.set_cons_zero, List.set_cons_succ]
    go_simp
    refine (HA.out _ _ _).mono ?_
    rintro e V2 ⟨p2, c2, rfl, b⟩
    go_simp
    have JD := Lib.hid (JD.out.below b)
    refine hK.out _ _ (KC.out _ JD.out) (fun hHeld => ?_)
    clear hK K b
    (try simp only [Act.put, List.getElem_toArray, List.getElem_cons_zero, List.getElem_cons_succ, List.setIfInBounds_toArray, List.set_cons_zero, List.set_cons_succ])
    refine wpAnyH_ready (rs := [11]) (by kernel_rfl) (by simp) ?_
    refine AllReadyH.cons (o := _) rfl (fun K hK => ?_) AllReadyH.nil
    simp only [Act.put, List.getElem_toArray, List.getElem_cons_zero, List.getElem_cons_succ, List.setIfInBounds_toArray, List.set_cons_zero, List.set_cons_succ]
    go_simp
    refine (HM.out _ _ _ _ _).mono ?_
    rintro e V3 ⟨rfl, b⟩
    go_simp
    have JD := Lib.hid (JD.out.below b)
    refine hK.out _ _ (KC.out _ JD.out) (fun hHeld => ?_)
    clear hK K b
    (try simp only [Act.put, List.getElem_toArray, List.getElem_cons_zero, List.getElem_cons_succ, List.setIfInBounds_toArray, List.set_cons_zero, List.set_cons_succ])
    refine wpAnyH_take (i := 12) (oi := _) (v := ?_) rfl (by kernel_rfl) (by kernel_rfl) (by kernel_rfl) (fun _ _ _ h => h) (Or.inl ⟨by rfl, ?_⟩) (by assumption) ?_
    rotate_left
    · intro wx hSw
      obtain ⟨⟨y0, y1, y2, y3⟩, z0, z1, z2, z3⟩ := hSw
      (go_simp) <;> (with_reducible rfl)
    simp only [Act.put, List.getElem_toArray, List.getElem_cons_zero, List.getElem_cons_succ, List.setIfInBounds_toArray, List.set_cons_zero, List.set_cons_succ]
    refine wpAnyH_take (i := 13) (oi := _) (v := ?_) rfl (by kernel_rfl) (by kernel_rfl) (by kernel_rfl) (fun _ _ _ h => h) (Or.inl ⟨by rfl, ?_⟩) (by assumption) ?_
    rotate_left
    · intro wx hSw
      obtain ⟨⟨y0, y1, y2, y3⟩, z0, z1, z2, z3⟩ := hSw
      (go_simp) <;> (with_reducible rfl)
    simp only [Act.put, List.getElem_toArray, List.getElem_cons_zero, List.getElem_cons_succ, List.setIfInBounds_toArray, List.set_cons_zero, List.set_cons_succ]
    refine wpAnyH_take (i := 14) (oi := _) (v := ?_) rfl (by kernel_rfl) (by kernel_rfl) (by kernel_rfl) (fun _ _ _ h => h) (Or.inl ⟨by rfl, ?_⟩) (by assumption) ?_
    rotate_left
    · intro wx hSw
      obtain ⟨⟨y0, y1, y2, y3⟩, z0, z1, z2, z3⟩ := hSw
      (go_simp) <;> (with_reducible rfl)
    simp only [Act.put, List.getElem_toArray, List.getElem_cons_zero, List.getElem_cons_succ, List.setIfInBounds_toArray, List.set_cons_zero, List.set_cons_succ]
    refine wpAnyH_take (i := 15) (oi := _) (v := ?_) rfl (by kernel_rfl) (by kernel_rfl) (by kernel_rfl) (fun _ _ _ h => h) (Or.inl ⟨by rfl, ?_⟩) (by assumption) ?_
    rotate_left
    · intro wx hSw
      obtain ⟨⟨y0, y1, y2, y3⟩, z0, z1, z2, z3⟩ := hSw
      (go_simp) <;> (with_reducible rfl)
    simp only [Act.put, List.getElem_toArray, List.getElem_cons_zero, List.getElem_cons_succ, List.setIfInBounds_toArray, List.set_cons_zero, List.set_cons_succ]
    refine wpAnyH_take (i := 16) (oi := _) (v := ?_) rfl (by kernel_rfl) (by kernel_rfl) (by kernel_rfl) (fun _ _ _ h => h) (Or.inl ⟨by rfl, ?_⟩) (by assumption) ?_
    rotate_left
    · intro wx hSw
      obtain ⟨⟨y0, y1, y2, y3⟩, z0, z1, z2, z3⟩ := hSw
      (go_simp) <;> (with_reducible rfl)
    simp only [Act.put, List.getElem_toArray, List.getElem_cons_zero, List.getElem_cons_succ, List.setIfInBounds_toArray, List.set_cons_zero, List.set_cons_succ]
    refine wpAnyH_take (i := 17) (oi := _) (v := ?_) rfl (by kernel_rfl) (by kernel_rfl) (by kernel_rfl) (fun _ _ _ h => h) (Or.inl ⟨by rfl, ?_⟩) (by assumption) ?_
    rotate_left
    · intro wx hSw
      obtain ⟨⟨y0, y1, y2, y3⟩, z0, z1, z2, z3⟩ := hSw
      (go_simp) <;> (with_reducible rfl)
    simp only [Act.put, List.getElem_toArray, List.getElem_cons_zero, List.getElem_cons_succ, List.setIfInBounds_toArray, List.set_cons_zero, List.set_cons_succ]
    refine wpAnyH_take (i := 18) (oi := _) (v := undef) rfl (by kernel_rfl) (by kernel_rfl) (by kernel_rfl) (fun _ _ _ h => h) (Or.inr ⟨by rfl, rfl⟩) (by assumption) ?_
    simp only [Act.put, List.getElem_toArray, List.getElem_cons_zero, List.getElem_cons_succ, List.setIfInBounds_toArray, List.set_cons_zero, List.set_cons_succ]
    refine wpAnyH_take (i := 19) (oi := _) (v := undef) rfl (by kernel_rfl) (by kernel_rfl) (by kernel_rfl) (fun _ _ _ h => h) (Or.inr ⟨by rfl, rfl⟩) (by assumption) ?_
    simp only [Act.put, List.getElem_toArray, List.getElem_cons_zero, List.getElem_cons_succ, List.setIfInBounds_toArray, List.set_cons_zero, List.set_cons_succ]
    refine wpAnyH_take (i := 20) (oi := _) (v := ?_) rfl (by kernel_rfl) (by kernel_rfl) (by kernel_rfl) (fun _ _ _ h => h) (Or.inl ⟨by rfl, ?_⟩) (by assumption) ?_
    rotate_left
    · intro wx hSw
      obtain ⟨⟨y0, y1, y2, y3⟩, z0, z1, z2, z3⟩ := hSw
      (go_simp) <;> (with_reducible rfl)
    simp only [Act.put, List.getElem_toArray, List.getElem_cons_zero, List.getElem_cons_succ, List.setIfInBounds_toArray, List.set_cons_zero, List.set_cons_succ]
    refine wpAnyH_take (i := 21) (oi := _) (v := ?_) rfl (by kernel_rfl) (by kernel_rfl) (by kernel_rfl) (fun _ _ _ h => h) (Or.inl ⟨by rfl, ?_⟩) (by assumption) ?_
    rotate_left
    · intro wx hSw
      obtain ⟨⟨y0, y1, y2, y3⟩, z0, z1, z2, z3⟩ := hSw
      (go_simp) <;> (with_reducible rfl)
    simp only [Act.put, List.getElem_toArray, List.getElem_cons_zero, List.getElem_cons_succ, List.setIfInBounds_toArray, List.set_cons_zero, List.set_cons_succ]
    refine wpAnyH_take (i := 22) (oi := _) (v := ?_) rfl (by kernel_rfl) (by kernel_rfl) (by kernel_rfl) (fun _ _ _ h => h) (Or.inl ⟨by rfl, ?_⟩) (by assumption) ?_
    rotate_left
    · intro wx hSw
      obtain ⟨⟨y0, y1, y2, y3⟩, z0, z1, z2, z3⟩ := hSw
      (go_simp) <;> (with_reducible rfl)
    simp only [Act.put, List.getElem_toArray, List.getElem_cons_zero, List.getElem_cons_succ, List.setIfInBounds_toArray, List.set_cons_zero, List.set_cons_succ]
    refine wpAnyH_done (by kernel_rfl) ?_ _
    all_goals
      go_wp2
      go_ret
      exact ⟨rfl, JD.out.bel⟩

theorem body_eq (K n : Int) (C : List UInt8) : sackL ⟨K, n, [], str C⟩ = two n ++ 0 :: C := by
  show [] ++ two n ++ propsL [] ++ (str C).data.toList = _
  rw [str_data, List.nil_append, List.append_assoc]
  rfl
/-- How an answer's codes are told. -/
def ackE (K : Int) (C : List UInt8) : Int := if C = [] then 3 else if allB K C = true then 0 else 2
theorem ackE_cases (K : Int) (C : List UInt8) : (C = [] ∧ ackE K C = 3) ∨ (C ≠ [] ∧ ackE K C = 2) ∨ (C ≠ [] ∧ ackE K C = 0) := by
  unfold ackE
  by_cases h : C = []
  · exact .inl ⟨h, by rw [if_pos h]⟩
  · rw [if_neg h]
    by_cases ha : allB K C = true
    · exact .inr (.inr ⟨h, by rw [if_pos ha]⟩)
    · exact .inr (.inl ⟨h, by rw [if_neg ha]⟩)
theorem text8 (W : World) (K n : Int) (C : List UInt8) (hl : C.length ≤ 30) (h1 : 1 ≤ n) (h2 : n ≤ 65535) : Calls Tryd.prog 73 #[.agg #[.int .i64 K, .int .u32 n, .slice none 0 0, .string (str C)]] W (fun e w' => e = .returned (.string (str (two n ++ 0 :: C))) ∧ Below W.heap.size W w') := by
  have := sacktext_calls W ⟨K, n, [], str C⟩ none 0 0 ⟨by show 0 ≤ n; omega, by show n < 4294967296; omega, by show (str C).size ≤ 65535; rw [str_size]; omega, (fun p hp => by cases hp), by show 0 ≤ 1000; decide⟩ (PropsAt.nil W 0)
  rw [body_eq] at this
  exact this
theorem parse8 (W : World) (hW : Tabs W) (K n : Int) (hK : K = 9 ∨ K = 11) (C : List UInt8) (hl : C.length ≤ 30) (h1 : 1 ≤ n) (h2 : n ≤ 65535) :
    Calls Tryd.prog 81 #[.int .i64 K, .string (str (two n ++ 0 :: C))] W (fun e w' => ∃ xk xn xs xc xa xb, e = .returned (.tuple #[.agg #[.int .i64 xk, .int .u32 xn, .slice xa xs xb, .string xc], .int .i64 (ackE K C)]) ∧ (ackE K C = 0 → xk = K ∧ xn = n ∧ xs = 0 ∧ xc = str C) ∧ Below W.heap.size W w') := by
  have hz : (str C).size ≤ 1000000000 := by rw [str_size]; omega
  have e0 : endT (str []) 0 = 0 := rfl
  have key : ∃ cs s1 x1 t1 y1 y2 s2 x2, cs.size ≤ 1000000000 ∧ SackOf K (str (two n ++ 0 :: C)) n [] cs (ackE K C) s1 x1 t1 y1 y2 s2 x2 ∧ (ackE K C = 0 → cs = str C) := by
    by_cases hC : C = []
    · subst hC
      obtain ⟨t1, y1, y2, hh⟩ := head_none K n h1 h2
      have hb : ([] : List UInt8) ++ two n ++ propsL [] = two n ++ 0 :: [] := rfl
      rw [hb] at hh
      refine ⟨⟨#[]⟩, _, _, t1, y1, y2, str [], 3, by decide, ⟨hh, rfl, ?_⟩, fun h => by unfold ackE at h; rw [if_pos rfl] at h; exact absurd h (by decide)⟩
      unfold ackE
      rw [if_pos rfl]
      rfl
    · obtain ⟨t1, y1, y2, hh⟩ := head_back K n C h1 h2 hC
      have hb : ([] : List UInt8) ++ two n ++ propsL [] ++ C = two n ++ 0 :: C := by rw [List.nil_append, List.append_assoc]; rfl
      rw [hb] at hh
      refine ⟨str C, _, _, t1, y1, y2, str [], 0, hz, ⟨hh, rest_back C, ?_⟩, fun _ => rfl⟩
      unfold ackE
      rw [if_neg hC, str_data]
      by_cases ha : allB K C = true
      · rw [if_pos ha, if_pos ha]; rfl
      · rw [if_neg ha, if_neg ha]; rfl
  obtain ⟨cs, s1, x1, t1, y1, y2, s2, x2, hcz, ho, hcs⟩ := key
  refine (sack_calls W K _ hW hK hcz ho _ rfl).mono ?_
  rintro e w' ⟨v, rfl, o, b⟩
  obtain ⟨a, c, rfl⟩ := o.form
  by_cases h0 : ackE K C = 0
  · rw [if_pos h0] at *
    obtain rfl := hcs h0
    exact ⟨K, n, 0, str C, a, c, rfl, fun _ => ⟨rfl, rfl, rfl, rfl⟩, b⟩
  · rw [if_neg h0] at *
    exact ⟨0, 0, 0, ⟨#[]⟩, a, c, rfl, fun h => absurd h h0, b⟩
theorem ref8 (W : World) (K n : Int) (hK : K = 9 ∨ K = 11) (C : List UInt8) (hl : C.length ≤ 30) (h1 : 1 ≤ n) (h2 : n ≤ 65535) :
    Calls Tryd.prog 82 #[.int .i64 K, .string (str (two n ++ 0 :: C))] W (fun e w' => ∃ xk xn xs xc xa xb, e = .returned (.tuple #[.agg #[.int .i64 xk, .int .u32 xn, .slice xa xs xb, .string xc], .int .i64 (ackE K C)]) ∧ Below W.heap.size W w') := by
  refine (r8parseAck_calls W K n hK C (by omega) h1 h2).mono ?_
  rintro e w' ⟨ho, b⟩
  unfold ackE
  rcases ho with ⟨h, rfl⟩ | ⟨h, ha, rfl⟩ | ⟨h, ha, a, c, rfl⟩
  · rw [if_pos h]; exact ⟨_, _, _, _, _, _, rfl, b⟩
  · rw [if_neg h, if_neg (by rw [ha]; simp)]; exact ⟨_, _, _, _, _, _, rfl, b⟩
  · rw [if_neg h, if_pos ha]; exact ⟨_, _, _, _, _, _, rfl, b⟩

theorem walk (a0 : Bool) (a1 : Int) (w1 : (Lit.int .u32 a1).wf = true) (a2 : ByteArray) (w2 : a2.size ≤ maxLen) (w : World) (hT : Tabs w) :
    Calls Tryd.prog 12 #[.bool a0, .int .u32 a1, .string a2] w fun e w' => e = .returned (.bool true) ∧ Below w.heap.size w w' := by
  have hb := bounds_u32 w1
  have hm : a1.tmod 65535 = a1 % 65535 := Int.tmod_eq_emod_of_nonneg hb.1
  have hnr : IntKind.u32.wrap (1 + IntKind.u32.wrap (a1.tmod 65535)) = 1 + a1 % 65535 := by rw [hm, IntKind.wrap_u32', IntKind.wrap_u32']; omega
  have hnr' : (1 + a1.tmod 65535) % 4294967296 = 1 + a1 % 65535 := by rw [hm]; omega
  have h1 : 1 ≤ 1 + a1 % 65535 := by omega
  have h2 : 1 + a1 % 65535 ≤ 65535 := by omega
  have hl : (a2.data.toList.take 30).length ≤ 30 := by rw [List.length_take]; omega
  generalize hs : a2.data.toList.take 30 = C at hl
  have hC : a2.extract 0 30 = str C := by rw [ba_take, hs]
  generalize 1 + a1 % 65535 = n at *
  cases a0 with
  | false => exact walk9 a1 a2 w2 w hT n hnr hnr' C hC _ (ackE 9 C) (fun W => text8 W 9 n C hl h1 h2) (ackE_cases 9 C) (fun W hW => parse8 W hW 9 n (.inl rfl) C hl h1 h2) (fun W => ref8 W 9 n (.inl rfl) C hl h1 h2)
  | true => exact walk11 a1 a2 w2 w hT n hnr hnr' C hC _ (ackE 11 C) (fun W => text8 W 11 n C hl h1 h2) (ackE_cases 11 C) (fun W hW => parse8 W hW 11 n (.inr rfl) C hl h1 h2) (fun W => ref8 W 11 n (.inr rfl) C hl h1 h2)

set_option maxRecDepth 100000 in
set_option maxHeartbeats 2000000 in
theorem lifted (os : Os) (started : os.Started) (H : Type) (enc : TypeId × Value → H) (F : Stop.Interp) :
    ReturnsInHanded {} Tryd.checked os 12 .any ((OpenSpec.ofChange Rows.subscribeAcksSpec).preRow enc Tryd.prog Tryd.f12 Rows.subscribeAcksRow.domain false Rows.subscribeAcksRow.laid) (((OpenSpec.ofChange Rows.subscribeAcksSpec).at F).post enc Tryd.prog Tryd.f12 false true false false) := by
  obtain ⟨places, hx⟩ := reads os enc
  refine returnsInHanded_of_row (C := Tryd.checked) (s := OpenSpec.ofChange Rows.subscribeAcksSpec) own started (by kernel_rfl) Tryd.func12
    (witness_row_at (enc := enc) (C := Tryd.checked) false (laidWorld os) #[.bool false, .int .u32 0, .string ByteArray.empty] rfl (by kernel_rfl) (by kernel_rfl) (by kernel_rfl)
      (OpenSpec.preRow_of_cond 8 hx (by kernel_rfl) (fun k hk => by cases hk) (by kernel_rfl) (laid_met os))) ?_
  intro W base args ds gs before hval0 hW _ _ _ hL hShp _
  have hval : ∀ (j : Nat) t v, Tryd.f12.params[j]? = some t → args[j]? = some v → Value.okWide Tryd.prog W .any base t v := hval0
  have hW' := hW
  obtain ⟨p, q, hA0, hV, rfl, hfz, hnd⟩ := hW
  have hA : DataW.TrodAll enc Tryd.prog W 0 (fun _ => true) true Tryd.f12.params.toList args.toList ds p := hA0
  rw [Tryd.params12] at hA hval
  obtain ⟨v0, vs0, d0, ds0, p0, q0, hargs, rfl, rfl, h0, r0⟩ := trodAll_cons hA
  obtain ⟨v1, vs1, d1, ds1, p1, q1, rfl, rfl, rfl, h1, r1⟩ := trodAll_cons r0
  obtain ⟨v2, vs2, d2, ds2, p2, q2, rfl, rfl, rfl, h2, r2⟩ := trodAll_cons r1
  obtain ⟨rfl, rfl, rfl⟩ := trodAll_nil r2
  obtain rfl : args = #[v0, v1, v2] := by cases args; simp_all
  obtain ⟨rfl, rfl⟩ := trodVars_none hV
  obtain ⟨a0, rfl, rfl, rfl⟩ := open_bool Tryd.underlying4 (hval 0 4 v0 rfl rfl) h0
  obtain ⟨a1, rfl, rfl, rfl, w1⟩ := open_int Tryd.underlying48 (hval 1 48 v1 rfl rfl) h1
  obtain ⟨a2, rfl, rfl, rfl, w2⟩ := open_string Tryd.underlying9 (hval 2 9 v2 rfl rfl) h2
  clear hA0 hval0
  have hT : Tabs W := utf8Tabs_of_readsT (U8Types.of196 Tryd.lays196) ⟨by kernel_rfl, by kernel_rfl, by kernel_rfl, by kernel_rfl, by kernel_rfl, by kernel_rfl, by kernel_rfl⟩ (first_eq ▸ Lib.laidMet.reads hL (.tail _ (.head _))) (accept_eq ▸ Lib.laidMet.reads hL (.head _))
  refine (walk a0 a1 w1 a2 w2 W  hT).mono fun e W' ⟨he, bel⟩ => ?_
  subst he
  exact ⟨_, rfl, _, _, _, [], _, [], hW', trodAll_mk1 (shut_bool Tryd.underlying4 _), (trodAll_cons_mk (shut_bool Tryd.underlying4 a0) (trodAll_cons_mk (shut_int Tryd.underlying48 w1) (trodAll_cons_mk (shut_string Tryd.underlying9 w2) trodAll_mk0))), rfl, bel.frame _, fun h => by cases h⟩

theorem said : Rows.SubscribeAcksSaid :=
  OpenClaim.holds_of_cond 12 Tryd.f12 rfl rfl rfl rfl rfl rfl rfl ⟨rfl, rfl, rfl, rfl, rfl⟩ rfl rfl rfl rfl rfl (by kernel_rfl) Tryd.func12 closed
    (of_decide_eq_true (by kernel_rfl)) (by unfold Func.isWrapper; first | (rw [if_pos (by decide +kernel)]; kernel_rfl) | (rw [if_neg (by decide +kernel)]; exact ⟨rfl, rfl⟩))
    (fun os started H enc _ F => by rw [OpenClaim.pre_eq_preRow]; exact lifted os started H enc F)

theorem plain (f : FuncId) (fn : Func) (hf : Tryd.pinned.checked.prog.funcNamed Tryd.f12.name = some f) (hfn : Tryd.pinned.checked.prog.funcs[f]? = some fn) :
    false = Tryd.pinned.checked.prog.looks [] ∧ ∀ (j : Nat) t, fn.params[j]? = some t → Tryd.pinned.checked.prog.wantsStandIn t = false := by
  obtain rfl : f = 12 := Option.some.inj ((show Tryd.prog.funcNamed Tryd.f12.name = some 12 by kernel_rfl).symm.trans hf) |>.symm
  obtain rfl : fn = Tryd.f12 := (Option.some.inj (Tryd.func12.symm.trans hfn)).symm
  refine ⟨fac_looks, fun j t ht => ?_⟩
  rw [Tryd.params12] at ht
  have hm : t = 4 ∨ t = 48 ∨ t = 9 := by simpa using Array.mem_of_getElem? ht
  rcases hm with rfl | rfl | rfl
  · exact (show Tryd.prog.wantsStandIn 4 = false by kernel_rfl)
  · exact (show Tryd.prog.wantsStandIn 48 = false by kernel_rfl)
  · exact (show Tryd.prog.wantsStandIn 9 = false by kernel_rfl)

end Go.Proofs.YtephoadjnmmbnaaDoor.subscribeAcks
namespace Go.Proofs.YtephoadjnmmbnaaDoor
/-- The statement. -/
theorem subscribeAcks_holds : Rows.SubscribeAcksCardSaid :=
  Claim7.holds_tied_plain_at .later [] _ _ _ _ subscribeAcks.said (fun _ h => by cases h) subscribeAcks.wft (fun _ h => by cases h) subscribeAcks_row_tie rfl ⟨rfl, rfl⟩ fac_main rfl subscribeAcks.plain subscribeAcks.goes
#print axioms subscribeAcks_holds
end Go.Proofs.YtephoadjnmmbnaaDoor
