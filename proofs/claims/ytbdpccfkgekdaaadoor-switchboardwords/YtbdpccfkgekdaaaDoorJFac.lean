/-
  Facts of the whole program, shared by the proofs of its statements. (No statement.)
-/
import Derived.Test.YtbdpccfkgekdaaaDoorCards
import Derived.Test.YtbdpccfkgekdaaaDoorTie
import Derived.ProofKit
import Derived.OpenShut
import Derived.JoinedCond
namespace Go.Proofs.YtbdpccfkgekdaaaDoor

theorem own : ownKnob Tryd.prog.godebug = none := by kernel_rfl
theorem laidOut : laidOutB Tryd.prog = true := by kernel_rfl
theorem fac_laid : laidOutB Tryd.pinned.checked.prog = true := laidOut
theorem fac_maps : mapsRowed Tryd.pinned.checked.prog = true := by kernel_rfl
theorem fac_stops : (Tryd.pinned.checked.prog.stops == []) = true := by kernel_rfl
theorem fac_knobs : (Tryd.pinned.checked.prog.stopKnobs == []) = true := by kernel_rfl
theorem fac_looks : false = Tryd.pinned.checked.prog.looks [] := by kernel_rfl
theorem fac_heard : Tryd.pinned.checked.prog.stopsHeard = true := by kernel_rfl

/-- The head's first words, and the signs behind them. -/
def headA : List Char := [Char.ofNat 104, Char.ofNat 97, Char.ofNat 114, Char.ofNat 110, Char.ofNat 101, Char.ofNat 115, Char.ofNat 115]
def headB : List Char := [Char.ofNat 98, Char.ofNat 51, Char.ofNat 52, Char.ofNat 99, Char.ofNat 56, Char.ofNat 98, Char.ofNat 52, Char.ofNat 97, Char.ofNat 100, Char.ofNat 55, Char.ofNat 101, Char.ofNat 55, Char.ofNat 98, Char.ofNat 51, Char.ofNat 102, Char.ofNat 101, Char.ofNat 99, Char.ofNat 52, Char.ofNat 50, Char.ofNat 100, Char.ofNat 100, Char.ofNat 50, Char.ofNat 53, Char.ofNat 48, Char.ofNat 98, Char.ofNat 100, Char.ofNat 55, Char.ofNat 54, Char.ofNat 101, Char.ofNat 55, Char.ofNat 97, Char.ofNat 54, Char.ofNat 98, Char.ofNat 102, Char.ofNat 102, Char.ofNat 57, Char.ofNat 51, Char.ofNat 50, Char.ofNat 101, Char.ofNat 55, Char.ofNat 48, Char.ofNat 48, Char.ofNat 53, Char.ofNat 55, Char.ofNat 52, Char.ofNat 49, Char.ofNat 56, Char.ofNat 55, Char.ofNat 57, Char.ofNat 97, Char.ofNat 100, Char.ofNat 97, Char.ofNat 98, Char.ofNat 50, Char.ofNat 52, Char.ofNat 49, Char.ofNat 97, Char.ofNat 49, Char.ofNat 98, Char.ofNat 55, Char.ofNat 57, Char.ofNat 54, Char.ofNat 98, Char.ofNat 54]
def headC : List Char := [Char.ofNat 99, Char.ofNat 117, Char.ofNat 116]
def headR : List Char := [Char.ofNat 97, Char.ofNat 116, Char.ofNat 32, Char.ofNat 115, Char.ofNat 119, Char.ofNat 105, Char.ofNat 116, Char.ofNat 99, Char.ofNat 104, Char.ofNat 98, Char.ofNat 111, Char.ofNat 97, Char.ofNat 114, Char.ofNat 100, Char.ofNat 47, Char.ofNat 115, Char.ofNat 119, Char.ofNat 105, Char.ofNat 116, Char.ofNat 99, Char.ofNat 104, Char.ofNat 98, Char.ofNat 111, Char.ofNat 97, Char.ofNat 114, Char.ofNat 100, Char.ofNat 108, Char.ofNat 97, Char.ofNat 119, Char.ofNat 49, Char.ofNat 48, Char.ofNat 46, Char.ofNat 84, Char.ofNat 111, Char.ofNat 112, Char.ofNat 105, Char.ofNat 99, Char.ofNat 82, Char.ofNat 101, Char.ofNat 97, Char.ofNat 100, Char.ofNat 115, Char.ofNat 32, Char.ofNat 115, Char.ofNat 119, Char.ofNat 105, Char.ofNat 116, Char.ofNat 99, Char.ofNat 104, Char.ofNat 98, Char.ofNat 111, Char.ofNat 97, Char.ofNat 114, Char.ofNat 100, Char.ofNat 47, Char.ofNat 115, Char.ofNat 119, Char.ofNat 105, Char.ofNat 116, Char.ofNat 99, Char.ofNat 104, Char.ofNat 98, Char.ofNat 111, Char.ofNat 97, Char.ofNat 114, Char.ofNat 100, Char.ofNat 108, Char.ofNat 97, Char.ofNat 119, Char.ofNat 49, Char.ofNat 48, Char.ofNat 46, Char.ofNat 84, Char.ofNat 111, Char.ofNat 112, Char.ofNat 105, Char.ofNat 99, Char.ofNat 87, Char.ofNat 105, Char.ofNat 100, Char.ofNat 101, Char.ofNat 114, Char.ofNat 32, Char.ofNat 115, Char.ofNat 119, Char.ofNat 105, Char.ofNat 116, Char.ofNat 99, Char.ofNat 104, Char.ofNat 98, Char.ofNat 111, Char.ofNat 97, Char.ofNat 114, Char.ofNat 100, Char.ofNat 47, Char.ofNat 115, Char.ofNat 119, Char.ofNat 105, Char.ofNat 116, Char.ofNat 99, Char.ofNat 104, Char.ofNat 98, Char.ofNat 111, Char.ofNat 97, Char.ofNat 114, Char.ofNat 100, Char.ofNat 116, Char.ofNat 111, Char.ofNat 112, Char.ofNat 46, Char.ofNat 83, Char.ofNat 119, Char.ofNat 105, Char.ofNat 116, Char.ofNat 99, Char.ofNat 104, Char.ofNat 98, Char.ofNat 111, Char.ofNat 97, Char.ofNat 114, Char.ofNat 100, Char.ofNat 87, Char.ofNat 111, Char.ofNat 114, Char.ofNat 100, Char.ofNat 115, Char.ofNat 32, Char.ofNat 115, Char.ofNat 119, Char.ofNat 105, Char.ofNat 116, Char.ofNat 99, Char.ofNat 104, Char.ofNat 98, Char.ofNat 111, Char.ofNat 97, Char.ofNat 114, Char.ofNat 100, Char.ofNat 47, Char.ofNat 115, Char.ofNat 119, Char.ofNat 105, Char.ofNat 116, Char.ofNat 99, Char.ofNat 104, Char.ofNat 98, Char.ofNat 111, Char.ofNat 97, Char.ofNat 114, Char.ofNat 100, Char.ofNat 108, Char.ofNat 97, Char.ofNat 119, Char.ofNat 48, Char.ofNat 51, Char.ofNat 46, Char.ofNat 80, Char.ofNat 114, Char.ofNat 111, Char.ofNat 112, Char.ofNat 69, Char.ofNat 108, Char.ofNat 115, Char.ofNat 101, Char.ofNat 32, Char.ofNat 115, Char.ofNat 119, Char.ofNat 105, Char.ofNat 116, Char.ofNat 99, Char.ofNat 104, Char.ofNat 98, Char.ofNat 111, Char.ofNat 97, Char.ofNat 114, Char.ofNat 100, Char.ofNat 47, Char.ofNat 115, Char.ofNat 119, Char.ofNat 105, Char.ofNat 116, Char.ofNat 99, Char.ofNat 104, Char.ofNat 98, Char.ofNat 111, Char.ofNat 97, Char.ofNat 114, Char.ofNat 100, Char.ofNat 108, Char.ofNat 97, Char.ofNat 119, Char.ofNat 48, Char.ofNat 54, Char.ofNat 46, Char.ofNat 67, Char.ofNat 111, Char.ofNat 110, Char.ofNat 110, Char.ofNat 101, Char.ofNat 99, Char.ofNat 116, Char.ofNat 66, Char.ofNat 97, Char.ofNat 99, Char.ofNat 107, Char.ofNat 32, Char.ofNat 115, Char.ofNat 119, Char.ofNat 105, Char.ofNat 116, Char.ofNat 99, Char.ofNat 104, Char.ofNat 98, Char.ofNat 111, Char.ofNat 97, Char.ofNat 114, Char.ofNat 100, Char.ofNat 47, Char.ofNat 115, Char.ofNat 119, Char.ofNat 105, Char.ofNat 116, Char.ofNat 99, Char.ofNat 104, Char.ofNat 98, Char.ofNat 111, Char.ofNat 97, Char.ofNat 114, Char.ofNat 100, Char.ofNat 108, Char.ofNat 97, Char.ofNat 119, Char.ofNat 48, Char.ofNat 55, Char.ofNat 46, Char.ofNat 80, Char.ofNat 117, Char.ofNat 98, Char.ofNat 108, Char.ofNat 105, Char.ofNat 115, Char.ofNat 104, Char.ofNat 66, Char.ofNat 97, Char.ofNat 99, Char.ofNat 107]
/-- All of them. -/
def initL : List Char := [Char.ofNat 104, Char.ofNat 97, Char.ofNat 114, Char.ofNat 110, Char.ofNat 101, Char.ofNat 115, Char.ofNat 115, Char.ofNat 32, Char.ofNat 98, Char.ofNat 51, Char.ofNat 52, Char.ofNat 99, Char.ofNat 56, Char.ofNat 98, Char.ofNat 52, Char.ofNat 97, Char.ofNat 100, Char.ofNat 55, Char.ofNat 101, Char.ofNat 55, Char.ofNat 98, Char.ofNat 51, Char.ofNat 102, Char.ofNat 101, Char.ofNat 99, Char.ofNat 52, Char.ofNat 50, Char.ofNat 100, Char.ofNat 100, Char.ofNat 50, Char.ofNat 53, Char.ofNat 48, Char.ofNat 98, Char.ofNat 100, Char.ofNat 55, Char.ofNat 54, Char.ofNat 101, Char.ofNat 55, Char.ofNat 97, Char.ofNat 54, Char.ofNat 98, Char.ofNat 102, Char.ofNat 102, Char.ofNat 57, Char.ofNat 51, Char.ofNat 50, Char.ofNat 101, Char.ofNat 55, Char.ofNat 48, Char.ofNat 48, Char.ofNat 53, Char.ofNat 55, Char.ofNat 52, Char.ofNat 49, Char.ofNat 56, Char.ofNat 55, Char.ofNat 57, Char.ofNat 97, Char.ofNat 100, Char.ofNat 97, Char.ofNat 98, Char.ofNat 50, Char.ofNat 52, Char.ofNat 49, Char.ofNat 97, Char.ofNat 49, Char.ofNat 98, Char.ofNat 55, Char.ofNat 57, Char.ofNat 54, Char.ofNat 98, Char.ofNat 54, Char.ofNat 32, Char.ofNat 99, Char.ofNat 117, Char.ofNat 116, Char.ofNat 32, Char.ofNat 97, Char.ofNat 116, Char.ofNat 32, Char.ofNat 115, Char.ofNat 119, Char.ofNat 105, Char.ofNat 116, Char.ofNat 99, Char.ofNat 104, Char.ofNat 98, Char.ofNat 111, Char.ofNat 97, Char.ofNat 114, Char.ofNat 100, Char.ofNat 47, Char.ofNat 115, Char.ofNat 119, Char.ofNat 105, Char.ofNat 116, Char.ofNat 99, Char.ofNat 104, Char.ofNat 98, Char.ofNat 111, Char.ofNat 97, Char.ofNat 114, Char.ofNat 100, Char.ofNat 108, Char.ofNat 97, Char.ofNat 119, Char.ofNat 49, Char.ofNat 48, Char.ofNat 46, Char.ofNat 84, Char.ofNat 111, Char.ofNat 112, Char.ofNat 105, Char.ofNat 99, Char.ofNat 82, Char.ofNat 101, Char.ofNat 97, Char.ofNat 100, Char.ofNat 115, Char.ofNat 32, Char.ofNat 115, Char.ofNat 119, Char.ofNat 105, Char.ofNat 116, Char.ofNat 99, Char.ofNat 104, Char.ofNat 98, Char.ofNat 111, Char.ofNat 97, Char.ofNat 114, Char.ofNat 100, Char.ofNat 47, Char.ofNat 115, Char.ofNat 119, Char.ofNat 105, Char.ofNat 116, Char.ofNat 99, Char.ofNat 104, Char.ofNat 98, Char.ofNat 111, Char.ofNat 97, Char.ofNat 114, Char.ofNat 100, Char.ofNat 108, Char.ofNat 97, Char.ofNat 119, Char.ofNat 49, Char.ofNat 48, Char.ofNat 46, Char.ofNat 84, Char.ofNat 111, Char.ofNat 112, Char.ofNat 105, Char.ofNat 99, Char.ofNat 87, Char.ofNat 105, Char.ofNat 100, Char.ofNat 101, Char.ofNat 114, Char.ofNat 32, Char.ofNat 115, Char.ofNat 119, Char.ofNat 105, Char.ofNat 116, Char.ofNat 99, Char.ofNat 104, Char.ofNat 98, Char.ofNat 111, Char.ofNat 97, Char.ofNat 114, Char.ofNat 100, Char.ofNat 47, Char.ofNat 115, Char.ofNat 119, Char.ofNat 105, Char.ofNat 116, Char.ofNat 99, Char.ofNat 104, Char.ofNat 98, Char.ofNat 111, Char.ofNat 97, Char.ofNat 114, Char.ofNat 100, Char.ofNat 116, Char.ofNat 111, Char.ofNat 112, Char.ofNat 46, Char.ofNat 83, Char.ofNat 119, Char.ofNat 105, Char.ofNat 116, Char.ofNat 99, Char.ofNat 104, Char.ofNat 98, Char.ofNat 111, Char.ofNat 97, Char.ofNat 114, Char.ofNat 100, Char.ofNat 87, Char.ofNat 111, Char.ofNat 114, Char.ofNat 100, Char.ofNat 115, Char.ofNat 32, Char.ofNat 115, Char.ofNat 119, Char.ofNat 105, Char.ofNat 116, Char.ofNat 99, Char.ofNat 104, Char.ofNat 98, Char.ofNat 111, Char.ofNat 97, Char.ofNat 114, Char.ofNat 100, Char.ofNat 47, Char.ofNat 115, Char.ofNat 119, Char.ofNat 105, Char.ofNat 116, Char.ofNat 99, Char.ofNat 104, Char.ofNat 98, Char.ofNat 111, Char.ofNat 97, Char.ofNat 114, Char.ofNat 100, Char.ofNat 108, Char.ofNat 97, Char.ofNat 119, Char.ofNat 48, Char.ofNat 51, Char.ofNat 46, Char.ofNat 80, Char.ofNat 114, Char.ofNat 111, Char.ofNat 112, Char.ofNat 69, Char.ofNat 108, Char.ofNat 115, Char.ofNat 101, Char.ofNat 32, Char.ofNat 115, Char.ofNat 119, Char.ofNat 105, Char.ofNat 116, Char.ofNat 99, Char.ofNat 104, Char.ofNat 98, Char.ofNat 111, Char.ofNat 97, Char.ofNat 114, Char.ofNat 100, Char.ofNat 47, Char.ofNat 115, Char.ofNat 119, Char.ofNat 105, Char.ofNat 116, Char.ofNat 99, Char.ofNat 104, Char.ofNat 98, Char.ofNat 111, Char.ofNat 97, Char.ofNat 114, Char.ofNat 100, Char.ofNat 108, Char.ofNat 97, Char.ofNat 119, Char.ofNat 48, Char.ofNat 54, Char.ofNat 46, Char.ofNat 67, Char.ofNat 111, Char.ofNat 110, Char.ofNat 110, Char.ofNat 101, Char.ofNat 99, Char.ofNat 116, Char.ofNat 66, Char.ofNat 97, Char.ofNat 99, Char.ofNat 107, Char.ofNat 32, Char.ofNat 115, Char.ofNat 119, Char.ofNat 105, Char.ofNat 116, Char.ofNat 99, Char.ofNat 104, Char.ofNat 98, Char.ofNat 111, Char.ofNat 97, Char.ofNat 114, Char.ofNat 100, Char.ofNat 47, Char.ofNat 115, Char.ofNat 119, Char.ofNat 105, Char.ofNat 116, Char.ofNat 99, Char.ofNat 104, Char.ofNat 98, Char.ofNat 111, Char.ofNat 97, Char.ofNat 114, Char.ofNat 100, Char.ofNat 108, Char.ofNat 97, Char.ofNat 119, Char.ofNat 48, Char.ofNat 55, Char.ofNat 46, Char.ofNat 80, Char.ofNat 117, Char.ofNat 98, Char.ofNat 108, Char.ofNat 105, Char.ofNat 115, Char.ofNat 104, Char.ofNat 66, Char.ofNat 97, Char.ofNat 99, Char.ofNat 107]
theorem words_app : ∀ (a r : List Char), (a.all fun c => c != Char.ofNat 32) = true → wordsSigns (a ++ Char.ofNat 32 :: r) = a :: wordsSigns r
  | [], r, _ => by rw [List.nil_append]; exact wordsSigns.eq_2 r
  | c :: a, r, h => by
    rw [List.all_cons, Bool.and_eq_true] at h
    have hc : c = Char.ofNat 32 → False := fun e => by rw [e] at h; exact absurd h.1 (by decide)
    have ih := words_app a r h.2
    rw [List.cons_append, wordsSigns.eq_3 c _ hc, ih]
theorem fac_init0 : Tryd.pinned.checked.prog.initOrder = "harness b34c8b4ad7e7b3fec42dd250bd76e7a6bff932e7005741879adab241a1b796b6 cut at switchboard/switchboardlaw10.TopicReads switchboard/switchboardlaw10.TopicWider switchboard/switchboardtop.SwitchboardWords switchboard/switchboardlaw03.PropElse switchboard/switchboardlaw06.ConnectBack switchboard/switchboardlaw07.PublishBack" := by kernel_rfl
set_option maxRecDepth 100000 in
theorem fac_init1 : "harness b34c8b4ad7e7b3fec42dd250bd76e7a6bff932e7005741879adab241a1b796b6 cut at switchboard/switchboardlaw10.TopicReads switchboard/switchboardlaw10.TopicWider switchboard/switchboardtop.SwitchboardWords switchboard/switchboardlaw03.PropElse switchboard/switchboardlaw06.ConnectBack switchboard/switchboardlaw07.PublishBack" = String.ofList initL := by kernel_rfl
theorem fac_init2 : initL = headA ++ Char.ofNat 32 :: (headB ++ Char.ofNat 32 :: (headC ++ Char.ofNat 32 :: headR)) := by kernel_rfl
theorem fac_words : wordsSigns Tryd.pinned.checked.prog.initOrder.toList = headA :: headB :: headC :: wordsSigns headR := by
  rw [fac_init0, fac_init1, String.toList_ofList, fac_init2, words_app _ _ (by kernel_rfl), words_app _ _ (by kernel_rfl), words_app _ _ (by kernel_rfl)]
theorem main_eq (P : Program) (a b : List Char) (r : List (List Char)) (h : wordsSigns P.initOrder.toList = a :: b :: r) : P.mainIs = if !isSumSigns b then none else if a == "harness".toList then some (true, b) else if a == "ownmain".toList then some (false, b) else none := by
  unfold Program.mainIs
  rw [h]
theorem lifts_eq (P : Program) (c : List Char) (r : List (List Char)) (h : behindMainWord (wordsSigns P.initOrder.toList) = c :: r) : P.headLifts = if (stripLifts liftWords (c :: r)).2.head? == some "cut".toList then (stripLifts liftWords (c :: r)).1 else [] := by
  unfold Program.headLifts
  rw [h]
theorem final_eq (P : Program) (c : List Char) (r : List (List Char)) (h : behindMainWord (wordsSigns P.initOrder.toList) = c :: r) : P.liftsFinal = (((c :: r).head? == some "carried".toList && (c :: r).take 3 != ["carried".toList, "gc".toList, "cut".toList]) || P.headLifts.contains "finals") := by
  unfold Program.liftsFinal
  rw [h]
theorem enter_eq (P : Program) (c : List Char) (r : List (List Char)) (h : behindMainWord (wordsSigns P.initOrder.toList) = c :: r) (h1 : (c == "gc".toList) = false) (h2 : (c == "spec".toList) = false) (h3 : (c == "carried".toList) = false) (l : List String) (hl : stripLifts liftWords (c :: r) = (l, c :: r)) (hc : ((c :: r).head? == some "cut".toList) = true)
    (hf : l = []) (hy : P.laysLater = false) (hb : P.bearsReflect = false) (hd : P.doorFits [] = true) : P.mayEnter = true := by
  subst hf
  unfold Program.mayEnter
  rw [h]
  dsimp only
  rw [hl, h1, h2, h3]
  dsimp only
  rw [hc, hy, hb, hd]
  rfl
theorem make_eq (P : Program) (c : List Char) (r : List (List Char)) (h : behindMainWord (wordsSigns P.initOrder.toList) = c :: r) (h1 : (c == "gc".toList) = false) (h2 : (c == "spec".toList) = false) (h3 : (c == "cut".toList) = true) : P.make = some .cut := by
  unfold Program.make
  rw [h]
  dsimp only
  rw [h1, h2, h3]
  rfl
theorem sum_ok : isSumSigns headB = true := by kernel_rfl
theorem main_ok : (headA == "harness".toList) = true := by kernel_rfl
theorem behind_ok (R : List (List Char)) : behindMainWord (headA :: headB :: headC :: R) = headC :: R := by kernel_rfl
theorem sum_is : headB = "b34c8b4ad7e7b3fec42dd250bd76e7a6bff932e7005741879adab241a1b796b6".toList := by kernel_rfl
theorem c_gc : (headC == "gc".toList) = false := by kernel_rfl
theorem c_spec : (headC == "spec".toList) = false := by kernel_rfl
theorem c_car : (headC == "carried".toList) = false := by kernel_rfl
theorem c_cut : (headC == "cut".toList) = true := by kernel_rfl
theorem c_head (R : List (List Char)) : ((headC :: R).head? == some "cut".toList) = true := by kernel_rfl
theorem c_strip (R : List (List Char)) : stripLifts liftWords (headC :: R) = ([], headC :: R) := by kernel_rfl
theorem fac_behind : behindMainWord (wordsSigns Tryd.pinned.checked.prog.initOrder.toList) = headC :: wordsSigns headR := by rw [fac_words]; exact behind_ok _
theorem fac_main : Tryd.pinned.checked.prog.mainIs = some (true, "b34c8b4ad7e7b3fec42dd250bd76e7a6bff932e7005741879adab241a1b796b6".toList) := by
  rw [main_eq _ _ _ _ fac_words, sum_ok, main_ok, sum_is]
  rfl
theorem fac_make0 : Tryd.pinned.checked.prog.make = some .cut := make_eq _ _ _ fac_behind c_gc c_spec c_cut
theorem fac_make : (Tryd.pinned.checked.prog.make == some Rows.topicReadsRow.make) = true := by rw [fac_make0]; kernel_rfl
theorem fac_lays : Tryd.pinned.checked.prog.laysLater = false := by kernel_rfl
theorem fac_refl : Tryd.pinned.checked.prog.bearsReflect = false := by kernel_rfl
theorem fac_door : Tryd.pinned.checked.prog.doorFits [] = true := by kernel_rfl
theorem fac_enter : Tryd.pinned.checked.prog.mayEnter = true := enter_eq _ _ _ fac_behind c_gc c_spec c_car [] (c_strip _) (c_head _) rfl fac_lays fac_refl fac_door
theorem fac_lifts0 : Tryd.pinned.checked.prog.headLifts = [] := by rw [lifts_eq _ _ _ fac_behind, c_strip]; dsimp only; rw [if_pos (c_head _)]
theorem final_no (R : List (List Char)) : (((headC :: R).head? == some "carried".toList && (headC :: R).take 3 != ["carried".toList, "gc".toList, "cut".toList]) || ([] : List String).contains "finals") = false := by kernel_rfl
theorem fac_final : Tryd.pinned.checked.prog.liftsFinal = false := by rw [final_eq _ _ _ fac_behind, fac_lifts0]; exact final_no _
theorem fac_lifts : (Rows.topicReadsRow.lifted == Tryd.pinned.checked.prog.liftsFinal) = true := by rw [fac_final]; kernel_rfl
theorem fac_keys : (Rows.topicReadsRow.plainKeys == Tryd.pinned.checked.prog.plainKeys) = true := by kernel_rfl
#print axioms fac_main

end Go.Proofs.YtbdpccfkgekdaaaDoor
