/-
  An In that has failed; the rest of one that has not; a cursor that is stored. (No statement: lemmas that the proof of the statement OctetTakes uses.)
-/
import Derived.Test.YtgdbfdmnfndojaaTake1
import Derived.Test.YtgdbfdmnfndojaaL1a
import Derived.Test.YtgdbfdmnfndojaaOpen
import Derived.Deep.QuietTactic
import Derived.BigQuiet
import Derived.RegionCalls
import Derived.Deep.RegionHeld3
import Derived.StillTailTactics
namespace Go.Proofs.Ytgdbfdmnfndojaa
open Go.RowKit

theorem restE_calls (w : World) (p : Nat) (s : ByteArray) (x : Int) (hx : x ≠ 0) (h : InAt w p s x) :
    Calls Try.prog 19 #[.pointer (some ⟨p, 0, none⟩)] w fun e w' => e = .returned (.string ⟨#[]⟩) ∧ Took w p s x w' :=
  (rest_calls w p s x h).mono (fun e w1 k => by rw [rawT_err s x _ hx] at k; exact k)

theorem byteE_calls (w : World) (p : Nat) (s : ByteArray) (x : Int) (hx : x ≠ 0) (h : InAt w p s x) :
    Calls Try.prog 21 #[.pointer (some ⟨p, 0, none⟩)] w fun e w' => e = .returned (.int .u8 0) ∧ Took w p s x w' :=
  byteIn_calls w p s x ⟨#[]⟩ s x (rawT_err s x 1 hx) h

theorem twoE_calls (w : World) (p : Nat) (s : ByteArray) (x : Int) (hx : x ≠ 0) (h : InAt w p s x) :
    Calls Try.prog 22 #[.pointer (some ⟨p, 0, none⟩)] w fun e w' => e = .returned (.int .u32 0) ∧ Took w p s x w' :=
  twoIn_calls w p s x ⟨#[]⟩ s x (rawT_err s x 2 hx) h

theorem varE_calls (w : World) (p : Nat) (s : ByteArray) (x : Int) (hx : x ≠ 0) (h : InAt w p s x) :
    Calls Try.prog 23 #[.pointer (some ⟨p, 0, none⟩)] w fun e w' => e = .returned (.int .u32 0) ∧ Took w p s x w' :=
  varIn_calls w p s x 0 s x (by rw [varT_ok (rawT_err s x 1 hx) (by decide), if_neg hx]) h

theorem dataE_calls (w : World) (p : Nat) (s : ByteArray) (x : Int) (hx : x ≠ 0) (h : InAt w p s x) :
    Calls Try.prog 24 #[.pointer (some ⟨p, 0, none⟩)] w fun e w' => e = .returned (.string ⟨#[]⟩) ∧ Took w p s x w' :=
  dataIn_calls w p s x ⟨#[]⟩ s x (rawT_err s x 2 hx) ⟨#[]⟩ s x (rawT_err s x _ hx) h

theorem rest0_calls (w : World) (p : Nat) (l : List UInt8) (h : InAt w p (str l) 0) :
    Calls Try.prog 19 #[.pointer (some ⟨p, 0, none⟩)] w fun e w' => e = .returned (.string (str l)) ∧ Took w p (str []) 0 w' :=
  (rest_calls w p (str l) 0 h).mono (fun e w1 k => by rw [str_size, rawT_list l l.length (Nat.le_refl _), List.take_length, List.drop_length] at k; exact k)

/-- A region that draws, over whatever class of worlds. -/
theorem wp_region_quiet_cls {P : Program} {id : Nat} {Q : Exit → Act → World → Prop} {a : Act} {w : World} {l : List Oper} (C : World → Prop) (hm : P.follows .mixedOrders = true) (hB : Region.lexB .any l.toArray = true) (hC : C w.drew)
    (h : wpQuiet P l.toArray C (fun a' => ∀ w', C w' → Q .normal a' w') l a) : (Code.region id l.toArray true).wp P Q a w :=
  wp_region_quiet (C := C) hm hB hC (by simpa using h)

/-- Where a cursor lies. -/
def CurAt (w : World) (q : Nat) (s : ByteArray) (x : Int) : Prop := w.heap[q]? = some (.cells #[.string s, .int .i64 x] 39 (0, 0))
theorem CurAt.cells {w : World} {q : Nat} {s : ByteArray} {x : Int} (h : CurAt w q s x) : w.cell? ⟨q, 0, none⟩ = some (.string s) ∧ w.cell? ⟨q, 1, none⟩ = some (.int .i64 x) ∧ w.frozen? ⟨q, 0, none⟩ = false ∧ w.frozen? ⟨q, 1, none⟩ = false := pair_cells h
theorem CurAt.set {w : World} {q : Nat} {s s' : ByteArray} {x x' : Int} (h : CurAt w q s x) : CurAt ((w.setCell ⟨q, 0, none⟩ (.string s')).setCell ⟨q, 1, none⟩ (.int .i64 x')) q s' x' := by
  unfold CurAt at h ⊢
  simp [World.setCell, Array.getElem?_modify, h]

/-- What holds while an In that has failed is asked. -/
structure Fell (w : World) (p q : Nat) (s : ByteArray) (x : Int) (w' : World) : Prop where
  at' : InAt w' p s x
  cur' : CurAt w' q s x
  bel : Below w.heap.size w w'
theorem Fell.took {w : World} {p q : Nat} {s : ByteArray} {x : Int} {w1 w2 : World} (h : Fell w p q s x w1) (hp : w.heap.size ≤ p) (hq : q ≠ p) (k : Took w1 p s x w2) : Fell w p q s x w2 :=
  ⟨k.1, (k.2.block q hq).trans h.cur', h.bel.trans ((Chg1.of_only k.2).below h.bel.size hp)⟩

theorem CurAt.in_apart {w : World} {p q : Nat} {s s' : ByteArray} {x x' : Int} (h : InAt w p s x) (hq : p ≠ q) : InAt ((w.setCell ⟨q, 0, none⟩ (.string s')).setCell ⟨q, 1, none⟩ (.int .i64 x')) p s x :=
  h.keep ((Below.heap_setCell _ _ _ _ hq).trans (Below.heap_setCell _ _ _ _ hq))

end Go.Proofs.Ytgdbfdmnfndojaa
