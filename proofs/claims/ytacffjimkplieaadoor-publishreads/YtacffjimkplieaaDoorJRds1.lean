/-
  The document's answers of layer 7, read: the end of a body, an identifier. (No statement: contracts that the proofs of the statements use.)
-/
import Derived.Test.YtacffjimkplieaaDoorJProp29
import Derived.Test.YtacffjimkplieaaDoorJPub6
import Derived.Test.YtacffjimkplieaaDoorJWords
import Derived.Test.YtacffjimkplieaaDoorJMay4
namespace Go.Proofs.YtacffjimkplieaaDoor
open Go.RowKit

/-- A block of the call's own holds O. -/
structure Hd (w V : World) (b : Nat) (O : Obj) : Prop where
  at_ : V.heap[b]? = some O
  ge : w.heap.size ≤ b
theorem Hd.below {w V V' : World} {b : Nat} {O : Obj} (h : Hd w V b O) (hb : Below V.heap.size V V') : Hd w V' b O := ⟨(hb.block b (lt_of_block h.at_)).trans h.at_, h.ge⟩
theorem Hd.lt {w V : World} {b : Nat} {O : Obj} (h : Hd w V b O) : b < V.heap.size := lt_of_block h.at_
theorem Hd.made {w V : World} (h : w.heap.size ≤ V.heap.size) (A : Array Value) (T : TypeId) : Hd w (V.alloc (.cells A T)) V.heap.size (.cells A T (0, 0)) := ⟨heap_alloc_new V _, h⟩
theorem Hd.far {w V : World} {b c j : Nat} {u : Value} {O : Obj} (h : Hd w V b O) (hne : b ≠ c) : Hd w (V.setCell ⟨c, j, none⟩ u) b O := ⟨(Below.heap_setCell _ _ _ _ hne).trans h.at_, h.ge⟩
/-- A cursor in a block. -/
def Cu (w : World) (b : Nat) (s : ByteArray) (x : Int) (V : World) : Prop := Hd w V b (.cells #[.string s, .int .i64 x] 140 (0, 0))
theorem Cu.set {w V : World} {b : Nat} {s : ByteArray} {x : Int} (h : Cu w b s x V) (s' : ByteArray) (x' : Int) : Cu w b s' x' ((V.setCell ⟨b, 0, none⟩ (.string s')).setCell ⟨b, 1, none⟩ (.int .i64 x')) := ⟨pair_set h.at_, h.ge⟩
theorem Cu.err {w V : World} {b : Nat} {s : ByteArray} {x : Int} (h : Cu w b s x V) (x' : Int) : Cu w b s x' (V.setCell ⟨b, 1, none⟩ (.int .i64 x')) := by
  refine ⟨?_, h.ge⟩
  have := h.at_
  simp [World.setCell, Array.getElem?_modify, this]
theorem Cu.text {w V : World} {b : Nat} {s : ByteArray} {x : Int} (h : Cu w b s x V) (s' : ByteArray) : Cu w b s' x (V.setCell ⟨b, 0, none⟩ (.string s')) := by
  refine ⟨?_, h.ge⟩
  have := h.at_
  simp [World.setCell, Array.getElem?_modify, this]
theorem Hd.far2 {w V : World} {b c : Nat} {u v : Value} {O : Obj} (h : Hd w V b O) (hne : b ≠ c) : Hd w ((V.setCell ⟨c, 0, none⟩ u).setCell ⟨c, 1, none⟩ v) b O := (h.far hne).far hne
theorem below2 {w V : World} {c : Nat} {u v : Value} (h : Below w.heap.size w V) (hc : w.heap.size ≤ c) : Below w.heap.size w ((V.setCell ⟨c, 0, none⟩ u).setCell ⟨c, 1, none⟩ v) := below_set (below_set h hc _ _) hc _ _

theorem ba_list (s : ByteArray) : s.toList = s.data.toList := by
  have := str_list s.data.toList
  rwa [← ba_str] at this

theorem r6want_calls (w : World) (x : Int) : Calls Tryd.prog 74 #[.int .i64 x] w fun e w' => e = .returned (.int .i64 (if x = 1 then 2 else x)) ∧ w = w' := by
  by_cases h : x = 1
  · subst h
    go_enter Tryd.func74, Tryd.ntmps74
    go_wp2
    go_ret
    exact ⟨rfl, rfl⟩
  · have hb : (x == 1) = false := by simpa using h
    rw [if_neg h]
    clear h
    go_enter Tryd.func74, Tryd.ntmps74
    go_wp2
    go_ret
    exact ⟨rfl, rfl⟩

set_option maxHeartbeats 1000000 in
theorem r6End_calls (w : World) (s : ByteArray) (x E : Int) (hE : endT s x = E) : Calls Tryd.prog 78 #[cur s x] w fun e w' => e = .returned (.int .i64 E) ∧ Below w.heap.size w w' := by
  have B0 := Lib.hid (below_one w (.cells #[.string s, .int .i64 x] 140))
  unfold endT at hE
  by_cases hx : x = 0
  · subst hx
    by_cases hs : s.toList = []
    · have he : s.toList.isEmpty = true := by rw [hs]; rfl
      have hz : s.size = 0 := by rw [← ba_size, ← ba_list, hs]; rfl
      rw [if_neg (by omega)] at hE
      subst hE
      clear hz
      go_enter Tryd.func78, Tryd.ntmps78
      go_wp2_with fail
      refine (r6want_calls _ 0).mono ?_
      rintro e w1 ⟨rfl, rfl⟩
      go_wp2
      go_ret
      exact ⟨rfl, B0.out⟩
    · have he : s.toList.isEmpty = false := by cases h : s.toList <;> simp_all
      have hz : s.size ≠ 0 := fun e => hs (by rw [ba_list]; exact List.eq_nil_of_length_eq_zero (by rw [ba_size]; exact e))
      rw [if_pos (.inr ⟨rfl, hz⟩)] at hE
      subst hE
      clear hz
      go_enter Tryd.func78, Tryd.ntmps78
      go_wp2
      go_ret
      exact ⟨rfl, B0.out⟩
  · have hxb : (x == 0) = false := by simpa using hx
    have hE' : (if x = 1 then 2 else x) = E := by
      rw [← hE]
      by_cases h1 : x = 1
      · rw [if_pos h1, if_pos (.inl h1)]
      · rw [if_neg h1, if_neg (by omega)]
    have HE := Lib.hid hE'
    clear hx hE hE'
    go_enter Tryd.func78, Tryd.ntmps78
    go_wp2_with fail
    refine (r6want_calls _ x).mono ?_
    rw [HE.out]
    rintro e w1 ⟨rfl, rfl⟩
    go_wp2
    go_ret
    exact ⟨rfl, B0.out⟩

set_option maxRecDepth 100000 in
set_option maxHeartbeats 4000000 in
theorem r7id_calls (w : World) (s : ByteArray) (x : Int) (n : Int) (s2 : ByteArray) (x2 : Int) (hi : idT s x = (n, s2, x2)) :
    Calls Tryd.prog 99 #[cur s x] w fun e w' => e = .returned (.tuple #[cur s2 x2, .int .u32 n]) ∧ Below w.heap.size w w' := by
  unfold idT at hi
  rcases hr : rawT s x 2 with ⟨t, s1, x1⟩
  rw [hr] at hi
  dsimp only at hi
  injection hi with e1 e2
  injection e2 with e2 e3
  obtain ⟨m, hm⟩ : ∃ m : Nat, numL t.data.toList = m := ⟨_, rfl⟩
  rw [hm] at e1 e3
  subst e2
  have HN := Lib.hid (show ∀ W, Calls Tryd.prog 75 #[cur s x, .int .i64 2] W fun e w' => e = .returned (.tuple #[cur s1 x1, .int .u32 m]) ∧ Below W.heap.size W w' from fun W => by
    have := r1number_calls W s x 2 t s1 x1 hr (by decide)
    rw [hm] at this
    exact this)
  have b0 := below_one w (.cells #[.string s, .int .i64 x] 140)
  have a0 := Hd.made (w := w) (Nat.le_refl _) #[.string s, .int .i64 x] 140
  have b1 := below_one (w.alloc (.cells #[.string s, .int .i64 x] 140)) (.cells #[.string ⟨#[]⟩, .int .i64 0] 140)
  have z0 := Hd.made (w := w) b0.size #[.string ⟨#[]⟩, .int .i64 0] 140
  have a1 := a0.below b1
  have B := Lib.hid (Below.next b0 b1)
  rw [World.size_alloc] at z0
  have HA := Lib.hid (show Cu w w.heap.size s x _ from a1)
  have HZ := Lib.hid (show Cu w (w.heap.size + 1) ⟨#[]⟩ 0 _ from z0)
  have E1 := Lib.hid e1
  have E3 := Lib.hid e3
  clear hr hm e1 e3 b0 a0 b1 z0 a1
  go_enter Tryd.func99, Tryd.ntmps99
  go_wp2_with fail
  generalize (w.alloc (.cells #[.string s, .int .i64 x] 140)).alloc (.cells #[.string ⟨#[]⟩, .int .i64 0] 140) = W0 at *
  refine (HN.out _).mono ?_
  rintro e W1 ⟨rfl, b⟩
  have B1 := Lib.hid (Below.next B.out b)
  have HA1 := Lib.hid (show Cu w w.heap.size s x _ from Hd.below HA.out b)
  have HZ1 := Lib.hid (show Cu w (w.heap.size + 1) ⟨#[]⟩ 0 _ from Hd.below HZ.out b)
  clear b B HA HZ
  have HA2 := Lib.hid (HA1.out.set s1 x1)
  have HZ2 := Lib.hid (show Cu w (w.heap.size + 1) ⟨#[]⟩ 0 _ from Hd.far2 (u := .string s1) (v := .int .i64 x1) HZ1.out (by omega : w.heap.size + 1 ≠ w.heap.size))
  have B2 := Lib.hid (below2 (u := .string s1) (v := .int .i64 x1) B1.out (Nat.le_refl _))
  obtain ⟨c0, c1, f0, f1⟩ := pair_cells HA1.out.at_
  obtain ⟨d0, d1, g0, g1⟩ := pair_cells HZ1.out.at_
  have hl := HZ1.out.lt
  have hl0 := HA1.out.lt
  by_cases hx : x1 = 0 ∧ m = 0
  · obtain ⟨rfl, rfl⟩ := hx
    have ex : x2 = 3 := by rw [← E3.out]; simp [failed]
    have en : n = 0 := by rw [← E1.out]; rfl
    subst ex
    subst en
    clear E1 E3
    have HA3 := Lib.hid (HA2.out.err 3)
    have HZ3 := Lib.hid (show Cu w (w.heap.size + 1) ⟨#[]⟩ 0 _ from Hd.far (j := 1) (u := .int .i64 3) HZ2.out (by omega : w.heap.size + 1 ≠ w.heap.size))
    have B3 := Lib.hid (below_set B2.out (Nat.le_refl _) 1 (.int .i64 3))
    have HZ4 := Lib.hid (HZ3.out.set s1 3)
    have B4 := Lib.hid (below2 (u := .string s1) (v := .int .i64 3) B3.out (Nat.le_succ _))
    obtain ⟨k0, k1, kf0, kf1⟩ := pair_cells HA3.out.at_
    obtain ⟨m0, m1, _, _⟩ := pair_cells HZ4.out.at_
    go_wp2
    refine bodyPost_ret (v := .tuple #[cur s1 3, .int .u32 0]) ?_ rfl ⟨rfl, B4.out⟩
    simp [results, Tryd.results99, go_sem, m0, m1]
  · have hxx : x2 = x1 := by
      rw [← E3.out]
      by_cases hm0 : m = 0
      · rw [if_pos hm0]
        unfold failed
        rw [if_neg (fun h0 => hx ⟨h0, hm0⟩)]
      · rw [if_neg hm0]
    have en : n = m := E1.out.symm
    subst hxx
    subst en
    have HZ3 := Lib.hid (HZ2.out.set s1 x2)
    have B3 := Lib.hid (below2 (u := .string s1) (v := .int .i64 x2) B2.out (Nat.le_succ _))
    obtain ⟨k0, k1, kf0, kf1⟩ := pair_cells HA2.out.at_
    obtain ⟨m0, m1, _, _⟩ := pair_cells HZ3.out.at_
    by_cases hx0 : x2 = 0
    · have hm0 : ((m : Int) == 0) = false := by
        have : m ≠ 0 := fun e => hx ⟨hx0, e⟩
        simpa using this
      subst hx0
      clear hx E1 E3
      go_wp2
      refine bodyPost_ret (v := .tuple #[cur s1 0, .int .u32 m]) ?_ rfl ⟨rfl, B3.out⟩
      simp [results, Tryd.results99, go_sem, m0, m1]
    · have hxb : (x2 == 0) = false := by simpa using hx0
      clear hx hx0 E1 E3
      go_wp2
      refine bodyPost_ret (v := .tuple #[cur s1 x2, .int .u32 m]) ?_ rfl ⟨rfl, B3.out⟩
      simp [results, Tryd.results99, go_sem, m0, m1]

#print axioms r7id_calls
end Go.Proofs.YtacffjimkplieaaDoor
