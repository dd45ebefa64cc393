/-
  Several texts, one behind the other. (No statement: contracts that the proofs of the statements use.)
-/
import Derived.Test.YtnpkiknidmhciaaDoorJShelf
import Derived.Test.YtnpkiknidmhciaaDoorJBase
import Derived.Lib.MapLaws
import Derived.Lib.ValidLaws
import Derived.Deep.QuietTactic
import Derived.BigQuiet
import Derived.RegionCalls
import Derived.Deep.RegionHeld3
namespace Go.Proofs.YtnpkiknidmhciaaDoor
open Go.RowKit

/-- The two tables of the library, as their text lays them. -/
def Tabs (w : World) : Prop := Lib.Utf8Tabs (Tryd.lays196_ren.g 3) (Tryd.lays196_ren.g 4) w

theorem Tabs.below {w w' : World} (h : Tabs w) (hb : Below w.heap.size w w') : Tabs w' := Utf8Tabs_below h hb

/-- The sign at the beginning of a text, and how many bytes; 0, 0: none. -/
def sgn (s : ByteArray) : Nat × Nat := if (Lib.decodeGo s).1 = 65533 ∧ (Lib.decodeGo s).2 ≤ 1 then (0, 0) else Lib.decodeGo s

/-- Is a text a string of a packet? -/
def goodB (s : ByteArray) : Bool := decide (s.size ≤ 65535) && (Lib.validD s.data.toList && decide (Lib.indexByte s.data.toList 0 < 0))

theorem good_calls (w : World) (s : ByteArray) (hs : s.size ≤ maxLen) (hT : Tabs w) :
    Calls Tryd.prog 121 #[.string s] w fun e w' => e = .returned (.bool (goodB s)) ∧ Below w.heap.size w w' := by
  unfold maxLen at hs
  by_cases h1 : s.size ≤ 65535
  · cases hv : Lib.validD s.data.toList with
    | true =>
      have e : goodB s = decide (Lib.indexByte s.data.toList 0 < 0) := by simp [goodB, h1, hv]
      rw [e]
      have HT := Lib.hid hT
      have HV := Lib.hid hv
      clear hT hv e
      generalize hi : Lib.indexByte s.data.toList 0 = i
      have HI := Lib.hid hi
      clear hi
      go_enter Tryd.func121, Tryd.ntmps121
      go_wp2_with fail
      refine (Tryd.utf8_ValidString s w (by omega) HT.out).mono ?_
      rw [HV.out]
      rintro e w1 ⟨rfl, hb⟩
      have HB := Lib.hid hb
      clear hb HT HV
      go_wp2_with fail
      refine (Tryd.strings_IndexByte s 0 w1).mono ?_
      rintro e w2 ⟨rfl, rfl⟩
      rw [show Lib.indexByte s.data.toList (0 : Int).toNat.toUInt8 = i from HI.out]
      go_wp2
      go_ret
      exact ⟨rfl, HB.out⟩
    | false =>
      have e : goodB s = false := by simp [goodB, hv]
      rw [e]
      have HT := Lib.hid hT
      have HV := Lib.hid hv
      clear hT hv e
      go_enter Tryd.func121, Tryd.ntmps121
      go_wp2_with fail
      refine (Tryd.utf8_ValidString s w (by omega) HT.out).mono ?_
      rw [HV.out]
      rintro e w1 ⟨rfl, hb⟩
      have HB := Lib.hid hb
      clear hb HT HV
      go_wp2
      go_ret
      exact ⟨rfl, HB.out⟩
  · have e : goodB s = false := by simp [goodB, h1]
    rw [e]
    clear hT e
    go_enter Tryd.func121, Tryd.ntmps121
    go_wp2
    go_ret
    exact ⟨rfl, Below.refl _ _⟩

#print axioms good_calls
end Go.Proofs.YtnpkiknidmhciaaDoor

namespace Go.Proofs.YtnpkiknidmhciaaDoor
open Go.RowKit

/-- Block p, and what is new, may have turned. -/
abbrev Chg (p : Nat) (w w' : World) : Prop := w.grownBy w' (some p)
theorem Chg.of_only {p : Nat} {w w' : World} (h : Only p w w') : Chg p w w' := ⟨h.os, h.tape, h.output, Nat.le_of_eq h.size.symm, fun k _ hk => h.block k (fun e => hk (by rw [e]))⟩
theorem Chg.of_below {p : Nat} {w w' : World} (h : Below w.heap.size w w') : Chg p w w' := ⟨h.os, h.tape, h.output, h.size, fun k hk _ => h.block k hk⟩
theorem Chg.below {p B : Nat} {w w' : World} (h : Chg p w w') (hB : B ≤ w.heap.size) (hp : B ≤ p) : Below B w w' :=
  (Below.refl B w).grown h hB (fun k hk => by injection hk with hk; omega)

theorem Tabs.ne_in {w : World} {p : Nat} {s : ByteArray} {x : Int} (h : Tabs w) (hi : InAt w p s x) : Tryd.lays196_ren.g 3 ≠ p ∧ Tryd.lays196_ren.g 4 ≠ p := by
  have c := hi.cell0
  refine ⟨fun e => ?_, fun e => ?_⟩
  · have h1 := h.1 0 (by omega)
    rw [e, c] at h1
    simp at h1
  · have h1 := (h.2 0 (by omega)).1
    rw [e] at h1
    simp only [Nat.mul_zero] at h1
    rw [c] at h1
    simp at h1

theorem Tabs.chg {w w' : World} {p : Nat} {s : ByteArray} {x : Int} (h : Tabs w) (hi : InAt w p s x) (hc : Chg p w w') : Tabs w' := by
  obtain ⟨n3, n4⟩ := h.ne_in hi
  have b3 : Tryd.lays196_ren.g 3 < w.heap.size := World.block_lt_of_cell? w _ (h.1 0 (by omega))
  have b4 : Tryd.lays196_ren.g 4 < w.heap.size := World.block_lt_of_cell? w _ (h.2 0 (by omega)).1
  have k3 := hc.block _ b3 (fun e => n3 (by injection e))
  have k4 := hc.block _ b4 (fun e => n4 (by injection e))
  exact ⟨fun c hc' => (World.cell?_of_block (w := w) k3).trans (h.1 c hc'), fun i hi' => ⟨(World.cell?_of_block (w := w) k4).trans (h.2 i hi').1, (World.cell?_of_block (w := w) k4).trans (h.2 i hi').2⟩⟩

/-- What Take answers, and leaves. -/
def TookS (w : World) (p : Nat) (s : ByteArray) (x : Int) (w' : World) : Prop := InAt w' p s x ∧ Chg p w w'

theorem takeW_calls (w : World) (p : Nat) (s : ByteArray) (x : Int) (t s1 : ByteArray) (x1 : Int) (hr : rawT s x 2 = (t, s1, x1)) (t2 s2 : ByteArray) (x2 : Int) (hr2 : rawT s1 x1 (numL t.data.toList) = (t2, s2, x2)) (h : InAt w p s x) (hT : Tabs w) :
    Calls Tryd.prog 72 #[.pointer (some ⟨p, 0, none⟩)] w fun e w' => e = .returned (.string (if goodB t2 = true then t2 else ⟨#[]⟩)) ∧ TookS w p s2 (if goodB t2 = true then x2 else failed x2 2) w' := by
  have hb := num_lt2 s x t s1 x1 hr
  have ht2 : t2.size ≤ maxLen := by have := rawT_size s1 x1 (numL t.data.toList); rw [hr2] at this; dsimp only at this; unfold maxLen; omega
  have HR := Lib.hid hr
  have HR2 := Lib.hid hr2
  have HT := Lib.hid hT
  clear hr hr2 hT
  cases hg : goodB t2 with
  | true =>
    have HG := Lib.hid hg
    clear hg
    simp only [if_true]
    go_enter Tryd.func72, Tryd.ntmps72
    go_wp2_with fail
    refine (dataIn_calls _ p s x t s1 x1 HR.out t2 s2 x2 HR2.out h).mono ?_
    rintro e w1 ⟨rfl, hi, ho⟩
    have hT1 := HT.out.chg h (Chg.of_only ho)
    go_wp2_with fail
    refine (good_calls _ t2 ht2 hT1).mono ?_
    rw [HG.out]
    rintro e w2 ⟨rfl, hb2⟩
    have HK := Lib.hid (show TookS w p s2 x2 w2 from ⟨hi.below hb2, (Chg.of_only ho).trans (Chg.of_below hb2)⟩)
    clear hb2 hT1 hi ho h HT HR HR2 HG
    go_wp2
    go_ret
    exact ⟨rfl, HK.out⟩
  | false =>
    have HG := Lib.hid hg
    clear hg
    rw [if_neg (by simp), if_neg (by simp)]
    go_enter Tryd.func72, Tryd.ntmps72
    go_wp2_with fail
    refine (dataIn_calls _ p s x t s1 x1 HR.out t2 s2 x2 HR2.out h).mono ?_
    rintro e w1 ⟨rfl, hi, ho⟩
    have hT1 := HT.out.chg h (Chg.of_only ho)
    go_wp2_with fail
    refine (good_calls _ t2 ht2 hT1).mono ?_
    rw [HG.out]
    rintro e w2 ⟨rfl, hb2⟩
    have hi2 := hi.below hb2
    have HC := Lib.hid ((Chg.of_only ho).trans (Chg.of_below hb2))
    clear hb2 hT1 hi ho h HT HR HR2 HG
    go_wp2_with fail
    refine (fail_calls _ p s2 x2 2 hi2).mono ?_
    rintro e w3 ⟨rfl, hi3, ho3⟩
    have HK := Lib.hid (show TookS w p s2 (failed x2 2) w3 from ⟨hi3, HC.out.trans (Chg.of_only ho3)⟩)
    clear hi2 hi3 ho3 HC
    go_wp2
    go_ret
    exact ⟨rfl, HK.out⟩

theorem sgn_1 : sgn ⟨#[195, 169, 120]⟩ = (233, 2) := by decide +kernel
theorem sgn_2 : sgn ⟨#[192, 128]⟩ = (0, 0) := by decide +kernel
theorem good_1 : goodB ⟨#[97, 195, 169]⟩ = true := by decide +kernel
theorem good_2 : goodB ⟨#[97, 0]⟩ = false := by decide +kernel

end Go.Proofs.YtnpkiknidmhciaaDoor

namespace Go.Proofs.YtnpkiknidmhciaaDoor
open Go.RowKit Go.Lib

/-- No sign stands at the beginning. -/
def Bad (l : List UInt8) : Prop := (decodeL l).1 = 65533 ∧ (decodeL l).2 = 1
instance (l : List UInt8) : Decidable (Bad l) := inferInstanceAs (Decidable (_ ∧ _))

theorem getD_of_take {l l' : List UInt8} {k : Nat} (h : l.take k = l'.take k) (i : Nat) (hi : i < k) : l'.getD i 0 = l.getD i 0 := by
  have := congrArg (fun x => x.getD i 0) h
  simp only [List.getD_eq_getElem?_getD, List.getElem?_take, if_pos hi] at this
  simpa using this.symm

theorem len_of_take {l l' : List UInt8} {k : Nat} (h : l.take k = l'.take k) (hk : k ≤ l.length) : k ≤ l'.length := by
  have := congrArg List.length h
  simp at this
  omega

/-- A sign is known by its own bytes alone. -/
theorem dec_agree (l l' : List UInt8) (hne : l ≠ []) (hb : ¬ Bad l) (h : l.take (decodeL l).2 = l'.take (decodeL l).2) : decodeL l' = decodeL l := by
  have hk := decodeL_le l hne
  have hl := len_of_take h hk
  have hg := getD_of_take h
  unfold Bad at hb
  rw [decodeL_N] at hb h hk hl hg ⊢
  rw [decodeL_N]
  rcases decodeN_shape l.length (l.getD 0 0).toNat (l.getD 1 0).toNat (l.getD 2 0).toNat (l.getD 3 0).toNat with ⟨c, e⟩ | ⟨c1, c2, c3, cv, e⟩ | ⟨c1, c2, c3, c4, cv, cs, e⟩ | ⟨c1, c2, c3, c4, c5, cv, cw, e⟩ | e
  · rw [e] at hg hl ⊢
    dsimp only at hg hl
    rw [hg 0 (by omega), decodeN, if_pos c]
  · rw [e] at hg hl ⊢
    dsimp only at hg hl
    rw [hg 0 (by omega), hg 1 (by omega), decodeN, if_neg (by omega), if_pos ⟨c1, by omega, c3⟩, if_pos cv]
  · rw [e] at hg hl ⊢
    dsimp only at hg hl
    rw [hg 0 (by omega), hg 1 (by omega), hg 2 (by omega), decodeN, if_neg (by omega), if_neg (by omega), if_pos ⟨c1, ⟨by omega, c3⟩, by omega, c4⟩, if_pos ⟨cv, by omega⟩]
  · rw [e] at hg hl ⊢
    dsimp only at hg hl
    rw [hg 0 (by omega), hg 1 (by omega), hg 2 (by omega), hg 3 (by omega), decodeN, if_neg (by omega), if_neg (by omega), if_neg (by omega), if_pos ⟨c1, ⟨by omega, c3⟩, ⟨by omega, c4⟩, by omega, c5⟩, if_pos ⟨cv, by omega⟩]
  · rw [e] at hb
    exact absurd ⟨rfl, rfl⟩ hb

theorem dec_append (l m : List UInt8) (hne : l ≠ []) (hb : ¬ Bad l) : decodeL (l ++ m) = decodeL l :=
  dec_agree l (l ++ m) hne hb (by rw [List.take_append_of_le_length (decodeL_le l hne)])
theorem dec_take (l : List UInt8) (hne : l ≠ []) (hb : ¬ Bad l) : decodeL (l.take (decodeL l).2) = decodeL l :=
  dec_agree l _ hne hb (by rw [List.take_take, Nat.min_self])

theorem valid_ne (l : List UInt8) (hne : l ≠ []) (h : validD l = true) : ¬ Bad l ∧ validD (l.drop (decodeL l).2) = true := by
  rw [validD_step l hne] at h
  by_cases hb : (decodeL l).1 = 65533 ∧ (decodeL l).2 = 1
  · rw [if_pos hb] at h; cases h
  · rw [if_neg hb] at h; exact ⟨hb, h⟩

theorem valid_append : ∀ (n : Nat) (a b : List UInt8), a.length ≤ n → validD a = true → validD (a ++ b) = validD b := by
  intro n
  induction n with
  | zero =>
    intro a b hn _
    obtain rfl : a = [] := List.eq_nil_of_length_eq_zero (by omega)
    rfl
  | succ n ih =>
    intro a b hn h
    by_cases hne : a = []
    · subst hne; rfl
    · obtain ⟨hb, hd⟩ := valid_ne a hne h
      have hw := decodeL_width a
      rw [validD_step (a ++ b) (by simp [hne]), dec_append a b hne hb, if_neg (show ¬ ((decodeL a).1 = 65533 ∧ (decodeL a).2 = 1) from hb), List.drop_append_of_le_length (decodeL_le a hne)]
      exact ih _ b (by simp; omega) hd

theorem valid_take (l : List UInt8) (hne : l ≠ []) (h : validD l = true) : validD (l.take (decodeL l).2) = true := by
  obtain ⟨hb, _⟩ := valid_ne l hne h
  have hw := decodeL_width l
  have hk := decodeL_le l hne
  have hne' : l.take (decodeL l).2 ≠ [] := by
    intro e
    have h1 := congrArg List.length e
    rw [List.length_take, List.length_nil] at h1
    have h2 : l.length ≠ 0 := fun e => hne (List.eq_nil_of_length_eq_zero e)
    omega
  have e1 := dec_take l hne hb
  rw [validD_step _ hne', e1, if_neg (show ¬ ((decodeL l).1 = 65533 ∧ (decodeL l).2 = 1) from hb), List.drop_of_length_le (by simp; omega)]
  rfl

theorem index_iff (l : List UInt8) (c : UInt8) : indexByte l c < 0 ↔ c ∉ l := by
  have hge : ∀ l : List UInt8, -1 ≤ indexByte l c := by
    intro l
    induction l with
    | nil => simp [indexByte]
    | cons b l ih =>
      unfold indexByte
      repeat' split
      all_goals omega
  induction l with
  | nil => simp [indexByte]
  | cons b l ih =>
    have h1 := hge l
    unfold indexByte
    by_cases hb : b = c
    · subst hb; simp
    · have hb' : (b == c) = false := by simp [hb]
      rw [hb']
      by_cases hi : indexByte l c = -1
      · have hn : c ∉ l := ih.1 (by omega)
        simp [hi, hn]
        exact fun e => hb e.symm
      · have hi' : (indexByte l c == -1) = false := by simp [hi]
        have hn : ¬ c ∉ l := fun h => by have := ih.2 h; omega
        simp only [hi', Bool.false_eq_true, if_false]
        constructor
        · intro h; omega
        · intro h
          exact absurd (fun e => h (List.mem_cons_of_mem _ e)) hn

theorem good_iff (l : List UInt8) : goodB (str l) = true ↔ l.length ≤ 65535 ∧ validD l = true ∧ (0 : UInt8) ∉ l := by
  unfold goodB
  rw [str_data, str_size]
  simp only [Bool.and_eq_true, decide_eq_true_eq, index_iff]

theorem good_append (a b : List UInt8) (ha : goodB (str a) = true) (hl : a.length + b.length ≤ 65535) : goodB (str (a ++ b)) = goodB (str b) := by
  obtain ⟨_, h2, h3⟩ := (good_iff a).1 ha
  rw [Bool.eq_iff_iff, good_iff, good_iff, valid_append a.length a b (Nat.le_refl _) h2]
  simp only [List.length_append, List.mem_append, not_or]
  constructor
  · rintro ⟨_, k2, k3⟩; exact ⟨by omega, k2, k3.2⟩
  · rintro ⟨_, k2, k3⟩; exact ⟨by omega, k2, h3, k3⟩

theorem sgn_str (l : List UInt8) : sgn (str l) = if l = [] ∨ Bad l then (0, 0) else decodeL l := by
  have e : decodeGo (str l) = if l = [] then (65533, 0) else decodeL l := by
    unfold decodeGo decodeL
    by_cases h : l = []
    · subst h; rfl
    · rw [if_neg (by rw [str_size]; exact fun e => h (List.eq_nil_of_length_eq_zero e)), if_neg h]; rfl
  unfold sgn
  rw [e]
  by_cases h : l = []
  · simp [h]
  · have hw := decodeL_width l
    rw [if_neg h]
    by_cases hb : Bad l
    · rw [if_pos (show (decodeL l).1 = 65533 ∧ (decodeL l).2 ≤ 1 from ⟨hb.1, by have := hb.2; omega⟩), if_pos (.inr hb)]
    · have h1 : ¬ ((decodeL l).1 = 65533 ∧ (decodeL l).2 ≤ 1) := fun hh => hb ⟨hh.1, by omega⟩
      rw [if_neg h1, if_neg (by simp [h, hb])]

theorem good_sign (l : List UInt8) (hne : l ≠ []) (hg : goodB (str l) = true) : (sgn (str l)).2 ≤ l.length ∧ goodB (str (l.drop (sgn (str l)).2)) = true ∧ goodB (str (l.take (sgn (str l)).2)) = true := by
  obtain ⟨h1, h2, h3⟩ := (good_iff l).1 hg
  obtain ⟨hb, hd⟩ := valid_ne l hne h2
  rw [sgn_str, if_neg (by simp [hne, hb])]
  refine ⟨decodeL_le l hne, (good_iff _).2 ⟨by simp; omega, hd, fun h => h3 (List.mem_of_mem_drop h)⟩, (good_iff _).2 ⟨by simp; omega, valid_take l hne h2, fun h => h3 (List.mem_of_mem_take h)⟩⟩

#print axioms good_sign
end Go.Proofs.YtnpkiknidmhciaaDoor

namespace Go.Proofs.YtnpkiknidmhciaaDoor
open Go.RowKit Go.Lib

theorem conv3 (w : World) (x y z : Int) : (convert 51 9 (.slice (some ⟨w.heap.size, 0, none⟩) 3 3)).run Tryd.prog (w.alloc (.cells #[.int .u8 x, .int .u8 y, .int .u8 z] 5)) = .ok (.string (str [UInt8.ofNat x.toNat, UInt8.ofNat y.toNat, UInt8.ofNat z.toNat])) (w.alloc (.cells #[.int .u8 x, .int .u8 y, .int .u8 z] 5)) := by
  rw [run_convert_bytes_arg _ 51 5 Tryd.underlying51 Tryd.underlying5 w.heap.size 0 3 3 [x, y, z] rfl ?_ 9 Tryd.underlying9]
  · rfl
  · intro i hi
    obtain rfl | rfl | rfl : i = 0 ∨ i = 1 ∨ i = 2 := by omega
    · simp
    · simp
    · simp
theorem conv4 (w : World) (x y z u : Int) : (convert 51 9 (.slice (some ⟨w.heap.size, 0, none⟩) 4 4)).run Tryd.prog (w.alloc (.cells #[.int .u8 x, .int .u8 y, .int .u8 z, .int .u8 u] 5)) = .ok (.string (str [UInt8.ofNat x.toNat, UInt8.ofNat y.toNat, UInt8.ofNat z.toNat, UInt8.ofNat u.toNat])) (w.alloc (.cells #[.int .u8 x, .int .u8 y, .int .u8 z, .int .u8 u] 5)) := by
  rw [run_convert_bytes_arg _ 51 5 Tryd.underlying51 Tryd.underlying5 w.heap.size 0 4 4 [x, y, z, u] rfl ?_ 9 Tryd.underlying9]
  · rfl
  · intro i hi
    obtain rfl | rfl | rfl | rfl : i = 0 ∨ i = 1 ∨ i = 2 ∨ i = 3 := by omega
    · simp
    · simp
    · simp
    · simp

/-- A sign's bytes. -/
def spellL (v : Nat) : List UInt8 :=
  if v < 128 then [UInt8.ofNat v]
  else if v < 2048 then [UInt8.ofNat (192 + v / 64), UInt8.ofNat (128 + v % 64)]
  else if v < 65536 then [UInt8.ofNat (224 + v / 4096), UInt8.ofNat (128 + v / 64 % 64), UInt8.ofNat (128 + v % 64)]
  else [UInt8.ofNat (240 + v / 262144), UInt8.ofNat (128 + v / 4096 % 64), UInt8.ofNat (128 + v / 64 % 64), UInt8.ofNat (128 + v % 64)]

set_option maxRecDepth 100000 in
theorem spell_calls (w : World) (v : Nat) (hv : v ≤ 2097151) :
    Calls Tryd.prog 161 #[.int .i64 v] w fun e w' => e = .returned (.string (str (spellL v))) ∧ Below w.heap.size w w' := by
  unfold spellL
  by_cases h1 : v < 128
  · rw [if_pos h1]
    have hcv := conv1 w (v : Int)
    rw [Int.toNat_natCast] at hcv
    generalize UInt8.ofNat v = q at *
    go_enter Tryd.func161, Tryd.ntmps161
    go_wp2
    go_ret
    exact ⟨rfl, below_one _ _⟩
  · rw [if_neg h1]
    by_cases h2 : v < 2048
    · rw [if_pos h2]
      have hcv := conv2 w (192 + (v : Int) / 64) (128 + (v : Int) % 64)
      rw [show (192 + (v : Int) / 64).toNat = 192 + v / 64 by omega, show (128 + (v : Int) % 64).toNat = 128 + v % 64 by omega] at hcv
      generalize UInt8.ofNat (192 + v / 64) = q at *
      generalize UInt8.ofNat (128 + v % 64) = q2 at *
      go_enter Tryd.func161, Tryd.ntmps161
      go_wp2
      go_ret
      exact ⟨rfl, below_one _ _⟩
    · rw [if_neg h2]
      by_cases h3 : v < 65536
      · rw [if_pos h3]
        have hcv := conv3 w (224 + (v : Int) / 4096) (128 + (v : Int) / 64 % 64) (128 + (v : Int) % 64)
        rw [show (224 + (v : Int) / 4096).toNat = 224 + v / 4096 by omega, show (128 + (v : Int) / 64 % 64).toNat = 128 + v / 64 % 64 by omega, show (128 + (v : Int) % 64).toNat = 128 + v % 64 by omega] at hcv
        generalize UInt8.ofNat (224 + v / 4096) = q at *
        generalize UInt8.ofNat (128 + v / 64 % 64) = q1 at *
        generalize UInt8.ofNat (128 + v % 64) = q2 at *
        have d1 : decide ((v : Int) < 128) = false := by simp; omega
        have d2 : decide ((v : Int) < 2048) = false := by simp; omega
        have d3 : decide ((v : Int) < 65536) = true := by simp; omega
        have q4 : (v : Int) / 4096 ≤ 15 := by omega
        have q5 : 0 ≤ (v : Int) / 4096 := by omega
        have q6 : (v : Int) ≤ 65535 := by omega
        clear h1 h2 h3 hv
        go_enter Tryd.func161, Tryd.ntmps161
        go_wp2
        go_ret
        exact ⟨rfl, below_one _ _⟩
      · rw [if_neg h3]
        have hcv := conv4 w (240 + (v : Int) / 262144) (128 + (v : Int) / 4096 % 64) (128 + (v : Int) / 64 % 64) (128 + (v : Int) % 64)
        rw [show (240 + (v : Int) / 262144).toNat = 240 + v / 262144 by omega, show (128 + (v : Int) / 4096 % 64).toNat = 128 + v / 4096 % 64 by omega, show (128 + (v : Int) / 64 % 64).toNat = 128 + v / 64 % 64 by omega, show (128 + (v : Int) % 64).toNat = 128 + v % 64 by omega] at hcv
        generalize UInt8.ofNat (240 + v / 262144) = q at *
        generalize UInt8.ofNat (128 + v / 4096 % 64) = q0 at *
        generalize UInt8.ofNat (128 + v / 64 % 64) = q1 at *
        generalize UInt8.ofNat (128 + v % 64) = q2 at *
        have d1 : decide ((v : Int) < 128) = false := by simp; omega
        have d2 : decide ((v : Int) < 2048) = false := by simp; omega
        have d3 : decide ((v : Int) < 65536) = false := by simp; omega
        have q4 : (v : Int) / 262144 ≤ 7 := by omega
        have q5 : 0 ≤ (v : Int) / 262144 := by omega
        have q6 : (v : Int) ≤ 2097151 := by omega
        clear h1 h2 h3 hv
        go_enter Tryd.func161, Tryd.ntmps161
        go_wp2
        go_ret
        exact ⟨rfl, below_one _ _⟩

/-- The value of the first k bytes, if m is that of the first. -/
def valAcc (l : List UInt8) (m : Nat) : Nat → Nat
  | 0 => m
  | k + 1 => valAcc l m k * 64 + (l.getD (k + 1) 0).toNat % 64

def headV (l : List UInt8) (n : Nat) : Nat := if n = 2 then (l.getD 0 0).toNat % 32 else if n = 3 then (l.getD 0 0).toNat % 16 else if n = 4 then (l.getD 0 0).toNat % 8 else (l.getD 0 0).toNat

theorem get_str (l : List UInt8) (i : Nat) (h : i < (str l).size) : (str l)[i] = l.getD i 0 := by
  have h' : i < l.length := by rwa [str_size] at h
  rw [List.getD_eq_getElem?_getD, List.getElem?_eq_getElem h']
  rfl

theorem valAcc_lt (l : List UInt8) (m : Nat) (hm : m < 256) : ∀ k, valAcc l m k < 256 * 64 ^ k
  | 0 => by simpa [valAcc] using hm
  | k + 1 => by
    have ih := valAcc_lt l m hm k
    have := Nat.mod_lt (l.getD (k + 1) 0).toNat (show 64 > 0 by omega)
    rw [valAcc, Nat.pow_succ]
    omega

set_option maxRecDepth 100000 in
set_option maxHeartbeats 1000000 in
theorem value_calls (w : World) (l : List UInt8) (n : Nat) (h1 : 1 ≤ n) (h4 : n ≤ 4) (hl : n ≤ l.length) (hm : l.length ≤ 70000) :
    Calls Tryd.prog 160 #[.string (str l), .int .i64 n] w fun e w' => e = .returned (.int .i64 (valAcc l (headV l n) (n - 1))) ∧ w = w' := by
  have hz : n ≤ (str l).size := by rw [str_size]; exact hl
  have hz2 : (str l).size ≤ 70000 := by rw [str_size]; exact hm
  have h0 : 0 < (str l).size := by omega
  obtain ⟨b0, hg0⟩ : ∃ b0, (str l)[0] = b0 := ⟨_, rfl⟩
  have HB0 := Lib.hid ((get_str l 0 h0).symm.trans hg0)
  have hb0 := b0.toNat_lt
  have hb0' : b0.toNat < 256 := by omega
  clear hb0
  obtain ⟨M, hM⟩ : ∃ M, headV l n = M := ⟨_, rfl⟩
  have HM := Lib.hid hM
  rw [hM]
  clear hM
  have HA : Hid (∀ k, valAcc l M k < 256 * 64 ^ k) := valAcc_lt l M (by
    rw [← HM.out]; unfold headV; rw [HB0.out]
    split
    · omega
    · split
      · omega
      · split <;> omega)
  rcases (show n = 1 ∨ n = 2 ∨ n = 3 ∨ n = 4 by omega) with hn | hn | hn | hn
  · have hMe : (b0.toNat : Int) = (M : Int) := by rw [← HM.out, headV, HB0.out, hn]; rfl
    have e2 : ((n : Int) == 2) = false := by rw [hn]; rfl
    have e3 : ((n : Int) == 3) = false := by rw [hn]; rfl
    have e4 : ((n : Int) == 4) = false := by rw [hn]; rfl
    clear hn HM HB0
    go_enter Tryd.func160, Tryd.ntmps160
    go_wp2
    go_loop [5, 6] (fun a c => ∃ k : Nat, c = .int .i64 (k + 1 : Nat) ∧ k + 1 ≤ n ∧ a = .int .i64 (valAcc l M k)) (fun _ c => n - (RowKit.intOf c).toNat)
    case atStart => exact ⟨0, rfl, h1, by first | rfl | exact congrArg (Value.int .i64) hMe⟩
    case round =>
      obtain ⟨k, rfl, hk, rfl⟩ := hrel
      clear hMe e2 e3 e4
      by_cases hlt : k + 1 < n
      · have hsz : k + 1 < (str l).size := by omega
        obtain ⟨b, hb⟩ : ∃ b, (str l)[k + 1] = b := ⟨_, rfl⟩
        have HS : Hid (valAcc l M (k + 1) = valAcc l M k * 64 + b.toNat % 64) := by unfold Hid; rw [valAcc, ← get_str l (k + 1) hsz, hb]
        have hv := HA.out k
        have hv' : valAcc l M k < 16777216 := Nat.lt_of_lt_of_le hv (Nat.le_trans (Nat.mul_le_mul_left 256 (Nat.pow_le_pow_right (by omega) (show k ≤ 2 by omega))) (by omega))
        have hbb := b.toNat_lt
        have hbb' : b.toNat < 256 := by omega
        clear hv hbb HA
        generalize valAcc l M k = v at *
        go_wp2
        go_round
        case rel => exact ⟨k + 1, by go_num, by omega, by rw [HS.out]; go_num⟩
        case measure => simp [RowKit.intOf]; omega
      · obtain rfl : k = n - 1 := by omega
        go_wp2
        go_ret
        exact ⟨rfl, rfl⟩
  · have hMe : (b0.toNat : Int) % 32 = (M : Int) := by rw [← HM.out, headV, HB0.out, hn]; rfl
    have e2 : ((n : Int) == 2) = true := by rw [hn]; rfl
    have e3 : ((n : Int) == 3) = false := by rw [hn]; rfl
    have e4 : ((n : Int) == 4) = false := by rw [hn]; rfl
    clear hn HM HB0
    go_enter Tryd.func160, Tryd.ntmps160
    go_wp2
    go_loop [5, 6] (fun a c => ∃ k : Nat, c = .int .i64 (k + 1 : Nat) ∧ k + 1 ≤ n ∧ a = .int .i64 (valAcc l M k)) (fun _ c => n - (RowKit.intOf c).toNat)
    case atStart => exact ⟨0, rfl, h1, by first | rfl | exact congrArg (Value.int .i64) hMe⟩
    case round =>
      obtain ⟨k, rfl, hk, rfl⟩ := hrel
      clear hMe e2 e3 e4
      by_cases hlt : k + 1 < n
      · have hsz : k + 1 < (str l).size := by omega
        obtain ⟨b, hb⟩ : ∃ b, (str l)[k + 1] = b := ⟨_, rfl⟩
        have HS : Hid (valAcc l M (k + 1) = valAcc l M k * 64 + b.toNat % 64) := by unfold Hid; rw [valAcc, ← get_str l (k + 1) hsz, hb]
        have hv := HA.out k
        have hv' : valAcc l M k < 16777216 := Nat.lt_of_lt_of_le hv (Nat.le_trans (Nat.mul_le_mul_left 256 (Nat.pow_le_pow_right (by omega) (show k ≤ 2 by omega))) (by omega))
        have hbb := b.toNat_lt
        have hbb' : b.toNat < 256 := by omega
        clear hv hbb HA
        generalize valAcc l M k = v at *
        go_wp2
        go_round
        case rel => exact ⟨k + 1, by go_num, by omega, by rw [HS.out]; go_num⟩
        case measure => simp [RowKit.intOf]; omega
      · obtain rfl : k = n - 1 := by omega
        go_wp2
        go_ret
        exact ⟨rfl, rfl⟩
  · have hMe : (b0.toNat : Int) % 16 = (M : Int) := by rw [← HM.out, headV, HB0.out, hn]; rfl
    have e2 : ((n : Int) == 2) = false := by rw [hn]; rfl
    have e3 : ((n : Int) == 3) = true := by rw [hn]; rfl
    have e4 : ((n : Int) == 4) = false := by rw [hn]; rfl
    clear hn HM HB0
    go_enter Tryd.func160, Tryd.ntmps160
    go_wp2
    go_loop [5, 6] (fun a c => ∃ k : Nat, c = .int .i64 (k + 1 : Nat) ∧ k + 1 ≤ n ∧ a = .int .i64 (valAcc l M k)) (fun _ c => n - (RowKit.intOf c).toNat)
    case atStart => exact ⟨0, rfl, h1, by first | rfl | exact congrArg (Value.int .i64) hMe⟩
    case round =>
      obtain ⟨k, rfl, hk, rfl⟩ := hrel
      clear hMe e2 e3 e4
      by_cases hlt : k + 1 < n
      · have hsz : k + 1 < (str l).size := by omega
        obtain ⟨b, hb⟩ : ∃ b, (str l)[k + 1] = b := ⟨_, rfl⟩
        have HS : Hid (valAcc l M (k + 1) = valAcc l M k * 64 + b.toNat % 64) := by unfold Hid; rw [valAcc, ← get_str l (k + 1) hsz, hb]
        have hv := HA.out k
        have hv' : valAcc l M k < 16777216 := Nat.lt_of_lt_of_le hv (Nat.le_trans (Nat.mul_le_mul_left 256 (Nat.pow_le_pow_right (by omega) (show k ≤ 2 by omega))) (by omega))
        have hbb := b.toNat_lt
        have hbb' : b.toNat < 256 := by omega
        clear hv hbb HA
        generalize valAcc l M k = v at *
        go_wp2
        go_round
        case rel => exact ⟨k + 1, by go_num, by omega, by rw [HS.out]; go_num⟩
        case measure => simp [RowKit.intOf]; omega
      · obtain rfl : k = n - 1 := by omega
        go_wp2
        go_ret
        exact ⟨rfl, rfl⟩
  · have hMe : (b0.toNat : Int) % 8 = (M : Int) := by rw [← HM.out, headV, HB0.out, hn]; rfl
    have e2 : ((n : Int) == 2) = false := by rw [hn]; rfl
    have e3 : ((n : Int) == 3) = false := by rw [hn]; rfl
    have e4 : ((n : Int) == 4) = true := by rw [hn]; rfl
    clear hn HM HB0
    go_enter Tryd.func160, Tryd.ntmps160
    go_wp2
    go_loop [5, 6] (fun a c => ∃ k : Nat, c = .int .i64 (k + 1 : Nat) ∧ k + 1 ≤ n ∧ a = .int .i64 (valAcc l M k)) (fun _ c => n - (RowKit.intOf c).toNat)
    case atStart => exact ⟨0, rfl, h1, by first | rfl | exact congrArg (Value.int .i64) hMe⟩
    case round =>
      obtain ⟨k, rfl, hk, rfl⟩ := hrel
      clear hMe e2 e3 e4
      by_cases hlt : k + 1 < n
      · have hsz : k + 1 < (str l).size := by omega
        obtain ⟨b, hb⟩ : ∃ b, (str l)[k + 1] = b := ⟨_, rfl⟩
        have HS : Hid (valAcc l M (k + 1) = valAcc l M k * 64 + b.toNat % 64) := by unfold Hid; rw [valAcc, ← get_str l (k + 1) hsz, hb]
        have hv := HA.out k
        have hv' : valAcc l M k < 16777216 := Nat.lt_of_lt_of_le hv (Nat.le_trans (Nat.mul_le_mul_left 256 (Nat.pow_le_pow_right (by omega) (show k ≤ 2 by omega))) (by omega))
        have hbb := b.toNat_lt
        have hbb' : b.toNat < 256 := by omega
        clear hv hbb HA
        generalize valAcc l M k = v at *
        go_wp2
        go_round
        case rel => exact ⟨k + 1, by go_num, by omega, by rw [HS.out]; go_num⟩
        case measure => simp [RowKit.intOf]; omega
      · obtain rfl : k = n - 1 := by omega
        go_wp2
        go_ret
        exact ⟨rfl, rfl⟩

#print axioms spell_calls
end Go.Proofs.YtnpkiknidmhciaaDoor

namespace Go.Proofs.YtnpkiknidmhciaaDoor
open Go.RowKit Go.Lib

/-- May a number be a sign? -/
def isSign (v : Nat) : Prop := v ≤ 1114111 ∧ (v < 55296 ∨ 57343 < v)

theorem toNat_byte (n : Nat) (h : n < 256) : (UInt8.ofNat n).toNat = n := by rw [UInt8.toNat_ofNat']; exact Nat.mod_eq_of_lt (by omega)

theorem spellL_len (v : Nat) : 1 ≤ (spellL v).length ∧ (spellL v).length ≤ 4 := by
  unfold spellL
  split
  · simp
  · split
    · simp
    · split <;> simp

theorem spellL_ne (v : Nat) : spellL v ≠ [] := fun e => by have := spellL_len v; rw [e] at this; simp at this

/-- A number's bytes are its sign. -/
theorem dec_spell (v : Nat) (hv : isSign v) (t : List UInt8) : decodeL (spellL v ++ t) = (v, (spellL v).length) := by
  obtain ⟨h1, h2⟩ := hv
  rw [decodeL_N]
  unfold spellL
  by_cases c1 : v < 128
  · rw [if_pos c1]
    simp only [List.cons_append, List.nil_append, List.getD_cons_zero, List.length_cons, List.length_nil]
    rw [toNat_byte v (by omega), decodeN, if_pos c1]
  · rw [if_neg c1]
    by_cases c2 : v < 2048
    · rw [if_pos c2]
      simp only [List.cons_append, List.nil_append, List.getD_cons_zero, List.getD_cons_succ, List.length_cons, List.length_nil]
      rw [toNat_byte (192 + v / 64) (by omega), toNat_byte (128 + v % 64) (by omega), decodeN, if_neg (by omega), if_pos (by omega), if_pos (by omega)]
      congr 1
      omega
    · rw [if_neg c2]
      by_cases c3 : v < 65536
      · rw [if_pos c3]
        simp only [List.cons_append, List.nil_append, List.getD_cons_zero, List.getD_cons_succ, List.length_cons, List.length_nil]
        rw [toNat_byte (224 + v / 4096) (by omega), toNat_byte (128 + v / 64 % 64) (by omega), toNat_byte (128 + v % 64) (by omega), decodeN, if_neg (by omega), if_neg (by omega), if_pos (by omega), if_pos (by omega)]
        congr 1
        omega
      · rw [if_neg c3]
        simp only [List.cons_append, List.nil_append, List.getD_cons_zero, List.getD_cons_succ, List.length_cons, List.length_nil]
        rw [toNat_byte (240 + v / 262144) (by omega), toNat_byte (128 + v / 4096 % 64) (by omega), toNat_byte (128 + v / 64 % 64) (by omega), toNat_byte (128 + v % 64) (by omega), decodeN, if_neg (by omega), if_neg (by omega), if_neg (by omega), if_pos (by omega), if_pos (by omega)]
        congr 1
        omega

theorem not_bad_spell (v : Nat) (hv : isSign v) (t : List UInt8) : ¬ Bad (spellL v ++ t) := by
  unfold Bad
  rw [dec_spell v hv t]
  rintro ⟨rfl, h⟩
  revert h
  decide

/-- A number that is no sign has no bytes. -/
theorem bad_spell (v : Nat) (hv : ¬ isSign v) (hm : v ≤ 2097151) (t : List UInt8) : Bad (spellL v ++ t) := by
  unfold isSign at hv
  unfold Bad
  rw [decodeL_N]
  have c1 : ¬ v < 128 := by omega
  have c2 : ¬ v < 2048 := by omega
  unfold spellL
  rw [if_neg c1, if_neg c2]
  by_cases c3 : v < 65536
  · rw [if_pos c3]
    simp only [List.cons_append, List.nil_append, List.getD_cons_zero, List.getD_cons_succ, List.length_cons]
    rw [toNat_byte (224 + v / 4096) (by omega), toNat_byte (128 + v / 64 % 64) (by omega), toNat_byte (128 + v % 64) (by omega), decodeN, if_neg (by omega), if_neg (by omega), if_pos (by omega), if_neg (by omega)]
    exact ⟨rfl, rfl⟩
  · rw [if_neg c3]
    simp only [List.cons_append, List.nil_append, List.getD_cons_zero, List.getD_cons_succ, List.length_cons]
    rw [toNat_byte (240 + v / 262144) (by omega), toNat_byte (128 + v / 4096 % 64) (by omega), toNat_byte (128 + v / 64 % 64) (by omega), toNat_byte (128 + v % 64) (by omega), decodeN, if_neg (by omega), if_neg (by omega), if_neg (by omega), if_pos (by omega), if_neg (by omega)]
    exact ⟨rfl, rfl⟩

/-- Of a sign that is cut there is none. -/
theorem sgn_cut (v : Nat) (hv : isSign v) : (sgn (str ((spellL v).take ((spellL v).length - 1)))).2 = 0 := by
  by_cases hb : (spellL v).length = 1
  · rw [hb]; rfl
  · have hl := spellL_len v
    generalize hL : spellL v = L at *
    have hne : L.take (L.length - 1) ≠ [] := fun e => by
      have := congrArg List.length e
      rw [List.length_take, List.length_nil] at this
      omega
    rw [sgn_str]
    by_cases hbad : Bad (L.take (L.length - 1))
    · rw [if_pos (.inr hbad)]
    · exfalso
      have h1 := dec_append (L.take (L.length - 1)) (L.drop (L.length - 1)) hne hbad
      rw [List.take_append_drop] at h1
      have h2 := dec_spell v hv []
      rw [List.append_nil, hL] at h2
      have h3 := decodeL_le _ hne
      rw [← h1, h2, List.length_take] at h3
      dsimp only at h3
      omega

theorem sgn_spell (v : Nat) (hv : isSign v) (t : List UInt8) : sgn (str (spellL v ++ t)) = (v, (spellL v).length) := by
  rw [sgn_str, if_neg, dec_spell v hv t]
  rintro (h | h)
  · exact spellL_ne v (List.append_eq_nil_iff.1 h).1
  · exact not_bad_spell v hv t h
theorem sgn_nospell (v : Nat) (hv : ¬ isSign v) (hm : v ≤ 2097151) (t : List UInt8) : sgn (str (spellL v ++ t)) = (0, 0) := by
  rw [sgn_str, if_pos (.inr (bad_spell v hv hm t))]

theorem spell_encode (v : Nat) (hv : isSign v) : spellL v = encodeRune (v : Int) := by
  obtain ⟨h1, h2⟩ := hv
  unfold spellL encodeRune
  by_cases c1 : v < 128
  · rw [if_pos c1, encodeRuneZ_one (by omega) (by omega)]; rfl
  · rw [if_neg c1]
    by_cases c2 : v < 2048
    · rw [if_pos c2, encodeRuneZ_two (by omega) (by omega)]
      simp only [List.map_cons, List.map_nil]
      rw [show (192 + (v : Int) / 64).toNat = 192 + v / 64 by omega, show (128 + (v : Int) % 64).toNat = 128 + v % 64 by omega]
    · rw [if_neg c2]
      by_cases c3 : v < 65536
      · rw [if_pos c3, encodeRuneZ_three (by omega)]
        simp only [List.map_cons, List.map_nil]
        rw [show (224 + (v : Int) / 4096).toNat = 224 + v / 4096 by omega, show (128 + (v : Int) / 64 % 64).toNat = 128 + v / 64 % 64 by omega, show (128 + (v : Int) % 64).toNat = 128 + v % 64 by omega]
      · rw [if_neg c3, encodeRuneZ_four (by omega) (by omega)]
        simp only [List.map_cons, List.map_nil]
        rw [show (240 + (v : Int) / 262144).toNat = 240 + v / 262144 by omega, show (128 + (v : Int) / 4096 % 64).toNat = 128 + v / 4096 % 64 by omega, show (128 + (v : Int) / 64 % 64).toNat = 128 + v / 64 % 64 by omega, show (128 + (v : Int) % 64).toNat = 128 + v % 64 by omega]

/-- The value of the first n bytes, as if they were a sign's. -/
def valL (l : List UInt8) (n : Nat) : Nat := valAcc l (headV l n) (n - 1)

/-- The first n bytes are a sign's just if the sign has n bytes. -/
theorem spells_iff (l : List UInt8) (n : Nat) (h1 : 1 ≤ n) (h4 : n ≤ 4) (hl : n ≤ l.length) : (isSign (valL l n) ∧ spellL (valL l n) = l.take n) ↔ (¬ Bad l ∧ (decodeL l).2 = n) := by
  have hne : l ≠ [] := fun e => by rw [e] at hl; simp at hl; omega
  constructor
  · rintro ⟨hs, he⟩
    have hd := dec_spell _ hs (l.drop n)
    rw [he, List.take_append_drop] at hd
    have hb := not_bad_spell _ hs (l.drop n)
    rw [he, List.take_append_drop] at hb
    refine ⟨hb, ?_⟩
    rw [hd]
    simp; omega
  · rintro ⟨hb, hn⟩
    have hv : valL l n = (decodeL l).1 ∧ isSign (decodeL l).1 := by
      have hb' := hb
      unfold Bad at hb'
      rw [decodeL_N] at hb' hn ⊢
      have k0 := (l.getD 0 0).toNat_lt
      have k1 := (l.getD 1 0).toNat_lt
      have k2 := (l.getD 2 0).toNat_lt
      have k3 := (l.getD 3 0).toNat_lt
      unfold isSign
      rcases decodeN_shape l.length (l.getD 0 0).toNat (l.getD 1 0).toNat (l.getD 2 0).toNat (l.getD 3 0).toNat with ⟨c, e⟩ | ⟨c1, c2, c3, cv, e⟩ | ⟨c1, c2, c3, c4, cv, cs, e⟩ | ⟨c1, c2, c3, c4, c5, cv, cw, e⟩ | e
      · rw [e] at hn ⊢
        dsimp only at hn ⊢
        subst hn
        exact ⟨rfl, by omega⟩
      · rw [e] at hn ⊢
        dsimp only at hn ⊢
        subst hn
        simp only [valL, headV, valAcc, if_true]
        exact ⟨by simp, by omega⟩
      · rw [e] at hn ⊢
        dsimp only at hn ⊢
        subst hn
        simp only [valL, headV, valAcc, if_true]
        refine ⟨?_, by omega⟩
        simp
        omega
      · rw [e] at hn ⊢
        dsimp only at hn ⊢
        subst hn
        simp only [valL, headV, valAcc, if_true]
        refine ⟨?_, by omega⟩
        simp
        omega
      · rw [e] at hb'
        exact absurd ⟨rfl, rfl⟩ hb'
    rw [hv.1]
    exact ⟨hv.2, by rw [spell_encode _ hv.2, encode_decode l hne hb, hn]⟩

theorem val_dec (l : List UInt8) (n : Nat) (h1 : 1 ≤ n) (h4 : n ≤ 4) (hl : n ≤ l.length) (hb : ¬ Bad l) (hn : (decodeL l).2 = n) : valL l n = (decodeL l).1 := by
  have hne : l ≠ [] := fun e => by rw [e] at hl; simp at hl; omega
  obtain ⟨hs, he⟩ := (spells_iff l n h1 h4 hl).2 ⟨hb, hn⟩
  have hd := dec_spell _ hs (l.drop n)
  rw [he, List.take_append_drop] at hd
  rw [hd]

#print axioms sgn_cut
end Go.Proofs.YtnpkiknidmhciaaDoor

namespace Go.Proofs.YtnpkiknidmhciaaDoor
open Go.RowKit Go.Lib

theorem dec_le4' (l : List UInt8) : (decodeL l).2 ≤ 4 := by
  rw [decodeL_N]
  rcases decodeN_shape l.length (l.getD 0 0).toNat (l.getD 1 0).toNat (l.getD 2 0).toNat (l.getD 3 0).toNat with ⟨c, e⟩ | ⟨c1, c2, c3, cv, e⟩ | ⟨c1, c2, c3, c4, cv, cs, e⟩ | ⟨c1, c2, c3, c4, c5, cv, cw, e⟩ | e
  all_goals (rw [e]; dsimp only; omega)

theorem sgn_le (l : List UInt8) : (sgn (str l)).2 ≤ l.length := by
  rw [sgn_str]
  by_cases h : l = [] ∨ Bad l
  · rw [if_pos h]; exact Nat.zero_le _
  · rw [if_neg h]; exact decodeL_le l (fun e => h (.inl e))

theorem sgn_nil : (sgn (str [])).2 = 0 := by rw [sgn_str, if_pos (.inl rfl)]

/-- How many signs a text has, as far as they go. -/
def nsig (l : List UInt8) : Nat := if h : (sgn (str l)).2 = 0 then 0 else nsig (l.drop (sgn (str l)).2) + 1
termination_by l.length
decreasing_by
  have hne : l ≠ [] := fun e => h (by rw [e]; exact sgn_nil)
  have := List.length_pos_iff.2 hne
  rw [List.length_drop]
  omega

theorem nsig_none (l : List UInt8) (h : (sgn (str l)).2 = 0) : nsig l = 0 := by rw [nsig, dif_pos h]
theorem nsig_one (l : List UInt8) (h : (sgn (str l)).2 ≠ 0) : nsig l = nsig (l.drop (sgn (str l)).2) + 1 := by rw [nsig, dif_neg h]

theorem good_spell (v : Nat) (hv : isSign v) (h0 : v ≠ 0) : goodB (str (spellL v)) = true := by
  have hl := spellL_len v
  have hd := dec_spell v hv []
  have hb := not_bad_spell v hv []
  rw [List.append_nil] at hd hb
  refine (good_iff _).2 ⟨by omega, ?_, ?_⟩
  · rw [validD_step _ (spellL_ne v), if_neg (show ¬ ((decodeL (spellL v)).1 = 65533 ∧ (decodeL (spellL v)).2 = 1) from hb), hd]
    rw [List.drop_of_length_le (Nat.le_refl _)]
    rfl
  · have hz : ∀ n : Nat, n ≠ 0 → n < 256 → (0 : UInt8) ≠ UInt8.ofNat n := fun n h1 h2 e => by
      have := congrArg UInt8.toNat e
      rw [toNat_byte n h2] at this
      exact h1 this.symm
    obtain ⟨h1, h2⟩ := hv
    unfold spellL
    by_cases c1 : v < 128
    · rw [if_pos c1]; simp only [List.mem_cons, List.not_mem_nil, or_false]; exact hz _ h0 (by omega)
    · rw [if_neg c1]
      by_cases c2 : v < 2048
      · rw [if_pos c2]; simp only [List.mem_cons, List.not_mem_nil, or_false, not_or]; exact ⟨hz _ (by omega) (by omega), hz _ (by omega) (by omega)⟩
      · rw [if_neg c2]
        by_cases c3 : v < 65536
        · rw [if_pos c3]; simp only [List.mem_cons, List.not_mem_nil, or_false, not_or]; exact ⟨hz _ (by omega) (by omega), hz _ (by omega) (by omega), hz _ (by omega) (by omega)⟩
        · rw [if_neg c3]; simp only [List.mem_cons, List.not_mem_nil, or_false, not_or]; exact ⟨hz _ (by omega) (by omega), hz _ (by omega) (by omega), hz _ (by omega) (by omega), hz _ (by omega) (by omega)⟩

/-- A text's first bytes are its sign's. -/
theorem sgn_spelled (l : List UInt8) (h : (sgn (str l)).2 ≠ 0) : isSign (sgn (str l)).1 ∧ spellL (sgn (str l)).1 = l.take (sgn (str l)).2 := by
  have hc : ¬ (l = [] ∨ Bad l) := fun hc => h (by rw [sgn_str, if_pos hc])
  rw [sgn_str, if_neg hc]
  have hne : l ≠ [] := fun e => hc (.inl e)
  have hb : ¬ Bad l := fun e => hc (.inr e)
  have h1 := decodeL_width l
  have h4 := dec_le4' l
  have hk := decodeL_le l hne
  have hs := (spells_iff l (decodeL l).2 (by omega) h4 hk).2 ⟨hb, rfl⟩
  rwa [val_dec l (decodeL l).2 (by omega) h4 hk hb rfl] at hs

theorem good_step (l : List UInt8) (hne : l ≠ []) (hl : l.length ≤ 65535) :
    goodB (str l) = if (sgn (str l)).2 = 0 ∨ (sgn (str l)).1 = 0 then false else goodB (str (l.drop (sgn (str l)).2)) := by
  by_cases h0 : (sgn (str l)).2 = 0
  · rw [if_pos (.inl h0)]
    have hb : Bad l := by
      by_cases hb : Bad l
      · exact hb
      · exfalso
        have h1 := decodeL_width l
        rw [sgn_str, if_neg (by simp [hne, hb])] at h0
        omega
    cases hg : goodB (str l) with
    | false => rfl
    | true => exact absurd hb (valid_ne l hne ((good_iff l).1 hg).2.1).1
  · obtain ⟨hs, hp⟩ := sgn_spelled l h0
    by_cases hv : (sgn (str l)).1 = 0
    · rw [if_pos (.inr hv)]
      rw [hv] at hp
      have hm : (0 : UInt8) ∈ l := by
        have : (0 : UInt8) ∈ spellL 0 := by decide
        rw [hp] at this
        exact List.mem_of_mem_take this
      cases hg : goodB (str l) with
      | false => rfl
      | true => exact absurd hm ((good_iff l).1 hg).2.2
    · rw [if_neg (by simp [h0, hv])]
      have hg := good_spell _ hs hv
      rw [hp] at hg
      have hle := sgn_le l
      have := good_append _ (l.drop (sgn (str l)).2) hg (by simp; omega)
      rwa [List.take_append_drop] at this

#print axioms good_step
end Go.Proofs.YtnpkiknidmhciaaDoor

namespace Go.Proofs.YtnpkiknidmhciaaDoor
open Go.RowKit Go.Lib

theorem dec_le4 (l : List UInt8) : (decodeL l).2 ≤ 4 := by
  rw [decodeL_N]
  rcases decodeN_shape l.length (l.getD 0 0).toNat (l.getD 1 0).toNat (l.getD 2 0).toNat (l.getD 3 0).toNat with ⟨c, e⟩ | ⟨c1, c2, c3, cv, e⟩ | ⟨c1, c2, c3, c4, cv, cs, e⟩ | ⟨c1, c2, c3, c4, c5, cv, cw, e⟩ | e
  all_goals (rw [e]; dsimp only; omega)

theorem valL_lt (l : List UInt8) (n : Nat) (h4 : n ≤ 4) : valL l n ≤ 2097151 := by
  have hb := (l.getD 0 0).toNat_lt
  have h1 := Nat.mod_lt (l.getD 1 0).toNat (show 64 > 0 by omega)
  have h2 := Nat.mod_lt (l.getD 2 0).toNat (show 64 > 0 by omega)
  have h3 := Nat.mod_lt (l.getD 3 0).toNat (show 64 > 0 by omega)
  rcases (show n = 0 ∨ n = 1 ∨ n = 2 ∨ n = 3 ∨ n = 4 by omega) with rfl | rfl | rfl | rfl | rfl
  · show (l.getD 0 0).toNat ≤ _; omega
  · show (l.getD 0 0).toNat ≤ _; omega
  · show (l.getD 0 0).toNat % 32 * 64 + (l.getD 1 0).toNat % 64 ≤ _; omega
  · show ((l.getD 0 0).toNat % 16 * 64 + (l.getD 1 0).toNat % 64) * 64 + (l.getD 2 0).toNat % 64 ≤ _; omega
  · show (((l.getD 0 0).toNat % 8 * 64 + (l.getD 1 0).toNat % 64) * 64 + (l.getD 2 0).toNat % 64) * 64 + (l.getD 3 0).toNat % 64 ≤ _; omega

/-- A region that draws, over whatever class of worlds. -/
theorem wp_region_quiet_cls {P : Program} {id : Nat} {Q : Exit → Act → World → Prop} {a : Act} {w : World} {l : List Oper} (C : World → Prop) (hm : P.follows .mixedOrders = true) (hB : Region.lexB .any l.toArray = true) (hC : C w.drew)
    (h : wpQuiet P l.toArray C (fun a' => ∀ w', C w' → Q .normal a' w') l a) : (Code.region id l.toArray true).wp P Q a w :=
  wp_region_quiet (C := C) hm hB hC (by simpa using h)

/-- No sign of less than n bytes stands at the beginning. -/
def NoLess (l : List UInt8) (n : Nat) : Prop := l = [] ∨ Bad l ∨ n ≤ (decodeL l).2

set_option maxRecDepth 100000 in
set_option maxHeartbeats 4000000 in
theorem r2sign_calls (w : World) (l : List UInt8) (hl : l.length ≤ 70000) :
    Calls Tryd.prog 144 #[.string (str l)] w fun e w' => e = .returned (.tuple #[.int .i64 (sgn (str l)).1, .int .i64 (sgn (str l)).2]) ∧ Below w.heap.size w w' := by
  have hz := str_size l
  generalize hS : sgn (str l) = S
  obtain ⟨S1, S2⟩ := S
  have HS := Lib.hid hS
  clear hS
  go_enter Tryd.func144, Tryd.ntmps144
  go_wp2
  go_loopw [4] (fun c wr => ∃ n : Nat, c = .int .i64 n ∧ 1 ≤ n ∧ n ≤ 5 ∧ NoLess l n ∧ Below w.heap.size w wr) (fun c _ => 5 - (RowKit.intOf c).toNat)
  case atStart => exact ⟨1, rfl, by omega, by omega, by unfold NoLess; have := decodeL_width l; exact .inr (.inr this), Below.refl _ _⟩
  case round =>
    obtain ⟨n, rfl, h1, h5, hn, hb⟩ := hrel
    have HN := Lib.hid hn
    have HB := Lib.hid hb
    clear hn hb
    by_cases hc : n ≤ 4 ∧ n ≤ l.length
    · obtain ⟨h4, hln⟩ := hc
      go_wp2_with fail
      refine (value_calls _ l n h1 h4 hln hl).mono ?_
      rintro e w1 ⟨rfl, rfl⟩
      have hvl := valL_lt l n h4
      have hiff := spells_iff l n h1 h4 hln
      rw [show valAcc l (headV l n) (n - 1) = valL l n from rfl]
      have HI := Lib.hid hiff
      have HVD : Hid (¬ Bad l → (decodeL l).2 = n → valL l n = (decodeL l).1) := fun hb hd => val_dec l n h1 h4 hln hb hd
      clear hiff
      have hex : (str l).extract 0 n = str (l.take n) := by rw [ba_take, str_data]
      generalize valL l n = v at *
      have HVL := Lib.hid hvl
      clear hvl
      by_cases he : isSign v ∧ spellL v = l.take n
      · obtain ⟨hs, he⟩ := he
        have hs' : (decide ((v : Int) ≤ 1114111) = true ∧ decide ((v : Int) < 55296) = true) ∨ (decide ((v : Int) ≤ 1114111) = true ∧ decide ((v : Int) < 55296) = false ∧ decide (57343 < (v : Int)) = true) := by
          have hs2 := hs
          unfold isSign at hs2
          simp only [decide_eq_true_eq, decide_eq_false_iff_not]
          omega
        have hq : ((str (spellL v)).toList == (str (l.take n)).toList) = true := by rw [he]; simp
        have hd := HI.out.1 ⟨hs, he⟩
        have hR : S1 = v ∧ S2 = n := by
          have h := HS.out
          have hv := HVD.out hd.1 hd.2
          rw [sgn_str, if_neg (by rintro (h | h); (· rw [h] at hln; simp at hln; omega); exact hd.1 h), ← hd.2] at *
          rw [hv, h]
          exact ⟨rfl, rfl⟩
        have HE := Lib.hid hR
        clear he hd hR HI HVD HS HN hs
        rcases hs' with ⟨d3, d4⟩ | ⟨d3, d4, d5⟩
        all_goals
          go_wp2_with fail
          refine wp_region_quiet_cls (fun wx => Below w.heap.size w wx) (by kernel_rfl) (by kernel_rfl) HB.out.drew ?_
          iterate 18
            refine wpQuiet_step (fun K hK => ?_)
            go_simp
            first
              | (refine hK _ ?_; clear hK K)
              | (apply Exists.intro
                 refine ⟨fun wx hwx => ?_, hK _ ?_⟩
                 · first
                     | exact rfl
                     | exact (spell_calls wx v HVL.out).mono (fun e w2 h => And.intro h.1 (Below.next hwx h.2))
                 clear hK K)
          refine wpQuiet_nil ?_
          intro w2 hb2
          have HB2 := Lib.hid hb2
          clear hb2
          obtain ⟨rfl, rfl⟩ := HE.out
          go_wp2
          go_ret2
          exact ⟨rfl, HB2.out⟩
      · have hn1 : NoLess l (n + 1) := by
          by_cases h0 : l = []
          · exact .inl h0
          by_cases hb : Bad l
          · exact .inr (.inl hb)
          rcases HN.out with h | h | h
          · exact .inl h
          · exact .inr (.inl h)
          · refine .inr (.inr ?_)
            have : (decodeL l).2 ≠ n := fun e => he (HI.out.2 ⟨hb, e⟩)
            omega
        have HN1 := Lib.hid hn1
        have hs' : (decide ((v : Int) ≤ 1114111) = true ∧ decide ((v : Int) < 55296) = true ∧ ((str (spellL v)).toList == (str (l.take n)).toList) = false) ∨ (decide ((v : Int) ≤ 1114111) = true ∧ decide ((v : Int) < 55296) = false ∧ decide (57343 < (v : Int)) = true ∧ ((str (spellL v)).toList == (str (l.take n)).toList) = false) ∨ decide ((v : Int) ≤ 1114111) = false ∨ (decide ((v : Int) ≤ 1114111) = true ∧ decide ((v : Int) < 55296) = false ∧ decide (57343 < (v : Int)) = false) := by
          by_cases hs : isSign v
          · have hne : spellL v ≠ l.take n := fun e => he ⟨hs, e⟩
            have hq : ((str (spellL v)).toList == (str (l.take n)).toList) = false := by
              rw [beq_eq_false_iff_ne]
              intro e
              rw [str_list, str_list] at e
              exact hne e
            have hs2 := hs
            unfold isSign at hs2
            simp only [decide_eq_true_eq, decide_eq_false_iff_not]
            by_cases h : (v : Int) < 55296
            · exact .inl ⟨by omega, h, hq⟩
            · exact .inr (.inl ⟨by omega, h, by omega, hq⟩)
          · unfold isSign at hs
            simp only [decide_eq_true_eq, decide_eq_false_iff_not]
            by_cases h : (v : Int) ≤ 1114111
            · exact .inr (.inr (.inr ⟨h, by omega, by omega⟩))
            · exact .inr (.inr (.inl h))
        clear he hn1 HI HVD HS HN
        rcases hs' with ⟨d3, d4, hq⟩ | ⟨d3, d4, d5, hq⟩ | d3 | ⟨d3, d4, d5⟩
        all_goals
          go_wp2_with fail
          refine wp_region_quiet_cls (fun wx => Below w.heap.size w wx) (by kernel_rfl) (by kernel_rfl) HB.out.drew ?_
          iterate 18
            refine wpQuiet_step (fun K hK => ?_)
            go_simp
            first
              | (refine hK _ ?_; clear hK K)
              | (apply Exists.intro
                 refine ⟨fun wx hwx => ?_, hK _ ?_⟩
                 · first
                     | exact rfl
                     | exact (spell_calls wx v HVL.out).mono (fun e w2 h => And.intro h.1 (Below.next hwx h.2))
                 clear hK K)
          refine wpQuiet_nil ?_
          intro w2 hb2
          have HB2 := Lib.hid hb2
          clear hb2
          go_wp2
          go_roundw
          case rel => exact ⟨n + 1, by go_num, by omega, by omega, HN1.out, HB2.out⟩
          case measure => simp [RowKit.intOf]; omega
    · have hS0 : S1 = 0 ∧ S2 = 0 := by
        have h4 := dec_le4 l
        have he := HS.out
        rw [sgn_str, if_pos] at he
        · injection he with e1 e2; exact ⟨e1.symm, e2.symm⟩
        · rcases HN.out with h | h | h
          · exact .inl h
          · exact .inr h
          · by_cases hne : l = []
            · exact .inl hne
            · have := decodeL_le l hne
              omega
      obtain ⟨rfl, rfl⟩ := hS0
      by_cases h4 : n ≤ 4
      · have h6 : ¬ n ≤ l.length := by omega
        clear hc
        go_wp2
        go_ret2
        exact ⟨rfl, HB.out⟩
      · clear hc
        go_wp2
        go_ret2
        exact ⟨rfl, HB.out⟩

#print axioms r2sign_calls
end Go.Proofs.YtnpkiknidmhciaaDoor

namespace Go.Proofs.YtnpkiknidmhciaaDoor
open Go.RowKit Go.Lib

set_option maxRecDepth 100000 in
set_option maxHeartbeats 2000000 in
theorem r2good_calls (w : World) (l : List UInt8) (hl : l.length ≤ 70000) :
    Calls Tryd.prog 122 #[.string (str l)] w fun e w' => e = .returned (.bool (goodB (str l))) ∧ Below w.heap.size w w' := by
  have hz := str_size l
  by_cases hs : l.length ≤ 65535
  · generalize hG : goodB (str l) = G
    have HG := Lib.hid hG
    clear hG
    go_enter Tryd.func122, Tryd.ntmps122
    go_wp2
    go_loopw [3, 4] (fun a b wr => ∃ (t i : Nat), a = .int .i64 t ∧ b = .int .i64 i ∧ i ≤ t ∧ t ≤ l.length ∧ goodB (str (l.drop t)) = G ∧ Below w.heap.size w wr) (fun a _ _ => 70001 - (RowKit.intOf a).toNat)
    case atStart => exact ⟨0, 0, rfl, rfl, by omega, by omega, HG.out, Below.refl _ _⟩
    case round =>
      obtain ⟨t, i, rfl, rfl, hi, ht, hg, hb⟩ := hrel
      have HB := Lib.hid hb
      clear hb
      by_cases hc : t < l.length
      · have hil : i ≤ l.length := by omega
        have hne : l.drop t ≠ [] := fun e => by have := congrArg List.length e; rw [List.length_drop] at this; simp at this; omega
        have hst := good_step (l.drop t) hne (by rw [List.length_drop]; omega)
        have hle := sgn_le (l.drop t)
        rw [List.length_drop] at hle
        have e1 : (str l).extract t (str l).size = str (l.drop t) := by rw [ba_drop, str_data]
        rw [hz] at e1
        have hm : (l.drop t).length ≤ 70000 := by rw [List.length_drop]; omega
        rw [hg, List.drop_drop] at hst
        have HST := Lib.hid hst
        have HM := Lib.hid hm
        clear hg hst hne hm
        go_wp2_with fail
        refine (r2sign_calls _ (l.drop t) HM.out).mono ?_
        rintro e w2 ⟨rfl, b2⟩
        have B2 := Lib.hid (Below.next HB.out b2)
        clear b2
        generalize sgn (str (l.drop t)) = S at *
        obtain ⟨v, n⟩ := S
        dsimp only at *
        by_cases h0 : n = 0
        · have hG := HST.out
          rw [if_pos (.inl h0)] at hG
          subst hG
          subst h0
          clear HST HG
          go_wp2
          go_ret
          exact ⟨rfl, B2.out⟩
        · by_cases hv : v = 0
          · have hG := HST.out
            rw [if_pos (.inr hv)] at hG
            subst hG
            subst hv
            clear HST HG
            go_wp2
            go_ret
            exact ⟨rfl, B2.out⟩
          · have hG := HST.out
            rw [if_neg (by simp [h0, hv])] at hG
            have HG2 := Lib.hid hG.symm
            have d1 : ((n : Int) == 0) = false := by simp; omega
            have d2 : ((v : Int) == 0) = false := by simp; omega
            clear HST HG hG
            go_wp2
            go_roundw
            case rel => exact ⟨t + n, i + 1, by go_num, by go_num, by omega, by omega, HG2.out, B2.out⟩
            case measure => simp [RowKit.intOf]; omega
      · have hG : G = true := by
          rw [← hg, List.drop_of_length_le (by omega)]
          decide +kernel
        subst hG
        clear hg
        by_cases hil : i ≤ l.length
        · go_wp2
          go_ret
          exact ⟨rfl, HB.out⟩
        · exact absurd (show i ≤ l.length by omega) hil
  · have hG : goodB (str l) = false := by
      cases hg : goodB (str l) with
      | false => rfl
      | true => exact absurd ((good_iff l).1 hg).1 hs
    rw [hG]
    clear hG
    have d1 : decide ((65535 : Int) < (l.length : Int)) = true := by simp; omega
    go_enter Tryd.func122, Tryd.ntmps122
    go_wp2
    go_ret
    exact ⟨rfl, Below.refl _ _⟩

end Go.Proofs.YtnpkiknidmhciaaDoor

namespace Go.Proofs.YtnpkiknidmhciaaDoor
open Go.RowKit Go.Lib

/-- A string taken: the string, what is left, the error. -/
structure TakS (s : ByteArray) (x : Int) (a s2 : ByteArray) (x2 : Int) : Prop where
  out : ∃ t s1 x1 t2 y, rawT s x 2 = (t, s1, x1) ∧ rawT s1 x1 (numL t.data.toList) = (t2, s2, y) ∧ a = (if goodB t2 = true then t2 else ⟨#[]⟩) ∧ x2 = (if goodB t2 = true then y else 2) ∧ (goodB t2 = false → y = 0) ∧ t2.size ≤ 65535

theorem rawT_fine {s t s' : ByteArray} {x n x' : Int} (h : rawT s x n = (t, s', x')) (hx : x' ≠ 0) : t = ⟨#[]⟩ := by
  unfold rawT at h
  split at h
  · injection h with h1 _; exact h1.symm
  · split at h
    · injection h with h1 _; exact h1.symm
    · split at h
      · injection h with h1 _; exact h1.symm
      · injection h with _ h2; injection h2 with _ h3; exact absurd h3.symm hx

theorem takS (s : ByteArray) (x : Int) : ∃ a s2 x2, TakS s x a s2 x2 := by
  rcases hr : rawT s x 2 with ⟨t, s1, x1⟩
  rcases hr2 : rawT s1 x1 (numL t.data.toList) with ⟨t2, s2, y⟩
  have hb := num_lt2 s x t s1 x1 hr
  refine ⟨_, s2, _, ⟨t, s1, x1, t2, y, hr, hr2, rfl, rfl, fun hg => ?_, ?_⟩⟩
  · by_cases hy : y = 0
    · exact hy
    · rw [rawT_fine hr2 hy] at hg
      exact absurd hg (by decide +kernel)
  · have := rawT_size s1 x1 (numL t.data.toList)
    rw [hr2] at this
    dsimp only at this
    omega

theorem takeS_calls (w : World) (p : Nat) (s : ByteArray) (x : Int) (a s2 : ByteArray) (x2 : Int) (hk : TakS s x a s2 x2) (h : InAt w p s x) (hT : Tabs w) :
    Calls Tryd.prog 72 #[.pointer (some ⟨p, 0, none⟩)] w fun e w' => e = .returned (.string a) ∧ TookS w p s2 x2 w' := by
  obtain ⟨t, s1, x1, t2, y, hr, hr2, rfl, rfl, hg, _⟩ := hk.out
  refine (takeW_calls w p s x t s1 x1 hr t2 s2 y hr2 h hT).mono ?_
  rintro e w' ⟨he, hw⟩
  refine ⟨he, ?_⟩
  cases hgt : goodB t2 with
  | true => rw [hgt] at hw; exact hw
  | false =>
    rw [hgt, hg hgt] at hw
    exact hw

/-- Two cells stored, behind a call. -/
theorem stored2 {w1 w2 : World} {b : Nat} {u v u' v' : Value} (c0 : w1.cell? ⟨b, 0, none⟩ = some u) (c1 : w1.cell? ⟨b, 1, none⟩ = some v)
    (h : Below ((w1.setCell ⟨b, 0, none⟩ u').setCell ⟨b, 1, none⟩ v').heap.size ((w1.setCell ⟨b, 0, none⟩ u').setCell ⟨b, 1, none⟩ v') w2) :
    w2.cell? ⟨b, 0, none⟩ = some u' ∧ w2.cell? ⟨b, 1, none⟩ = some v' ∧ w2.frozen? ⟨b, 0, none⟩ = w1.frozen? ⟨b, 0, none⟩ ∧ w2.frozen? ⟨b, 1, none⟩ = w1.frozen? ⟨b, 1, none⟩ ∧ w1.heap.size ≤ w2.heap.size ∧ (∀ k, k < w1.heap.size → k ≠ b → w2.heap[k]? = w1.heap[k]?) := by
  have hlt : b < w1.heap.size := World.block_lt_of_cell? w1 _ c0
  have hs : ((w1.setCell ⟨b, 0, none⟩ u').setCell ⟨b, 1, none⟩ v').heap.size = w1.heap.size := by simp [World.setCell]
  have hlt' : b < ((w1.setCell ⟨b, 0, none⟩ u').setCell ⟨b, 1, none⟩ v').heap.size := by rw [hs]; exact hlt
  have n1 : (⟨b, 0, none⟩ : Addr) ≠ ⟨b, 1, none⟩ := by simp
  have hc1 : (w1.setCell ⟨b, 0, none⟩ u').cell? ⟨b, 1, none⟩ = some v := by rw [World.cell?_setCell_other _ _ _ _ n1]; exact c1
  refine ⟨?_, ?_, ?_, ?_, ?_, ?_⟩
  · rw [h.cell hlt', World.cell?_setCell_other _ _ _ _ n1.symm, World.cell?_setCell_same _ _ _ c0]
  · rw [h.cell hlt', World.cell?_setCell_same _ _ _ hc1]
  · rw [h.frozen hlt']; simp
  · rw [h.frozen hlt']; simp
  · rw [← hs]; exact h.size
  · intro k hk hne
    rw [h.block k (by rw [hs]; exact hk), Below.heap_setCell _ _ _ _ hne, Below.heap_setCell _ _ _ _ hne]

set_option maxRecDepth 100000 in
set_option maxHeartbeats 2000000 in
theorem r2take_calls (w : World) (s : ByteArray) (x : Int) (a s2 : ByteArray) (x2 : Int) (hk : TakS s x a s2 x2) :
    Calls Tryd.prog 75 #[cur s x] w fun e w' => e = .returned (.tuple #[cur s2 x2, .string a]) ∧ Below w.heap.size w w' := by
  obtain ⟨t, s1, x1, t2, y, hr, hr2, rfl, rfl, hg, hsz⟩ := hk.out
  have HR := Lib.hid hr
  have HR2 := Lib.hid hr2
  clear hr hr2 hk
  obtain ⟨l, rfl⟩ : ∃ l, t2 = str l := ⟨_, ba_str t2⟩
  rw [str_size] at hsz
  by_cases hy : y = 0
  · subst hy
    have hP : ∃ A X, (if goodB (str l) = true then str l else ⟨#[]⟩) = A ∧ (if goodB (str l) = true then (0 : Int) else 2) = X := ⟨_, _, rfl, rfl⟩
    obtain ⟨A, X, hA, hX⟩ := hP
    rw [hA, hX]
    have HA := Lib.hid hA
    have HX := Lib.hid hX
    clear hA hX hg
    go_enter Tryd.func75, Tryd.ntmps75
    go_wp2_with fail
    refine (r1data2_calls _ s x t s1 x1 HR.out (str l) s2 0 HR2.out).mono ?_
    rintro e w1 ⟨rfl, hb1⟩
    obtain ⟨k1, k2, hz, hbl⟩ := two_kept hb1
    obtain ⟨c0, c1, f0, f1⟩ := pair_cells k1
    have HB := Lib.hid hbl
    have K2 := Lib.hid k2
    clear hb1 k1 k2 hbl HR HR2
    go_wp2_with fail
    refine (r2good_calls _ l (by omega)).mono ?_
    cases hgt : goodB (str l) with
    | true =>
      have hA := HA.out
      have hX := HX.out
      rw [if_pos hgt] at hA hX
      subst hA hX
      rintro e w2 ⟨rfl, hb2⟩
      obtain ⟨e0, e1, g0, g1, hz2, hk⟩ := stored2 c0 c1 hb2
      rw [f0] at g0
      rw [f1] at g1
      have k2 := (hk (w.heap.size + 1) (by omega) (by omega)).trans K2.out
      obtain ⟨d0, d1, j0, j1⟩ := pair_cells k2
      have HB2 : Hid (Below w.heap.size w w2) := ((HB.out.setCell (Nat.le_refl _) _).setCell (Nat.le_refl _) _).trans (hb2.mono (by simp [World.setCell]; omega))
      clear hb2 hk k2 K2 HB c0 c1 f0 f1 HA HX hgt
      go_wp2
      exact bodyPost_ret (v := .tuple #[cur s2 0, .string (str l)]) (by simp [results, Tryd.results75, go_sem, d0, d1]) rfl
        ⟨rfl, (HB2.out.setCell (Nat.le_succ _) _).setCell (Nat.le_succ _) _⟩
    | false =>
      have hA := HA.out
      have hX := HX.out
      rw [if_neg (by rw [hgt]; simp)] at hA hX
      subst hA hX
      rintro e w2 ⟨rfl, hb2⟩
      obtain ⟨e0, e1, g0, g1, hz2, hk⟩ := stored2 c0 c1 hb2
      rw [f0] at g0
      rw [f1] at g1
      have k2 := (hk (w.heap.size + 1) (by omega) (by omega)).trans K2.out
      obtain ⟨d0, d1, j0, j1⟩ := pair_cells k2
      have HB2 : Hid (Below w.heap.size w w2) := ((HB.out.setCell (Nat.le_refl _) _).setCell (Nat.le_refl _) _).trans (hb2.mono (by simp [World.setCell]; omega))
      clear hb2 hk k2 K2 HB c0 c1 f0 f1 HA HX hgt
      go_wp2
      exact bodyPost_ret (v := .tuple #[cur s2 2, .string ⟨#[]⟩]) (by simp [results, Tryd.results75, go_sem, d0, d1]) rfl
        ⟨rfl, (HB2.out.setCell (Nat.le_succ _) _).setCell (Nat.le_succ _) _⟩
  · have hgt : goodB (str l) = true := by
      cases hgt : goodB (str l) with
      | true => rfl
      | false => exact absurd (hg hgt) hy
    rw [if_pos hgt, if_pos hgt]
    have d1 : (y == 0) = false := by simpa using hy
    clear hg hgt hy
    go_enter Tryd.func75, Tryd.ntmps75
    go_wp2_with fail
    refine (r1data2_calls _ s x t s1 x1 HR.out (str l) s2 y HR2.out).mono ?_
    rintro e w1 ⟨rfl, hb1⟩
    obtain ⟨k1, k2, hz, hbl⟩ := two_kept hb1
    obtain ⟨c0, c1, f0, f1⟩ := pair_cells k1
    obtain ⟨d0, d2, j0, j1⟩ := pair_cells k2
    have HB := Lib.hid hbl
    clear hb1 k1 k2 hbl HR HR2
    go_wp2
    exact bodyPost_ret (v := .tuple #[cur s2 y, .string (str l)]) (by simp [results, Tryd.results75, go_sem, d0, d2]) rfl
      ⟨rfl, (((HB.out.setCell (Nat.le_refl _) _).setCell (Nat.le_refl _) _).setCell (Nat.le_succ _) _).setCell (Nat.le_succ _) _⟩

theorem takePair_calls (w : World) (p : Nat) (s : ByteArray) (x : Int) (a s1 : ByteArray) (x1 : Int) (hk : TakS s x a s1 x1) (b s2 : ByteArray) (x2 : Int) (hk2 : TakS s1 x1 b s2 x2) (h : InAt w p s x) (hT : Tabs w) :
    Calls Tryd.prog 158 #[.pointer (some ⟨p, 0, none⟩)] w fun e w' => e = .returned (.tuple #[.string (if x2 = 0 then a else ⟨#[]⟩), .string (if x2 = 0 then b else ⟨#[]⟩)]) ∧ TookS w p s2 x2 w' := by
  have HK := Lib.hid hk
  have HK2 := Lib.hid hk2
  have HT := Lib.hid hT
  clear hk hk2 hT
  by_cases hx : x2 = 0
  · rw [if_pos hx, if_pos hx]
    subst hx
    go_enter Tryd.func158, Tryd.ntmps158
    go_wp2_with fail
    refine (takeS_calls _ p s x a s1 x1 HK.out h HT.out).mono ?_
    rintro e w1 ⟨rfl, hi, hc⟩
    have hT1 := HT.out.chg h hc
    go_wp2_with fail
    refine (takeS_calls _ p s1 x1 b s2 0 HK2.out hi hT1).mono ?_
    rintro e w2 ⟨rfl, hi2, hc2⟩
    have HH := Lib.hid (show TookS w p s2 0 w2 from ⟨hi2, hc.trans hc2⟩)
    clear hc hc2 hi hT1 h HT
    go_wp2_with fail
    refine (err_calls _ p s2 0 hi2).mono ?_
    rintro e w3 ⟨rfl, rfl⟩
    clear hi2
    go_wp2
    go_ret2
    exact ⟨rfl, HH.out⟩
  · rw [if_neg hx, if_neg hx]
    have d1 : (x2 == 0) = false := by simpa using hx
    go_enter Tryd.func158, Tryd.ntmps158
    go_wp2_with fail
    refine (takeS_calls _ p s x a s1 x1 HK.out h HT.out).mono ?_
    rintro e w1 ⟨rfl, hi, hc⟩
    have hT1 := HT.out.chg h hc
    go_wp2_with fail
    refine (takeS_calls _ p s1 x1 b s2 x2 HK2.out hi hT1).mono ?_
    rintro e w2 ⟨rfl, hi2, hc2⟩
    have HH := Lib.hid (show TookS w p s2 x2 w2 from ⟨hi2, hc.trans hc2⟩)
    clear hc hc2 hi hT1 h HT
    go_wp2_with fail
    refine (err_calls _ p s2 x2 hi2).mono ?_
    rintro e w3 ⟨rfl, rfl⟩
    clear hi2
    go_wp2
    go_ret2
    exact ⟨rfl, HH.out⟩

#print axioms r2take_calls
#print axioms takePair_calls
end Go.Proofs.YtnpkiknidmhciaaDoor
