/-
  Several texts, one behind the other. (No statement: contracts that the proofs of the statements use.)
-/
import Derived.Test.YtnpkiknidmhciaaDoorJBase
import Derived.Lib.Split
import Derived.Lib.SplitLaws
import Derived.Lib.IndexAny
import Derived.Test.YtnpkiknidmhciaaDoorJShelf
import Derived.Laws.Runes
import Derived.Laws.RangeAny
import Derived.WalkMore
import Derived.Deep.QuietTactic
import Derived.RegionCalls
import Derived.BigQuiet
import Derived.Lib.Hide
import Derived.Lib.OthersKept
import Derived.Test.YtnpkiknidmhciaaDoorJWords
namespace Go.Proofs.YtnpkiknidmhciaaDoor
open Go.RowKit Go.Lib

/-- A text's parts between slashes. -/
def lev : List UInt8 → List (List UInt8)
  | [] => [[]]
  | c :: l => if c = 47 then [] :: lev l else (c :: (lev l).headD []) :: (lev l).tail

theorem lev_ne : ∀ l, lev l ≠ []
  | [] => by simp [lev]
  | c :: l => by unfold lev; split <;> simp
theorem lev_cons (l : List UInt8) : lev l = (lev l).headD [] :: (lev l).tail := by
  have h := lev_ne l
  cases e : lev l with
  | nil => exact absurd e h
  | cons x xs => rfl
theorem lev_slash (l : List UInt8) : lev (47 :: l) = [] :: lev l := by rw [lev, if_pos rfl]
theorem lev_other (c : UInt8) (l : List UInt8) (h : c ≠ 47) : lev (c :: l) = (c :: (lev l).headD []) :: (lev l).tail := by rw [lev, if_neg h]

theorem index_slash (l : List UInt8) : index (47 :: l) [47] = 0 := by unfold index; rw [if_pos (by simp [List.isPrefixOf])]
theorem index_other (c : UInt8) (l : List UInt8) (h : c ≠ 47) : index (c :: l) [47] = if index l [47] == -1 then -1 else index l [47] + 1 := by
  rw [index, if_neg (by simp [List.isPrefixOf]; exact fun e => h e.symm)]

theorem splitK_lev : ∀ (l : List UInt8) (k : Nat), l.count 47 ≤ k → splitK [47] 0 k l = lev l
  | [], 0, _ => rfl
  | [], k + 1, _ => by unfold splitK; rw [if_pos (by decide)]; rfl
  | c :: l, k, h => by
    by_cases hc : c = 47
    · subst hc
      rw [List.count_cons_self] at h
      obtain ⟨k, rfl⟩ : ∃ j, k = j + 1 := ⟨k - 1, by omega⟩
      have ih := splitK_lev l k (by omega)
      unfold splitK
      rw [index_slash, if_neg (by decide), lev_slash, ← ih]
      simp
    · rw [List.count_cons_of_ne (by simpa using hc)] at h
      have ih := splitK_lev l k h
      rw [lev_other c l hc]
      cases k with
      | zero => unfold splitK at ih ⊢; rw [← ih]; rfl
      | succ k =>
        unfold splitK at ih ⊢
        rw [index_other c l hc]
        by_cases hi : (index l [47] == -1) = true
        · rw [if_pos hi] at ih
          rw [if_pos hi, if_pos (by decide), ← ih]
          rfl
        · rw [if_neg hi] at ih
          have hge := index_spec l [47]
          have hn : 0 ≤ index l [47] := by
            rcases hge with ⟨h1, _⟩ | ⟨i, h1, _⟩
            · rw [h1] at hi; simp at hi
            · omega
          rw [if_neg hi, if_neg (by intro e; have := beq_iff_eq.1 e; omega), ← ih]
          rw [show (index l [47] + 1).toNat = (index l [47]).toNat + 1 by omega]
          simp [List.take_succ_cons, List.drop_succ_cons]

theorem count_slash : ∀ l : List UInt8, Lib.count l [47] = l.count 47
  | [] => by rw [count_miss (by decide)]; rfl
  | c :: l => by
    have ih := count_slash l
    by_cases hc : c = 47
    · subst hc
      rw [count_hit (i := 0) (by simp) (index_slash l), List.count_cons_self]
      simp [ih]; omega
    · rw [List.count_cons_of_ne (by simpa using hc), ← ih]
      rcases index_spec l [47] with ⟨h1, _⟩ | ⟨i, h1, _⟩
      · rw [count_miss h1, count_miss (by rw [index_other c l hc, h1]; rfl)]
      · rw [count_hit (by simp) h1, count_hit (i := i + 1) (by simp) (by rw [index_other c l hc, h1, if_neg (by intro e; have := beq_iff_eq.1 e; omega)]; push_cast; rfl)]
        simp

theorem lev_length : ∀ l : List UInt8, (lev l).length = l.count 47 + 1
  | [] => rfl
  | c :: l => by
    have ih := lev_length l
    by_cases hc : c = 47
    · subst hc; rw [lev_slash, List.count_cons_self, List.length_cons, ih]
    · rw [lev_other c l hc, List.count_cons_of_ne (by simpa using hc), List.length_cons, List.length_tail, ih]; omega

/-- Levels joined. -/
def unlev : List (List UInt8) → List UInt8
  | [] => []
  | [x] => x
  | x :: y :: r => x ++ 47 :: unlev (y :: r)
theorem unlev_cons (x : List UInt8) (r : List (List UInt8)) (h : r ≠ []) : unlev (x :: r) = x ++ 47 :: unlev r := by
  cases r with
  | nil => exact absurd rfl h
  | cons y r => rfl
theorem unlev_head (c : UInt8) (x : List UInt8) (r : List (List UInt8)) : unlev ((c :: x) :: r) = c :: unlev (x :: r) := by cases r <;> rfl
theorem unlev_lev : ∀ l, unlev (lev l) = l
  | [] => rfl
  | c :: l => by
    have ih := unlev_lev l
    by_cases hc : c = 47
    · subst hc; rw [lev_slash, unlev_cons _ _ (lev_ne l), ih]; rfl
    · rw [lev_other c l hc, unlev_head, ← lev_cons, ih]
theorem lev_inj {a b : List UInt8} (h : lev a = lev b) : a = b := by rw [← unlev_lev a, h, unlev_lev]
theorem lev_plain : ∀ x : List UInt8, (47 : UInt8) ∉ x → lev x = [x]
  | [], _ => rfl
  | c :: x, h => by
    have h1 : c ≠ 47 := fun e => h (by rw [e]; exact .head _)
    rw [lev_other c x h1, lev_plain x (fun e => h (.tail _ e))]
    rfl
theorem lev_app : ∀ (x r : List UInt8), (47 : UInt8) ∉ x → lev (x ++ 47 :: r) = x :: lev r
  | [], r, _ => lev_slash r
  | c :: x, r, h => by
    have h1 : c ≠ 47 := fun e => h (by rw [e]; exact .head _)
    rw [List.cons_append, lev_other c _ h1, lev_app x r (fun e => h (.tail _ e))]
    rfl
theorem lev_unlev : ∀ ls : List (List UInt8), ls ≠ [] → (∀ x ∈ ls, (47 : UInt8) ∉ x) → lev (unlev ls) = ls
  | [], h, _ => absurd rfl h
  | [x], _, h => lev_plain x (h x (.head _))
  | x :: y :: r, _, h => by
    rw [unlev_cons _ _ (by simp), lev_app _ _ (h x (.head _)), lev_unlev (y :: r) (by simp) (fun z hz => h z (.tail _ hz))]
theorem lev_mem : ∀ (l : List UInt8), ∀ x ∈ lev l, (47 : UInt8) ∉ x ∧ ∀ c ∈ x, c ∈ l
  | [], x, hx => by simp [lev] at hx; subst hx; simp
  | c :: l, x, hx => by
    by_cases hc : c = 47
    · subst hc
      rw [lev_slash] at hx
      rcases List.mem_cons.1 hx with rfl | hx
      · simp
      · have := lev_mem l x hx
        exact ⟨this.1, fun d hd => .tail _ (this.2 d hd)⟩
    · rw [lev_other c l hc] at hx
      have hm : (lev l).headD [] ∈ lev l := by rw [lev_cons l]; exact .head _
      rcases List.mem_cons.1 hx with rfl | hx
      · have := lev_mem l _ hm
        refine ⟨fun e => ?_, fun d hd => ?_⟩
        · rcases List.mem_cons.1 e with e | e
          · exact hc e.symm
          · exact this.1 e
        · rcases List.mem_cons.1 hd with rfl | hd
          · exact .head _
          · exact .tail _ (this.2 d hd)
      · have := lev_mem l x (List.mem_of_mem_tail hx)
        exact ⟨this.1, fun d hd => .tail _ (this.2 d hd)⟩

/-- Has it a sign, + or #? -/
def hasS (l : List UInt8) : Bool := l.any fun c => [43, 35].contains c
theorem indexAny_has : ∀ l : List UInt8, decide (0 ≤ indexAny l [43, 35]) = hasS l
  | [] => rfl
  | c :: l => by
    have ih := indexAny_has l
    have hg := indexAny_ge [43, 35] l
    unfold indexAny hasS
    rw [List.any_cons]
    cases hc : ([43, 35] : List UInt8).contains c with
    | true => simp
    | false =>
      rw [if_neg (by simp), Bool.false_or]
      change _ = hasS l
      rw [← ih]
      by_cases hi : (indexAny l [43, 35] == -1) = true
      · rw [if_pos hi]; have := beq_iff_eq.1 hi; rw [this]
      · rw [if_neg hi]
        have : indexAny l [43, 35] ≠ -1 := fun e => hi (beq_iff_eq.2 e)
        simp; omega
theorem hasS_mem (l : List UInt8) : hasS l = true ↔ (43 : UInt8) ∈ l ∨ (35 : UInt8) ∈ l := by
  unfold hasS
  rw [List.any_eq_true]
  constructor
  · rintro ⟨c, h1, h2⟩
    simp at h2
    rcases h2 with rfl | rfl
    · exact .inl h1
    · exact .inr h1
  · rintro (h | h)
    · exact ⟨43, h, by decide⟩
    · exact ⟨35, h, by decide⟩
theorem hasS_lev (l x : List UInt8) (h : hasS l = false) (hx : x ∈ lev l) : hasS x = false := by
  cases e : hasS x with
  | false => rfl
  | true =>
    have := (lev_mem l x hx).2
    have : hasS l = true := (hasS_mem l).2 (((hasS_mem x).1 e).imp (this _) (this _))
    rw [h] at this
    cases this

/-- Are levels those of a filter? -/
def filtR : List (List UInt8) → Bool
  | [] => true
  | [x] => (x == [43] || x == [35]) || !hasS x
  | x :: y :: r => (x == [43] || !hasS x) && filtR (y :: r)
/-- Does a level of a filter stand for others? -/
def sgnL (x : List UInt8) : Bool := x == [43] || x == [35]
/-- Do levels of a name meet those of a filter? -/
def meetB : List (List UInt8) → List (List UInt8) → Bool
  | [], [] => true
  | [], _ :: _ => false
  | a :: az, ns => a == [35] || (match ns with
    | [] => false
    | n :: ns => (a == [43] || a == n) && meetB az ns)
def hidB (l : List UInt8) : Bool := [36].isPrefixOf l
def matchB (f n : List UInt8) : Bool := !(hidB n && sgnL ((lev f).headD [])) && meetB (lev f) (lev n)

theorem cut_slash : ∀ l : List UInt8, (Lib.cut l [47]).1 = l.takeWhile (· != 47) ∧ (Lib.cut l [47]).2.1 = (l.dropWhile (· != 47)).drop 1
  | [] => by decide
  | c :: l => by
    have ih := cut_slash l
    by_cases hc : c = 47
    · subst hc
      unfold Lib.cut
      rw [index_slash, if_pos (by decide)]
      simp
    · unfold Lib.cut at ih ⊢
      rw [index_other c l hc]
      have hb : (c != 47) = true := by simpa using hc
      rw [List.takeWhile_cons_of_pos (p := fun x => x != 47) hb, List.dropWhile_cons_of_pos (p := fun x => x != 47) hb]
      rcases index_spec l [47] with ⟨h1, _⟩ | ⟨i, h1, _⟩
      · rw [h1] at ih ⊢
        rw [if_neg (by decide)] at ih
        rw [show (if ((-1 : Int) == -1) = true then (-1 : Int) else -1 + 1) = -1 from rfl, if_neg (by decide), ← ih.1, ← ih.2]
        exact ⟨rfl, rfl⟩
      · rw [h1] at ih ⊢
        rw [if_pos (by omega)] at ih
        have hne : ¬ ((i : Int) == -1) = true := fun e => by have := beq_iff_eq.1 e; omega
        rw [show (if ((i : Int) == -1) = true then (-1 : Int) else (i : Int) + 1) = (i : Int) + 1 from if_neg hne, if_pos (by omega), ← ih.1, ← ih.2]
        rw [show ((i : Int) + 1).toNat = (i : Int).toNat + 1 by omega]
        simp [List.take_succ_cons, List.drop_succ_cons]

theorem filtR_plain : ∀ ls : List (List UInt8), (∀ x ∈ ls, hasS x = false) → filtR ls = true
  | [], _ => rfl
  | [x], h => by simp [filtR, h x (.head _)]
  | x :: y :: r, h => by simp [filtR, h x (.head _), filtR_plain (y :: r) (fun z hz => h z (.tail _ hz))]
theorem meet_plain : ∀ (az ns : List (List UInt8)), (∀ x ∈ az, hasS x = false) → meetB az ns = (az == ns)
  | [], [], _ => rfl
  | [], _ :: _, _ => rfl
  | a :: az, ns, h => by
    have h1 : (a == [35]) = false := by
      cases e : a == [35] with
      | false => rfl
      | true => rw [beq_iff_eq] at e; have := h a (.head _); rw [e] at this; exact absurd this (by decide)
    have h2 : (a == [43]) = false := by
      cases e : a == [43] with
      | false => rfl
      | true => rw [beq_iff_eq] at e; have := h a (.head _); rw [e] at this; exact absurd this (by decide)
    cases ns with
    | nil => simp [meetB, h1]
    | cons n ns => simp only [meetB, h1, h2, Bool.false_or]; rw [meet_plain az ns (fun x hx => h x (.tail _ hx))]; rfl

theorem drop_at {α : Type} {l : List α} {k : Nat} {x : α} (h : l[k]? = some x) : l.drop k = x :: l.drop (k + 1) := by
  obtain ⟨hk, rfl⟩ := List.getElem?_eq_some_iff.1 h
  exact List.drop_eq_getElem_cons hk
theorem lev_len : ∀ (l : List UInt8), ∀ x ∈ lev l, x.length ≤ l.length
  | [], x, hx => by simp [lev] at hx; subst hx; simp
  | c :: l, x, hx => by
    by_cases hc : c = 47
    · subst hc
      rw [lev_slash] at hx
      rcases List.mem_cons.1 hx with rfl | hx
      · simp
      · have := lev_len l x hx
        simp; omega
    · rw [lev_other c l hc] at hx
      have hm : (lev l).headD [] ∈ lev l := by rw [lev_cons l]; exact .head _
      rcases List.mem_cons.1 hx with rfl | hx
      · have := lev_len l _ hm
        simp at this ⊢; omega
      · have := lev_len l x (List.mem_of_mem_tail hx)
        simp; omega

#print axioms cut_slash
end Go.Proofs.YtnpkiknidmhciaaDoor

namespace Go.Proofs.YtnpkiknidmhciaaDoor
open Go.RowKit Go.Lib

theorem validRune_calls (w : World) (r : Int) (h1 : 0 ≤ r) : Calls Tryd.prog 171 #[.int .i32 r] w fun e w' => e = .returned (.bool (validRune r)) ∧ w' = w := by
  unfold validRune
  by_cases ha : r < 55296
  · rw [decide_eq_true (by omega)]
    go_enter Tryd.func171, Tryd.ntmps171
    go_wp2
    go_ret
    exact ⟨rfl, rfl⟩
  · by_cases hb : 57343 < r
    · by_cases hc : r ≤ 1114111
      · rw [decide_eq_true (by omega)]
        go_enter Tryd.func171, Tryd.ntmps171
        go_wp2
        go_ret
        exact ⟨rfl, rfl⟩
      · rw [decide_eq_false (by omega)]
        go_enter Tryd.func171, Tryd.ntmps171
        go_wp2
        go_ret
        exact ⟨rfl, rfl⟩
    · rw [decide_eq_false (by omega)]
      go_enter Tryd.func171, Tryd.ntmps171
      go_wp2
      go_ret
      exact ⟨rfl, rfl⟩

set_option maxRecDepth 1000000 in
set_option maxHeartbeats 2000000 in
theorem rune_bad (w : World) (r : Int) (h1 : 128 ≤ r) (he : r ≠ 65533) (hv : validRune r = false) :
    Calls Tryd.prog 164 #[.string ⟨#[43, 35]⟩, .int .i32 r] w fun e w' => e = .returned (.int .i64 (-1)) ∧ Below w.heap.size w w' := by
  have hl : ¬ r < 128 := by omega
  have h0 : 0 ≤ r := by omega
  have HV := Lib.hid hv
  clear hv
  go_enter Tryd.func164, Tryd.ntmps164
  go_wp2_with fail
  refine (validRune_calls _ r h0).mono ?_
  rw [HV.out]
  rintro e w1 ⟨rfl, rfl⟩
  go_wp2
  go_ret
  exact ⟨rfl, Below.refl _ _⟩

set_option maxRecDepth 1000000 in
set_option maxHeartbeats 2000000 in
theorem rune_err (w : World) :
    Calls Tryd.prog 164 #[.string ⟨#[43, 35]⟩, .int .i32 65533] w fun e w' => e = .returned (.int .i64 (-1)) ∧ Below w.heap.size w w' := by
  have hB := fun i => Lib.hid (show Below w.heap.size w (w.iter ⟨#[43, 35]⟩ i) from (Below.refl _ _).alloc (Nat.le_refl _) _)
  go_enter Tryd.func164, Tryd.ntmps164
  go_wp2
  go_loopg [5, 6] 2 (fun g _ _ wx => ∃ i : Nat, i + g = 2 ∧ wx = w.iter ⟨#[43, 35]⟩ i)
  case atStart => exact ⟨0, rfl, rfl⟩
  case round =>
    obtain ⟨i, hig, rfl⟩ := hrel
    cases gk with
    | zero =>
      obtain rfl : i = 2 := by omega
      have hnx := fun ty => run_next_end (P := Tryd.prog) w ⟨#[43, 35]⟩ 2 ty (by decide)
      go_wp2
      go_ret
      exact ⟨rfl, (hB _).out⟩
    | succ g =>
      obtain rfl | rfl : i = 0 ∨ i = 1 := by omega
      · have hnx := fun ty => run_next_ascii (P := Tryd.prog) w ⟨#[43, 35]⟩ 0 ty (by decide) (by decide)
        go_wp2
        go_roundg g
        case measure => omega
        case rel => exact ⟨1, by omega, rfl⟩
      · have hnx := fun ty => run_next_ascii (P := Tryd.prog) w ⟨#[43, 35]⟩ 1 ty (by decide) (by decide)
        go_wp2
        go_roundg g
        case measure => omega
        case rel => exact ⟨2, by omega, rfl⟩

set_option maxRecDepth 1000000 in
set_option maxHeartbeats 2000000 in
theorem rune_long3 (w : World) (r : Int) (h1 : 128 ≤ r) (he : r ≠ 65533) (hv : validRune r = true) (rs : ByteArray) (hrs : Utf8.encode r = rs) (h3 : 3 ≤ rs.size) (h4 : rs.size ≤ 4) :
    Calls Tryd.prog 164 #[.string ⟨#[43, 35]⟩, .int .i32 r] w fun e w' => e = .returned (.int .i64 (-1)) ∧ Below w.heap.size w w' := by
  have hl : ¬ r < 128 := by omega
  have h0 : 0 ≤ r := by omega
  have HV := Lib.hid hv
  clear hv
  have hcv := fun w => run_convert_int_string (P := Tryd.prog) w 21 9 .i32 r (by kernel_rfl) Tryd.underlying9
  rw [hrs] at hcv
  clear hrs
  go_enter Tryd.func164, Tryd.ntmps164
  go_wp2_with fail
  refine (validRune_calls _ r h0).mono ?_
  rw [HV.out]
  rintro e w1 ⟨rfl, rfl⟩
  go_wp2
  go_step3
  go_wp2
  go_loop [9] (fun i => i = .int .i64 ((rs.size : Int) - 1)) (fun _ => 0)
  case atStart => rfl
  case round =>
    obtain rfl := hrel
    have hnl : ¬ ((rs.size : Int) - 1 < 2) := by omega
    go_wp2
    go_ret
    exact ⟨rfl, Below.refl _ _⟩

set_option maxRecDepth 1000000 in
set_option maxHeartbeats 2000000 in
theorem rune_long2 (w : World) (r : Int) (h1 : 128 ≤ r) (he : r ≠ 65533) (hv : validRune r = true) (a b : UInt8) (hrs : Utf8.encode r = ⟨#[a, b]⟩) (hb : 128 ≤ b.toNat) :
    Calls Tryd.prog 164 #[.string ⟨#[43, 35]⟩, .int .i32 r] w fun e w' => e = .returned (.int .i64 (-1)) ∧ Below w.heap.size w w' := by
  have hl : ¬ r < 128 := by omega
  have h0 : 0 ≤ r := by omega
  have HV := Lib.hid hv
  clear hv
  have hcv := fun w => run_convert_int_string (P := Tryd.prog) w 21 9 .i32 r (by kernel_rfl) Tryd.underlying9
  rw [hrs] at hcv
  clear hrs
  have hne : ((35 : Int) != (b.toNat : Int)) = true := by simp; omega
  have hw2 : IntKind.i64.wrap 2 = 2 := by decide
  go_enter Tryd.func164, Tryd.ntmps164
  go_wp2_with fail
  refine (validRune_calls _ r h0).mono ?_
  rw [HV.out]
  rintro e w1 ⟨rfl, rfl⟩
  go_wp2
  go_step3
  go_wp2
  go_loopw [9] (fun i wr => i = .int .i64 1 ∧ wr = w1) (fun _ _ => 0)
  case atStart => exact ⟨rfl, rfl⟩
  case round =>
    obtain ⟨rfl, rfl⟩ := hrel
    go_wp2
    go_step3
    go_wp2
    have hx : ((⟨#[43, 35]⟩ : ByteArray)[1]'(by decide)).toNat = 35 := rfl
    have hy : ((⟨#[a, b]⟩ : ByteArray)[1]'(by show 1 < 2; omega)).toNat = b.toNat := rfl
    go_region
    have hB := Lib.hid (show Below wr.heap.size wr wr.drew from (Below.refl _ _).drew)
    generalize wr.drew = W at *
    go_wp2
    · go_quiet ((go_at_call 128; exact Calls.quiet_of_same (Tryd.strings_IndexByte _ _ _)))
      rw [show Lib.indexByte ByteArray.empty.data.toList _ = -1 from rfl]
      go_wp2
      rw [Exit.noGoto_ret]
      go_wp2
      rw [Exit.noGoto_ret]
      go_wp2
      go_ret
      exact ⟨rfl, hB.out.os, hB.out.tape, hB.out.output, hB.out.size, hB.out.block⟩

theorem enc_two (r : Int) (hv : validRune r = true) (h1 : 128 ≤ r) (h2 : (Utf8.encode r).size = 2) : ∃ a b : UInt8, Utf8.encode r = ⟨#[a, b]⟩ ∧ 128 ≤ b.toNat := by
  obtain ⟨f1, f2, f3⟩ := encode_facts r (by rw [validRune_eq]; exact hv) h1
  generalize Utf8.encode r = rs at *
  obtain ⟨⟨l⟩⟩ := rs
  match l, h2 with
  | [a, b], _ => exact ⟨a, b, rfl, f3 (by show 2 - 1 < 2; omega)⟩

theorem rune_high (w : World) (r : Int) (h1 : 128 ≤ r) :
    Calls Tryd.prog 164 #[.string ⟨#[43, 35]⟩, .int .i32 r] w fun e w' => e = .returned (.int .i64 (-1)) ∧ Below w.heap.size w w' := by
  by_cases he : r = 65533
  · subst he; exact rune_err w
  · cases hv : validRune r with
    | false => exact rune_bad w r h1 he hv
    | true =>
      obtain ⟨f1, f2, f3⟩ := encode_facts r (by rw [validRune_eq]; exact hv) h1
      by_cases h3 : 3 ≤ (Utf8.encode r).size
      · exact rune_long3 w r h1 he hv _ rfl h3 f2
      · obtain ⟨a, b, e, hb⟩ := enc_two r hv h1 (by omega)
        exact rune_long2 w r h1 he hv a b e hb

#print axioms rune_bad
end Go.Proofs.YtnpkiknidmhciaaDoor

namespace Go.Proofs.YtnpkiknidmhciaaDoor
open Go.RowKit Go.Lib

theorem decode_conts (s : ByteArray) (pos : Nat) (h : pos < s.size) (ha : 128 ≤ (s[pos]'h).toNat) :
    pos + (Utf8.decode s pos).2 ≤ s.size ∧ ∀ k, k < (Utf8.decode s pos).2 → 128 ≤ (s.get! (pos + k)).toNat := by
  have hn : ¬ (s[pos]'h).toNat < 128 := by omega
  have h0 : 128 ≤ (s.get! (pos + 0)).toNat := by rw [get_at s pos h]; exact ha
  have hone : pos + 1 ≤ s.size ∧ ∀ k, k < 1 → 128 ≤ (s.get! (pos + k)).toNat := ⟨by omega, fun k hk => by obtain rfl : k = 0 := by omega
                                                                                                          exact h0⟩
  simp only [Utf8.decode, get_at s pos h, hn, if_false]
  split
  · rename_i c
    simp only [Bool.and_eq_true, decide_eq_true_eq, beq_iff_eq] at c
    split
    · refine ⟨by simp only; omega, fun k hk => ?_⟩
      simp only at hk
      obtain rfl | rfl : k = 0 ∨ k = 1 := by omega
      · exact h0
      · omega
    · exact hone
  · split
    · rename_i c
      simp only [Bool.and_eq_true, decide_eq_true_eq, beq_iff_eq] at c
      split
      · refine ⟨by simp only; omega, fun k hk => ?_⟩
        simp only at hk
        obtain rfl | rfl | rfl : k = 0 ∨ k = 1 ∨ k = 2 := by omega
        · exact h0
        · omega
        · omega
      · exact hone
    · split
      · rename_i c
        simp only [Bool.and_eq_true, decide_eq_true_eq, beq_iff_eq] at c
        split
        · refine ⟨by simp only; omega, fun k hk => ?_⟩
          simp only at hk
          obtain rfl | rfl | rfl | rfl : k = 0 ∨ k = 1 ∨ k = 2 ∨ k = 3 := by omega
          · exact h0
          · omega
          · omega
          · omega
        · exact hone
      · exact hone

theorem sign_not (b : UInt8) (h : 128 ≤ b.toNat) : ([43, 35] : List UInt8).contains b = false := by
  cases e : ([43, 35] : List UInt8).contains b with
  | false => rfl
  | true =>
    simp at e
    rcases e with rfl | rfl
    · exact absurd h (by decide)
    · exact absurd h (by decide)

theorem noAny_more (s : ByteArray) (i : Nat) (h : i < s.size) (ha : 128 ≤ (s[i]'h).toNat) (hn : NoAny s.data.toList [43, 35] i) : NoAny s.data.toList [43, 35] (i + (Utf8.decode s i).2) := by
  intro j b hj hb
  by_cases hji : j < i
  · exact hn j b hji hb
  · have hc := (decode_conts s i h ha).2 (j - i) (by omega)
    have hz := (decode_conts s i h ha).1
    rw [show i + (j - i) = j by omega] at hc
    have hjs : j < s.size := by omega
    have e : s.get! j = b := by
      have h1 := get_at s j hjs
      have h2 := Lib.data_getElem? s j hjs
      rw [hb] at h2
      injection h2 with h2
      rw [h2]
      exact h1
    rw [e] at hc
    exact sign_not b hc

theorem lt_of_some {α : Type} {a : Array α} {k : Nat} {x : α} (h : a[k]? = some x) : k < a.size := (Array.getElem?_eq_some_iff.1 h).1
theorem iter_below {w wx : World} (s : ByteArray) (h : Below w.heap.size w wx) (p : Nat) : Below w.heap.size w (wx.iterAt w.heap.size s p) :=
  ⟨h.os, h.tape, h.output, by rw [iterAt_size]; exact h.size, fun k hk => by rw [iterAt_other _ _ _ _ _ (by omega)]; exact h.block k hk⟩

set_option maxHeartbeats 8000000 in
set_option maxRecDepth 1000000 in
theorem indexAny_short (s : ByteArray) (w : World) (h8 : s.size ≤ 8) :
    Calls Tryd.prog 156 #[.string s, .string ⟨#[43, 35]⟩] w fun e w' => e = .returned (.int .i64 (Lib.indexAny s.data.toList [43, 35])) ∧ Below w.heap.size w w' := by
  have h8z : decide ((8 : Int) < (s.size : Int)) = false := decide_eq_false (by omega)
  go_enter Tryd.func156, Tryd.ntmps156
  go_wp2_with (go_at_call 165; refine (Tryd.strings_shouldUseASCIISet _ _).mono ?_; rintro e w' ⟨rfl, hw⟩; rw [hw, h8z])
  go_loopg [9, 10] s.size (fun g _ _ wx => ∃ i : Nat, i ≤ s.size ∧ s.size - i ≤ g ∧ (wx.heap[w.heap.size]? = some (.stringIter s i) ∧ Below w.heap.size w wx) ∧ Lib.NoAny s.data.toList [43, 35] i)
  case atStart => exact ⟨0, by omega, by omega, ⟨World.iter_heap _ _ _, (Below.refl _ _).alloc (Nat.le_refl _) _⟩, Lib.NoAny.zero _ _⟩
  case round =>
    obtain ⟨i, hil, hig, ⟨hk, hb⟩, hno⟩ := hrel
    have HN := Lib.hid hno
    have HB := Lib.hid hb
    clear hno hb
    by_cases hi : i < s.size
    · by_cases ha : (s[i]'hi).toNat < 128
      · obtain ⟨x, hx⟩ : ∃ x : UInt8, s[i]'hi = x := ⟨_, rfl⟩
        have hxl : s.data.toList[i]? = some x := by rw [← hx]; exact Lib.data_getElem? s i hi
        have hx128 : x.toNat < 128 := by rw [← hx]; exact ha
        have hnx := fun ty => run_next_ascii_at (P := Tryd.prog) wr w.heap.size s i ty hk hi (by rw [hx]; exact hx128)
        rw [hx] at hnx
        have HX := Lib.hid hxl
        clear hxl hx
        have hback : ((x.toNat : Int)).toNat.toUInt8 = x := by simp
        have hcon := Lib.contains_iff_indexByte [43, 35] x
        have HK := Lib.hid (iterAt_heap wr w.heap.size s i (i + 1) hk)
        have HB2 := Lib.hid (iter_below s HB.out (i + 1))
        generalize wr.iterAt w.heap.size s (i + 1) = wz at *
        cases hin : ([43, 35] : List UInt8).contains x
        · rw [hin] at hcon
          have hlt : ¬ ((0 : Int) ≤ Lib.indexByte [43, 35] x) := of_decide_eq_false hcon.symm
          clear hcon
          go_wp2_with (go_at_call 164; refine (Tryd.strings_IndexRune_ascii _ _ _ (by omega) (by omega)).mono ?_; rintro e w' ⟨rfl, hw⟩; rw [hw, hback])
          go_roundg (s.size - (i + 1))
          case measure => omega
          case rel => exact ⟨i + 1, by omega, by omega, ⟨HK.out, HB2.out⟩, HN.out.succ HX.out hin⟩
        · rw [hin] at hcon
          have hge : (0 : Int) ≤ Lib.indexByte [43, 35] x := of_decide_eq_true hcon.symm
          clear hcon
          go_wp2_with (go_at_call 164; refine (Tryd.strings_IndexRune_ascii _ _ _ (by omega) (by omega)).mono ?_; rintro e w' ⟨rfl, hw⟩; rw [hw, hback])
          go_ret
          exact ⟨by rw [Lib.indexAny_hit HN.out HX.out hin]; rfl, HB2.out⟩
      · have ha2 : 128 ≤ (s[i]'hi).toNat := by omega
        have HM := Lib.hid (noAny_more s i hi ha2 HN.out)
        have hz := (decode_conts s i hi ha2).1
        have hd := decode_high s i hi ha2
        have hnx := fun ty => run_next_any_at (P := Tryd.prog) wr w.heap.size s i ty hk hi
        have HK := Lib.hid (iterAt_heap wr w.heap.size s i (i + (Utf8.decode s i).2) hk)
        have HB2 := Lib.hid (iter_below s HB.out (i + (Utf8.decode s i).2))
        generalize wr.iterAt w.heap.size s (i + (Utf8.decode s i).2) = wz at *
        clear ha ha2
        generalize Utf8.decode s i = d at *
        obtain ⟨rn, wd⟩ := d
        simp only at hz hd hnx HK HM HB2
        obtain ⟨hd1, hd2⟩ := hd
        have hd3 : (128 : Int) ≤ (rn : Int) := by omega
        go_wp2_with (go_at_call 164; refine (rune_high _ _ hd3).mono ?_; rintro e wq ⟨rfl, hq⟩; have HK3 := Lib.hid ((hq.block _ (lt_of_some HK.out)).trans HK.out); have HB3 := Lib.hid (HB2.out.trans (hq.mono HB2.out.size)); clear hq)
        go_roundg (s.size - (i + wd))
        case measure => omega
        case rel => exact ⟨i + wd, by omega, by omega, ⟨HK3.out, HB3.out⟩, HM.out⟩
    · obtain rfl : i = s.size := by omega
      have hnx := fun ty => run_next_end_at (P := Tryd.prog) wr w.heap.size s s.size ty hk (by omega)
      go_wp2
      go_ret
      exact ⟨by rw [Lib.indexAny_none (by rw [← Lib.size_eq]; exact HN.out)]; rfl, HB.out⟩

theorem ascii_pm : ∀ (j : Nat) b, (⟨#[43, 35]⟩ : ByteArray).data.toList[j]? = some b → b.toNat < 128 := by
  intro j b h
  match j, h with
  | 0, h => injection h with h; subst h; decide
  | 1, h => injection h with h; subst h; decide
  | n + 2, h => simp at h

set_option maxRecDepth 100000 in
theorem indexAny_calls (s : ByteArray) (w : World) (hs : s.size ≤ 1000000) :
    Calls Tryd.prog 156 #[.string s, .string ⟨#[43, 35]⟩] w fun e w' => e = .returned (.int .i64 (Lib.indexAny s.data.toList [43, 35])) ∧ Below w.heap.size w w' := by
  by_cases h8 : s.size ≤ 8
  · exact indexAny_short s w h8
  · have h116 : (Tryd.prog.info? 228).map (fun i => (i.zero, i.size)) = some (some (.agg (Array.replicate 256 (.bool false))), 256) := by kernel_rfl
    refine (Tryd.strings_IndexAny_long (zero_of_info h116).1 s ⟨#[43, 35]⟩ w (by decide) (by omega) (by omega) (by decide) ascii_pm).mono fun e w' ⟨h1, h2⟩ => ⟨h1, ?_⟩
    rw [h2]
    exact ((Below.refl _ _).alloc (Nat.le_refl _) _).alloc (by simp) _

theorem hasSign_calls (l : List UInt8) (w : World) (hs : l.length ≤ 1000000) :
    Calls Tryd.prog 109 #[.string (str l)] w fun e w' => e = .returned (.bool (hasS l)) ∧ Below w.heap.size w w' := by
  have hi := indexAny_has l
  have hC : ∀ w, Calls Tryd.prog 139 #[.string (str l), .string ⟨#[43, 35]⟩] w fun e w' => e = .returned (.bool (hasS l)) ∧ Below w.heap.size w w' := fun w => by
    have c := indexAny_calls (str l) w (by rw [str_size]; exact hs)
    rw [str_data] at c
    generalize Lib.indexAny l [43, 35] = k at *
    go_enter Tryd.func139, Tryd.ntmps139
    go_wp2_with (go_at_call 156; refine c.mono ?_; rintro e w' ⟨rfl, hw⟩)
    go_ret
    exact ⟨rfl, hw⟩
  go_enter Tryd.func109, Tryd.ntmps109
  go_wp2_with (go_at_call 139; refine (hC _).mono ?_; rintro e w' ⟨rfl, hw⟩)
  go_ret
  exact ⟨rfl, hw⟩

#print axioms hasSign_calls
end Go.Proofs.YtnpkiknidmhciaaDoor

namespace Go.Proofs.YtnpkiknidmhciaaDoor
open Go.RowKit Go.Lib

/-- The library's tables. -/
structure T10 (w : World) : Prop where
  tabs : Tabs w
theorem T10.below {w w' : World} (h : T10 w) (hb : Below w.heap.size w w') : T10 w' := ⟨h.tabs.below hb⟩

theorem _root_.Go.RowKit.Below.drewN' {B : Nat} {a w : World} (h : Below B a w) (n : Nat) : Below B a (w.drewN n) := ⟨h.os, h.tape, h.output, h.size, h.block⟩

/-- Texts that lie in a row of their own. -/
def LevAt (w : World) (p : Nat) (ls : List (List UInt8)) : Prop := ∀ j x, ls[j]? = some x → w.cell? ⟨p, j, none⟩ = some (.string (str x))
theorem LevAt.below {w w' : World} {p B : Nat} {ls : List (List UInt8)} (h : LevAt w p ls) (hb : Below B w w') (hp : p < B) : LevAt w' p ls := fun j x hj => by
  rw [World.cell?_of_block (w := w) (hb.block _ hp)]
  exact h j x hj

theorem split_map (l : List UInt8) : splitB ⟨#[47]⟩ 0 (countB (str l) ⟨#[47]⟩) (str l) = (lev l).map str := by
  have h := splitB_data ⟨#[47]⟩ 0 (countB (str l) ⟨#[47]⟩) (str l)
  rw [show (⟨#[47]⟩ : ByteArray).data.toList = [47] from rfl, str_data, splitK_lev l _ (by
    show l.count 47 ≤ Lib.count (str l).data.toList [47]
    rw [str_data, count_slash]; exact Nat.le_refl _)] at h
  rw [← h, List.map_map]
  conv => lhs; rw [← List.map_id (splitB _ _ _ _)]
  exact List.map_congr_left fun x _ => ba_str x

/-- What a name and a filter have to be. -/
def mayT (l : List UInt8) : Bool := decide (l ≠ []) && (goodB (str l) && decide (l.count 47 < 32))
def nameB (l : List UInt8) : Bool := mayT l && !hasS l

theorem empty_str (l : List UInt8) : (str l).toList.isEmpty = decide (l = []) := by
  rw [str_list]
  cases l <;> simp

theorem str_maxLen (l : List UInt8) (hl : l.length ≤ 1000000) : (str l).size ≤ maxLen := by rw [str_size]; unfold maxLen; omega

set_option maxHeartbeats 1000000 in
theorem mayBe_calls (w : World) (l : List UInt8) (hl : l.length ≤ 1000000) (hT : T10 w) :
    Calls Tryd.prog 108 #[.string (str l)] w fun e w' => e = .returned (.bool (mayT l)) ∧ Below w.heap.size w w' := by
  have hz := str_maxLen l hl
  have hem := empty_str l
  by_cases h0 : l = []
  · have e : mayT l = false := by simp [mayT, h0]
    rw [e]
    rw [decide_eq_true h0] at hem
    clear h0 e hl hz hT
    generalize str l = s at *
    go_enter Tryd.func108, Tryd.ntmps108
    go_wp2
    go_ret
    exact ⟨rfl, Below.refl _ _⟩
  · rw [decide_eq_false h0] at hem
    cases hg : goodB (str l) with
    | false =>
      have e : mayT l = false := by simp [mayT, hg]
      rw [e]
      have c := good_calls w (str l) hz hT.tabs
      rw [hg] at c
      go_enter Tryd.func108, Tryd.ntmps108
      go_wp2_with (go_at_call 121; refine c.mono ?_; rintro e w' ⟨rfl, hw⟩)
      go_ret
      exact ⟨rfl, hw⟩
    | true =>
      have e : mayT l = decide (l.count 47 < 32) := by simp [mayT, hg, h0]
      rw [e]
      have c := good_calls w (str l) hz hT.tabs
      rw [hg] at c
      have c2 := fun w => Tryd.strings_Count_one (str l) 47 w
      rw [str_data] at c2
      unfold Lib.countByte at c2
      generalize l.count 47 = n at *
      clear e hl hz hT
      have hd : decide ((n : Int) < 32) = decide (n < 32) := by by_cases h : n < 32 <;> simp [h] <;> omega
      go_enter Tryd.func108, Tryd.ntmps108
      go_wp2_with (first
        | (go_at_call 121; refine c.mono ?_; rintro e w1 ⟨rfl, hw⟩)
        | (go_at_call 138; refine (c2 _).mono ?_; rintro e w' ⟨rfl, hw2⟩; rw [hw2]))
      go_ret
      exact ⟨rfl, hw⟩

set_option maxHeartbeats 1000000 in
theorem name_calls (w : World) (l : List UInt8) (hl : l.length ≤ 1000000) (hT : T10 w) :
    Calls Tryd.prog 64 #[.string (str l)] w fun e w' => e = .returned (.bool (nameB l)) ∧ Below w.heap.size w w' := by
  have c := mayBe_calls w l hl hT
  have c2 := fun w => hasSign_calls l w hl
  unfold nameB
  cases hm : mayT l with
  | false =>
    rw [hm] at c
    rw [Bool.false_and]
    go_enter Tryd.func64, Tryd.ntmps64
    go_wp2_with (go_at_call 108; refine c.mono ?_; rintro e w' ⟨rfl, hw⟩)
    go_ret
    exact ⟨rfl, hw⟩
  | true =>
    rw [hm] at c
    rw [Bool.true_and]
    generalize hasS l = b at *
    go_enter Tryd.func64, Tryd.ntmps64
    go_wp2_with (first
      | (go_at_call 108; refine c.mono ?_; rintro e w1 ⟨rfl, hw⟩)
      | (go_at_call 109; refine (c2 _).mono ?_; rintro e w2 ⟨rfl, hw2⟩; have HW := Lib.hid (hw.trans (hw2.mono hw.size)); clear hw hw2))
    go_ret
    exact ⟨rfl, HW.out⟩

#print axioms mayBe_calls
end Go.Proofs.YtnpkiknidmhciaaDoor

namespace Go.Proofs.YtnpkiknidmhciaaDoor
open Go.RowKit Go.Lib

def filtB (l : List UInt8) : Bool := mayT l && filtR (lev l)
theorem filtR_step (x : List UInt8) (r : List (List UInt8)) : filtR (x :: r) = (((x == [43] || (x == [35] && r.isEmpty)) || !hasS x) && filtR r) := by
  cases r with
  | nil => simp [filtR]
  | cons y r => simp [filtR]

/-- What holds in Filter's loop. -/
structure FilJ (w : World) (p : Nat) (ls : List (List UInt8)) (R : Bool) (k : Nat) (wr : World) : Prop where
  lv : LevAt wr p ls
  pl : p < wr.heap.size
  be : Below w.heap.size w wr
  eq : R = filtR (ls.drop k)
theorem FilJ.below {w wr w' : World} {p : Nat} {ls : List (List UInt8)} {R : Bool} {k : Nat} (h : FilJ w p ls R k wr) (hb : Below wr.heap.size wr w') : FilJ w p ls R k w' :=
  ⟨h.lv.below hb h.pl, Nat.lt_of_lt_of_le h.pl hb.size, h.be.trans (hb.mono h.be.size), h.eq⟩
theorem FilJ.next {w wr : World} {p : Nat} {ls : List (List UInt8)} {R : Bool} {k : Nat} {x : List UInt8} (h : FilJ w p ls R k wr) (hx : ls[k]? = some x) (ht : ((x == [43] || (x == [35] && (ls.drop (k + 1)).isEmpty)) || !hasS x) = true) : FilJ w p ls R (k + 1) wr :=
  ⟨h.lv, h.pl, h.be, by rw [h.eq, drop_at hx, filtR_step, ht, Bool.true_and]⟩

end Go.Proofs.YtnpkiknidmhciaaDoor

namespace Go.Proofs.YtnpkiknidmhciaaDoor
open Go.RowKit Go.Lib

/-- What holds in Match's loop. -/
structure MatJ (w : World) (p q : Nat) (fs ns : List (List UInt8)) (wr : World) : Prop where
  lf : LevAt wr p fs
  ln : LevAt wr q ns
  pl : p < wr.heap.size
  ql : q < wr.heap.size
  be : Below w.heap.size w wr
theorem MatJ.below {w wr w' : World} {p q : Nat} {fs ns : List (List UInt8)} (h : MatJ w p q fs ns wr) (hb : Below wr.heap.size wr w') : MatJ w p q fs ns w' :=
  ⟨h.lf.below hb h.pl, h.ln.below hb h.ql, Nat.lt_of_lt_of_le h.pl hb.size, Nat.lt_of_lt_of_le h.ql hb.size, h.be.trans (hb.mono h.be.size)⟩
theorem meet_end (ns : List (List UInt8)) : meetB [] ns = decide (ns.length = 0) := by cases ns <;> simp [meetB]

end Go.Proofs.YtnpkiknidmhciaaDoor

namespace Go.Proofs.YtnpkiknidmhciaaDoor
open Go.RowKit Go.Lib

theorem takeWhile_len (l : List UInt8) : (l.takeWhile (· != 47)).length ≤ l.length := (List.takeWhile_prefix _).length_le
theorem dropWhile_len (l : List UInt8) : ((l.dropWhile (· != 47)).drop 1).length ≤ l.length := by
  have := (List.dropWhile_suffix (l := l) (p := (· != 47))).length_le
  rw [List.length_drop]; omega

end Go.Proofs.YtnpkiknidmhciaaDoor
