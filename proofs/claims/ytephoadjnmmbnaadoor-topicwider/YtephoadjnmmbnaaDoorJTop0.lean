/-
  Names and filters, pure. (No statement: facts that the proofs of the statements use.)
-/
import Derived.Test.YtephoadjnmmbnaaDoorJBase
import Derived.Lib.Split
import Derived.Lib.SplitLaws
import Derived.Lib.IndexAny
namespace Go.Proofs.YtephoadjnmmbnaaDoor
open Go.RowKit Go.Lib

/-- A text's parts between slashes. -/
def lev : List UInt8 → List (List UInt8)
  | [] => [[]]
  | c :: l => if c = 47 then [] :: lev l else (c :: (lev l).headD []) :: (lev l).tail

theorem lev_ne : ∀ l, lev l ≠ []
  | [] => by simp [lev]
  | c :: l => by unfold lev; split <;> simp
theorem lev_cons (l : List UInt8) : lev l = (lev l).headD [] :: (lev l).tail := by
  have h := lev_ne l
  cases e : lev l with
  | nil => exact absurd e h
  | cons x xs => rfl
theorem lev_slash (l : List UInt8) : lev (47 :: l) = [] :: lev l := by rw [lev, if_pos rfl]
theorem lev_other (c : UInt8) (l : List UInt8) (h : c ≠ 47) : lev (c :: l) = (c :: (lev l).headD []) :: (lev l).tail := by rw [lev, if_neg h]

theorem index_slash (l : List UInt8) : index (47 :: l) [47] = 0 := by unfold index; rw [if_pos (by simp [List.isPrefixOf])]
theorem index_other (c : UInt8) (l : List UInt8) (h : c ≠ 47) : index (c :: l) [47] = if index l [47] == -1 then -1 else index l [47] + 1 := by
  rw [index, if_neg (by simp [List.isPrefixOf]; exact fun e => h e.symm)]

theorem splitK_lev : ∀ (l : List UInt8) (k : Nat), l.count 47 ≤ k → splitK [47] 0 k l = lev l
  | [], 0, _ => rfl
  | [], k + 1, _ => by unfold splitK; rw [if_pos (by decide)]; rfl
  | c :: l, k, h => by
    by_cases hc : c = 47
    · subst hc
      rw [List.count_cons_self] at h
      obtain ⟨k, rfl⟩ : ∃ j, k = j + 1 := ⟨k - 1, by omega⟩
      have ih := splitK_lev l k (by omega)
      unfold splitK
      rw [index_slash, if_neg (by decide), lev_slash, ← ih]
      simp
    · rw [List.count_cons_of_ne (by simpa using hc)] at h
      have ih := splitK_lev l k h
      rw [lev_other c l hc]
      cases k with
      | zero => unfold splitK at ih ⊢; rw [← ih]; rfl
      | succ k =>
        unfold splitK at ih ⊢
        rw [index_other c l hc]
        by_cases hi : (index l [47] == -1) = true
        · rw [if_pos hi] at ih
          rw [if_pos hi, if_pos (by decide), ← ih]
          rfl
        · rw [if_neg hi] at ih
          have hge := index_spec l [47]
          have hn : 0 ≤ index l [47] := by
            rcases hge with ⟨h1, _⟩ | ⟨i, h1, _⟩
            · rw [h1] at hi; simp at hi
            · omega
          rw [if_neg hi, if_neg (by intro e; have := beq_iff_eq.1 e; omega), ← ih]
          rw [show (index l [47] + 1).toNat = (index l [47]).toNat + 1 by omega]
          simp [List.take_succ_cons, List.drop_succ_cons]

theorem count_slash : ∀ l : List UInt8, Lib.count l [47] = l.count 47
  | [] => by rw [count_miss (by decide)]; rfl
  | c :: l => by
    have ih := count_slash l
    by_cases hc : c = 47
    · subst hc
      rw [count_hit (i := 0) (by simp) (index_slash l), List.count_cons_self]
      simp [ih]; omega
    · rw [List.count_cons_of_ne (by simpa using hc), ← ih]
      rcases index_spec l [47] with ⟨h1, _⟩ | ⟨i, h1, _⟩
      · rw [count_miss h1, count_miss (by rw [index_other c l hc, h1]; rfl)]
      · rw [count_hit (by simp) h1, count_hit (i := i + 1) (by simp) (by rw [index_other c l hc, h1, if_neg (by intro e; have := beq_iff_eq.1 e; omega)]; push_cast; rfl)]
        simp

theorem lev_length : ∀ l : List UInt8, (lev l).length = l.count 47 + 1
  | [] => rfl
  | c :: l => by
    have ih := lev_length l
    by_cases hc : c = 47
    · subst hc; rw [lev_slash, List.count_cons_self, List.length_cons, ih]
    · rw [lev_other c l hc, List.count_cons_of_ne (by simpa using hc), List.length_cons, List.length_tail, ih]; omega

/-- Levels joined. -/
def unlev : List (List UInt8) → List UInt8
  | [] => []
  | [x] => x
  | x :: y :: r => x ++ 47 :: unlev (y :: r)
theorem unlev_cons (x : List UInt8) (r : List (List UInt8)) (h : r ≠ []) : unlev (x :: r) = x ++ 47 :: unlev r := by
  cases r with
  | nil => exact absurd rfl h
  | cons y r => rfl
theorem unlev_head (c : UInt8) (x : List UInt8) (r : List (List UInt8)) : unlev ((c :: x) :: r) = c :: unlev (x :: r) := by cases r <;> rfl
theorem unlev_lev : ∀ l, unlev (lev l) = l
  | [] => rfl
  | c :: l => by
    have ih := unlev_lev l
    by_cases hc : c = 47
    · subst hc; rw [lev_slash, unlev_cons _ _ (lev_ne l), ih]; rfl
    · rw [lev_other c l hc, unlev_head, ← lev_cons, ih]
theorem lev_inj {a b : List UInt8} (h : lev a = lev b) : a = b := by rw [← unlev_lev a, h, unlev_lev]
theorem lev_plain : ∀ x : List UInt8, (47 : UInt8) ∉ x → lev x = [x]
  | [], _ => rfl
  | c :: x, h => by
    have h1 : c ≠ 47 := fun e => h (by rw [e]; exact .head _)
    rw [lev_other c x h1, lev_plain x (fun e => h (.tail _ e))]
    rfl
theorem lev_app : ∀ (x r : List UInt8), (47 : UInt8) ∉ x → lev (x ++ 47 :: r) = x :: lev r
  | [], r, _ => lev_slash r
  | c :: x, r, h => by
    have h1 : c ≠ 47 := fun e => h (by rw [e]; exact .head _)
    rw [List.cons_append, lev_other c _ h1, lev_app x r (fun e => h (.tail _ e))]
    rfl
theorem lev_unlev : ∀ ls : List (List UInt8), ls ≠ [] → (∀ x ∈ ls, (47 : UInt8) ∉ x) → lev (unlev ls) = ls
  | [], h, _ => absurd rfl h
  | [x], _, h => lev_plain x (h x (.head _))
  | x :: y :: r, _, h => by
    rw [unlev_cons _ _ (by simp), lev_app _ _ (h x (.head _)), lev_unlev (y :: r) (by simp) (fun z hz => h z (.tail _ hz))]
theorem lev_mem : ∀ (l : List UInt8), ∀ x ∈ lev l, (47 : UInt8) ∉ x ∧ ∀ c ∈ x, c ∈ l
  | [], x, hx => by simp [lev] at hx; subst hx; simp
  | c :: l, x, hx => by
    by_cases hc : c = 47
    · subst hc
      rw [lev_slash] at hx
      rcases List.mem_cons.1 hx with rfl | hx
      · simp
      · have := lev_mem l x hx
        exact ⟨this.1, fun d hd => .tail _ (this.2 d hd)⟩
    · rw [lev_other c l hc] at hx
      have hm : (lev l).headD [] ∈ lev l := by rw [lev_cons l]; exact .head _
      rcases List.mem_cons.1 hx with rfl | hx
      · have := lev_mem l _ hm
        refine ⟨fun e => ?_, fun d hd => ?_⟩
        · rcases List.mem_cons.1 e with e | e
          · exact hc e.symm
          · exact this.1 e
        · rcases List.mem_cons.1 hd with rfl | hd
          · exact .head _
          · exact .tail _ (this.2 d hd)
      · have := lev_mem l x (List.mem_of_mem_tail hx)
        exact ⟨this.1, fun d hd => .tail _ (this.2 d hd)⟩

/-- Has it a sign, + or #? -/
def hasS (l : List UInt8) : Bool := l.any fun c => [43, 35].contains c
theorem indexAny_has : ∀ l : List UInt8, decide (0 ≤ indexAny l [43, 35]) = hasS l
  | [] => rfl
  | c :: l => by
    have ih := indexAny_has l
    have hg := indexAny_ge [43, 35] l
    unfold indexAny hasS
    rw [List.any_cons]
    cases hc : ([43, 35] : List UInt8).contains c with
    | true => simp
    | false =>
      rw [if_neg (by simp), Bool.false_or]
      change _ = hasS l
      rw [← ih]
      by_cases hi : (indexAny l [43, 35] == -1) = true
      · rw [if_pos hi]; have := beq_iff_eq.1 hi; rw [this]
      · rw [if_neg hi]
        have : indexAny l [43, 35] ≠ -1 := fun e => hi (beq_iff_eq.2 e)
        simp; omega
theorem hasS_mem (l : List UInt8) : hasS l = true ↔ (43 : UInt8) ∈ l ∨ (35 : UInt8) ∈ l := by
  unfold hasS
  rw [List.any_eq_true]
  constructor
  · rintro ⟨c, h1, h2⟩
    simp at h2
    rcases h2 with rfl | rfl
    · exact .inl h1
    · exact .inr h1
  · rintro (h | h)
    · exact ⟨43, h, by decide⟩
    · exact ⟨35, h, by decide⟩
theorem hasS_lev (l x : List UInt8) (h : hasS l = false) (hx : x ∈ lev l) : hasS x = false := by
  cases e : hasS x with
  | false => rfl
  | true =>
    have := (lev_mem l x hx).2
    have : hasS l = true := (hasS_mem l).2 (((hasS_mem x).1 e).imp (this _) (this _))
    rw [h] at this
    cases this

/-- Are levels those of a filter? -/
def filtR : List (List UInt8) → Bool
  | [] => true
  | [x] => (x == [43] || x == [35]) || !hasS x
  | x :: y :: r => (x == [43] || !hasS x) && filtR (y :: r)
/-- Does a level of a filter stand for others? -/
def sgnL (x : List UInt8) : Bool := x == [43] || x == [35]
/-- Do levels of a name meet those of a filter? -/
def meetB : List (List UInt8) → List (List UInt8) → Bool
  | [], [] => true
  | [], _ :: _ => false
  | a :: az, ns => a == [35] || (match ns with
    | [] => false
    | n :: ns => (a == [43] || a == n) && meetB az ns)
def hidB (l : List UInt8) : Bool := [36].isPrefixOf l
def matchB (f n : List UInt8) : Bool := !(hidB n && sgnL ((lev f).headD [])) && meetB (lev f) (lev n)

theorem cut_slash : ∀ l : List UInt8, (Lib.cut l [47]).1 = l.takeWhile (· != 47) ∧ (Lib.cut l [47]).2.1 = (l.dropWhile (· != 47)).drop 1
  | [] => by decide
  | c :: l => by
    have ih := cut_slash l
    by_cases hc : c = 47
    · subst hc
      unfold Lib.cut
      rw [index_slash, if_pos (by decide)]
      simp
    · unfold Lib.cut at ih ⊢
      rw [index_other c l hc]
      have hb : (c != 47) = true := by simpa using hc
      rw [List.takeWhile_cons_of_pos (p := fun x => x != 47) hb, List.dropWhile_cons_of_pos (p := fun x => x != 47) hb]
      rcases index_spec l [47] with ⟨h1, _⟩ | ⟨i, h1, _⟩
      · rw [h1] at ih ⊢
        rw [if_neg (by decide)] at ih
        rw [show (if ((-1 : Int) == -1) = true then (-1 : Int) else -1 + 1) = -1 from rfl, if_neg (by decide), ← ih.1, ← ih.2]
        exact ⟨rfl, rfl⟩
      · rw [h1] at ih ⊢
        rw [if_pos (by omega)] at ih
        have hne : ¬ ((i : Int) == -1) = true := fun e => by have := beq_iff_eq.1 e; omega
        rw [show (if ((i : Int) == -1) = true then (-1 : Int) else (i : Int) + 1) = (i : Int) + 1 from if_neg hne, if_pos (by omega), ← ih.1, ← ih.2]
        rw [show ((i : Int) + 1).toNat = (i : Int).toNat + 1 by omega]
        simp [List.take_succ_cons, List.drop_succ_cons]

theorem filtR_plain : ∀ ls : List (List UInt8), (∀ x ∈ ls, hasS x = false) → filtR ls = true
  | [], _ => rfl
  | [x], h => by simp [filtR, h x (.head _)]
  | x :: y :: r, h => by simp [filtR, h x (.head _), filtR_plain (y :: r) (fun z hz => h z (.tail _ hz))]
theorem meet_plain : ∀ (az ns : List (List UInt8)), (∀ x ∈ az, hasS x = false) → meetB az ns = (az == ns)
  | [], [], _ => rfl
  | [], _ :: _, _ => rfl
  | a :: az, ns, h => by
    have h1 : (a == [35]) = false := by
      cases e : a == [35] with
      | false => rfl
      | true => rw [beq_iff_eq] at e; have := h a (.head _); rw [e] at this; exact absurd this (by decide)
    have h2 : (a == [43]) = false := by
      cases e : a == [43] with
      | false => rfl
      | true => rw [beq_iff_eq] at e; have := h a (.head _); rw [e] at this; exact absurd this (by decide)
    cases ns with
    | nil => simp [meetB, h1]
    | cons n ns => simp only [meetB, h1, h2, Bool.false_or]; rw [meet_plain az ns (fun x hx => h x (.tail _ hx))]; rfl

theorem drop_at {α : Type} {l : List α} {k : Nat} {x : α} (h : l[k]? = some x) : l.drop k = x :: l.drop (k + 1) := by
  obtain ⟨hk, rfl⟩ := List.getElem?_eq_some_iff.1 h
  exact List.drop_eq_getElem_cons hk
theorem lev_len : ∀ (l : List UInt8), ∀ x ∈ lev l, x.length ≤ l.length
  | [], x, hx => by simp [lev] at hx; subst hx; simp
  | c :: l, x, hx => by
    by_cases hc : c = 47
    · subst hc
      rw [lev_slash] at hx
      rcases List.mem_cons.1 hx with rfl | hx
      · simp
      · have := lev_len l x hx
        simp; omega
    · rw [lev_other c l hc] at hx
      have hm : (lev l).headD [] ∈ lev l := by rw [lev_cons l]; exact .head _
      rcases List.mem_cons.1 hx with rfl | hx
      · have := lev_len l _ hm
        simp at this ⊢; omega
      · have := lev_len l x (List.mem_of_mem_tail hx)
        simp; omega

#print axioms cut_slash
end Go.Proofs.YtephoadjnmmbnaaDoor
