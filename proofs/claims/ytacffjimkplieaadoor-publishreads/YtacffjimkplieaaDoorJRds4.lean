/-
  The document's answers of layer 7 are the program's. (No statement: contracts that the proofs of the statements use.)
-/
import Derived.Test.YtacffjimkplieaaDoorJRds3
namespace Go.Proofs.YtacffjimkplieaaDoor
open Go.RowKit

theorem flag_doc : ∀ f : Fin 16, (((f.val : Int) / 8 % 2 == 1) = fDup (f.val : Int)) ∧ (((f.val : Int) % 2 == 1) = fRet (f.val : Int)) ∧ (f.val : Int) / 2 % 4 = fQua (f.val : Int) := by decide +kernel

theorem end_ne (s : ByteArray) (x : Int) (h : x ≠ 0) : endT s x ≠ 0 ∧ endT ⟨#[]⟩ x = endT s x := by
  unfold endT
  by_cases h1 : x = 1
  · subst h1
    exact ⟨by rw [if_pos (.inl rfl)]; decide, by rw [if_pos (.inl rfl), if_pos (.inl rfl)]⟩
  · rw [if_neg (fun e => e.elim h1 (fun e => h e.1)), if_neg (fun e => e.elim h1 (fun e => h e.1))]
    exact ⟨h, rfl⟩

theorem r7parse_calls (w : World) (f : Int) (body : ByteArray) (hf0 : 0 ≤ f) (hf1 : f ≤ 15) {tp : ByteArray} {n : Int} {ps : List Pr} {pl : ByteArray} {E : Int} {s1 : ByteArray} {x1 : Int} {s2 : ByteArray} {x2 : Int} {s3 : ByteArray} {x3 : Int} {s4 : ByteArray} {x4 : Int}
    (h : PubOf body (fQua f) tp n ps pl E s1 x1 s2 x2 s3 x3 s4 x4) (C : Pb) (hC : (if E = 0 then ⟨fDup f, fRet f, fQua f, n, ps, tp, pl⟩ else pbZ) = C) :
    Calls Tryd.prog 31 #[.int .i64 f, .string body] w (RPubR w C E) := by
  obtain ⟨ht, hi, hp, hl, he⟩ := h
  obtain ⟨g, rfl⟩ := Int.eq_ofNat_of_zero_le hf0
  obtain ⟨e1, e2, e3⟩ := flag_doc ⟨g, by omega⟩
  dsimp only at e1 e2 e3
  by_cases hx : x3 = 0
  · subst hx
    have hs : rawT s3 0 (s3.size : Int) = (s3, str [], 0) := by
      have := rest_back s3.data.toList
      rwa [← ba_str] at this
    rw [hs] at hl
    injection hl with l1 l2
    injection l2 with l2 l3
    subst l1 l2 l3
    exact r7parse_core w g body hf0 hf1 _ _ _ e1 e2 e3 tp s1 x1 ht n s2 x2 hi ps s3 0 hp E (by rw [← he]; rfl) C hC
  · rw [rawT_err _ _ _ hx] at hl
    injection hl with l1 l2
    injection l2 with l2 l3
    subst l1 l2 l3
    obtain ⟨h1, h2⟩ := end_ne s3 x3 hx
    rw [he] at h1 h2
    rw [if_neg h1] at hC
    exact r7parse_core w g body hf0 hf1 _ _ _ e1 e2 e3 tp s1 x1 ht n s2 x2 hi ps s3 x3 hp E h2 C (by rw [if_neg h1]; exact hC)

theorem may_0 : ∀ k ∈ [(4 : Int), 5, 6, 7], mayB k 0 = true := by decide +kernel

theorem r7ack_calls (w : World) (k : Int) (body : ByteArray) (k4 : 4 ≤ k) (k7 : k ≤ 7) {n c : Int} {ps : List Pr} {E : Int} {s1 : ByteArray} {x1 : Int} {s2 : ByteArray} {x2 : Int} {s3 : ByteArray} {x3 : Int} (h : PackOf k body n c ps E s1 x1 s2 x2 s3 x3) (C : Pk) (hC : (if E = 0 then ⟨k, n, c, ps⟩ else pkZ) = C) :
    Calls Tryd.prog 33 #[.int .i64 k, .string body] w (RAckR w C E) := by
  obtain ⟨hi, hc, hp, he⟩ := h
  have HID := Lib.hid (fun W : World => r7id_calls W body 0 n s1 x1 hi)
  have hm0 := may_0 k (by rcases (show k = 4 ∨ k = 5 ∨ k = 6 ∨ k = 7 by omega) with rfl | rfl | rfl | rfl <;> decide)
  unfold codeP at hc
  unfold propP at hp
  by_cases hx : x1 = 0
  · subst hx
    by_cases hs : s1.size = 0
    · rw [if_pos hs] at hc
      injection hc with c1 c2
      injection c2 with c2 c3
      subst c1 c2 c3
      rw [if_pos hs] at hp
      injection hp with p1 p2
      injection p2 with p2 p3
      subst p1 p2 p3
      have hE : E = 0 := by rw [← he]; unfold endT; rw [if_neg (by omega)]
      subst hE
      rw [if_pos rfl] at hC
      subst hC
      have hl : s1.toList = [] := by rw [ba_list]; exact List.eq_nil_of_length_eq_zero (by rw [ba_size]; exact hs)
      refine r7ack_b w k body k4 k7 n s1 HID (by rw [hl]; rfl) hl (Lib.hid fun W => ?_) (Lib.hid fun W => r6End_calls W s1 0 0 he)
      exact r4may_calls W k 0 true (Lib.hid (by have := may_eq k 0 (by decide); rw [← hm0]; exact this.symm))
    · rw [if_neg hs] at hc
      have hl : ¬ s1.toList = [] := fun e => hs (by rw [← ba_size, ← ba_list, e]; rfl)
      have hle : s1.toList.isEmpty = false := by cases h : s1.toList <;> simp_all
      unfold codeT at hc
      have hraw : ∃ t s', rawT s1 0 1 = (t, s', 0) := by
        unfold rawT
        rw [if_neg (by simp), if_neg (by omega), if_neg (by decide)]
        exact ⟨_, _, rfl⟩
      obtain ⟨t, s', hraw⟩ := hraw
      have htl := rawT_size s1 0 1
      rw [hraw] at hc htl
      dsimp only at hc htl
      have hcl : numL t.data.toList < 256 := Nat.lt_of_lt_of_le (numL_lt _) (Nat.le_trans (Nat.pow_le_pow_right (by decide) (show t.data.toList.length ≤ 1 by rw [ba_size]; omega)) (by decide))
      have HNUM := Lib.hid (fun W : World => r1number_calls W s1 0 1 t s' 0 hraw (by decide))
      have hmay := may_eq k (numL t.data.toList) hcl
      injection hc with c1 c2
      injection c2 with c2 c3
      subst c1 c2
      have hend := fun (W : World) => r6End_calls W s3 x3 E he
      cases hm : mayB k (numL t.data.toList : Nat) with
      | false =>
        rw [hm] at c3 hmay
        have hx2 : x2 = 2 := by rw [← c3]; rfl
        subst hx2
        have hp2 : (ps, s3, x3) = ([], s', 2) := by
          rw [← hp]
          split
          · rfl
          · exact takeR_held _ _ _ (by decide)
        injection hp2 with p1 p2
        injection p2 with p2 p3
        subst p1 p2 p3
        have hE : E ≠ 0 := by rw [← he]; exact (end_ne _ 2 (by decide)).1
        rw [if_neg hE] at hC
        subst hC
        exact r7ack_c w k body k4 k7 n s1 s3 _ (by omega) (by omega) HID hle hl HNUM (Lib.hid fun W => r4may_calls W k _ false (Lib.hid hmay.symm)) E (by simpa using hE) (Lib.hid hend)
      | true =>
        rw [hm] at c3 hmay
        have hx2 : x2 = 0 := by rw [← c3]; rfl
        subst hx2
        have HMAY := Lib.hid (fun W : World => r4may_calls W k (numL t.data.toList : Nat) true (Lib.hid hmay.symm))
        by_cases hs2 : s'.size = 0
        · rw [if_pos hs2] at hp
          injection hp with p1 p2
          injection p2 with p2 p3
          subst p1 p2 p3
          have hl2 : s'.toList = [] := by rw [ba_list]; exact List.eq_nil_of_length_eq_zero (by rw [ba_size]; exact hs2)
          have hE : E = 0 := by rw [← he]; unfold endT; rw [if_neg (by omega)]
          subst hE
          rw [if_pos rfl] at hC
          subst hC
          exact r7ack_d w k body k4 k7 n s1 s' _ (by omega) (by omega) HID hle hl HNUM HMAY (by rw [hl2]; rfl) hl2 (Lib.hid hend)
        · rw [if_neg hs2] at hp
          have hl2 : ¬ s'.toList = [] := fun e => hs2 (by rw [← ba_size, ← ba_list, e]; rfl)
          have hle2 : s'.toList.isEmpty = false := by cases h : s'.toList <;> simp_all
          have HT := Lib.hid (show ∀ W, Calls Tryd.prog 76 #[cur s' 0, .int .i64 k, .bool false] W (TookT W (ps, s3, x3)) from fun W => by have := r3TakeAll_calls W s' 0 k false; rwa [hp] at this)
          by_cases hE : E = 0
          · subst hE
            rw [if_pos rfl] at hC
            subst hC
            exact r7ack_e w k body k4 k7 n s1 s' _ (by omega) (by omega) HID hle hl HNUM HMAY hle2 hl2 ps s3 x3 HT (Lib.hid hend)
          · rw [if_neg hE] at hC
            subst hC
            exact r7ack_f w k body k4 k7 n s1 s' _ (by omega) (by omega) HID hle hl HNUM HMAY hle2 hl2 ps s3 x3 HT E (by simpa using hE) (Lib.hid hend)
  · have hc2 : (c, s2, x2) = (0, s1, x1) := by
      rw [← hc]
      split
      · rfl
      · unfold codeT
        rw [rawT_err _ _ _ hx]
        dsimp only
        rw [show numL (⟨#[]⟩ : ByteArray).data.toList = 0 from rfl]
        rw [show mayB k ((0 : Nat) : Int) = true from hm0]
        rfl
    injection hc2 with c1 c2
    injection c2 with c2 c3
    subst c1 c2 c3
    have hp2 : (ps, s3, x3) = ([], s2, x2) := by
      rw [← hp]
      split
      · rfl
      · exact takeR_held _ _ _ hx
    injection hp2 with p1 p2
    injection p2 with p2 p3
    subst p1 p2 p3
    have hE : E ≠ 0 := by rw [← he]; exact (end_ne _ _ hx).1
    rw [if_neg hE] at hC
    subst hC
    exact r7ack_a w k body k4 k7 n s3 x3 HID (by simpa using hx) E (by simpa using hE) (Lib.hid fun W => r6End_calls W s3 x3 E he)

#print axioms r7ack_calls
end Go.Proofs.YtacffjimkplieaaDoor
