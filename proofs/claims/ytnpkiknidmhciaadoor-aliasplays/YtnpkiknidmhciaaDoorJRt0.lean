/-
  The document's layer 10: levels, signs. (No statement: contracts that the proofs of the statements use.)
-/
import Derived.Test.YtnpkiknidmhciaaDoorJTopics
import Derived.Test.YtnpkiknidmhciaaDoorJWords
import Derived.Deep.AppendLies
namespace Go.Proofs.YtnpkiknidmhciaaDoor
open Go.RowKit Go.Lib

theorem info_str : (Tryd.prog.info? 9).map (fun i => (i.zero, i.size, i.bytes)) = some (some (.string ⟨#[]⟩), 1, 16) := by kernel_rfl

/-- A row of texts of the call's own. -/
def OwnT (B : Nat) (w : World) (v : Value) (L : List (List UInt8)) : Prop := w.ownsRow B 9 1 v L.length (L.map fun x => .string (str x))
theorem OwnT.form {B : Nat} {w : World} {v : Value} {L : List (List UInt8)} (h : OwnT B w v L) : ∃ a c, v = .slice a L.length c := by
  rcases h.2 with ⟨rfl, h0⟩ | ⟨g, cap, _, rfl, _⟩
  · exact ⟨none, 0, by rw [h0]⟩
  · exact ⟨_, _, rfl⟩
theorem OwnT.empty (w : World) : OwnT w.heap.size (w.alloc (.cells #[] 9)) (.slice (some ⟨w.heap.size, 0, none⟩) 0 0) [] :=
  ⟨rfl, .inr ⟨w.heap.size, 0, #[], rfl, Nat.le_refl _, heap_alloc_new w _, Nat.le_refl _, Nat.zero_le _, rfl, rfl⟩⟩
theorem OwnT.below {B : Nat} {w w' : World} {v : Value} {L : List (List UInt8)} (h : OwnT B w v L) (hb : Below w.heap.size w w') : OwnT B w' v L := by
  refine ⟨h.1, ?_⟩
  rcases h.2 with h | ⟨g, cap, cur, hv, hB, hg, rest⟩
  · exact .inl h
  · exact .inr ⟨g, cap, cur, hv, hB, (hb.block g (lt_of_block hg)).trans hg, rest⟩
theorem OwnT.lev {B : Nat} {w : World} {v : Value} {L : List (List UInt8)} (h : OwnT B w v L) (hL : 0 < L.length) : ∃ g cap, v = .slice (some ⟨g, 0, none⟩) L.length cap ∧ B ≤ g ∧ g < w.heap.size ∧ L.length ≤ cap ∧ LevAt w g L := by
  obtain ⟨g, cap, rfl, hB, hg⟩ := World.ownsRow.form h hL
  refine ⟨g, cap, rfl, hB, hg, ?_, fun j x hj => ?_⟩
  · rcases h.2 with ⟨e, _⟩ | ⟨g', cap', cur, e, _, _, hc, _⟩
    · cases e
    · injection e with _ _ e3
      omega
  · have hj' := (List.getElem?_eq_some_iff.1 hj).1
    rw [World.ownsRow.cellAt h j (by omega), List.getElem?_map, hj]
    rfl
theorem own_snocT {B : Nat} {w : World} {v : Value} {acc : List (List UInt8)} {x : List UInt8} (h : w.ownsRow B 9 1 v (acc.length + 1) (acc.map (fun x => Value.string (str x)) ++ [.string (str x)])) : OwnT B w v (acc ++ [x]) := by
  unfold OwnT
  rw [show (acc ++ [x]).length = acc.length + 1 by simp, List.map_append]
  exact h
theorem one_newT (w : World) (u0 : Value) (t : TypeId) : ∀ (j : Nat) (u : Value), [u0][j]? = some u → (w.alloc (.cells #[u0] t)).cell? ((⟨w.heap.size, 0, none⟩ : Addr).add j) = some u := by
  intro j u h
  match j, h with
  | 0, h => simpa [Addr.add] using h
  | j + 1, h => simp at h

theorem str_sum10 (x y : ByteArray) (h : x.size + y.size ≤ 1000000000) : Op.stringOp .add x y = pure (.string (x ++ y)) := by
  unfold Op.stringOp
  dsimp only
  rw [if_neg (by simp [IntKind.max, IntKind.bits, IntKind.signed]; omega)]
theorem hasS_cons (c : UInt8) (l : List UInt8) : hasS (c :: l) = ((c == 43 || c == 35) || hasS l) := by
  unfold hasS
  rw [List.any_cons]
  congr 1
  rw [Bool.eq_iff_iff]
  simp
theorem drop_str (l : List UInt8) (k : Nat) (c : UInt8) (h : k < (str l).size) (hc : (str l)[k] = c) : l.drop k = c :: l.drop (k + 1) := by
  have hk : k < l.length := by rw [str_size] at h; exact h
  rw [List.drop_eq_getElem_cons hk]
  congr 1

set_option maxRecDepth 100000 in
set_option maxHeartbeats 1000000 in
theorem r10signs_calls (w : World) (l : List UInt8) (hl : l.length ≤ 70000) :
    Calls Tryd.prog 112 #[.string (str l)] w fun e w' => e = .returned (.bool (hasS l)) ∧ w' = w := by
  have hz := str_size l
  obtain ⟨R, hR⟩ : ∃ R, hasS l = R := ⟨_, rfl⟩
  rw [hR]
  have HR := Lib.hid hR
  clear hR
  go_enter Tryd.func112, Tryd.ntmps112
  go_wp2
  go_loopw [3] (fun i wr => ∃ k : Nat, k ≤ l.length ∧ i = .int .i64 k ∧ wr = w ∧ hasS (l.drop k) = R) (fun i _ => l.length - (RowKit.intOf i).toNat)
  case atStart => exact ⟨0, by omega, rfl, rfl, HR.out⟩
  case round =>
    obtain ⟨k, hk, rfl, rfl, hd⟩ := hrel
    have HD := Lib.hid hd
    clear hd HR
    by_cases hlt : k < l.length
    · have hks : k < (str l).size := by omega
      obtain ⟨c, hc⟩ : ∃ c, (str l)[k] = c := ⟨_, rfl⟩
      have HS := Lib.hid (drop_str l k c hks hc)
      by_cases h1 : c = 43
      · subst h1
        have hR := HD.out
        rw [HS.out, hasS_cons] at hR
        simp at hR
        clear HS HD
        go_wp2
        go_ret
        exact ⟨by rw [hR]; rfl, rfl⟩
      · have n1 : ((c.toNat : Int) == 43) = false := by rw [beq_eq_false_iff_ne]; intro e; exact h1 (UInt8.toNat_inj.1 (by show _ = (_ : Nat); simp at e ⊢; omega))
        by_cases h2 : c = 35
        · subst h2
          have hR := HD.out
          rw [HS.out, hasS_cons] at hR
          simp at hR
          clear HS HD h1
          go_wp2
          go_ret
          exact ⟨by rw [hR]; rfl, rfl⟩
        · have n2 : ((c.toNat : Int) == 35) = false := by rw [beq_eq_false_iff_ne]; intro e; exact h2 (UInt8.toNat_inj.1 (by show _ = (_ : Nat); simp at e ⊢; omega))
          have hR := HD.out
          rw [HS.out, hasS_cons, beq_eq_false_iff_ne.2 h1, beq_eq_false_iff_ne.2 h2, Bool.false_or, Bool.false_or] at hR
          have HR := Lib.hid hR
          clear HS HD h1 h2 hR
          go_wp2
          go_round
          case rel => exact ⟨k + 1, by omega, by go_num, trivial, HR.out⟩
          case measure => simp [RowKit.intOf]; omega
    · have hke : k = l.length := by omega
      have hR := HD.out
      rw [hke, List.drop_length] at hR
      clear HD
      go_wp2
      go_ret
      exact ⟨by rw [← hR]; rfl, rfl⟩

/-- What holds in Levels' loop. -/
structure LevJ (w : World) (R : List (List UInt8)) (v : Value) (wr : World) (acc : List (List UInt8)) (part rest : List UInt8) : Prop where
  own : OwnT w.heap.size wr v acc
  bel : Below w.heap.size w wr
  run : acc ++ ((part ++ (lev rest).headD []) :: (lev rest).tail) = R
theorem LevJ.slash {w : World} {R : List (List UInt8)} {v : Value} {wr : World} {acc : List (List UInt8)} {part rest : List UInt8} (h : LevJ w R v wr acc part (47 :: rest)) : (acc ++ [part]) ++ (([] ++ (lev rest).headD []) :: (lev rest).tail) = R := by
  have := h.run
  rw [lev_slash] at this
  rw [← this, List.nil_append, ← lev_cons, List.append_assoc]
  simp
theorem LevJ.other {w : World} {R : List (List UInt8)} {v : Value} {wr : World} {acc : List (List UInt8)} {part rest : List UInt8} {c : UInt8} (hc : c ≠ 47) (h : LevJ w R v wr acc part (c :: rest)) : LevJ w R v wr acc (part ++ [c]) rest := by
  refine ⟨h.own, h.bel, ?_⟩
  have := h.run
  rw [lev_other c rest hc] at this
  rw [← this]
  simp
theorem LevJ.done {w : World} {R : List (List UInt8)} {v : Value} {wr : World} {acc : List (List UInt8)} {part : List UInt8} (h : LevJ w R v wr acc part []) : acc ++ [part] = R := by
  have := h.run
  rw [← this]
  simp [lev]
theorem mid_str (l : List UInt8) (k : Nat) (c : UInt8) (r : List UInt8) (h : l.drop k = c :: r) : (str l).extract k (k + 1) = str [c] := by
  apply ba_ext
  rw [ba_extract, str_data, str_data, h]
  simp

set_option maxRecDepth 100000 in
set_option maxHeartbeats 2000000 in
theorem r10levels_calls (w : World) (l : List UInt8) (hl : l.length ≤ 70000) :
    Calls Tryd.prog 140 #[.string (str l)] w fun e w' => ∃ g cap, e = .returned (.slice (some ⟨g, 0, none⟩) (lev l).length cap) ∧ LevAt w' g (lev l) ∧ w.heap.size ≤ g ∧ g < w'.heap.size ∧ Below w.heap.size w w' := by
  have hz := str_size l
  obtain ⟨R, hR⟩ : ∃ R, lev l = R := ⟨_, rfl⟩
  have hRl : R.length ≤ 70001 := by rw [← hR, lev_length]; have := List.count_le_length (a := (47 : UInt8)) (l := l); omega
  have hR0 : 0 < R.length := by rw [← hR, lev_length]; omega
  have HJ := Lib.hid (show LevJ w R (.slice (some ⟨w.heap.size, 0, none⟩) 0 0) (w.alloc (.cells #[] 9)) [] [] l from ⟨OwnT.empty w, below_one w _, by rw [List.nil_append, List.nil_append, ← lev_cons, hR]⟩)
  rw [hR]
  clear hR
  obtain ⟨i0, hi, hz0', hz1, hz2⟩ := info_parts info_str
  go_enter Tryd.func140, Tryd.ntmps140
  go_wp2
  go_loopw [3, 4, 5] (fun u p i wr => ∃ (k : Nat) (acc : List (List UInt8)) (part : List UInt8) (a : Option Addr) (c : Nat), k ≤ l.length ∧ part.length ≤ k ∧ u = .slice a acc.length c ∧ p = .string (str part) ∧ i = .int .i64 k ∧ Hid (LevJ w R (.slice a acc.length c) wr acc part (l.drop k))) (fun _ _ i _ => l.length - (RowKit.intOf i).toNat)
  case atStart => exact ⟨0, [], [], _, 0, by omega, by simp, rfl, rfl, rfl, HJ⟩
  case round =>
    clear HJ
    obtain ⟨k, acc, part, a, c, hk, hpk, rfl, rfl, rfl, J⟩ := hrel
    have hacc : acc.length ≤ 70000 := by
      have := congrArg List.length J.out.run
      rw [List.length_append, List.length_cons] at this
      omega
    have hsw : w.heap.size ≤ wr.heap.size := J.out.bel.size
    have hps : (str part).size = part.length := str_size part
    by_cases hlt : k < l.length
    · have hks : k < (str l).size := by omega
      obtain ⟨b, hb⟩ : ∃ b, (str l)[k] = b := ⟨_, rfl⟩
      have hdr := drop_str l k b hks hb
      rw [hdr] at J
      have hmid := mid_str l k b _ hdr
      clear hdr
      by_cases h1 : b = 47
      · subst h1
        clear hmid
        have b1 := below_one wr (.cells #[.string (str part)] 9)
        have HO := Lib.hid (J.out.own.below b1)
        have HB := Lib.hid (J.out.bel.trans (b1.mono hsw))
        have HN := Lib.hid (one_newT wr (.string (str part)) 9)
        have HR := Lib.hid J.out.slash
        have hs1 : w.heap.size ≤ (wr.alloc (.cells #[.string (str part)] 9)).heap.size := by simp; omega
        clear J b1
        go_wp2_with ((at_builtin; refine wpList_append_own_at _ rfl _ _ 50 rfl w.heap.size 9 i0 (.string ⟨#[]⟩) 1 16 Tryd.underlying50 hi hz0' hz1 hz2 rfl (by decide) _ _ _ rfl HO.out ⟨wr.heap.size, 0, none⟩ 1 1 [.string (str part)] rfl rfl HN.out (by simp [Value.oneCell']) (by unfold maxLen; omega) (by omega) hs1 ?_))
        intro v' w7 hown8 hgrow _ _
        have hown9 : OwnT w.heap.size w7 v' (acc ++ [part]) := own_snocT hown8
        have hbel9 : Below w.heap.size w w7 := HB.out.grown hgrow hs1 (fun g hg => (World.ownsRow.lt HO.out g hg).1)
        obtain ⟨a', c', hv'⟩ := hown9.form
        have J9 := Lib.hid (show LevJ w R (.slice a' (acc ++ [part]).length c') w7 (acc ++ [part]) [] (l.drop (k + 1)) from ⟨hv' ▸ hown9, hbel9, HR.out⟩)
        subst hv'
        clear hown8 hgrow hown9 hbel9 HO HB HN HR hs1
        go_wp2
        go_round
        case rel => exact ⟨k + 1, acc ++ [part], [], a', c', by omega, by simp, rfl, rfl, by go_num, J9⟩
        case measure => simp [RowKit.intOf]; omega
      · have n1 : ((b.toNat : Int) == 47) = false := by rw [beq_eq_false_iff_ne]; intro e; exact h1 (UInt8.toNat_inj.1 (by show _ = (_ : Nat); simp at e ⊢; omega))
        have J9 := Lib.hid (J.out.other h1)
        have hsum : str part ++ str [b] = str (part ++ [b]) := by apply ba_ext; simp [str_data]
        have hadd := str_sum10 (str part) (str [b]) (by rw [hps, str_size]; simp; omega)
        rw [hsum] at hadd
        have hlen : (part ++ [b]).length ≤ k + 1 := by simp; omega
        clear J h1 hsum
        go_wp2
        go_round
        case rel => exact ⟨k + 1, acc, part ++ [b], a, c, by omega, hlen, rfl, rfl, by go_num, J9⟩
        case measure => simp [RowKit.intOf]; omega
    · have hke : k = l.length := by omega
      rw [hke, List.drop_length] at J
      have hR := J.out.done
      have b1 := below_one wr (.cells #[.string (str part)] 9)
      have HO := Lib.hid (J.out.own.below b1)
      have HB := Lib.hid (J.out.bel.trans (b1.mono hsw))
      have HN := Lib.hid (one_newT wr (.string (str part)) 9)
      have hs1 : w.heap.size ≤ (wr.alloc (.cells #[.string (str part)] 9)).heap.size := by simp; omega
      have HR := Lib.hid hR
      clear J b1 hR
      go_wp2_with ((at_builtin; refine wpList_append_own_at _ rfl _ _ 50 rfl w.heap.size 9 i0 (.string ⟨#[]⟩) 1 16 Tryd.underlying50 hi hz0' hz1 hz2 rfl (by decide) _ _ _ rfl HO.out ⟨wr.heap.size, 0, none⟩ 1 1 [.string (str part)] rfl rfl HN.out (by simp [Value.oneCell']) (by unfold maxLen; omega) (by omega) hs1 ?_))
      intro v' w7 hown8 hgrow _ _
      have hown9 : OwnT w.heap.size w7 v' (acc ++ [part]) := own_snocT hown8
      have hbel9 : Below w.heap.size w w7 := HB.out.grown hgrow hs1 (fun g hg => (World.ownsRow.lt HO.out g hg).1)
      rw [HR.out] at hown9
      obtain ⟨g, cap, hv', hg1, hg2, hg3, hL⟩ := hown9.lev hR0
      subst hv'
      have HL := Lib.hid hL
      have HB9 := Lib.hid hbel9
      clear hown8 hgrow hown9 hbel9 HO HB HN hs1 hL
      go_wp2
      go_ret
      exact ⟨g, cap, rfl, HL.out, hg1, hg2, HB9.out⟩

#print axioms r10signs_calls
#print axioms r10levels_calls
end Go.Proofs.YtnpkiknidmhciaaDoor
