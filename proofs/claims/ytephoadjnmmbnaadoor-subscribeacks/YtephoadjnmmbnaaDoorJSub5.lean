/-
  Parse of subscribe: its walk. (No statement: contracts that the proofs of the statements use.)
-/
import Derived.Test.YtephoadjnmmbnaaDoorJSub4
namespace Go.Proofs.YtephoadjnmmbnaaDoor
open Go.RowKit

/-- The error is told, or the Subscribe. -/
def SubscR (w : World) (n : Int) (ps : List Pr) (L : List Sb) (E : Int) (e : Ending) (w' : World) : Prop :=
  ∃ a c a2 c2, e = .returned (.tuple #[.agg #[.int .u32 n, .slice a ps.length c, .slice a2 L.length c2], .int .i64 E]) ∧ OwnP w.heap.size 50 w' (.slice a ps.length c) ps ∧ OwnS w.heap.size w' (.slice a2 L.length c2) L ∧ Below w.heap.size w w'
theorem OwnS.mono {B C : Nat} {w : World} {v : Value} {L : List Sb} (h : OwnS B w v L) (hc : C ≤ B) : OwnS C w v L := by
  refine ⟨h.1, ?_⟩
  rcases h.2 with h | ⟨g, cap, cur, hv, hb, rest⟩
  · exact .inl h
  · exact .inr ⟨g, cap, cur, hv, Nat.le_trans hc hb, rest⟩

set_option maxRecDepth 100000 in
set_option maxHeartbeats 4000000 in
theorem sparse_calls (w : World) (body : ByteArray) (hT : Tabs w) (hz : body.size ≤ 1000000) {n : Int} {ps : List Pr} {s1 : ByteArray} {x1 : Int} {t1 : ByteArray} {y1 y2 : Int} (hh : HeadOf 8 body 0 n ps s1 x1 t1 y1 y2) (hs1 : s1.size ≤ body.size) (R : List Sb) (s2 : ByteArray) (x2 : Int) (hR : runA8 [] s1 x1 = (R, s2, x2)) (E : Int) (hE : endT s2 x2 = E) (N : Int) (P : List Pr) (L : List Sb) (hC : (if E = 0 then (n, ps, R) else (0, [], [])) = (N, P, L)) :
    Calls Tryd.prog 77 #[.string body] w (SubscR w N P L E) := by
  have HH := Lib.hid hh
  have HE := Lib.hid hE
  have HC := Lib.hid hC
  have HT := Lib.hid hT
  have HR := Lib.hid hR
  clear hh hE hC hT hR
  obtain ⟨i0, hi, hz0, hz1, hz2⟩ := info_parts Tryd.infoSub
  go_enter Tryd.func77, Tryd.ntmps77
  go_wp2_with fail
  refine (over_calls _ _).mono ?_
  rintro e W1 ⟨rfl, rfl⟩
  have i1 := InAt.new (w.alloc (.cells su0 107)) body
  have R1 := Lib.hid ((Below.heap_alloc (w.alloc (.cells su0 107)) (.cells #[.string body, .int .i64 0] 155) w.heap.size (by simp)).trans (heap_alloc_new w (.cells su0 107)))
  have B1 := Lib.hid (below_two w (.cells su0 107) (.cells #[.string body, .int .i64 0] 155))
  rw [World.size_alloc] at i1 ⊢
  generalize ((w.alloc (.cells su0 107)).alloc (.cells #[.string body, .int .i64 0] 155)) = W1 at *
  generalize hp : w.heap.size + 1 = p at *
  have hpl : w.heap.size < p := by omega
  clear hp
  have N0 := Lib.hid (show SpJ w p W1.heap.size 0 (.slice none 0 0) [] (.slice none 0 0) [] body 0 (W1.alloc (.cells su0 107)) from ⟨i1.below (below_one W1 _), (Below.heap_alloc W1 _ _ (lt_of_block R1.out)).trans R1.out, heap_alloc_new W1 _, B1.out.alloc B1.out.size _, hpl, i1.lt, World.ownsRow_nil _ _ _ _, World.ownsRow_nil _ _ _ _, fun g hg => by simp [Value.ownBlock] at hg⟩)
  clear i1 R1 B1
  go_wp2_with fail
  generalize W1.alloc (.cells su0 107) = W2 at *
  generalize W1.heap.size = cb at *
  refine (takeHead_calls _ p body 0 8 HH.out N0.out.inn (HT.out.below N0.out.bel)).mono ?_
  rintro e V1 ⟨pa, pc, rfl, own1, j1, c1⟩
  have K1 := Lib.hid (N0.out.took j1 c1)
  have OO := Lib.hid (own1.mono (show cb + 1 ≤ _ from lt_of_block N0.out.loc))
  clear own1 j1 c1 N0
  obtain ⟨d0, d1, d2, df⟩ := cells3 K1.out.loc
  have dl := lt_of_block K1.out.loc
  have N1 := Lib.hid (show SpJ w p cb n (.slice pa ps.length pc) ps (.slice none 0 0) [] s1 x1 ((V1.setCell ⟨cb, 0, none⟩ (.int .u32 n)).setCell ⟨cb, 1, none⟩ (.slice pa ps.length pc)) from by
    have e1 := K1.out.hp
    have e2 := K1.out.hc
    refine ⟨(K1.out.inn.far (by omega) _ _).far (by omega) _ _, ?_, set_cells (set_cells K1.out.loc 0 _) 1 _, below_set (below_set K1.out.bel (by omega) _ _) (by omega) _ _, e1, e2, (OO.out.set (by omega)).set (by omega), World.ownsRow_nil _ _ _ _, fun g hg => by simp [Value.ownBlock] at hg⟩
    rw [Below.heap_setCell _ _ _ _ (by show w.heap.size ≠ cb; omega), Below.heap_setCell _ _ _ _ (by show w.heap.size ≠ cb; omega)]
    exact K1.out.res)
  go_wp2_with fail
  generalize (V1.setCell ⟨cb, 0, none⟩ (.int .u32 n)).setCell ⟨cb, 1, none⟩ (.slice pa ps.length pc) = U1 at *
  clear d0 d1 d2 df dl K1 OO
  have hm1 : mS s1 x1 ≤ body.size + 1 := by unfold mS; split <;> omega
  go_loopw [17] (fun _ wr => ∃ (A : List Sb) (a : Option Addr) (c : Nat) (s : ByteArray) (x : Int), SpJ w p cb n (.slice pa ps.length pc) ps (.slice a A.length c) A s x wr ∧ runA8 A s x = (R, s2, x2) ∧ A.length + mS s x ≤ body.size + 1) (fun _ wr => mOf p wr)
  case atStart => exact ⟨[], none, 0, s1, x1, N1.out, HR.out, by simpa using hm1⟩
  case round =>
    obtain ⟨A, a, c, s, x, hJ, hrun, hlen⟩ := hrel
    have J0 := Lib.hid hJ
    have HRN := Lib.hid hrun
    have HMO := Lib.hid (mOf_at hJ.inn)
    clear hJ hrun N1 HR
    go_wp2_with fail
    refine (more_calls _ p s x J0.out.inn).mono ?_
    by_cases hc : x = 0 ∧ s.size ≠ 0
    · obtain ⟨rfl, hsz⟩ := hc
      rw [decide_eq_true (rfl : (0 : Int) = 0), decide_eq_true hsz]
      rintro e w3 ⟨rfl, rfl⟩
      obtain ⟨u1, v1, tt, xx, f, b, hso, hsb⟩ := step_sub s 0
      have hrs := runA8_step A s hsz
      have hlt := mS_lt s hsz
      generalize (stepS s 0).1 = cc at *
      generalize (stepS s 0).2.1 = s' at *
      generalize (stepS s 0).2.2 = x' at *
      have HTS := Lib.hid (show ∀ V, InAt V p s 0 → Tabs V → Calls Tryd.prog 143 #[.pointer (some ⟨p, 0, none⟩)] V (TookB V p cc s' x') from fun V hV hTV => by have := takeSub_calls V p s 0 hV hTV hso; rw [hsb] at this; exact this)
      have HRS := Lib.hid (hrs.symm.trans HRN.out)
      clear hso hsb hrs HRN
      obtain ⟨cf, cq, cn, ca, ch⟩ := cc
      unfold TookB at HTS
      dsimp only at HTS
      obtain ⟨d0, d1, d2, df⟩ := cells3 J0.out.loc
      have dl := lt_of_block J0.out.loc
      have J0d := Lib.hid J0.out.drew
      have hAl : A.length ≤ 1000001 := by omega
      go_wp2_with fail
      go_region_law (first
        | (go_simp; go_at_call 143; refine (HTS.out _ J0d.out.inn (HT.out.below J0d.out.bel)).mono ?_; rintro e V1 ⟨rfl, i3, c3⟩; have J1 := Lib.hid (J0d.out.took i3 c3); obtain ⟨e0, e1, e2, ef⟩ := cells3 J1.out.loc; have el := lt_of_block J1.out.loc; clear i3 c3)
        | (refine step_append_lies _ rfl (.tmp 19) (.tmp 22) 105 rfl (cb + 1) 189 i0 (.agg #[.string ⟨#[]⟩, .int .u8 0, .bool false, .bool false, .int .u8 0]) 5 24 Tryd.underlying105 hi hz0 hz1 hz2 rfl (by decide) (.slice a A.length c) A.length (A.flatMap sbC) (by simp [Act.eval]) (J1.out.subs.below (below_one V1 _)) ⟨V1.heap.size, 0, none⟩ 1 1 [.string cf, .int .u8 cq, .bool cn, .bool ca, .int .u8 ch] (by simp [Act.eval]) rfl (five_new V1 _ _ _ _ _ _) (by simp [Value.oneCell']) (by decide) (by unfold maxLen; omega) (by omega) (by simp; omega) _ rfl ?_; intro g cap W' hown hgrow hat hgl; obtain ⟨k0, k1, k2, kf⟩ := cells3 (J1.out.locG hgrow); have kl := lt_of_block (J1.out.locG hgrow); have JN := Lib.hid (J1.out.grown (c := ⟨cf, cq, cn, ca, ch⟩) hown hgrow (by simpa using hat)); clear hown hgrow hat hgl))
      all_goals
        go_wp2
        go_roundw
        case rel =>
          have e : (A ++ [(⟨cf, cq, cn, ca, ch⟩ : Sb)]).length = A.length + 1 := by simp
          exact ⟨A ++ [⟨cf, cq, cn, ca, ch⟩], some ⟨g, 0, none⟩, cap, s', x', by rw [e]; exact JN.out, HRS.out, by rw [e]; omega⟩
        case measure => rw [mOf_at JN.out.inn, HMO.out]; exact hlt
    · have hcb : (decide (x = 0) && decide (s.size ≠ 0)) = false := by
        by_cases hx : x = 0
        · have : s.size = 0 := by
            by_cases h0 : s.size = 0
            · exact h0
            · exact absurd ⟨hx, h0⟩ hc
          rw [this]; simp
        · rw [decide_eq_false hx]; rfl
      rw [hcb]
      rintro e w3 ⟨rfl, rfl⟩
      have hrd := runA8_done A s x hc
      rw [HRN.out] at hrd
      injection hrd with h1 hrd
      injection hrd with h2 h3
      subst h1 h2 h3
      go_wp2_with fail
      refine (end_calls _ p s2 x2 J0.out.inn).mono ?_
      rw [HE.out]
      rintro e w9 ⟨rfl, rfl⟩
      obtain ⟨r0, r1, r2, rf⟩ := cells3 J0.out.res
      obtain ⟨d0, d1, d2, df⟩ := cells3 J0.out.loc
      have rl := lt_of_block J0.out.res
      have dl := lt_of_block J0.out.loc
      have hcb2 : w.heap.size < cb := Nat.lt_trans J0.out.hp J0.out.hc
      by_cases hE0 : E = 0
      · subst hE0
        have hCC := HC.out
        rw [if_pos rfl] at hCC
        injection hCC with g1 hCC
        injection hCC with g2 g3
        subst g1 g2 g3
        go_wp2
        refine bodyPost_ret (v := .tuple #[.agg #[.int .u32 n, .slice pa ps.length pc, .slice a R.length c], .int .i64 0]) ?_ rfl ⟨pa, pc, a, c, rfl, ?_, ?_, ?_⟩
        · simp [results, Tryd.results77, go_sem, r0, r1, r2]
        · refine OwnP.mono ?_ (show w.heap.size ≤ cb + 1 by omega)
          iterate 3 (refine OwnP.set ?_ (Nat.lt_succ_of_lt hcb2))
          exact J0.out.own
        · refine OwnS.mono ?_ (show w.heap.size ≤ cb + 1 by omega)
          iterate 3 (refine OwnS.set ?_ (Nat.lt_succ_of_lt hcb2))
          exact J0.out.subs
        · iterate 3 (refine below_set ?_ (Nat.le_refl _) _ _)
          exact J0.out.bel
      · have hEb : (E != 0) = true := by simpa using hE0
        have hCC := HC.out
        rw [if_neg hE0] at hCC
        injection hCC with g1 hCC
        injection hCC with g2 g3
        subst g1 g2 g3
        go_wp2
        refine bodyPost_ret (v := .tuple #[.agg #[.int .u32 0, .slice none 0 0, .slice none 0 0], .int .i64 E]) ?_ rfl ⟨none, 0, none, 0, rfl, World.ownsRow_nil _ _ _ _, World.ownsRow_nil _ _ _ _, ?_⟩
        · simp [results, Tryd.results77, go_sem, r0, r1, r2]
        · iterate 3 (refine below_set ?_ (Nat.le_refl _) _ _)
          exact J0.out.bel

#print axioms sparse_calls
end Go.Proofs.YtephoadjnmmbnaaDoor
