/-
  ParseUn of subscribe. (No statement: contracts that the proofs of the statements use.)
-/
import Derived.Test.YtdbocpkeafcmaaaDoorJSub5
namespace Go.Proofs.YtdbocpkeafcmaaaDoor
open Go.RowKit

theorem Tryd.infoStr : (Tryd.prog.info? 9).map (fun i => (i.zero, i.size, i.bytes)) = some (some (.string ⟨#[]⟩), 1, 16) := by kernel_rfl

/-- All filters, as they are taken. -/
def runFs : Nat → List ByteArray → ByteArray → Int → List ByteArray × ByteArray × Int
  | 0, acc, s, x => (acc, s, x)
  | f + 1, acc, s, x => if x = 0 ∧ s.size ≠ 0 then runFs f (acc ++ [(strT s x).1]) (strT s x).2.1 (strT s x).2.2 else (acc, s, x)
theorem mF_lt (s : ByteArray) (_hz : s.size ≠ 0) : mS (strT s 0).2.1 (strT s 0).2.2 < mS s 0 := by
  have h1 := strT_left s 0
  unfold mS
  rw [if_pos rfl]
  by_cases hx : (strT s 0).2.2 = 0
  · rw [if_pos hx]
    rcases hf : strT s 0 with ⟨f, s1, x1⟩
    rw [hf] at hx h1
    dsimp only at hx h1 ⊢
    subst hx
    obtain ⟨-, e3, z3⟩ := str_invX hf
    have := congrArg List.length e3
    rw [List.length_append, ba_size, ba_size] at this
    have h2 : 2 ≤ (datL f).length := by unfold datL; rw [List.length_append, two_len]; omega
    omega
  · rw [if_neg hx]
    omega
theorem runFs_fuel : ∀ (f : Nat) (acc : List ByteArray) (s : ByteArray) (x : Int), mS s x ≤ f → runFs f acc s x = runFs (mS s x) acc s x := by
  intro f
  induction f using Nat.strongRecOn with
  | ind f ih =>
    intro acc s x hm
    by_cases hc : x = 0 ∧ s.size ≠ 0
    · obtain ⟨rfl, hz⟩ := hc
      have hlt := mF_lt s hz
      obtain ⟨g, rfl⟩ : ∃ g, f = g + 1 := ⟨f - 1, by omega⟩
      obtain ⟨k, hk⟩ : ∃ k, mS s 0 = k + 1 := ⟨mS s 0 - 1, by omega⟩
      rw [hk, runFs, runFs, if_pos ⟨rfl, hz⟩, if_pos ⟨rfl, hz⟩, ih g (by omega) _ _ _ (by omega)]
      by_cases hgk : g = k
      · subst hgk; rw [ih g (by omega) _ _ _ (by omega)]
      · rw [ih k (by omega) _ _ _ (by omega)]
    · have : ∀ k, runFs k acc s x = (acc, s, x) := fun k => by
        cases k with
        | zero => rfl
        | succ k => rw [runFs, if_neg hc]
      rw [this, this]
def runF (acc : List ByteArray) (s : ByteArray) (x : Int) : List ByteArray × ByteArray × Int := runFs (mS s x) acc s x
theorem runF_step (acc : List ByteArray) (s : ByteArray) (hz : s.size ≠ 0) : runF acc s 0 = runF (acc ++ [(strT s 0).1]) (strT s 0).2.1 (strT s 0).2.2 := by
  have hlt := mF_lt s hz
  obtain ⟨k, hk⟩ : ∃ k, mS s 0 = k + 1 := ⟨mS s 0 - 1, by omega⟩
  unfold runF
  rw [hk, runFs, if_pos ⟨rfl, hz⟩]
  exact runFs_fuel k _ _ _ (by omega)
theorem runF_done (acc : List ByteArray) (s : ByteArray) (x : Int) (hc : ¬ (x = 0 ∧ s.size ≠ 0)) : runF acc s x = (acc, s, x) := by
  unfold runF
  cases mS s x with
  | zero => rfl
  | succ k => rw [runFs, if_neg hc]
theorem one_new (w : World) (u0 : Value) (t : TypeId) : ∀ (j : Nat) (u : Value), [u0][j]? = some u → (w.alloc (.cells #[u0] t)).cell? ((⟨w.heap.size, 0, none⟩ : Addr).add j) = some u := by
  intro j u h
  match j, h with
  | 0, h => simpa [Addr.add] using h
  | j + 1, h => simp at h
abbrev un0 : Array Value := #[.int .u32 0, .slice none 0 0, .slice none 0 0]

/-- A row of strings of the call's own. -/
def OwnF (B : Nat) (w : World) (v : Value) (L : List ByteArray) : Prop := w.ownsRow B 9 1 v L.length (L.map Value.string)
theorem OwnF.form {B : Nat} {w : World} {v : Value} {L : List ByteArray} (h : OwnF B w v L) : ∃ a c, v = .slice a L.length c := by
  rcases h.2 with ⟨rfl, h0⟩ | ⟨g, cap, cur, hv, _⟩
  · exact ⟨none, 0, by rw [h0]⟩
  · exact ⟨_, _, hv⟩
theorem OwnF.keep {B : Nat} {w w' : World} {v : Value} {L : List ByteArray} (h : OwnF B w v L) (hk : ∀ g, v.ownBlock = some g → B ≤ g → g < w.heap.size → w'.heap[g]? = w.heap[g]?) : OwnF B w' v L := by
  refine ⟨h.1, ?_⟩
  rcases h.2 with h | ⟨g, cap, cur, hv, hB, hg, rest⟩
  · exact .inl h
  · exact .inr ⟨g, cap, cur, hv, hB, (hk g (by rw [hv]; rfl) hB (lt_of_block hg)).trans hg, rest⟩
theorem OwnF.below {B : Nat} {w w' : World} {v : Value} {L : List ByteArray} (h : OwnF B w v L) (hb : Below w.heap.size w w') : OwnF B w' v L := h.keep (fun g _ _ hl => hb.block g hl)
theorem OwnF.chg {B p : Nat} {w w' : World} {v : Value} {L : List ByteArray} (h : OwnF B w v L) (hc : Chg p w w') (hp : p < B) : OwnF B w' v L := h.keep (fun g _ hB hl => hc.block g hl (fun e => by injection e; omega))
theorem OwnF.set {B b j : Nat} {w : World} {v y : Value} {L : List ByteArray} (h : OwnF B w v L) (hb : b < B) : OwnF B (w.setCell ⟨b, j, none⟩ y) v L := h.keep (fun g _ hB _ => Below.heap_setCell _ _ _ _ (by show g ≠ b; omega))
/-- While a body is parsed. -/
structure FpJ (w : World) (p cb : Nat) (n : Int) (pv : Value) (ps : List Pr) (v : Value) (L : List ByteArray) (s : ByteArray) (x : Int) (W : World) : Prop where
  inn : InAt W p s x
  res : W.heap[w.heap.size]? = some (.cells un0 129 (0, 0))
  loc : W.heap[cb]? = some (.cells #[.int .u32 n, pv, v] 129 (0, 0))
  bel : Below w.heap.size w W
  hp : w.heap.size < p
  hc : p < cb
  own : OwnP (cb + 1) 41 W pv ps
  subs : OwnF (cb + 1) W v L
  sep : ∀ g, v.ownBlock = some g → pv.ownBlock ≠ some g

section
variable {w : World} {p cb : Nat} {n : Int} {pv : Value} {ps : List Pr} {v : Value} {L : List ByteArray} {s : ByteArray} {x : Int} {W : World}
theorem FpJ.took (h : FpJ w p cb n pv ps v L s x W) {W' : World} {s' : ByteArray} {x' : Int} (hi : InAt W' p s' x') (hc : Chg p W W') : FpJ w p cb n pv ps v L s' x' W' := by
  have h1 := h.hp
  have h2 := h.hc
  exact ⟨hi, (hc.block _ (lt_of_block h.res) (fun e => by injection e; omega)).trans h.res, (hc.block _ (lt_of_block h.loc) (fun e => by injection e; omega)).trans h.loc, h.bel.trans (hc.below h.bel.size (Nat.le_of_lt h1)), h1, h2, h.own.chg hc (by omega), h.subs.chg hc (by omega), h.sep⟩
theorem FpJ.drew (h : FpJ w p cb n pv ps v L s x W) : FpJ w p cb n pv ps v L s x W.drew := ⟨h.inn, h.res, h.loc, h.bel.drew, h.hp, h.hc, h.own, h.subs, h.sep⟩
theorem FpJ.locG (h : FpJ w p cb n pv ps v L s x W) {O : Obj} {W' : World} (hg : (W.alloc O).grownBy W' v.ownBlock) : W'.heap[cb]? = some (.cells #[.int .u32 n, pv, v] 129 (0, 0)) := by
  have hlc := lt_of_block h.loc
  refine ((hg.block cb (by simp; omega) (fun e => ?_)).trans (Below.heap_alloc W O cb hlc)).trans h.loc
  rcases h.subs.2 with ⟨rfl, _⟩ | ⟨g', cap', cur, rfl, hB, _⟩
  · simp [Value.ownBlock] at e
  · simp [Value.ownBlock] at e; omega
/-- A Sub is appended, and stored. -/
theorem FpJ.grown (h : FpJ w p cb n pv ps v L s x W) {O : Obj} {W' : World} {g cap : Nat} {c : ByteArray} (hown : W'.ownsRow (cb + 1) 9 1 (.slice (some ⟨g, 0, none⟩) (L.length + 1) cap) (L.length + 1) (L.map Value.string ++ [.string c]))
    (hg : (W.alloc O).grownBy W' v.ownBlock) (hat : v.ownBlock = some g ∨ g = W.heap.size + 1) :
    FpJ w p cb n pv ps (.slice (some ⟨g, 0, none⟩) (L.length + 1) cap) (L ++ [c]) s x (W'.setCell ⟨cb, 2, none⟩ (.slice (some ⟨g, 0, none⟩) (L.length + 1) cap)) := by
  have h1 := h.hp
  have h2 := h.hc
  have hlc := lt_of_block h.loc
  have far : ∀ k, k < W.heap.size → some k ≠ v.ownBlock → W'.heap[k]? = W.heap[k]? := fun k hk hne => (hg.block k (by simp; omega) hne).trans (Below.heap_alloc W O k hk)
  have vge : ∀ k, k ≤ cb → some k ≠ v.ownBlock := fun k hk e => by
    rcases h.subs.2 with ⟨rfl, _⟩ | ⟨g', cap', cur, rfl, hB, _⟩
    · simp [Value.ownBlock] at e
    · simp [Value.ownBlock] at e; omega
  have hgge : cb + 1 ≤ g := by
    rcases hown.2 with ⟨e, _⟩ | ⟨g', cap', cur, e, hB, _⟩
    · cases e
    · injection e with e _ _; injection e with e; injection e with e; omega
  have hgn : g ≠ cb := by omega
  have hL : OwnF (cb + 1) W' (.slice (some ⟨g, 0, none⟩) (L.length + 1) cap) (L ++ [c]) := by
    unfold OwnF
    rw [show (L ++ [c]).length = L.length + 1 by simp, List.map_append]
    exact hown
  refine ⟨?_, ?_, ?_, ?_, h1, h2, ?_, hL.set (by omega), ?_⟩
  · exact InAt.far (h.inn.keep (far p (by have := h.inn.lt; omega) (vge p (by omega)))) (by omega) _ _
  · rw [Below.heap_setCell _ _ _ _ (by show w.heap.size ≠ cb; omega)]
    exact (far _ (lt_of_block h.res) (vge _ (by omega))).trans h.res
  · have := (far cb hlc (vge cb (Nat.le_refl _))).trans h.loc
    exact set_cells this 2 _
  · have hb : Below w.heap.size w W' := ⟨hg.os.trans h.bel.os, hg.tape.trans h.bel.tape, hg.output.trans h.bel.output, Nat.le_trans h.bel.size (Nat.le_trans (by simp) hg.size), fun k hk => (far k (Nat.lt_of_lt_of_le hk h.bel.size) (vge k (by omega))).trans (h.bel.block k hk)⟩
    exact below_set hb (by omega) _ _
  · refine OwnP.set (OwnP.keepG h.own (fun k hk hB hl => far k hl (fun e => ?_))) (by omega)
    exact h.sep k e.symm hk
  · intro k hk e
    obtain rfl : g = k := by simpa [Value.ownBlock] using hk
    rcases hat with ha | ha
    · exact h.sep g ha e
    · rcases h.own.2 with ⟨rfl, _⟩ | ⟨g', cap', cur, rfl, hB, hh, _⟩
      · simp [Value.ownBlock] at e
      · obtain rfl : g' = g := by simpa [Value.ownBlock] using e
        have := lt_of_block hh
        omega
end

/-- The error is told, or the Subscribe. -/
def UnsubR (w : World) (n : Int) (ps : List Pr) (L : List ByteArray) (E : Int) (e : Ending) (w' : World) : Prop :=
  ∃ a c a2 c2, e = .returned (.tuple #[.agg #[.int .u32 n, .slice a ps.length c, .slice a2 L.length c2], .int .i64 E]) ∧ OwnP w.heap.size 41 w' (.slice a ps.length c) ps ∧ OwnF w.heap.size w' (.slice a2 L.length c2) L ∧ Below w.heap.size w w'
theorem OwnF.mono {B C : Nat} {w : World} {v : Value} {L : List ByteArray} (h : OwnF B w v L) (hc : C ≤ B) : OwnF C w v L := by
  refine ⟨h.1, ?_⟩
  rcases h.2 with h | ⟨g, cap, cur, hv, hb, rest⟩
  · exact .inl h
  · exact .inr ⟨g, cap, cur, hv, Nat.le_trans hc hb, rest⟩

set_option maxRecDepth 100000 in
set_option maxHeartbeats 4000000 in
theorem unparse_calls (w : World) (body : ByteArray) (hT : Tabs w) (hz : body.size ≤ 1000000) {n : Int} {ps : List Pr} {s1 : ByteArray} {x1 : Int} {t1 : ByteArray} {y1 y2 : Int} (hh : HeadOf 10 body 0 n ps s1 x1 t1 y1 y2) (hs1 : s1.size ≤ body.size) (R : List ByteArray) (s2 : ByteArray) (x2 : Int) (hR : runF [] s1 x1 = (R, s2, x2)) (E : Int) (hE : endT s2 x2 = E) (N : Int) (P : List Pr) (L : List ByteArray) (hC : (if E = 0 then (n, ps, R) else (0, [], [])) = (N, P, L)) :
    Calls Tryd.prog 70 #[.string body] w (UnsubR w N P L E) := by
  have HH := Lib.hid hh
  have HE := Lib.hid hE
  have HC := Lib.hid hC
  have HT := Lib.hid hT
  have HR := Lib.hid hR
  clear hh hE hC hT hR
  obtain ⟨i0, hi, hz0, hz1, hz2⟩ := info_parts Tryd.infoStr
  go_enter Tryd.func70, Tryd.ntmps70
  go_wp2_with fail
  refine (over_calls _ _).mono ?_
  rintro e W1 ⟨rfl, rfl⟩
  have i1 := InAt.new (w.alloc (.cells un0 129)) body
  have R1 := Lib.hid ((Below.heap_alloc (w.alloc (.cells un0 129)) (.cells #[.string body, .int .i64 0] 165) w.heap.size (by simp)).trans (heap_alloc_new w (.cells un0 129)))
  have B1 := Lib.hid (below_two w (.cells un0 129) (.cells #[.string body, .int .i64 0] 165))
  rw [World.size_alloc] at i1 ⊢
  generalize ((w.alloc (.cells un0 129)).alloc (.cells #[.string body, .int .i64 0] 165)) = W1 at *
  generalize hp : w.heap.size + 1 = p at *
  have hpl : w.heap.size < p := by omega
  clear hp
  have N0 := Lib.hid (show FpJ w p W1.heap.size 0 (.slice none 0 0) [] (.slice none 0 0) [] body 0 (W1.alloc (.cells un0 129)) from ⟨i1.below (below_one W1 _), (Below.heap_alloc W1 _ _ (lt_of_block R1.out)).trans R1.out, heap_alloc_new W1 _, B1.out.alloc B1.out.size _, hpl, i1.lt, World.ownsRow_nil _ _ _ _, World.ownsRow_nil _ _ _ _, fun g hg => by simp [Value.ownBlock] at hg⟩)
  clear i1 R1 B1
  go_wp2_with fail
  generalize W1.alloc (.cells un0 129) = W2 at *
  generalize W1.heap.size = cb at *
  refine (takeHead_calls _ p body 0 10 HH.out N0.out.inn (HT.out.below N0.out.bel)).mono ?_
  rintro e V1 ⟨pa, pc, rfl, own1, j1, c1⟩
  have K1 := Lib.hid (N0.out.took j1 c1)
  have OO := Lib.hid (own1.mono (show cb + 1 ≤ _ from lt_of_block N0.out.loc))
  clear own1 j1 c1 N0
  obtain ⟨d0, d1, d2, df⟩ := cells3 K1.out.loc
  have dl := lt_of_block K1.out.loc
  have N1 := Lib.hid (show FpJ w p cb n (.slice pa ps.length pc) ps (.slice none 0 0) [] s1 x1 ((V1.setCell ⟨cb, 0, none⟩ (.int .u32 n)).setCell ⟨cb, 1, none⟩ (.slice pa ps.length pc)) from by
    have e1 := K1.out.hp
    have e2 := K1.out.hc
    refine ⟨(K1.out.inn.far (by omega) _ _).far (by omega) _ _, ?_, set_cells (set_cells K1.out.loc 0 _) 1 _, below_set (below_set K1.out.bel (by omega) _ _) (by omega) _ _, e1, e2, (OO.out.set (by omega)).set (by omega), World.ownsRow_nil _ _ _ _, fun g hg => by simp [Value.ownBlock] at hg⟩
    rw [Below.heap_setCell _ _ _ _ (by show w.heap.size ≠ cb; omega), Below.heap_setCell _ _ _ _ (by show w.heap.size ≠ cb; omega)]
    exact K1.out.res)
  go_wp2_with fail
  generalize (V1.setCell ⟨cb, 0, none⟩ (.int .u32 n)).setCell ⟨cb, 1, none⟩ (.slice pa ps.length pc) = U1 at *
  clear d0 d1 d2 df dl K1 OO
  have hm1 : mS s1 x1 ≤ body.size + 1 := by unfold mS; split <;> omega
  go_loopw [17] (fun _ wr => ∃ (A : List ByteArray) (a : Option Addr) (c : Nat) (s : ByteArray) (x : Int), FpJ w p cb n (.slice pa ps.length pc) ps (.slice a A.length c) A s x wr ∧ runF A s x = (R, s2, x2) ∧ A.length + mS s x ≤ body.size + 1) (fun _ wr => mOf p wr)
  case atStart => exact ⟨[], none, 0, s1, x1, N1.out, HR.out, by simpa using hm1⟩
  case round =>
    obtain ⟨A, a, c, s, x, hJ, hrun, hlen⟩ := hrel
    have J0 := Lib.hid hJ
    have HRN := Lib.hid hrun
    have HMO := Lib.hid (mOf_at hJ.inn)
    clear hJ hrun N1 HR
    go_wp2_with fail
    refine (more_calls _ p s x J0.out.inn).mono ?_
    by_cases hc : x = 0 ∧ s.size ≠ 0
    · obtain ⟨rfl, hsz⟩ := hc
      rw [decide_eq_true (rfl : (0 : Int) = 0), decide_eq_true hsz]
      rintro e w3 ⟨rfl, rfl⟩
      have hrs := runF_step A s hsz
      have hlt := mF_lt s hsz
      have htk := strT_tak s 0
      generalize (strT s 0).1 = cc at *
      generalize (strT s 0).2.1 = s' at *
      generalize (strT s 0).2.2 = x' at *
      have HTS := Lib.hid (show ∀ V, InAt V p s 0 → Tabs V → Calls Tryd.prog 111 #[.pointer (some ⟨p, 0, none⟩)] V (fun e w' => e = .returned (.string cc) ∧ InAt w' p s' x' ∧ Chg p V w') from fun V hV hTV => takeS_calls V p s 0 cc s' x' htk hV hTV)
      have HRS := Lib.hid (hrs.symm.trans HRN.out)
      clear htk hrs HRN
      obtain ⟨d0, d1, d2, df⟩ := cells3 J0.out.loc
      have dl := lt_of_block J0.out.loc
      have J0d := Lib.hid J0.out.drew
      have hAl : A.length ≤ 1000001 := by omega
      go_wp2_with fail
      go_region_law (first
        | (go_simp; go_at_call 111; refine (HTS.out _ J0d.out.inn (HT.out.below J0d.out.bel)).mono ?_; rintro e V1 ⟨rfl, i3, c3⟩; have J1 := Lib.hid (J0d.out.took i3 c3); obtain ⟨e0, e1, e2, ef⟩ := cells3 J1.out.loc; have el := lt_of_block J1.out.loc; clear i3 c3)
        | (refine step_append_lies _ rfl (.tmp 19) (.tmp 22) 127 rfl (cb + 1) 9 i0 (.string ⟨#[]⟩) 1 16 Tryd.underlying127 hi hz0 hz1 hz2 rfl (by decide) (.slice a A.length c) A.length (A.map Value.string) (by simp [Act.eval]) (J1.out.subs.below (below_one V1 _)) ⟨V1.heap.size, 0, none⟩ 1 1 [.string cc] (by simp [Act.eval]) rfl (one_new V1 _ _) (by simp [Value.oneCell']) (by decide) (by unfold maxLen; omega) (by omega) (by simp; omega) _ rfl ?_; intro g cap W' hown hgrow hat hgl; obtain ⟨k0, k1, k2, kf⟩ := cells3 (J1.out.locG hgrow); have kl := lt_of_block (J1.out.locG hgrow); have JN := Lib.hid (J1.out.grown (c := cc) hown hgrow (by simpa using hat)); clear hown hgrow hat hgl))
      all_goals
        go_wp2
        go_roundw
        case rel =>
          have e : (A ++ [cc]).length = A.length + 1 := by simp
          exact ⟨A ++ [cc], some ⟨g, 0, none⟩, cap, s', x', by rw [e]; exact JN.out, HRS.out, by rw [e]; omega⟩
        case measure => rw [mOf_at JN.out.inn, HMO.out]; exact hlt
    · have hcb : (decide (x = 0) && decide (s.size ≠ 0)) = false := by
        by_cases hx : x = 0
        · have : s.size = 0 := by
            by_cases h0 : s.size = 0
            · exact h0
            · exact absurd ⟨hx, h0⟩ hc
          rw [this]; simp
        · rw [decide_eq_false hx]; rfl
      rw [hcb]
      rintro e w3 ⟨rfl, rfl⟩
      have hrd := runF_done A s x hc
      rw [HRN.out] at hrd
      injection hrd with h1 hrd
      injection hrd with h2 h3
      subst h1 h2 h3
      go_wp2_with fail
      refine (end_calls _ p s2 x2 J0.out.inn).mono ?_
      rw [HE.out]
      rintro e w9 ⟨rfl, rfl⟩
      obtain ⟨r0, r1, r2, rf⟩ := cells3 J0.out.res
      obtain ⟨d0, d1, d2, df⟩ := cells3 J0.out.loc
      have rl := lt_of_block J0.out.res
      have dl := lt_of_block J0.out.loc
      have hcb2 : w.heap.size < cb := Nat.lt_trans J0.out.hp J0.out.hc
      by_cases hE0 : E = 0
      · subst hE0
        have hCC := HC.out
        rw [if_pos rfl] at hCC
        injection hCC with g1 hCC
        injection hCC with g2 g3
        subst g1 g2 g3
        go_wp2
        refine bodyPost_ret (v := .tuple #[.agg #[.int .u32 n, .slice pa ps.length pc, .slice a R.length c], .int .i64 0]) ?_ rfl ⟨pa, pc, a, c, rfl, ?_, ?_, ?_⟩
        · simp [results, Tryd.results70, go_sem, r0, r1, r2]
        · refine OwnP.mono ?_ (show w.heap.size ≤ cb + 1 by omega)
          iterate 3 (refine OwnP.set ?_ (Nat.lt_succ_of_lt hcb2))
          exact J0.out.own
        · refine OwnF.mono ?_ (show w.heap.size ≤ cb + 1 by omega)
          iterate 3 (refine OwnF.set ?_ (Nat.lt_succ_of_lt hcb2))
          exact J0.out.subs
        · iterate 3 (refine below_set ?_ (Nat.le_refl _) _ _)
          exact J0.out.bel
      · have hEb : (E != 0) = true := by simpa using hE0
        have hCC := HC.out
        rw [if_neg hE0] at hCC
        injection hCC with g1 hCC
        injection hCC with g2 g3
        subst g1 g2 g3
        go_wp2
        refine bodyPost_ret (v := .tuple #[.agg #[.int .u32 0, .slice none 0 0, .slice none 0 0], .int .i64 E]) ?_ rfl ⟨none, 0, none, 0, rfl, World.ownsRow_nil _ _ _ _, World.ownsRow_nil _ _ _ _, ?_⟩
        · simp [results, Tryd.results70, go_sem, r0, r1, r2]
        · iterate 3 (refine below_set ?_ (Nat.le_refl _) _ _)
          exact J0.out.bel

#print axioms unparse_calls
end Go.Proofs.YtdbocpkeafcmaaaDoor
