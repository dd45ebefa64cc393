/-
  Properties taken: the walk. (No statement: contracts that the proofs of the statements use.)
-/
import Derived.Test.YtdhdjkpocdfjbabDoorProp8
namespace Go.Proofs.YtdhdjkpocdfjbabDoor
open Go.RowKit

/-- Which are there, a bit each. -/
def thereN (acc : List Pr) : Nat := acc.foldl (fun t p => t ||| 2 ^ p.id.toNat) 0
/-- What holds of properties that were taken. -/
def Ids (acc : List Pr) : Prop := ∀ p ∈ acc, 1 ≤ p.id ∧ p.id ≤ 42

theorem there_snoc (acc : List Pr) (p : Pr) : thereN (acc ++ [p]) = thereN acc ||| 2 ^ p.id.toNat := by simp [thereN]
theorem there_bit (acc : List Pr) (i : Nat) (h : Ids acc) : (thereN acc).testBit i = hasP acc i := by
  suffices H : ∀ (l : List Pr) (t : Nat), Ids l → (l.foldl (fun t p => t ||| 2 ^ p.id.toNat) t).testBit i = (t.testBit i || hasP l i) by
    rw [thereN, H acc 0 h]; simp
  intro l
  induction l with
  | nil => intro t _; simp [hasP]
  | cons p l ih =>
    intro t hl
    have hp := hl p (by simp)
    rw [List.foldl_cons, ih _ (fun q hq => hl q (by simp [hq])), Nat.testBit_or, Nat.testBit_two_pow]
    have : decide (p.id.toNat = i) = (p.id == (i : Int)) := by
      rw [Bool.eq_iff_iff]; simp; omega
    rw [this]
    simp [hasP, Bool.or_assoc]
theorem there_lt (acc : List Pr) (h : Ids acc) : thereN acc < 2 ^ 43 := by
  suffices H : ∀ (l : List Pr) (t : Nat), t < 2 ^ 43 → Ids l → l.foldl (fun t p => t ||| 2 ^ p.id.toNat) t < 2 ^ 43 from H acc 0 (by decide) h
  intro l
  induction l with
  | nil => intro t ht _; exact ht
  | cons p l ih =>
    intro t ht hl
    have hp := hl p (by simp)
    exact ih _ (Nat.or_lt_two_pow ht (Nat.pow_lt_pow_right (by omega) (by omega))) (fun q hq => hl q (by simp [hq]))

theorem OwnP.form {B : Nat} {e : TypeId} {w : World} {v : Value} {P : List Pr} (h : OwnP B e w v P) : ∃ a c, v = .slice a P.length c := by
  rcases h.2 with ⟨rfl, h0⟩ | ⟨g, cap, _, rfl, _⟩
  · exact ⟨none, 0, by rw [h0]⟩
  · exact ⟨_, _, rfl⟩

theorem rule_calls' (w : World) (i a b c d e : Int) (h : ruleL i = ⟨a, b, c, d, e⟩) :
    Calls Tryd.prog 82 #[.int .i64 i] w fun z w' => z = .returned (.agg #[.int .i64 a, .int .i64 b, .int .i64 c, .int .u32 d, .int .u32 e]) ∧ Below w.heap.size w w' := by
  have := rule_calls w i
  rw [h] at this
  exact this

theorem takeOne_calls' (w : World) (p : Nat) (s : ByteArray) (i k : Int) (yi yn : Int) (ys yt s2 : ByteArray) (x2 : Int) (ho : oneT k i s = (⟨yi, yn, ys, yt⟩, s2, x2)) (hk : k = 1 ∨ k = 2 ∨ k = 3 ∨ k = 4 ∨ k = 5 ∨ k = 6 ∨ k = 7) (h : InAt w p s 0) (hT : Tabs w) :
    Calls Tryd.prog 83 #[.pointer (some ⟨p, 0, none⟩), .int .i64 i, .int .i64 k] w fun e w' => e = .returned (.agg #[.int .i64 yi, .int .u32 yn, .string ys, .string yt]) ∧ TookS w p s2 x2 w' := by
  have := takeOne_calls w p s i k hk h hT
  rw [ho] at this
  exact this

theorem five_cells {w : World} {b : Nat} {a c d e f : Value} {t : TypeId} (h : w.heap[b]? = some (.cells #[a, c, d, e, f] t (0, 0))) :
    w.cell? ⟨b, 0, none⟩ = some a ∧ w.cell? ⟨b, 1, none⟩ = some c ∧ w.cell? ⟨b, 2, none⟩ = some d ∧ w.cell? ⟨b, 3, none⟩ = some e ∧ w.cell? ⟨b, 4, none⟩ = some f := by
  simp [World.cell?, h]
theorem four_new (w : World) (a b c d : Value) (t : TypeId) : ∀ j u, [a, b, c, d][j]? = some u → (w.alloc (.cells #[a, b, c, d] t)).cell? ((⟨w.heap.size, 0, none⟩ : Addr).add j) = some u := by
  intro j u hj
  match j, hj with
  | 0, hj => simp at hj; subst hj; simp [Addr.add]
  | 1, hj => simp at hj; subst hj; simp [Addr.add]
  | 2, hj => simp at hj; subst hj; simp [Addr.add]
  | 3, hj => simp at hj; subst hj; simp [Addr.add]
theorem own_ne_in {B p : Nat} {w : World} {v : Value} {P : List Pr} {s : ByteArray} {x : Int} (h : OwnP B 87 w v P) (hi : InAt w p s x) : v.ownBlock ≠ some p := by
  rcases h.2 with ⟨rfl, _⟩ | ⟨g, cap, cur, rfl, _, hg, _⟩
  · simp [Value.ownBlock]
  · intro e
    obtain rfl : g = p := by simpa [Value.ownBlock] using e
    unfold InAt at hi
    rw [hi] at hg
    simp at hg

/-- What takeAll answers, and leaves. -/
def TookAll (w : World) (R : List Pr × Int) (e : Ending) (w' : World) : Prop :=
  ∃ v, e = .returned (.tuple #[v, .int .i64 R.2]) ∧ OwnP w.heap.size 87 w' v R.1 ∧ (R.2 ≠ 0 → v = .slice none 0 0) ∧ Below w.heap.size w w'

theorem Tryd.infoProp : (Tryd.prog.info? 87).map (fun i => (i.zero, i.size, i.bytes)) = some (some (.agg #[.int .i64 0, .int .u32 0, .string ⟨#[]⟩, .string ⟨#[]⟩]), 4, 48) := by kernel_rfl

theorem bit_and (T n : Nat) (hT : T < 2 ^ 43) : bits .and .u64 ((T : Int) / 2 ^ n) 1 = if T.testBit n = true then 1 else 0 := by
  have e : ((T : Int) / 2 ^ n) = ((T / 2 ^ n : Nat) : Int) := by simp
  have hd := Nat.div_le_self T (2 ^ n)
  have h43 : (2 : Nat) ^ 43 = 8796093022208 := by decide
  have h := u64_and_nat (T / 2 ^ n) 1 (by omega) (by omega)
  rw [e]
  refine h.trans ?_
  rw [Nat.testBit_eq_decide_div_mod_eq, Nat.and_one_is_mod]
  by_cases hb : T / 2 ^ n % 2 = 1
  · rw [hb]; simp
  · have h0 : T / 2 ^ n % 2 = 0 := by omega
    rw [h0]; simp
theorem bit_or (T n : Nat) (hT : T < 2 ^ 43) (hn : n ≤ 42) : bits .or .u64 (T : Int) (IntKind.u64.wrap (2 ^ n)) = ((T ||| 2 ^ n : Nat) : Int) := by
  have h43 : (2 : Nat) ^ 43 = 8796093022208 := by decide
  have hp : 2 ^ n < 2 ^ 43 := Nat.pow_lt_pow_right (by omega) (by omega)
  have e : ((2 : Int) ^ n) = ((2 ^ n : Nat) : Int) := by simp
  rw [e]
  clear e
  generalize (2 : Nat) ^ n = M at *
  rw [IntWalk.u64_in _ ⟨by omega, by omega⟩]
  exact u64_or_nat T M (by omega) (by omega)

/-- What may be there is one of the table. -/
theorem rule_in (i q : Int) (h : ¬ bits .and .i64 (ruleL i).inn q = 0) : (1 ≤ i ∧ i ≤ 42) ∧ ((ruleL i).kind = 1 ∨ (ruleL i).kind = 2 ∨ (ruleL i).kind = 3 ∨ (ruleL i).kind = 4 ∨ (ruleL i).kind = 5 ∨ (ruleL i).kind = 6 ∨ (ruleL i).kind = 7) := by
  rcases ids_mem i with hm | ⟨_, hr⟩
  · have := (show ∀ i ∈ idsL, (1 ≤ i ∧ i ≤ 42) ∧ ((ruleL i).kind = 1 ∨ (ruleL i).kind = 2 ∨ (ruleL i).kind = 3 ∨ (ruleL i).kind = 4 ∨ (ruleL i).kind = 5 ∨ (ruleL i).kind = 6 ∨ (ruleL i).kind = 7) by decide)
    exact this i hm
  · rw [hr] at h
    exact absurd (and_zero q) h
theorem one_id (k i : Int) (s : ByteArray) : (oneT k i s).1.id = i := by
  unfold oneT
  repeat' split
  all_goals rfl

/-- How much an In has left. -/
def leftOf (p : Nat) (wr : World) : Nat := match wr.cell? ⟨p, 0, none⟩ with | some (.string s) => s.size | _ => 0
theorem leftOf_in {wr : World} {p : Nat} {s : ByteArray} {x : Int} (h : InAt wr p s x) : leftOf p wr = s.size := by unfold leftOf; rw [h.cell0]

/-- What holds at the loop's head. -/
def TakeJ (w : World) (q : Int) (R : List Pr × Int) (N : Nat) (v t : Value) (wr : World) (acc : List Pr) (s : ByteArray) (f : Nat) : Prop :=
  OwnP w.heap.size 87 wr v acc ∧ t = .int .u64 (thereN acc) ∧ InAt wr w.heap.size s 0 ∧ Ids acc ∧ s.size ≤ f ∧ runP q f acc s = R ∧ acc.length + s.size ≤ N ∧ Below w.heap.size w wr

set_option maxRecDepth 100000 in
set_option maxHeartbeats 4000000 in
theorem takeAll_calls (w : World) (b : ByteArray) (q : Int) (hb : b.size ≤ 300000000) (hT : Tabs w) :
    Calls Tryd.prog 62 #[.string b, .int .i64 q] w (TookAll w (runP q b.size [] b)) := by
  generalize hR : runP q b.size [] b = R
  have HR := Lib.hid hR
  have HT := Lib.hid hT
  clear hR hT
  go_enter Tryd.func62, Tryd.ntmps62
  go_wp2_with fail
  refine (over_calls _ _).mono ?_
  rintro e w1 ⟨rfl, rfl⟩
  have HS : Hid (TakeJ w q R b.size (.slice none 0 0) (.int .u64 0) (w.alloc (.cells #[.string b, .int .i64 0] 103)) [] b b.size) :=
    ⟨World.ownsRow_nil _ _ _ _, rfl, InAt.new w b, (fun p hp => by cases hp), Nat.le_refl _, HR.out, by simp, below_one w _⟩
  clear HR
  go_wp2
  go_loopw [6, 7] (fun v t wr => ∃ (acc : List Pr) (s : ByteArray) (f : Nat) (a : Option Addr) (c : Nat), v = .slice a acc.length c ∧ TakeJ w q R b.size (.slice a acc.length c) t wr acc s f) (fun _ _ wr => leftOf w.heap.size wr)
  case atStart => exact ⟨[], b, b.size, none, 0, rfl, HS.out⟩
  case round =>
    clear HS
    obtain ⟨acc, s, f, a, c, rfl, hown, rfl, hin, hids, hsf, hrun, hlen, hbl⟩ := hrel
    have HOWN := Lib.hid hown
    have HIDS := Lib.hid hids
    have HRUN := Lib.hid hrun
    have HBL := Lib.hid hbl
    have HNE := Lib.hid (own_ne_in hown hin)
    have HIN0 := Lib.hid hin
    have hz := hbl.size
    clear hown hids hrun hbl
    go_wp2_with fail
    refine (left_calls _ _ s 0 hin).mono ?_
    rintro e w1 ⟨rfl, rfl⟩
    by_cases h0 : s.size = 0
    · have hend : R = (acc, 0) := by
        have := HRUN.out
        rw [← this]
        cases f with
        | zero => rfl
        | succ f => rw [runP, if_pos h0]
      subst hend
      clear HRUN HIDS hin HNE HIN0
      go_wp2
      go_ret2
      exact ⟨_, rfl, HOWN.out, (fun h => absurd rfl h), HBL.out⟩
    · obtain ⟨f', rfl⟩ : ∃ f', f = f' + 1 := ⟨f - 1, by omega⟩
      have hst := HRUN.out
      rw [runP, if_neg h0] at hst
      have hvl := var_left 3 0 0 s 0
      have hve := varT_err 3 0 0 s 0
      have hnb := var_lt s 0
      generalize hv : varT 3 0 0 s 0 = V at hvl hnb
      obtain ⟨n, s1, x1⟩ := V
      have hve' := hve n s1 x1 hv
      clear hve
      dsimp only at hvl hnb
      generalize hr : ruleL n = r
      generalize ho : oneT r.kind n s1 = O
      obtain ⟨y, s2, x2⟩ := O
      have hol : s2.size ≤ s1.size := by have := one_left r.kind n s1; rw [ho] at this; exact this
      have hyid : y.id = n := by have := one_id r.kind n s1; rw [ho] at this; exact this
      have hsp := step_parts q acc s n s1 x1 r y s2 x2 hv hr ho
      rw [hsp] at hst
      have HVL := Lib.hid hvl
      have HVE := Lib.hid hve'
      clear hvl hve'
      obtain ⟨rk, rin, rsv, rlo, rhi⟩ := r
      obtain ⟨yi, yn, ys, yt⟩ := y
      dsimp only at hst ho hyid
      subst hyid
      have HST := Lib.hid hst
      have HV := Lib.hid hv
      have HRU := Lib.hid hr
      have HONE := Lib.hid ho
      clear hst hsp hv hr ho HRUN
      have hposI : (0 : Int) < s.size := by omega
      go_wp2_with fail
      refine (varIn_calls _ _ s 0 n s1 x1 HV.out hin).mono ?_
      rintro e w2 ⟨rfl, hin2, hon2⟩
      have hbl2 : Below w.heap.size w w2 := HBL.out.trans ((Chg.of_only hon2).below HBL.out.size (Nat.le_refl _))
      go_wp2_with fail
      refine (rule_calls' _ n rk rin rsv rlo rhi HRU.out).mono ?_
      rintro e w3 ⟨rfl, b3⟩
      have hin3 := hin2.below b3
      have hbl3 := hbl2.trans (b3.mono hbl2.size)
      have HON2 := Lib.hid (show Chg w.heap.size wr w3 from (Chg.of_only hon2).trans (Chg.of_below b3))
      clear hin hin2 hbl2 b3 hon2 HV HBL
      by_cases h1 : bits .and .i64 rin q = 0
      · have hR : R = ([], 2) := by have := HST.out; rw [if_pos h1] at this; exact this.symm
        subst hR
        have h1b : (bits .and .i64 rin q == 0) = true := by simpa using h1
        have HB3 := Lib.hid hbl3
        clear HST h1 hin3 hbl3 HONE HON2 HIDS HOWN HNE HIN0
        go_wp2
        go_ret2
        exact ⟨_, rfl, World.ownsRow_nil _ _ _ _, (fun _ => rfl), HB3.out.alloc HB3.out.size _⟩
      · have h1b : (bits .and .i64 rin q == 0) = false := by simpa using h1
        have hri := rule_in n q (by rw [HRU.out]; exact h1)
        rw [HRU.out] at hri
        obtain ⟨⟨hn1, hn2⟩, hkd⟩ := hri
        dsimp only at hkd
        have hx1 : x1 = 0 := by
          by_cases hx : x1 = 0
          · exact hx
          · have := HVE.out hx; omega
        subst hx1
        have hv2 : s1.size < s.size := (HVL.out.2 rfl).2
        clear HVL
        have hTb := there_bit acc n HIDS.out
        have hTl := there_lt acc HIDS.out
        generalize hTT : thereN acc = T at *
        have hba := bit_and T n hTl
        have hbo := bit_or T n hTl (by omega)
        rw [hTb] at hba
        have HTT := Lib.hid hTT
        clear hTT hTb
        have hr3 := heap_alloc_new w3 (.cells #[.int .i64 rk, .int .i64 rin, .int .i64 rsv, .int .u32 rlo, .int .u32 rhi] 124)
        have bl := below_one w3 (.cells #[.int .i64 rk, .int .i64 rin, .int .i64 rsv, .int .u32 rlo, .int .u32 rhi] 124)
        have hin4 := hin3.below bl
        have hbl4 := hbl3.trans (bl.mono hbl3.size)
        have hT4 := HT.out.below hbl4
        have HON4 := Lib.hid (show Chg w.heap.size wr _ from HON2.out.trans (Chg.of_below bl))
        have HR3 := Lib.hid hr3
        have hz3 := hbl3.size
        have hp3 := hin3.lt
        clear hr3 bl hin3 hbl3 HON2 HVE
        by_cases h2 : hasP acc n = true ∧ bits .and .i64 rsv q = 0
        · have hR : R = ([], 3) := by have := HST.out; rw [if_neg h1, if_pos h2] at this; exact this.symm
          subst hR
          rw [if_pos h2.1] at hba
          have h2b : (bits .and .i64 rsv q == 0) = true := by simpa using h2.2
          have HB4 := Lib.hid hbl4
          clear HST h1 h2 hin4 hbl4 hT4 HONE HON4 HIDS HOWN HR3 hbo HNE HIN0
          go_wp2
          go_ret2
          exact ⟨_, rfl, World.ownsRow_nil _ _ _ _, (fun _ => rfl), HB4.out⟩
        · have hst2 := HST.out
          rw [if_neg h1, if_neg h2] at hst2
          have HST2 := Lib.hid hst2
          clear hst2 HST h1
          have hcase : (hasP acc n = false) ∨ (hasP acc n = true ∧ (bits .and .i64 rsv q == 0) = false) := by
            cases hh : hasP acc n with
            | false => exact .inl rfl
            | true => exact .inr ⟨rfl, by simpa using fun e => h2 ⟨hh, e⟩⟩
          clear h2
          have HIN4 := Lib.hid hin4
          have HT4 := Lib.hid hT4
          have HBL4 := Lib.hid hbl4
          clear hin4 hT4 hbl4
          rcases hcase with hh | ⟨hh, h2b⟩
          all_goals
            rw [hh] at hba
            simp only [if_true, if_false, Bool.false_eq_true] at hba
            clear hh
            go_wp2_with fail
            refine (takeOne_calls' _ w.heap.size s1 n rk n yn ys yt s2 x2 HONE.out hkd HIN4.out HT4.out).mono ?_
            rintro e w5 ⟨rfl, hin5, hc5⟩
            have hr5 := (hc5.block w3.heap.size (by simp) (fun e => by injection e; omega)).trans HR3.out
            have hbl5 : Below w.heap.size w w5 := HBL4.out.trans (hc5.below HBL4.out.size (Nat.le_refl _))
            have hon5 : Chg w.heap.size wr w5 := HON4.out.trans hc5
            have hown5 := World.ownsRow.kept HOWN.out hon5 (.inr HNE.out)
            have b6 := below_one w5 (.cells #[.int .i64 n, .int .u32 yn, .string ys, .string yt] 87)
            have hr6 := (b6.block _ (lt_of_block hr5)).trans hr5
            have hin6 := hin5.below b6
            have hbl6 := hbl5.trans (b6.mono hbl5.size)
            have hown6 := World.ownsRow.alloc hown5 (.cells #[.int .i64 n, .int .u32 yn, .string ys, .string yt] 87)
            have hbx6 := heap_alloc_new w5 (.cells #[.int .i64 n, .int .u32 yn, .string ys, .string yt] 87)
            clear hr5 hbl5 hon5 hown5 b6 hin5 hc5 HON4 HR3 HIN4 HT4 HBL4 HOWN HNE
            go_wp2_with fail
            refine (err_calls _ w.heap.size s2 x2 hin6).mono ?_
            rintro e w6 ⟨rfl, hw6⟩
            rw [hw6] at hr6 hin6 hbl6 hown6 hbx6
            clear hw6
            generalize w5.heap.size = b5 at *
            obtain ⟨r0, r1, r2, r3, r4⟩ := five_cells hr6
            obtain ⟨⟨x0, x1, x2', x3⟩, _, _, _, _⟩ := four_cells hbx6
            have HIN6 := Lib.hid hin6
            have HBL6 := Lib.hid hbl6
            have HOWN6 := Lib.hid hown6
            clear hr6 hin6 hbl6 hown6 hbx6
            by_cases h3 : x2 = 0
            · subst h3
              have hst3 := HST2.out
              rw [if_neg (by simp)] at hst3
              by_cases h4 : yn < rlo
              · have hR : R = ([], 3) := by rw [if_pos (.inl h4)] at hst3; exact hst3.symm
                subst hR
                clear HST2 hst3
                go_wp2
                go_ret2
                exact ⟨_, rfl, World.ownsRow_nil _ _ _ _, (fun _ => rfl), HBL6.out⟩
              · by_cases h5 : rhi < yn
                · have hR : R = ([], 3) := by rw [if_pos (.inr h5)] at hst3; exact hst3.symm
                  subst hR
                  have h4' : rlo ≤ yn := by omega
                  clear HST2 hst3 h4
                  go_wp2
                  go_ret2
                  exact ⟨_, rfl, World.ownsRow_nil _ _ _ _, (fun _ => rfl), HBL6.out⟩
                · rw [if_neg (by omega)] at hst3
                  have HST3 := Lib.hid hst3
                  have h4' : rlo ≤ yn := by omega
                  have h5' : yn ≤ rhi := by omega
                  clear HST2 hst3 h4 h5
                  obtain ⟨i0, hi, hz0, hz1, hz2⟩ := info_parts Tryd.infoProp
                  have hown7 := World.ownsRow.alloc HOWN6.out (.cells #[.int .i64 n, .int .u32 yn, .string ys, .string yt] 87)
                  have HSZ := Lib.hid (HBL6.out.size)
                  go_wp2_with ((at_builtin; refine wpList_append_own_at _ rfl _ _ 25 rfl w.heap.size 87 i0 (.agg #[.int .i64 0, .int .u32 0, .string ⟨#[]⟩, .string ⟨#[]⟩]) 4 48 Tryd.underlying25 hi hz0 hz1 hz2 rfl (by decide) _ _ _ rfl hown7 ⟨w6.heap.size, 0, none⟩ 1 1 [.int .i64 n, .int .u32 yn, .string ys, .string yt] rfl rfl (four_new _ _ _ _ _ _) (by simp [Value.oneCell']) (by unfold maxLen; omega) (by omega) (by have := HSZ.out; simp; omega) ?_))
                  intro v' w7 hown8 hgrow _ _
                  have b7 := below_one w6 (.cells #[.int .i64 n, .int .u32 yn, .string ys, .string yt] 87)
                  have hin7 := HIN6.out.below b7
                  have hne7 := own_ne_in hown7 hin7
                  have hin8 : InAt w7 w.heap.size s2 0 := hin7.keep (hgrow.block _ hin7.lt (fun e => hne7 e.symm))
                  have hbl8 : Below w.heap.size w w7 := (HBL6.out.trans (b7.mono HSZ.out)).grown hgrow (by have := HSZ.out; simp; omega) (fun k hk => (World.ownsRow.lt hown7 k hk).1)
                  have hown9 : OwnP w.heap.size 87 w7 v' (acc ++ [⟨n, yn, ys, yt⟩]) := by
                    unfold OwnP
                    rw [show (acc ++ [(⟨n, yn, ys, yt⟩ : Pr)]).length = acc.length + 1 by simp, List.flatMap_append]
                    exact hown8
                  obtain ⟨a', c', hv'⟩ := hown9.form
                  rw [show (acc ++ [(⟨n, yn, ys, yt⟩ : Pr)]).length = acc.length + 1 by simp] at hv'
                  have hJ : TakeJ w q R b.size (.slice a' (acc.length + 1) c') (.int .u64 ((T ||| 2 ^ n : Nat) : Int)) w7 (acc ++ [⟨n, yn, ys, yt⟩]) s2 f' := by
                    refine ⟨hv' ▸ hown9, ?_, hin8, ?_, by omega, HST3.out, by simp; omega, hbl8⟩
                    · rw [there_snoc, HTT.out]; rfl
                    · intro p hp
                      rcases List.mem_append.1 hp with hp | hp
                      · exact HIDS.out p hp
                      · simp at hp; subst hp; exact ⟨hn1, hn2⟩
                  have hlt : leftOf w.heap.size w7 < leftOf w.heap.size wr := by
                    rw [leftOf_in hin8, leftOf_in HIN0.out]
                    omega
                  have HJ := Lib.hid hJ
                  have HLT := Lib.hid hlt
                  rw [hv']
                  clear hJ hlt hin8 hbl8 hown9 hv' hown8 hgrow hown7 b7 hin7 hne7 HIN6 HBL6 HOWN6 HSZ HST3 HTT HIDS HIN0
                  go_wp2
                  go_roundw
                  case rel => exact ⟨_, s2, f', a', c', by rw [show (acc ++ [(⟨n, yn, ys, yt⟩ : Pr)]).length = acc.length + 1 by simp], by rw [show (acc ++ [(⟨n, yn, ys, yt⟩ : Pr)]).length = acc.length + 1 by simp]; exact HJ.out⟩
                  case measure => exact HLT.out
            · have hR : R = ([], 2) := by have := HST2.out; rw [if_pos h3] at this; exact this.symm
              subst hR
              have h3b : (x2 == 0) = false := by simpa using h3
              clear HST2 h3
              go_wp2
              go_ret2
              exact ⟨_, rfl, World.ownsRow_nil _ _ _ _, (fun _ => rfl), HBL6.out⟩

end Go.Proofs.YtdhdjkpocdfjbabDoor
