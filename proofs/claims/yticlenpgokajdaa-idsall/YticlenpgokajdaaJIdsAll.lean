/-
  Any greatest identifier: a pool gives each identifier once, and one that is freed again.
  Its conditions: none beside those of the row itself.
-/
import Derived.Test.YticlenpgokajdaaJIds4
import Derived.ProofKit
import Derived.OpenShut
import Derived.ShutString
import Derived.ChangeOld
namespace Go.Proofs.Yticlenpgokajdaa.idsAll
open Go.ChangeShapes Go.WideShapes Go.ChangeAt Go.RowKit
open Go.ChangeMaps (open_string shut_string)
set_option linter.unusedVariables false

theorem own : ownKnob Try.prog.godebug = none := by kernel_rfl

theorem upTo_length0 : ∀ j, (upTo 0 (j + 1)).length = j
  | 0 => by rw [upTo_one]; rfl
  | j + 1 => by rw [upTo_go 0 (j + 1) (by omega) (by omega), length_ins, upTo_length0 j]

def onceTo (k j : Nat) : Int := if 1 ≤ j ∧ j ≤ k then 1 else 0

set_option maxRecDepth 100000 in
set_option maxHeartbeats 4000000 in
theorem walk (a0 : Int) (w0 : (Lit.int .u32 a0).wf = true) (a1 : Int) (w1 : (Lit.int .u32 a1).wf = true) (w : World) :
    Calls Try.prog 4 #[.int .u32 a0, .int .u32 a1] w fun e w' => e = .returned (.bool true) ∧ Below w.heap.size w w' := by
  have hmm := @run_makeMap Try.prog
  have b0 := bounds_u32 w0
  have b1 := bounds_u32 w1
  clear w0 w1
  obtain ⟨m, rfl⟩ := Int.eq_ofNat_of_zero_le b0.1
  obtain ⟨n, rfl⟩ := Int.eq_ofNat_of_zero_le b1.1
  have hm : m < 4294967296 := by omega
  have HM := Lib.hid hm
  clear b0 b1 hm
  by_cases hcond : m < 1 ∨ 300 < m
  · rcases (show m < 1 ∨ (1 ≤ m ∧ 300 < m) by omega) with h | ⟨h0, h⟩
    all_goals
      clear hcond
      go_enter Try.func4, Try.ntmps4
      go_wp2_with fail
      refine (awake13_calls _).mono ?_
      rintro e w2 ⟨rfl, b2⟩
      have HB2 := Lib.hid b2
      clear b2
      go_wp2_with fail
      refine (awake13_calls _).mono ?_
      rintro e w3 ⟨rfl, b3⟩
      have HB3 := Lib.hid (HB2.out.trans (b3.mono HB2.out.size))
      clear b3 HB2
      go_wp2
      go_ret
      exact ⟨rfl, HB3.out⟩
  · have h1 : 1 ≤ m := by omega
    have h2 : m ≤ 300 := by omega
    clear hcond
    have hk : min (max m 1) 65535 = m := by omega
    have HK := Lib.hid hk
    clear hk
    obtain ⟨hol, hh⟩ : ∃ hol : Nat, n % m + 1 = hol := ⟨_, rfl⟩
    have hlt := Nat.mod_lt n (show 0 < m by omega)
    have hh1 : 1 ≤ hol := by omega
    have hh2 : hol ≤ m := by omega
    have hr0 : 0 ≤ (n : Int) % (m : Int) := by omega
    have hr1 : (n : Int) % (m : Int) ≤ 300 := by omega
    have hr : 1 + (n : Int) % (m : Int) = (hol : Int) := by omega
    clear hh hlt
    go_enter Try.func4, Try.ntmps4
    go_wp2_with fail
    refine (awake13_calls _).mono ?_
    rintro e w2 ⟨rfl, b2⟩
    have HB2 := Lib.hid b2
    clear b2
    go_wp2_with fail
    refine (idsNew_calls _ m m HM.out HK.out).mono ?_
    rintro e w3 ⟨p, b, rfl, q3, b3, hp, hb⟩
    have HB3 := Lib.hid (HB2.out.trans (b3.mono HB2.out.size))
    have hp0 : w.heap.size ≤ p := Nat.le_trans HB2.out.size hp
    have hb0 : w.heap.size ≤ b := Nat.le_trans HB2.out.size hb
    have hpl := m_size q3.cells
    have hbl := q3.set.lt
    have B4 : Below w3.heap.size w3 (w3.alloc (.map #[] 0)) := (Below.refl _ _).alloc (Nat.le_refl _) _
    have HB4 := Lib.hid (HB3.out.trans (B4.mono HB3.out.size))
    have Q3 := Lib.hid (q3.below B4)
    have T3 := Lib.hid (TimesAt.made w3)
    have hw3 := HB3.out.size
    clear b3 HB2 q3 hp hb B4 HB3
    go_wp2_with fail
    generalize w3.heap.size = sb at *
    generalize w3.alloc (.map #[] 0) = W3 at *
    go_loopw [7] (fun i wr => ∃ k : Nat, k ≤ m ∧ i = .int .u32 k ∧ PoolAt wr p b m k (upTo 0 (k + 1)) ∧ TimesAt wr sb k (onceTo k) ∧ Below w.heap.size w wr) (fun i _ => m - (intOf i).toNat)
    case atStart => exact ⟨0, Nat.zero_le _, rfl, by rw [upTo_one]; exact Q3.out, by rw [show onceTo 0 = fun _ => 0 from by funext j; unfold onceTo; rw [if_neg (by omega)]]; exact T3.out, HB4.out⟩
    case round =>
      clear Q3 HB4 T3
      obtain ⟨k, hk, rfl, q, t, bw⟩ := hrel
      have HB := Lib.hid bw
      have HQ := Lib.hid q
      have HT := Lib.hid t
      clear bw q t
      by_cases hlt : k < m
      · obtain ⟨d, hd⟩ : ∃ d, k + 1 = d := ⟨_, rfl⟩
        have hmod : k % m + 1 = d := by rw [Nat.mod_eq_of_lt hlt]; exact hd
        have hn : d ∉ upTo 0 (k + 1) := fun h => by have := (mem_upTo 0 (k + 1) d).1 h; omega
        have hfull : (upTo 0 (k + 1)).length < m := by
          have := sub_length (upTo 0 (k + 1)) (List.range k |>.map (· + 1)) ((rise_upTo 0 (k + 1)).imp (fun h => Nat.ne_of_lt h)) (fun x hx => by
            have := (mem_upTo 0 (k + 1) x).1 hx
            exact List.mem_map.2 ⟨x - 1, List.mem_range.2 (by omega), by omega⟩)
          simp at this
          omega
        have hins : ins d (upTo 0 (k + 1)) = upTo 0 (d + 1) := by rw [← hd, upTo_go 0 (k + 1) (by omega) (by omega)]
        have hd1 : 1 ≤ d := by omega
        have hd2 : d ≤ m := by omega
        have hdk : (k : Int) + 1 = (d : Int) := by omega
        have HD4 := Lib.hid (show d < 4294967296 by omega)
        have HH := Lib.hid hmod
        have HN := Lib.hid hn
        have HF := Lib.hid hfull
        have HI := Lib.hid hins
        have HD := Lib.hid hd
        clear hmod hn hfull hins hd
        go_wp2_with fail
        with_reducible refine (idsNext_one _ p b m k (upTo 0 (k + 1)) d HQ.out HF.out HH.out HN.out).mono ?_
        rw [HI.out]
        rintro e w4 ⟨rfl, q4, m4⟩
        have HB5 := Lib.hid (HB.out.trans (m4.below hp0 hb0 HB.out.size))
        have HQ4 := Lib.hid q4
        have t4 := HT.out.keep (m4.block sb HT.out.lt (by omega) (by omega))
        have l4 := t4.look HD4.out (v := 0) (by unfold onceTo; rw [if_neg (by have := HD.out; omega)])
        obtain ⟨DD, hown, hat⟩ := t4
        have HA := Lib.hid hat
        have hkey := key_u32 HD4.out
        clear HB HQ q4 m4 hat HT
        go_wp2_with (first
          | (at_mapUpdate; refine wpList_mapUpdate_in _ rfl _ _ _ 41 rfl 22 3 law_u32 Try.underlying41 _ sb k DD rfl hown (by unfold maxLen; omega) _ _ _ rfl rfl hkey _ [] (plainElem_int Try.underlying3 (by decide)) ?_; intro w5 hown5 hturn5; (have t5 := times_put (g := onceTo d) hown HA.out hown5 (fun j => by have := HD.out; unfold onceTo; by_cases e : j = d <;> simp [e] <;> (repeat' split) <;> omega)); (have l5 := t5.look HD4.out (v := 1) (by unfold onceTo; rw [if_pos ⟨hd1, Nat.le_refl _⟩])); (have HT5 := Lib.hid t5); (have HM5 := Lib.hid hturn5); clear t5 hown hown5 hturn5 l4)
          | go_in)
        go_roundw
        case rel =>
          have hmv : Moved w4 w5 sb sb := Moved.turned HM5.out
          refine ⟨d, hd2, rfl, HQ4.out.keep (hmv.block p (m_size HQ4.out.cells) (by omega) (by omega)) (hmv.block b HQ4.out.set.lt (by omega) (by omega)), ?_, HB5.out.trans (hmv.below (by omega) (by omega) HB5.out.size)⟩
          have := HT5.out
          rwa [HD.out] at this
        case measure => simp [intOf]; have := HD.out; omega
      · obtain rfl : k = m := by omega
        have hlen := upTo_length0 k
        have hmem : hol ∈ upTo 0 (k + 1) := (mem_upTo _ _ _).2 ⟨hh1, by omega, by omega⟩
        have hcl := length_cut1 hol _ (rise_upTo 0 (k + 1)) hmem
        have hfe : freeE (upTo 0 (k + 1)) hol = 0 := by unfold freeE; rw [if_pos hmem]
        have hl2 : (ins hol (cut1 hol (upTo 0 (k + 1)))).length = k := by rw [length_ins]; omega
        have HL := Lib.hid hlen
        have HC := Lib.hid hcl
        have HE := Lib.hid hfe
        have HL2 := Lib.hid hl2
        have HN := Lib.hid (show hol < 4294967296 by omega)
        clear hlen hmem hcl hfe hl2 HT
        go_wp2_with fail
        with_reducible refine (idsNext_full _ p b k k (upTo 0 (k + 1)) HQ.out (by rw [HL.out]; exact Nat.le_refl _)).mono ?_
        rintro e w4 ⟨rfl, nn, rfl⟩
        have HB4 := Lib.hid (drew_below HB.out nn)
        have HQ4 := Lib.hid (HQ.out.keep (w' := wr.drewN nn) rfl rfl)
        clear HB HQ
        go_wp2_with fail
        with_reducible refine (idsFree_calls _ p b k k (upTo 0 (k + 1)) hol HN.out HQ4.out).mono ?_
        rw [HE.out]
        rintro e w5 ⟨rfl, q5, m5⟩
        have HB5 := Lib.hid (HB4.out.trans (m5.below hp0 hb0 HB4.out.size))
        have HQ5 := Lib.hid q5
        clear HB4 HQ4 q5 m5
        go_wp2_with fail
        with_reducible refine (idsNext_hole _ p b k k (cut1 hol (upTo 0 (k + 1))) hol HQ5.out (by have := HC.out; have := HL.out; omega) (fun x hx1 hx2 hx3 => (mem_cut1 _ _ _).2 ⟨(mem_upTo _ _ _).2 ⟨hx1, by omega, by omega⟩, hx3⟩)).mono ?_
        rintro e w6 ⟨rfl, q6, m6⟩
        have HB6 := Lib.hid (HB5.out.trans (m6.below hp0 hb0 HB5.out.size))
        have HQ6 := Lib.hid q6
        clear HB5 HQ5 q6 m6
        go_wp2_with fail
        with_reducible refine (idsLen_calls _ p b k hol (ins hol (cut1 hol (upTo 0 (k + 1)))) HQ6.out).mono ?_
        rw [HL2.out]
        rintro e w7 ⟨rfl, rfl⟩
        go_wp2
        go_ret
        exact ⟨rfl, HB6.out⟩

set_option maxRecDepth 100000 in
theorem lifted (os : Os) (started : os.Started) (H : Type) (enc : TypeId × Value → H) :
    ReturnsInHanded {} Try.checked os 4 .any (Rows.idsAllSpec.pre6 enc Try.prog Try.f4 Rows.idsAllRow.domain false) (Rows.idsAllSpec.post enc Try.prog Try.f4 false true false false) := by
  refine returnsInHanded_of_change (C := Try.checked) own started (by kernel_rfl) Try.func4
    (ChangeSpec.witness6 (enc := enc) (C := Try.checked) false ⟨#[], #[.int .u32 0, .int .u32 0], []⟩ 8 (by kernel_rfl) (by kernel_rfl) (by kernel_rfl) (by kernel_rfl)) ?_
  intro W base args ds gs before hval0 hW hcnd _
  have hval : ∀ (j : Nat) t v, Try.f4.params[j]? = some t → args[j]? = some v → Value.okWide Try.prog W .any base t v := hval0
  have hW' := hW
  obtain ⟨p, q, hA0, hV, rfl, hfz, hnd⟩ := hW
  have hA : DataW.TrodAll enc Try.prog W 0 (fun _ => true) true Try.f4.params.toList args.toList ds p := hA0
  rw [Try.params4] at hA hval
  obtain ⟨v0, vs0, d0, ds0, p0, q0, hargs, rfl, rfl, h0, r0⟩ := trodAll_cons hA
  obtain ⟨v1, vs1, d1, ds1, p1, q1, rfl, rfl, rfl, h1, r1⟩ := trodAll_cons r0
  obtain ⟨rfl, rfl, rfl⟩ := trodAll_nil r1
  obtain rfl : args = #[v0, v1] := by cases args; simp_all
  obtain ⟨rfl, rfl⟩ := trodVars_none hV
  obtain ⟨a0, rfl, rfl, rfl, w0⟩ := open_int Try.underlying22 (hval 0 22 v0 rfl rfl) h0
  obtain ⟨a1, rfl, rfl, rfl, w1⟩ := open_int Try.underlying22 (hval 1 22 v1 rfl rfl) h1
  clear hA0 hval0
  refine (walk a0 w0 a1 w1 W ).mono fun e W' ⟨he, bel⟩ => ?_
  subst he
  exact ⟨_, rfl, _, _, _, [], _, [], hW', trodAll_mk1 (shut_bool Try.underlying4 _), (trodAll_cons_mk (shut_int Try.underlying22 w0) (trodAll_cons_mk (shut_int Try.underlying22 w1) trodAll_mk0)), rfl, bel.frame _, fun h => by cases h⟩

theorem over : Rows.idsAllRow.holds Try.pinned (OpenSpec.ofChange Rows.idsAllSpec) :=
  OpenClaim.holds_of_wide 4 Try.f4 rfl rfl rfl rfl rfl rfl rfl ⟨rfl, rfl, rfl, rfl, rfl⟩ rfl rfl rfl rfl rfl (by kernel_rfl) Try.func4 (by kernel_rfl)
    (of_decide_eq_true (by kernel_rfl)) (by unfold Func.isWrapper; first | (rw [if_pos (by decide +kernel)]; kernel_rfl) | (rw [if_neg (by decide +kernel)]; exact ⟨rfl, rfl⟩))
    (fun os started H enc _ => lifted os started H enc)

end Go.Proofs.Yticlenpgokajdaa.idsAll
namespace Go.Proofs.Yticlenpgokajdaa
/-- The statement. -/
theorem idsAll_holds : Rows.IdsAllSaid := idsAll.over
#print axioms idsAll_holds
end Go.Proofs.Yticlenpgokajdaa
