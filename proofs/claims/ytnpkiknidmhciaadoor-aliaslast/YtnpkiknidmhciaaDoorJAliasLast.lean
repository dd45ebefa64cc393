/-
  An alias stands for the last topic that came with it, whatever errors are between.
  Its conditions: none beside those of the row itself (the two tables of unicode/utf8 start as the library's text lays them: the card ties them).
-/
import Derived.Test.YtnpkiknidmhciaaDoorCards
import Derived.Test.YtnpkiknidmhciaaDoorTie
import Derived.Test.YtnpkiknidmhciaaDoorJAliasLastw
import Derived.Test.YtnpkiknidmhciaaDoorJAliasLastf
import Derived.Test.YtnpkiknidmhciaaDoorJAlias
import Derived.ProofKit
import Derived.OpenShut
import Derived.ShutString
import Derived.ChangeOld
import Derived.Deep.DeepHandedRow
import Derived.Deep.DeepWitnessRowRef
import Derived.Lib.LaidU8T
import Derived.Lib.LaidTab
import Derived.Lib.LaidIn
namespace Go.Proofs.YtnpkiknidmhciaaDoor.aliasLast
open Go.ChangeShapes Go.WideShapes Go.ChangeAt Go.RowKit Go.Lib
open Go.ChangeMaps (open_string shut_string)
set_option linter.unusedVariables false

/-- While names are given to one alias. -/
structure LaJ (w : World) (p b : Nat) (n : Int) (L : List (Int × List UInt8)) (k : Nat) (last : List UInt8) (W : World) : Prop where
  al : ∃ c, AlJ w p b n L c W ∧ c = (if last = [] then 0 else 1)
  get : getL L n = if last = [] then none else some last
  len : L.length ≤ k

theorem LaJ.below {w : World} {p b : Nat} {n : Int} {L : List (Int × List UInt8)} {k : Nat} {last : List UInt8} {W W' : World} (h : LaJ w p b n L k last W) (hb : Below W.heap.size W W') : LaJ w p b n L k last W' := by
  obtain ⟨c, hc, e⟩ := h.al
  exact ⟨⟨c, hc.below hb, e⟩, h.get, h.len⟩

set_option maxRecDepth 100000 in
set_option maxHeartbeats 4000000 in
theorem walk0 (n : Int) (n1 : 1 ≤ n) (n2 : n ≤ 65535) (a0 : Int) (m0 : 0 ≤ a0) (m1 : a0 < 4294967296) (hn : 1 + a0 % 65535 = n) (v1 : Value) (a1 : List ByteArray) (v2 : Value) (a2 : List Int) (w : World) (w1 : StrsIn w v1 a1) (w2 : N32At w v2 a2) (hT : T10 w) :
    Calls Tryd.prog 4 #[.int .u32 a0, v1, v2] w fun e w' => e = .returned (.bool true) ∧ Below w.heap.size w w' := by
  obtain ⟨A1, cap1, rfl, hzm1, hc1⟩ := w1
  obtain ⟨A2, cap2, rfl, hzm2, hc2⟩ := w2
  have HC1 := Lib.hid hc1
  have HC2 := Lib.hid hc2
  have HZ1 := Lib.hid hzm1
  have HZ2 := Lib.hid hzm2
  have HT := Lib.hid hT
  have r0 : 0 ≤ a0 % 65535 := by omega
  have r1 : a0 % 65535 ≤ 65534 := by omega
  clear hc1 hc2 hzm1 hzm2 hT
  go_enter Tryd.func4, Tryd.ntmps4
  go_wp2_with fail
  refine (aNew_calls w n (by omega) (by omega)).mono ?_
  rintro e x1 ⟨p, b, rfl, hA, hB, hp, hb⟩
  rw [show min n 65535 = n by omega] at hA
  have J0 := Lib.hid (show AlJ w p b n [] 0 x1 from ⟨hA, hB, hp, hb⟩)
  clear hA hB hp hb
  go_wp2_with fail
  refine (awake17_calls x1 (HT.out.below J0.out.bel)).mono ?_
  rintro e x2 ⟨rfl, b2⟩
  have J1 := Lib.hid (show LaJ w p b n [] 0 [] x2 from ⟨⟨0, J0.out.below b2, rfl⟩, rfl, Nat.le_refl _⟩)
  clear b2 J0
  go_wp2_with fail
  go_loopw [8, 9] (fun ls i wr => ∃ (k : Nat) (L : List (Int × List UInt8)) (last : List UInt8), i = .int .i64 k ∧ ls = .string (str last) ∧ k ≤ a1.length ∧ k ≤ 20 ∧ LaJ w p b n L k last wr) (fun _ i _ => 20 - (RowKit.intOf i).toNat)
  case atStart => exact ⟨0, [], [], rfl, rfl, Nat.zero_le _, by omega, J1.out⟩
  case round =>
    obtain ⟨k, L, last, rfl, rfl, hk1, hk2, hJ⟩ := hrel
    have HJ := Lib.hid hJ
    have hzl := HZ1.out
    unfold maxLen at hzl
    clear hJ J1
    by_cases hlt : k < a1.length ∧ k < 20
    · obtain ⟨h1, h2⟩ := hlt
      obtain ⟨bb, o, hAd, hbl, hcell, hsz⟩ := HC1.out k _ (List.getElem?_eq_getElem h1)
      subst hAd
      obtain ⟨c0, hAJ, hc0⟩ := HJ.out.al
      have hcr := (hAJ.bel.cell (p := ⟨bb, o + k, none⟩) hbl).trans hcell
      have hcut := fun W => cut_calls W a1[k] 5 hsz
      rw [ext_takeA] at hcut
      have hql : (a1[k].data.toList.take 5).length ≤ 5 := by rw [List.length_take]; omega
      generalize a1[k] = s at *
      generalize s.data.toList.take 5 = q at *
      have hcv := fun W => Lib.run_convert_string_bytes (P := Tryd.prog) W 9 51 5 (str q) Tryd.underlying9 Tryd.underlying51 Tryd.underlying5
      have hqz : (str q).size = q.length := str_size q
      have hcl := fun j (hj : j < q.length) => Lib.bytesWorld_cell wr 5 (str q) j (by rw [hqz]; exact hj)
      rw [str_data] at hcl
      have HCL := Lib.hid hcl
      have HJ2 := Lib.hid (HJ.out.below (below_bytes wr 5 (str q)))
      clear hcell hsz hAJ hc0 hcl
      go_wp2_with (go_at_call 23; refine (hcut _).mono ?_; rintro e x3 ⟨rfl, rfl⟩)
      generalize Lib.bytesWorld wr 5 (str q) = V1 at *
      generalize grownCap wr q.length 0 5 = gc at *
      clear hcr hcut
      go_loopw [10, 45] (fun nm j wv => ∃ i : Nat, i ≤ q.length ∧ j = .int .i64 i ∧ nm = .string (str ([116] ++ lets (q.take i))) ∧ wv = V1) (fun _ j _ => q.length - (RowKit.intOf j).toNat)
      case atStart => exact ⟨0, Nat.zero_le _, rfl, rfl, rfl⟩
      case round =>
        obtain ⟨i, hi, rfl, rfl, rfl⟩ := hrel
        by_cases hil : i < q.length
        · have hcc := HCL.out i hil
          have hsn := lets_snoc q i hil
          have hcv2 := fun W => run_convert_int_string (P := Tryd.prog) W 21 9 .i32 (97 + ((q.getD i 0).toNat : Int) % 26) (by kernel_rfl) Tryd.underlying9
          rw [enc_let (q.getD i 0)] at hcv2
          have ha := str_append ([116] ++ lets (q.take i)) [letC (q.getD i 0)]
          rw [List.append_assoc, ← hsn] at ha
          have z1 : (str ([116] ++ lets (q.take i))).size ≤ 1000 := by rw [str_size]; simp [lets]; omega
          have z2 : (str [letC (q.getD i 0)]).size = 1 := by rw [str_size]; rfl
          clear hsn
          generalize q.getD i 0 = c at *
          have hcn := c.toNat_lt
          generalize hS1 : str ([116] ++ lets (q.take (i + 1))) = S1 at *
          have HS1 := Lib.hid hS1
          clear hS1
          generalize str ([116] ++ lets (q.take i)) = S0 at *
          generalize str [letC c] = X at *
          go_wp2
          go_roundw
          case rel => exact ⟨i + 1, by omega, by go_num, by rw [HS1.out], trivial⟩
          case measure => simp [RowKit.intOf]; omega
        · obtain rfl : i = q.length := by omega
          have hnm := nameB_lets q (by omega)
          have hnl : ([116] ++ lets q).length ≤ 6 := by simp [lets]; omega
          have hne : [116] ++ lets q ≠ [] := by simp
          rw [List.take_length]
          generalize [116] ++ lets q = nm at *
          have hts : (str nm).toList = nm := str_list _
          obtain ⟨c0, hAJ, hc0⟩ := HJ2.out.al
          have hget := HJ2.out.get
          have hll := HJ2.out.len
          have hE : nmE n L (some n) nm = (nm, 0) := by
            simp only [nmE]
            rw [if_pos (by omega), if_neg hne, if_pos hnm]
          have hL : nmL n L (some n) nm = L ++ [(n, nm)] := by
            simp only [nmL]
            rw [if_pos ⟨by omega, hne, hnm⟩]
          have hc : nmC n L c0 (some n) nm = 1 := by
            simp only [nmC]
            rw [if_pos ⟨by omega, hne, hnm⟩, hget, hc0]
            by_cases hl : last = []
            · rw [if_pos hl, if_pos hl]; rfl
            · rw [if_neg hl, if_neg hl]; rfl
          have HE := Lib.hid (And.intro hE (And.intro hL hc))
          have HA := Lib.hid hAJ
          have HNE := Lib.hid hne
          clear hE hL hc hAJ hc0 hget hnm hne
          go_wp2_with fail
          refine (made_step (T := nm) (T' := nm) (n := n) (by omega) (by omega) (by unfold maxLen; omega) (List.take_of_length_le (by omega))).mono ?_
          rintro e y1 ⟨u1, rfl, hP, hB⟩
          go_wp2_with fail
          refine (aName_step (T := nm) (T' := nm) HA.out HT.out hP hB (by unfold maxLen; omega) (one_range (by omega) (by omega)) (List.take_of_length_le (by omega)) HE.out.1 HE.out.2.1 HE.out.2.2).mono ?_
          rintro e y2 ⟨rfl, jj⟩
          have JJ := Lib.hid jj
          clear jj hP hB HA HE
          have GG := Lib.hid (show LaJ w p b n (L ++ [(n, nm)]) (k + 1) nm y2 from ⟨⟨1, JJ.out, by rw [if_neg HNE.out]⟩, by rw [getL_snoc]; simp [HNE.out], by simp; omega⟩)
          have hl2 : (L ++ [(n, nm)]).length ≤ 21 := by simp; omega
          generalize L ++ [(n, nm)] = L2 at *
          by_cases hk2' : k < a2.length
          · obtain ⟨bb2, o2, hAd2, hbl2, hcell2, hx0, hx1⟩ := HC2.out k hk2'
            subst hAd2
            generalize a2.getD k 0 = xb at *
            have hr : n + 1 + xb % 1000 < 4294967296 := by omega
            have hr0 : 0 ≤ n + 1 + xb % 1000 := by omega
            have hrn : ¬ (1 ≤ n + 1 + xb % 1000 ∧ n + 1 + xb % 1000 ≤ n) := by omega
            have f1 : nmE n L2 (some n) [97, 47, 35] = ([], 9) := by
              simp only [nmE]
              rw [if_pos (by omega), if_neg (by simp), if_neg (by decide +kernel)]
            have f2 : nmL n L2 (some n) [97, 47, 35] = L2 := by
              simp only [nmL]
              rw [if_neg (fun h => absurd h.2.2 (by decide +kernel))]
            have f3 : nmC n L2 1 (some n) [97, 47, 35] = 1 := by
              simp only [nmC]
              rw [if_neg (fun h => absurd h.2.2 (by decide +kernel))]
            have g1 : nmE n L2 (some (n + 1 + xb % 1000)) [113] = ([], 11) := by
              simp only [nmE]
              rw [if_neg hrn]
            have g2 : nmL n L2 (some (n + 1 + xb % 1000)) [113] = L2 := by
              simp only [nmL]
              rw [if_neg (fun h => hrn h.1)]
            have g3 : nmC n L2 1 (some (n + 1 + xb % 1000)) [113] = 1 := by
              simp only [nmC]
              rw [if_neg (fun h => hrn h.1)]
            have HF := Lib.hid (And.intro f1 (And.intro f2 f3))
            have HG := Lib.hid (And.intro g1 (And.intro g2 g3))
            clear f1 f2 f3 g1 g2 g3 hrn
            go_wp2_with fail
            refine (made_step (T := [97, 47, 35]) (T' := [97, 47, 35]) (n := n) (by omega) (by omega) (by unfold maxLen; simp) rfl).mono ?_
            rintro e y3 ⟨u3, rfl, hP, hB⟩
            go_wp2_with fail
            refine (aName_step (T := [97, 47, 35]) (T' := [97, 47, 35]) JJ.out HT.out hP hB (by unfold maxLen; omega) (one_range (by omega) (by omega)) rfl HF.out.1 HF.out.2.1 HF.out.2.2).mono ?_
            rintro e y4 ⟨rfl, jj⟩
            have J4 := Lib.hid jj
            have hcr2 := (jj.bel.cell (p := ⟨bb2, o2 + k, none⟩) hbl2).trans hcell2
            clear jj hP hB HF JJ hcell2
            go_wp2_with fail
            refine (made_step (T := [113]) (T' := [113]) (n := n + 1 + xb % 1000) hr0 hr (by unfold maxLen; simp) rfl).mono ?_
            rintro e y5 ⟨u5, rfl, hP, hB⟩
            go_wp2_with fail
            refine (aName_step (T := [113]) (T' := [113]) J4.out HT.out hP hB (by unfold maxLen; omega) (one_range hr0 hr) rfl HG.out.1 HG.out.2.1 HG.out.2.2).mono ?_
            rintro e y6 ⟨rfl, jj⟩
            have J6 := Lib.hid jj
            clear jj hP hB HG J4
            go_wp2
            go_roundw
            case rel => exact ⟨k + 1, L2, nm, by go_num, rfl, by omega, by omega, ⟨1, J6.out, by rw [if_neg HNE.out]⟩, GG.out.get, GG.out.len⟩
            case measure => simp [RowKit.intOf]; omega
          · go_wp2
            go_roundw
            case rel => exact ⟨k + 1, L2, nm, by go_num, rfl, by omega, by omega, GG.out⟩
            case measure => simp [RowKit.intOf]; omega
    · by_cases h1 : k < a1.length
      · obtain ⟨c0, hAJ, hc0⟩ := HJ.out.al
        have hget := HJ.out.get
        have hll := HJ.out.len
        obtain rfl : k = 20 := by omega
        by_cases hl : last = []
        · subst hl
          rw [if_pos rfl] at hget hc0
          subst hc0
          have hE : nmE n L (some n) [] = ([], 3) := by simp only [nmE]; rw [if_pos (by omega), if_pos trivial, hget]
          have hL : nmL n L (some n) [] = L := by simp [nmL]
          have hc : nmC n L 0 (some n) [] = 0 := by simp [nmC]
          have HE := Lib.hid (And.intro hE (And.intro hL hc))
          have HA := Lib.hid hAJ
          clear hE hL hc hAJ hget HJ
          have hem : (str []).toList.isEmpty = true := by rw [empty_str]; simp
          have hem2 : (str []).toList = [] := str_list _
          go_wp2_with fail
          refine (made_step (T := []) (T' := []) (n := n) (by omega) (by omega) (by unfold maxLen; simp) rfl).mono ?_
          rintro e y1 ⟨u1, rfl, hP, hB⟩
          go_wp2_with fail
          refine (aName_step (T := []) (T' := []) HA.out HT.out hP hB (by unfold maxLen; omega) (one_range (by omega) (by omega)) rfl HE.out.1 HE.out.2.1 HE.out.2.2).mono ?_
          rintro e y2 ⟨rfl, jj⟩
          have JJ := Lib.hid jj
          clear jj hP hB HA HE
          go_wp2_with fail
          refine (aLen_calls y2 p b 0 _ _ JJ.out.al).mono ?_
          rintro e y3 ⟨rfl, rfl⟩
          go_wp2
          go_ret
          exact ⟨rfl, JJ.out.bel⟩
        · rw [if_neg hl] at hget hc0
          subst hc0
          have hE : nmE n L (some n) [] = (last, 0) := by simp only [nmE]; rw [if_pos (by omega), if_pos trivial, hget]
          have hL : nmL n L (some n) [] = L := by simp [nmL]
          have hc : nmC n L 1 (some n) [] = 1 := by simp [nmC]
          have HE := Lib.hid (And.intro hE (And.intro hL hc))
          have HA := Lib.hid hAJ
          have hem : (str last).toList.isEmpty = false := by rw [empty_str]; simpa using hl
          clear hE hL hc hAJ hget HJ hl
          go_wp2_with fail
          refine (made_step (T := []) (T' := []) (n := n) (by omega) (by omega) (by unfold maxLen; simp) rfl).mono ?_
          rintro e y1 ⟨u1, rfl, hP, hB⟩
          go_wp2_with fail
          refine (aName_step (T := []) (T' := []) HA.out HT.out hP hB (by unfold maxLen; omega) (one_range (by omega) (by omega)) rfl HE.out.1 HE.out.2.1 HE.out.2.2).mono ?_
          rintro e y2 ⟨rfl, jj⟩
          have JJ := Lib.hid jj
          clear jj hP hB HA HE
          go_wp2_with fail
          refine (aLen_calls y2 p b 1 _ _ JJ.out.al).mono ?_
          rintro e y3 ⟨rfl, rfl⟩
          go_wp2
          go_ret
          exact ⟨rfl, JJ.out.bel⟩
      · obtain ⟨c0, hAJ, hc0⟩ := HJ.out.al
        have hget := HJ.out.get
        have hll := HJ.out.len
        obtain rfl : k = a1.length := by omega
        by_cases hl : last = []
        · subst hl
          rw [if_pos rfl] at hget hc0
          subst hc0
          have hE : nmE n L (some n) [] = ([], 3) := by simp only [nmE]; rw [if_pos (by omega), if_pos trivial, hget]
          have hL : nmL n L (some n) [] = L := by simp [nmL]
          have hc : nmC n L 0 (some n) [] = 0 := by simp [nmC]
          have HE := Lib.hid (And.intro hE (And.intro hL hc))
          have HA := Lib.hid hAJ
          clear hE hL hc hAJ hget HJ
          have hem : (str []).toList.isEmpty = true := by rw [empty_str]; simp
          have hem2 : (str []).toList = [] := str_list _
          go_wp2_with fail
          refine (made_step (T := []) (T' := []) (n := n) (by omega) (by omega) (by unfold maxLen; simp) rfl).mono ?_
          rintro e y1 ⟨u1, rfl, hP, hB⟩
          go_wp2_with fail
          refine (aName_step (T := []) (T' := []) HA.out HT.out hP hB (by unfold maxLen; omega) (one_range (by omega) (by omega)) rfl HE.out.1 HE.out.2.1 HE.out.2.2).mono ?_
          rintro e y2 ⟨rfl, jj⟩
          have JJ := Lib.hid jj
          clear jj hP hB HA HE
          go_wp2_with fail
          refine (aLen_calls y2 p b 0 _ _ JJ.out.al).mono ?_
          rintro e y3 ⟨rfl, rfl⟩
          go_wp2
          go_ret
          exact ⟨rfl, JJ.out.bel⟩
        · rw [if_neg hl] at hget hc0
          subst hc0
          have hE : nmE n L (some n) [] = (last, 0) := by simp only [nmE]; rw [if_pos (by omega), if_pos trivial, hget]
          have hL : nmL n L (some n) [] = L := by simp [nmL]
          have hc : nmC n L 1 (some n) [] = 1 := by simp [nmC]
          have HE := Lib.hid (And.intro hE (And.intro hL hc))
          have HA := Lib.hid hAJ
          have hem : (str last).toList.isEmpty = false := by rw [empty_str]; simpa using hl
          clear hE hL hc hAJ hget HJ hl
          go_wp2_with fail
          refine (made_step (T := []) (T' := []) (n := n) (by omega) (by omega) (by unfold maxLen; simp) rfl).mono ?_
          rintro e y1 ⟨u1, rfl, hP, hB⟩
          go_wp2_with fail
          refine (aName_step (T := []) (T' := []) HA.out HT.out hP hB (by unfold maxLen; omega) (one_range (by omega) (by omega)) rfl HE.out.1 HE.out.2.1 HE.out.2.2).mono ?_
          rintro e y2 ⟨rfl, jj⟩
          have JJ := Lib.hid jj
          clear jj hP hB HA HE
          go_wp2_with fail
          refine (aLen_calls y2 p b 1 _ _ JJ.out.al).mono ?_
          rintro e y3 ⟨rfl, rfl⟩
          go_wp2
          go_ret
          exact ⟨rfl, JJ.out.bel⟩

theorem walk (a0 : Int) (w0 : (Lit.int .u32 a0).wf = true) (v1 : Value) (a1 : List ByteArray) (v2 : Value) (a2 : List Int) (w : World) (w1 : StrsIn w v1 a1) (w2 : N32At w v2 a2) (hT : T10 w) :
    Calls Tryd.prog 4 #[.int .u32 a0, v1, v2] w fun e w' => e = .returned (.bool true) ∧ Below w.heap.size w w' := by
  have hr0 : IntKind.u32.min ≤ a0 ∧ a0 ≤ IntKind.u32.max := by simpa [Lit.wf] using w0
  rw [show IntKind.u32.min = 0 by decide, show IntKind.u32.max = 4294967295 by decide] at hr0
  exact walk0 (1 + a0 % 65535) (by omega) (by omega) a0 hr0.1 (by omega) rfl v1 a1 v2 a2 w w1 w2 hT

set_option maxRecDepth 100000 in
set_option maxHeartbeats 2000000 in
theorem lifted (os : Os) (started : os.Started) (H : Type) (enc : TypeId × Value → H) (F : Stop.Interp) :
    ReturnsInHanded {} Tryd.checked os 4 .any ((OpenSpec.ofChange Rows.aliasLastSpec).preRow enc Tryd.prog Tryd.f4 Rows.aliasLastRow.domain false Rows.aliasLastRow.laid) (((OpenSpec.ofChange Rows.aliasLastSpec).at F).post enc Tryd.prog Tryd.f4 false true false false) := by
  obtain ⟨places, hx⟩ := reads os enc
  refine returnsInHanded_of_row (C := Tryd.checked) (s := OpenSpec.ofChange Rows.aliasLastSpec) own started (by kernel_rfl) Tryd.func4
    (witness_row_at (enc := enc) (C := Tryd.checked) false (laidWorld os) #[.int .u32 0, .slice none 0 0, .slice none 0 0] rfl (by kernel_rfl) (by kernel_rfl) (by kernel_rfl)
      (OpenSpec.preRow_of_cond 8 hx (by kernel_rfl) (fun k hk => by cases hk) (by kernel_rfl) (laid_met os))) ?_
  intro W base args ds gs before hval0 hW _ _ _ hL hShp _
  have hval : ∀ (j : Nat) t v, Tryd.f4.params[j]? = some t → args[j]? = some v → Value.okWide Tryd.prog W .any base t v := hval0
  have hW' := hW
  obtain ⟨p, q, hA0, hV, rfl, hfz, hnd⟩ := hW
  have hA : DataW.TrodAll enc Tryd.prog W 0 (fun _ => true) true Tryd.f4.params.toList args.toList ds p := hA0
  rw [Tryd.params4] at hA hval
  obtain ⟨v0, vs0, d0, ds0, p0, q0, hargs, rfl, rfl, h0, r0⟩ := trodAll_cons hA
  obtain ⟨v1, vs1, d1, ds1, p1, q1, rfl, rfl, rfl, h1, r1⟩ := trodAll_cons r0
  obtain ⟨v2, vs2, d2, ds2, p2, q2, rfl, rfl, rfl, h2, r2⟩ := trodAll_cons r1
  obtain ⟨rfl, rfl, rfl⟩ := trodAll_nil r2
  obtain rfl : args = #[v0, v1, v2] := by cases args; simp_all
  obtain ⟨rfl, rfl⟩ := trodVars_none hV
  obtain ⟨a0, rfl, rfl, rfl, w0⟩ := open_int Tryd.underlying22 (hval 0 22 v0 rfl rfl) h0
  have k1 := h1
  have lt1 : ∀ x ∈ p1, x.block < W.heap.size := by obtain ⟨m, hm⟩ := k1; exact DataW.trod_lt m _ _ _ hm
  obtain ⟨a1, w1⟩ := open_strsIn (hval 1 50 v1 rfl rfl) h1
  have k2 := h2
  have lt2 : ∀ x ∈ p2, x.block < W.heap.size := by obtain ⟨m, hm⟩ := k2; exact DataW.trod_lt m _ _ _ hm
  obtain ⟨a2, w2⟩ := open_n32 (hval 2 33 v2 rfl rfl) h2
  clear hA0 hval0
  have hT : Tabs W := utf8Tabs_of_readsT (U8Types.of196 Tryd.lays196) ⟨by kernel_rfl, by kernel_rfl, by kernel_rfl, by kernel_rfl, by kernel_rfl, by kernel_rfl, by kernel_rfl⟩ (first_eq ▸ Lib.laidMet.reads hL (.tail _ (.head _))) (accept_eq ▸ Lib.laidMet.reads hL (.head _))
  have hT10 : T10 W := ⟨hT⟩
  refine (walk a0 w0 v1 a1 v2 a2 W w1 w2 hT10).mono fun e W' ⟨he, bel⟩ => ?_
  subst he
  exact ⟨_, rfl, _, _, _, [], _, [], hW', trodAll_mk1 (shut_bool Tryd.underlying4 _), (trodAll_cons_mk (shut_int Tryd.underlying22 w0) (trodAll_cons_mk (Below.trod laidOut (by kernel_rfl) (of_decide_eq_true (by kernel_rfl)) k1 bel lt1) (trodAll_cons_mk (Below.trod laidOut (by kernel_rfl) (of_decide_eq_true (by kernel_rfl)) k2 bel lt2) trodAll_mk0))), rfl, bel.frame _, fun h => by cases h⟩

theorem said : Rows.AliasLastSaid :=
  OpenClaim.holds_of_cond 4 Tryd.f4 rfl rfl rfl rfl rfl rfl rfl ⟨rfl, rfl, rfl, rfl, rfl⟩ rfl rfl rfl rfl rfl (by kernel_rfl) Tryd.func4 closed
    (of_decide_eq_true (by kernel_rfl)) (by unfold Func.isWrapper; first | (rw [if_pos (by decide +kernel)]; kernel_rfl) | (rw [if_neg (by decide +kernel)]; exact ⟨rfl, rfl⟩))
    (fun os started H enc _ F => by rw [OpenClaim.pre_eq_preRow]; exact lifted os started H enc F)

theorem plain (f : FuncId) (fn : Func) (hf : Tryd.pinned.checked.prog.funcNamed Tryd.f4.name = some f) (hfn : Tryd.pinned.checked.prog.funcs[f]? = some fn) :
    false = Tryd.pinned.checked.prog.looks [] ∧ ∀ (j : Nat) t, fn.params[j]? = some t → Tryd.pinned.checked.prog.wantsStandIn t = false := by
  obtain rfl : f = 4 := Option.some.inj ((show Tryd.prog.funcNamed Tryd.f4.name = some 4 by kernel_rfl).symm.trans hf) |>.symm
  obtain rfl : fn = Tryd.f4 := (Option.some.inj (Tryd.func4.symm.trans hfn)).symm
  refine ⟨fac_looks, fun j t ht => ?_⟩
  rw [Tryd.params4] at ht
  have hm : t = 22 ∨ t = 50 ∨ t = 33 := by simpa using Array.mem_of_getElem? ht
  rcases hm with rfl | rfl | rfl
  · exact (show Tryd.prog.wantsStandIn 22 = false by kernel_rfl)
  · exact (show Tryd.prog.wantsStandIn 50 = false by kernel_rfl)
  · exact (show Tryd.prog.wantsStandIn 33 = false by kernel_rfl)

end Go.Proofs.YtnpkiknidmhciaaDoor.aliasLast
namespace Go.Proofs.YtnpkiknidmhciaaDoor
/-- The statement. -/
theorem aliasLast_holds : Rows.AliasLastCardSaid :=
  Claim7.holds_tied_plain_at .later [] _ _ _ _ aliasLast.said (fun _ h => by cases h) aliasLast.wft (fun _ h => by cases h) aliasLast_row_tie rfl ⟨rfl, rfl⟩ fac_main rfl aliasLast.plain aliasLast.goes
#print axioms aliasLast_holds
end Go.Proofs.YtnpkiknidmhciaaDoor
