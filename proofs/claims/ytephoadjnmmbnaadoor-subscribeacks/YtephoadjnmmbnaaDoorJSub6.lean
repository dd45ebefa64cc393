/-
  Text of subscribe. (No statement: contracts that the proofs of the statements use.)
-/
import Derived.Test.YtephoadjnmmbnaaDoorJSub5
import Derived.Deep.RegionHeld3
namespace Go.Proofs.YtephoadjnmmbnaaDoor
open Go.RowKit

/-- A slice that reads as a list of Subs. -/
def SubsAt (W : World) (v : Value) (L : List Sb) : Prop :=
  ∃ A cap, v = .slice A L.length cap ∧ ∀ (i : Nat) (x : Sb), L[i]? = some x →
    ∃ b off, A = some ⟨b, off, none⟩ ∧ b < W.heap.size ∧ W.cell? ⟨b, off + i * 5, none⟩ = some (.string x.f) ∧ W.cell? ⟨b, off + i * 5 + 1, none⟩ = some (.int .u8 x.q) ∧
      W.cell? ⟨b, off + i * 5 + 2, none⟩ = some (.bool x.nl) ∧ W.cell? ⟨b, off + i * 5 + 3, none⟩ = some (.bool x.ap) ∧ W.cell? ⟨b, off + i * 5 + 4, none⟩ = some (.int .u8 x.h)

theorem sbC_at : ∀ (L : List Sb) (i k : Nat), k < 5 → (L.flatMap sbC)[i * 5 + k]? = (L[i]?).bind fun x => (sbC x)[k]?
  | [], i, k, _ => by simp
  | c :: L, 0, k, hk => by
    rw [List.flatMap_cons, List.getElem?_append_left (by simp [sbC]; omega)]
    simp
  | c :: L, i + 1, k, hk => by
    rw [List.flatMap_cons, List.getElem?_append_right (by simp [sbC]; omega), show (i + 1) * 5 + k - (sbC c).length = i * 5 + k by simp [sbC]; omega, sbC_at L i k hk]
    simp

theorem OwnS.at {B : Nat} {w : World} {v : Value} {L : List Sb} (h : OwnS B w v L) : SubsAt w v L := by
  rcases h.2 with ⟨rfl, h0⟩ | ⟨g, cap, cur, rfl, _, hg, hrest⟩
  · have : L = [] := List.eq_nil_of_length_eq_zero h0
    subst this
    exact ⟨none, 0, rfl, fun i x hx => by simp at hx⟩
  · refine ⟨_, cap, rfl, fun i x hx => ⟨g, 0, rfl, lt_of_block hg, ?_⟩⟩
    have hi : i < L.length := (List.getElem?_eq_some_iff.1 hx).1
    have hcell : ∀ k, k < 5 → w.cell? ⟨g, i * 5 + k, none⟩ = (sbC x)[k]? := by
      intro k hk
      have := World.ownsRow.cellAt h (i * 5 + k) (by omega)
      rw [this, sbC_at L i k hk, hx]
      rfl
    refine ⟨?_, ?_, ?_, ?_, ?_⟩
    · rw [Nat.zero_add]; exact hcell 0 (by omega)
    · rw [Nat.zero_add]; exact hcell 1 (by omega)
    · rw [Nat.zero_add]; exact hcell 2 (by omega)
    · rw [Nat.zero_add]; exact hcell 3 (by omega)
    · rw [Nat.zero_add]; exact hcell 4 (by omega)

/-- A Sub's bytes; those of all. -/
def sbL (c : Sb) : List UInt8 := datL c.f ++ [UInt8.ofNat (optN c).toNat]
def subsL (L : List Sb) : List UInt8 := L.flatMap sbL
def subscL (n : Int) (ps : List Pr) (L : List Sb) : List UInt8 := [] ++ two n ++ propsL ps ++ subsL L
structure Sb.ok (c : Sb) : Prop where
  f : c.f.size ≤ 65535
  q0 : 0 ≤ c.q
  q1 : c.q < 256
  h0 : 0 ≤ c.h
  h1 : c.h < 256

theorem optN_range (c : Sb) (h : c.ok) : 0 ≤ optN c ∧ optN c < 256 := by
  have a1 := and3_range' c.q h.q0 h.q1
  have a2 := and3_range' c.h h.h0 h.h1
  have o1 := or_range (bits .and .u8 c.q 3) (bits .and .u8 c.h 3 * 16) a1.1 (by omega) (by omega) (by omega)
  have o2 := or_range _ 4 o1.1 o1.2 (by omega) (by omega)
  have o3 := or_range _ 8 o1.1 o1.2 (by omega) (by omega)
  have o4 := or_range _ 8 o2.1 o2.2 (by omega) (by omega)
  unfold optN
  split
  · split
    · exact o4
    · exact o3
  · split
    · exact o2
    · exact o1
theorem subsL_snoc (L : List Sb) (k : Nat) (x : Sb) (h : L[k]? = some x) : subsL (L.take (k + 1)) = subsL (L.take k) ++ sbL x := by
  obtain ⟨hk, rfl⟩ := List.getElem?_eq_some_iff.1 h
  unfold subsL
  rw [List.take_succ_eq_append_getElem hk, List.flatMap_append]
  simp
theorem subsL_len (L : List Sb) (h : ∀ c ∈ L, c.ok) : (subsL L).length ≤ 65538 * L.length := by
  induction L with
  | nil => simp [subsL]
  | cons c L ih =>
    have h1 := datL_len c.f (h c (by simp)).f
    have h2 := ih (fun x hx => h x (by simp [hx]))
    have e : (subsL (c :: L)).length = (datL c.f).length + 1 + (subsL L).length := by simp [subsL, sbL]; omega
    rw [e, List.length_cons]
    omega

theorem row_far {w w' : World} {o b : Nat} {r r' : Option Nat} (h : Step w w' o r r') (hb : b < w.heap.size) (hne : some b ≠ r) : some b ≠ r' := by
  rcases h.row with e | ⟨g, e, hg⟩
  · rw [e]; exact hne
  · rw [e]; intro e'; injection e' with e'; omega

set_option maxHeartbeats 1000000 in
theorem putHead_calls (w0 w : World) (o : Nat) (r : Option Nat) (bs : List UInt8) (n : Int) (n0 : 0 ≤ n) (n1 : n < 4294967296) (va : Option Addr) (vn vc : Nat) (P : List Pr) (hP : PropsAt w0 (.slice va vn vc) P) (hb : Below w0.heap.size w0 w) (ho : w0.heap.size ≤ o) (hr : ∀ g, r = some g → w0.heap.size ≤ g) (hok : ∀ p ∈ P, p.ok) (hpn : P.length ≤ 1000) (h : OutAt w o r bs) (hl : bs.length ≤ 400000000) :
    Calls Tryd.prog 138 #[.pointer (some ⟨o, 0, none⟩), .int .u32 n, .slice va vn vc] w (PutP w o r (bs ++ two n ++ propsL P)) := by
  have HP := Lib.hid hP
  have HB := Lib.hid hb
  clear hP hb
  go_enter Tryd.func138, Tryd.ntmps138
  go_wp2_with fail
  refine (two_calls _ o r bs n n0 n1 h (by omega)).mono ?_
  rintro e V1 ⟨rfl, r1, h1, s1⟩
  have B1 := Lib.hid (HB.out.trans (s1.below HB.out.size ho hr))
  have S1 := Lib.hid s1
  have lG : (bs ++ two n).length ≤ 500000000 := by rw [List.length_append, two_len]; omega
  generalize bs ++ two n = G at *
  clear s1 h
  go_wp2_with fail
  refine (put3_calls _ o r1 G (.slice va vn vc) P (HP.out.below B1.out) hok hpn h1 lG).mono ?_
  rintro e V2 ⟨rfl, r2, h2, s2⟩
  have F := Lib.hid (show Put w o r (G ++ propsL P) V2 from ⟨r2, h2, S1.out.trans s2⟩)
  clear h1 h2 s2 S1 B1
  go_wp2
  go_end0
  exact ⟨rfl, F.out⟩

set_option maxRecDepth 100000 in
set_option maxHeartbeats 4000000 in
theorem stext_calls (w : World) (n : Int) (ps : List Pr) (L : List Sb) (va : Option Addr) (vn vc : Nat) (ua : Option Addr) (uc : Nat) (n0 : 0 ≤ n) (n1 : n < 4294967296) (okp : ∀ p ∈ ps, p.ok) (hpn : ps.length ≤ 1000) (okl : ∀ c ∈ L, c.ok) (hln : L.length ≤ 1000) (hv : PropsAt w (.slice va vn vc) ps) (hu : SubsAt w (.slice ua L.length uc) L) :
    Calls Tryd.prog 67 #[.agg #[.int .u32 n, .slice va vn vc, .slice ua L.length uc]] w fun e w' => e = .returned (.string (str (subscL n ps L))) ∧ Below w.heap.size w w' := by
  have T0 := Lib.hid (Tx.start w 107 #[.int .u32 n, .slice va vn vc, .slice ua L.length uc])
  have HV := Lib.hid hv
  have l1 := propsL_len ps okp hpn
  have HOK := Lib.hid okl
  have l2 := subsL_len L okl
  obtain ⟨ua', uc', hue, hcl⟩ := hu
  injection hue with e1 e2 e3
  subst e1 e3
  have HCL := Lib.hid hcl
  generalize hRS : str (subscL n ps L) = RS
  have HRS := Lib.hid hRS
  clear hv okl hcl e2 hRS
  go_enter Tryd.func67, Tryd.ntmps67
  go_wp2_with fail
  generalize (w.alloc (.cells #[.int .u32 n, .slice va vn vc, .slice ua L.length uc] 107)).alloc (.cells #[.slice none 0 0] 57) = W0 at *
  obtain ⟨d0, d1, d2, df⟩ := cells3 T0.out.box
  go_wp2_with fail
  refine (putHead_calls w _ (w.heap.size + 1) none [] n n0 n1 va vn vc ps HV.out T0.out.bel (by omega) (fun g hg => by cases hg) okp hpn T0.out.out (by simp)).mono ?_
  rintro e V1 ⟨rfl, r1, h1, s1⟩
  have T1 := Lib.hid (T0.out.put h1 s1)
  have lH : ([] ++ two n ++ propsL ps).length ≤ 140000010 := by rw [List.length_append, List.nil_append, two_len]; omega
  generalize hHH : [] ++ two n ++ propsL ps = HHL at *
  have HHH := Lib.hid hHH
  clear h1 s1 d0 d1 d2 df T0 hHH
  obtain ⟨d0, d1, d2, df⟩ := cells3 T1.out.box
  go_wp2_with fail
  clear d0 d1 d2 df
  go_loopw [14] (fun j wr => ∃ (k : Nat) (r : Option Nat), k ≤ L.length ∧ j = .int .i64 k ∧ Tx w 107 #[.int .u32 n, .slice va vn vc, .slice ua L.length uc] r (HHL ++ subsL (L.take k)) wr) (fun j _ => L.length - (intOf j).toNat)
  case atStart => exact ⟨0, r1, by omega, rfl, by simpa [subsL] using T1.out⟩
  case round =>
    obtain ⟨k, r, hk, rfl, hT⟩ := hrel
    have T2 := Lib.hid hT
    clear hT T1
    by_cases hlt : k < L.length
    · obtain ⟨x, hx⟩ : ∃ x, L[k]? = some x := ⟨_, List.getElem?_eq_getElem hlt⟩
      obtain ⟨b, off, hA, hbl, c0, c1, c2, c3, c4⟩ := HCL.out k x hx
      rw [← T2.out.bel.cell (p := ⟨b, _, none⟩) hbl] at c0 c1 c2 c3 c4
      subst hA
      have hsn := subsL_snoc L k x hx
      have hxo := HOK.out x (List.mem_of_getElem? hx)
      have hopt := optN_range x hxo
      have hbl2 : b < wr.heap.size := Nat.lt_of_lt_of_le hbl T2.out.bel.size
      have hltI : (k : Int) < L.length := by omega
      have lk : (subsL (L.take k)).length ≤ 65538 * L.length := Nat.le_trans (subsL_len _ (fun c hc => HOK.out c (List.mem_of_mem_take hc))) (Nat.mul_le_mul_left _ (by rw [List.length_take]; omega))
      have lG : (HHL ++ subsL (L.take k)).length ≤ 300000000 := by rw [List.length_append]; omega
      generalize hBS : HHL ++ subsL (L.take k) = BS at *
      have HNX := Lib.hid (show HHL ++ subsL (L.take (k + 1)) = BS ++ sbL x from by rw [hsn, ← hBS, List.append_assoc])
      have HOP := Lib.hid (fun W => options_calls W x hxo.h0 hxo.h1)
      have hzf := hxo.f
      unfold sbL at HNX
      clear hsn hBS hx hxo
      generalize optN x = ON at *
      obtain ⟨xf, xq, xn, xa, xh⟩ := x
      dsimp only at *
      obtain ⟨ho0, ho1⟩ := hopt
      have TA := Lib.hid ((T2.out.below (below_one wr (.cells #[.string xf, .int .u8 xq, .bool xn, .bool xa, .int .u8 xh] 189))))
      have LA := Lib.hid (heap_alloc_new wr (.cells #[.string xf, .int .u8 xq, .bool xn, .bool xa, .int .u8 xh] 189))
      have hsz : w.heap.size + 1 < wr.heap.size := T2.out.out.lt
      have hrn : some wr.heap.size ≠ r := fun e => by have := T2.out.out.row_lt _ e.symm; omega
      go_wp2_with fail
      clear c0 c1 c2 c3 c4 T2
      generalize wr.alloc (.cells #[.string xf, .int .u8 xq, .bool xn, .bool xa, .int .u8 xh] 189) = WA at *
      generalize wr.heap.size = sb at *
      have hsa := lt_of_block LA.out
      have L0 := Lib.hid (show WA.drew.heap[sb]? = some (.cells #[.string xf, .int .u8 xq, .bool xn, .bool xa, .int .u8 xh] 189 (0, 0)) from LA.out)
      have TD := Lib.hid (show Tx w 107 #[.int .u32 n, .slice va vn vc, .slice (some ⟨b, off, none⟩) L.length uc] r BS WA.drew from ⟨TA.out.box, TA.out.out, TA.out.bel.drew, TA.out.row⟩)
      have KC := Lib.hid (show ∀ V : World, V.heap[sb]? = some (.cells #[.string xf, .int .u8 xq, .bool xn, .bool xa, .int .u8 xh] 189 (0, 0)) → V.cell? ⟨sb, 0, none⟩ = some (.string xf) ∧ V.cell? ⟨sb, 1, none⟩ = some (.int .u8 xq) ∧ V.cell? ⟨sb, 2, none⟩ = some (.bool xn) ∧ V.cell? ⟨sb, 3, none⟩ = some (.bool xa) ∧ V.cell? ⟨sb, 4, none⟩ = some (.int .u8 xh) from fun V h => by obtain ⟨d0, d1, d2, d3, d4, df⟩ := cells5 h; exact ⟨d0, d1, d2, d3, d4⟩)
      have lG2 : (BS ++ datL xf).length < 1000000000 := by have := datL_len xf hzf; rw [List.length_append]; omega
      have HLG := Lib.hid lG2
      clear lG2
      go_region_held3 (fun V => V.cell? ⟨sb, 0, none⟩ = some (.string xf) ∧ V.cell? ⟨sb, 1, none⟩ = some (.int .u8 xq) ∧ V.cell? ⟨sb, 2, none⟩ = some (.bool xn) ∧ V.cell? ⟨sb, 3, none⟩ = some (.bool xa) ∧ V.cell? ⟨sb, 4, none⟩ = some (.int .u8 xh))
        (first | (with_reducible exact KC.out _ L0.out) | (with_reducible exact KC.out _ L1.out) | (with_reducible exact KC.out _ L2.out) | (with_reducible exact KC.out _ L3.out) | fail)
        (first
          | (go_at_call 115; (with_reducible refine (data_calls _ (w.heap.size + 1) r BS xf TD.out.out hzf (by omega)).mono ?_); rintro e V1 ⟨rfl, r1', h1, s1⟩; have T3 := Lib.hid (TD.out.put (bs' := BS ++ datL xf) h1 s1); have L1 := Lib.hid ((s1.block sb hsa (by omega) hrn).trans L0.out); have hr1 := row_far s1 hsa hrn; clear h1 s1)
          | (go_at_call 139; (with_reducible refine (HOP.out _).mono ?_); rintro e V2 ⟨rfl, b2⟩; have T4 := Lib.hid (T3.out.below b2); have L2 := Lib.hid ((b2.block _ (lt_of_block L1.out)).trans L1.out); clear b2)
          | (go_at_call 116; (with_reducible refine (byte_calls _ (w.heap.size + 1) r1' (BS ++ datL xf) ON ho0 ho1 T4.out.out HLG.out).mono ?_); rintro e V3 ⟨rfl, r3', h3, s3⟩; have T5 := Lib.hid (T4.out.put h3 s3); have L3 := Lib.hid ((s3.block sb (lt_of_block L2.out) (by omega) hr1).trans L2.out); clear h3 s3))
      go_wp2
      go_roundw
      case rel => exact ⟨k + 1, r3', by omega, by go_num, by rw [HNX.out, ← List.append_assoc]; exact T5.out⟩
      case measure => simp [intOf]; omega
    · obtain rfl : k = L.length := by omega
      rw [List.take_length] at T2
      have BF := Lib.hid T2.out.bel
      go_wp2_with fail
      refine (text_calls _ (w.heap.size + 1) r _ T2.out.out).mono ?_
      rintro e w9 ⟨rfl, rfl⟩
      clear T2
      go_wp2
      go_ret
      refine ⟨?_, BF.out⟩
      rw [← HRS.out, ← HHH.out]
      rfl

#print axioms stext_calls
end Go.Proofs.YtephoadjnmmbnaaDoor
