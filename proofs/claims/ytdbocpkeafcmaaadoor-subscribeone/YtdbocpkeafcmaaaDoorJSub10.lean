/-
  Text of an unsubscribe; what was read is what is put. (No statement: contracts that the proofs of the statements use.)
-/
import Derived.Test.YtdbocpkeafcmaaaDoorJSub8
import Derived.Test.YtdbocpkeafcmaaaDoorJSub9
namespace Go.Proofs.YtdbocpkeafcmaaaDoor
open Go.RowKit

/-- A slice that reads as a list of strings. -/
def FilsAt (W : World) (v : Value) (L : List ByteArray) : Prop :=
  ∃ A cap, v = .slice A L.length cap ∧ ∀ (i : Nat) (x : ByteArray), L[i]? = some x → ∃ b off, A = some ⟨b, off, none⟩ ∧ b < W.heap.size ∧ W.cell? ⟨b, off + i, none⟩ = some (.string x)
theorem OwnF.at {B : Nat} {w : World} {v : Value} {L : List ByteArray} (h : OwnF B w v L) : FilsAt w v L := by
  rcases h.2 with ⟨rfl, h0⟩ | ⟨g, cap, cur, rfl, _, hg, hrest⟩
  · have : L = [] := List.eq_nil_of_length_eq_zero h0
    subst this
    exact ⟨none, 0, rfl, fun i x hx => by simp at hx⟩
  · refine ⟨_, cap, rfl, fun i x hx => ⟨g, 0, rfl, lt_of_block hg, ?_⟩⟩
    have hi : i < L.length := (List.getElem?_eq_some_iff.1 hx).1
    have := World.ownsRow.cellAt h i (by omega)
    rw [Nat.zero_add, this, List.getElem?_map, hx]
    rfl
theorem FilsAt.below {W W' : World} {v : Value} {L : List ByteArray} (h : FilsAt W v L) (hb : Below W.heap.size W W') : FilsAt W' v L := by
  obtain ⟨A, cap, rfl, hc⟩ := h
  refine ⟨A, cap, rfl, fun i x hx => ?_⟩
  obtain ⟨b, off, hA, hl, c0⟩ := hc i x hx
  exact ⟨b, off, hA, Nat.lt_of_lt_of_le hl hb.size, (hb.cell (p := ⟨b, _, none⟩) hl).trans c0⟩

def filsL (L : List ByteArray) : List UInt8 := L.flatMap datL
def unsubL (n : Int) (ps : List Pr) (L : List ByteArray) : List UInt8 := [] ++ two n ++ propsL ps ++ filsL L
theorem filsL_snoc (L : List ByteArray) (k : Nat) (x : ByteArray) (h : L[k]? = some x) : filsL (L.take (k + 1)) = filsL (L.take k) ++ datL x := by
  obtain ⟨hk, rfl⟩ := List.getElem?_eq_some_iff.1 h
  unfold filsL
  rw [List.take_succ_eq_append_getElem hk, List.flatMap_append]
  simp
theorem filsL_len (L : List ByteArray) (h : ∀ c ∈ L, c.size ≤ 65535) : (filsL L).length ≤ 65538 * L.length := by
  induction L with
  | nil => simp [filsL]
  | cons c L ih =>
    have h1 := datL_len c (h c (by simp))
    have h2 := ih (fun x hx => h x (by simp [hx]))
    have e : (filsL (c :: L)).length = (datL c).length + (filsL L).length := by simp [filsL]
    rw [e, List.length_cons]
    omega

set_option maxRecDepth 100000 in
set_option maxHeartbeats 4000000 in
theorem untext_calls (w : World) (n : Int) (ps : List Pr) (L : List ByteArray) (va : Option Addr) (vn vc : Nat) (ua : Option Addr) (uc : Nat) (n0 : 0 ≤ n) (n1 : n < 4294967296) (okp : ∀ p ∈ ps, p.ok) (hpn : ps.length ≤ 1000) (okl : ∀ c ∈ L, c.size ≤ 65535) (hln : L.length ≤ 1000) (hv : PropsAt w (.slice va vn vc) ps) (hu : FilsAt w (.slice ua L.length uc) L) :
    Calls Tryd.prog 85 #[.agg #[.int .u32 n, .slice va vn vc, .slice ua L.length uc]] w fun e w' => e = .returned (.string (str (unsubL n ps L))) ∧ Below w.heap.size w w' := by
  have T0 := Lib.hid (Tx.start w 129 #[.int .u32 n, .slice va vn vc, .slice ua L.length uc])
  have HV := Lib.hid hv
  have l1 := propsL_len ps okp hpn
  have HOK := Lib.hid okl
  have l2 := filsL_len L okl
  obtain ⟨ua', uc', hue, hcl⟩ := hu
  injection hue with e1 e2 e3
  subst e1 e3
  have HCL := Lib.hid hcl
  generalize hRS : str (unsubL n ps L) = RS
  have HRS := Lib.hid hRS
  clear hv okl hcl e2 hRS
  go_enter Tryd.func85, Tryd.ntmps85
  go_wp2_with fail
  generalize (w.alloc (.cells #[.int .u32 n, .slice va vn vc, .slice ua L.length uc] 129)).alloc (.cells #[.slice none 0 0] 48) = W0 at *
  obtain ⟨d0, d1, d2, df⟩ := cells3 T0.out.box
  go_wp2_with fail
  refine (putHead_calls w _ (w.heap.size + 1) none [] n n0 n1 va vn vc ps HV.out T0.out.bel (by omega) (fun g hg => by cases hg) okp hpn T0.out.out (by simp)).mono ?_
  rintro e V1 ⟨rfl, r1, h1, s1⟩
  have T1 := Lib.hid (T0.out.put h1 s1)
  have lH : ([] ++ two n ++ propsL ps).length ≤ 140000010 := by rw [List.length_append, List.nil_append, two_len]; omega
  generalize hHH : [] ++ two n ++ propsL ps = HHL at *
  have HHH := Lib.hid hHH
  clear h1 s1 d0 d1 d2 df T0 hHH
  obtain ⟨d0, d1, d2, df⟩ := cells3 T1.out.box
  go_wp2_with fail
  clear d0 d1 d2 df
  go_loopw [5, 14] (fun _ j wr => ∃ (k : Nat) (r : Option Nat), k ≤ L.length ∧ j = .int .i64 k ∧ Tx w 129 #[.int .u32 n, .slice va vn vc, .slice ua L.length uc] r (HHL ++ filsL (L.take k)) wr) (fun _ j _ => L.length - (intOf j).toNat)
  case atStart => exact ⟨0, r1, by omega, rfl, by simpa [filsL] using T1.out⟩
  case round =>
    obtain ⟨k, r, hk, rfl, hT⟩ := hrel
    have T2 := Lib.hid hT
    clear hT T1
    by_cases hlt : k < L.length
    · obtain ⟨x, hx⟩ : ∃ x, L[k]? = some x := ⟨_, List.getElem?_eq_getElem hlt⟩
      obtain ⟨b, off, hA, hbl, c0⟩ := HCL.out k x hx
      rw [← T2.out.bel.cell (p := ⟨b, _, none⟩) hbl] at c0
      subst hA
      have hsn := filsL_snoc L k x hx
      have hzf := HOK.out x (List.mem_of_getElem? hx)
      have hbl2 : b < wr.heap.size := Nat.lt_of_lt_of_le hbl T2.out.bel.size
      have hltI : (k : Int) < L.length := by omega
      have lk : (filsL (L.take k)).length ≤ 65538 * L.length := Nat.le_trans (filsL_len _ (fun c hc => HOK.out c (List.mem_of_mem_take hc))) (Nat.mul_le_mul_left _ (by rw [List.length_take]; omega))
      have lG : (HHL ++ filsL (L.take k)).length ≤ 300000000 := by rw [List.length_append]; omega
      generalize hBS : HHL ++ filsL (L.take k) = BS at *
      have HNX := Lib.hid (show HHL ++ filsL (L.take (k + 1)) = BS ++ datL x from by rw [hsn, ← hBS, List.append_assoc])
      clear hsn hBS hx
      go_wp2_with fail
      refine (data_calls _ (w.heap.size + 1) r BS x T2.out.out hzf (by omega)).mono ?_
      rintro e V1 ⟨rfl, r1', h1, s1⟩
      have T3 := Lib.hid (T2.out.put (bs' := BS ++ datL x) h1 s1)
      clear h1 s1 T2 c0
      go_wp2
      go_roundw
      case rel => exact ⟨k + 1, r1', by omega, by go_num, by rw [HNX.out]; exact T3.out⟩
      case measure => simp [intOf]; omega
    · obtain rfl : k = L.length := by omega
      rw [List.take_length] at T2
      have BF := Lib.hid T2.out.bel
      go_wp2_with fail
      refine (text_calls _ (w.heap.size + 1) r _ T2.out.out).mono ?_
      rintro e w9 ⟨rfl, rfl⟩
      clear T2
      go_wp2
      go_ret
      refine ⟨?_, BF.out⟩
      rw [← HRS.out, ← HHH.out]
      rfl

theorem end_zero {s : ByteArray} {x : Int} (h : endT s x = 0) : x = 0 ∧ s.size = 0 := by
  unfold endT at h
  split at h
  · omega
  · omega
theorem head_inv {k : Int} {body : ByteArray} {n : Int} {ps : List Pr} {s1 t1 : ByteArray} {y1 y2 : Int} (h : HeadOf k body 0 n ps s1 0 t1 y1 y2) : body.data.toList = two n ++ propsL ps ++ s1.data.toList ∧ 0 ≤ n ∧ n < 65536 ∧ (∀ p ∈ ps, p.ok) ∧ ps.length ≤ body.size ∧ s1.size ≤ body.size := by
  obtain ⟨hi, hp, he⟩ := h
  have hy2 : y2 = 0 := by
    split at he
    · unfold failed at he
      split at he <;> omega
    · exact he
  subst hy2
  obtain ⟨rfl, e2, okp, pn⟩ := take_invX hp
  unfold idT at hi
  rcases hr2 : rawT body 0 2 with ⟨t, s', x'⟩
  rw [hr2] at hi
  dsimp only at hi
  injection hi with a1 hi
  injection hi with a2 a3
  subst a1 a2
  split at a3
  · exfalso
    unfold failed at a3
    split at a3 <;> omega
  · subst a3
    obtain ⟨-, e1, z1⟩ := raw_invX (n := 2) hr2
    obtain ⟨f1, f2⟩ := num2_inv _ z1
    have l1 := congrArg List.length e1
    have l2 := congrArg List.length e2
    rw [List.length_append, z1, ba_size, ba_size] at l1
    rw [List.length_append, ba_size, ba_size] at l2
    rw [ba_size] at pn
    refine ⟨?_, by omega, by omega, okp, by omega, by omega⟩
    rw [e1, f1, e2, List.append_assoc]

theorem opt_good : ∀ k : Fin 256, subX2 (bits .and .u8 (k.val : Int) 3) (bits .and .u8 ((k.val : Int) / 16) 3) (subX1 (k.val : Int) 0) = 0 → optN (sbOf ⟨#[]⟩ (k.val : Int)) = (k.val : Int) ∧ 0 ≤ (sbOf ⟨#[]⟩ (k.val : Int)).q ∧ (sbOf ⟨#[]⟩ (k.val : Int)).q < 256 ∧ 0 ≤ (sbOf ⟨#[]⟩ (k.val : Int)).h ∧ (sbOf ⟨#[]⟩ (k.val : Int)).h < 256 := by decide +kernel
theorem subX_keeps (q h b x : Int) (e : subX2 q h (subX1 b x) = 0) : x = 0 := by
  unfold subX2 subX1 failed at e
  split at e
  · split at e
    · split at e <;> omega
    · omega
  · split at e
    · split at e
      · split at e <;> omega
      · omega
    · split at e
      · split at e <;> omega
      · exact e
theorem step_inv8 {s s' : ByteArray} {c : Sb} (h : stepS s 0 = (c, s', 0)) : s.data.toList = sbL c ++ s'.data.toList ∧ c.ok := by
  rcases hf : strT s 0 with ⟨f, s1, x1⟩
  rcases ht : rawT s1 x1 1 with ⟨t, s2, x2⟩
  unfold stepS at h
  rw [hf] at h
  dsimp only at h
  rw [ht] at h
  dsimp only at h
  injection h with g1 h
  injection h with g2 g3
  subst g1 g2
  have hx2 := subX_keeps _ _ _ _ g3
  subst hx2
  obtain ⟨rfl, e1, z1⟩ := raw_invX (n := 1) ht
  obtain ⟨-, e0, z0⟩ := str_invX hf
  obtain ⟨f1, f2⟩ := num1_inv _ z1
  obtain ⟨o1, o2, o3, o4, o5⟩ := opt_good ⟨numL t.data.toList, f2⟩ g3
  dsimp only at o1 o2 o3 o4 o5
  have ho : optN (sbOf f (numL t.data.toList)) = optN (sbOf ⟨#[]⟩ (numL t.data.toList)) := rfl
  refine ⟨?_, ⟨z0, o2, o3, o4, o5⟩⟩
  unfold sbL
  rw [ho, o1, e0, e1]
  have f3 : [UInt8.ofNat (numL t.data.toList : Int).toNat] = t.data.toList := by
    have e : ((numL t.data.toList : Int) % 256).toNat = (numL t.data.toList : Int).toNat := by omega
    rw [← e]
    exact f1
  rw [f3, List.append_assoc]
  rfl
theorem run_inv8 : ∀ (m : Nat) (acc : List Sb) (s : ByteArray) (x : Int) (R : List Sb) (s2 : ByteArray), mS s x ≤ m → s2.size = 0 → runA8 acc s x = (R, s2, 0) → x = 0 ∧ ∃ L, R = acc ++ L ∧ s.data.toList = subsL L ∧ (∀ c ∈ L, c.ok) ∧ L.length ≤ s.size
  | m, acc, s, x, R, s2, hm, hz, h => by
    by_cases hc : x = 0 ∧ s.size ≠ 0
    · obtain ⟨rfl, hs⟩ := hc
      have hlt := mS_lt s hs
      rw [runA8_step acc s hs] at h
      match m, hm with
      | 0, hm => omega
      | m + 1, hm =>
        obtain ⟨hx', L, e1, e2, ok, ln⟩ := run_inv8 m _ _ _ R s2 (by omega) hz h
        rcases hst : stepS s 0 with ⟨c, s', x'⟩
        rw [hst] at hx' e1 e2 ln hlt
        dsimp only at hx' e1 e2 ln hlt
        subst hx'
        obtain ⟨f1, f2⟩ := step_inv8 hst
        refine ⟨rfl, c :: L, by rw [e1]; simp, by rw [f1, e2]; rfl, ?_, ?_⟩
        · intro y hy
          rcases List.mem_cons.1 hy with rfl | hy
          · exact f2
          · exact ok y hy
        · unfold mS at hlt
          rw [if_pos rfl] at hlt
          rw [List.length_cons]
          omega
    · rw [runA8_done acc s x hc] at h
      injection h with h1 h
      injection h with h2 h3
      subst h1 h2 h3
      exact ⟨rfl, [], by simp, List.eq_nil_of_length_eq_zero (by rw [ba_size]; exact hz), (fun c hc => by cases hc), Nat.zero_le _⟩
theorem run_invF : ∀ (m : Nat) (acc : List ByteArray) (s : ByteArray) (x : Int) (R : List ByteArray) (s2 : ByteArray), mS s x ≤ m → s2.size = 0 → runF acc s x = (R, s2, 0) → x = 0 ∧ ∃ L, R = acc ++ L ∧ s.data.toList = filsL L ∧ (∀ c ∈ L, c.size ≤ 65535) ∧ L.length ≤ s.size
  | m, acc, s, x, R, s2, hm, hz, h => by
    by_cases hc : x = 0 ∧ s.size ≠ 0
    · obtain ⟨rfl, hs⟩ := hc
      have hlt := mF_lt s hs
      rw [runF_step acc s hs] at h
      match m, hm with
      | 0, hm => omega
      | m + 1, hm =>
        obtain ⟨hx', L, e1, e2, ok, ln⟩ := run_invF m _ _ _ R s2 (by omega) hz h
        rcases hst : strT s 0 with ⟨c, s', x'⟩
        rw [hst] at hx' e1 e2 ln hlt
        dsimp only at hx' e1 e2 ln hlt
        subst hx'
        obtain ⟨-, f1, f2⟩ := str_invX hst
        refine ⟨rfl, c :: L, by rw [e1]; simp, by rw [f1, e2]; rfl, ?_, ?_⟩
        · intro y hy
          rcases List.mem_cons.1 hy with rfl | hy
          · exact f2
          · exact ok y hy
        · unfold mS at hlt
          rw [if_pos rfl] at hlt
          rw [List.length_cons]
          omega
    · rw [runF_done acc s x hc] at h
      injection h with h1 h
      injection h with h2 h3
      subst h1 h2 h3
      exact ⟨rfl, [], by simp, List.eq_nil_of_length_eq_zero (by rw [ba_size]; exact hz), (fun c hc => by cases hc), Nat.zero_le _⟩

#print axioms untext_calls
#print axioms run_invF
end Go.Proofs.YtdbocpkeafcmaaaDoor
