/-
  A publish, an answer: there and back; awake of layer 7's statements. (No statement: what the proofs of the statements use.)
-/
import Derived.Test.YtacffjimkplieaaDoorJPub2
import Derived.Test.YtacffjimkplieaaDoorJPub3
import Derived.Test.YtacffjimkplieaaDoorJPub5
namespace Go.Proofs.YtacffjimkplieaaDoor
open Go.RowKit

theorem PropsAt.nil (w : World) (cap : Nat) : PropsAt w (.slice none 0 cap) [] := ⟨none, cap, rfl, fun i x hx => by simp at hx⟩

theorem take_nil (q : Int) (tail : List UInt8) : takeR q (str (propsL [] ++ tail)) 0 = ([], str tail, 0) := by
  have h := take_back q [] tail (by decide)
  rw [h]
  rfl
theorem take_nil1 (q : Int) (tail : List UInt8) : takeR q (str (0 :: tail)) 0 = ([], str tail, 0) := take_nil q tail
theorem rest_back (l : List UInt8) : rawT (str l) 0 ((str l).size : Int) = (str l, str [], 0) := by
  have h := rawT_app l [] (l.length : Int) rfl
  rw [List.append_nil] at h
  rw [str_size]
  exact h
theorem id_back (n : Int) (l : List UInt8) (h0 : 1 ≤ n) (h1 : n ≤ 65535) : idT (str (two n ++ l)) 0 = (n, str l, 0) := by
  unfold idT
  rw [rawT_app (two n) l 2 rfl]
  dsimp only
  rw [str_data]
  have e := numL_two n (by omega)
  have e2 : n % 65536 = n := by omega
  rw [e2] at e
  rw [e, if_neg (by omega)]
theorem id_zero (l : List UInt8) : idT (str (two 0 ++ l)) 0 = (0, str l, 3) := by
  unfold idT
  rw [rawT_app (two 0) l 2 rfl]
  dsimp only
  rw [str_data]
  have e := numL_two 0 (by omega)
  have e2 : (numL (two 0)) = 0 := by omega
  rw [e2]
  rfl
theorem code_back (k c : Int) (l : List UInt8) (h0 : 0 ≤ c) (h1 : c < 256) (hm : mayB k c = true) : codeT k (str ([UInt8.ofNat c.toNat] ++ l)) 0 = (c, str l, 0) := by
  unfold codeT
  rw [rawT_app [UInt8.ofNat c.toNat] l 1 rfl]
  dsimp only
  rw [str_data, numL_one, ofNat_toNat _ h0 h1, if_pos hm]

/-- A Publish goes as a body, and comes back. -/
theorem pub_back (c : Pb) (ok : c.ok) (hg : goodB c.tp = true) (hi0 : c.q = 0 → c.id = 0) (hi1 : c.q ≠ 0 → 1 ≤ c.id ∧ c.id ≤ 65535) (hp : ∀ tail, takeR (placeN 3 false) (str (propsL c.ps ++ tail)) 0 = (c.ps, str tail, 0)) :
    ∃ s1 x1 s2 x2 s3 x3 s4 x4, PubOf (str (pubL c)) c.q c.tp c.id c.ps c.pl 0 s1 x1 s2 x2 s3 x3 s4 x4 := by
  have hl : rawT (str c.pl.data.toList) 0 ((str c.pl.data.toList).size : Int) = (c.pl, str [], 0) := by rw [rest_back, ← ba_str]
  unfold pubL
  by_cases hq : c.q = 0
  · have hqb : (c.q != 0) = false := by simpa using hq
    rw [hqb, if_neg (by simp), List.nil_append, List.append_nil, List.append_assoc]
    refine ⟨_, _, _, _, _, _, _, _, str_back c.tp _ ok.tp hg, ?_, hp _, hl, rfl⟩
    unfold idP
    rw [if_pos hq, hi0 hq]
  · have hqb : (c.q != 0) = true := by simpa using hq
    rw [hqb, if_pos rfl, List.nil_append, List.append_assoc, List.append_assoc]
    refine ⟨_, _, _, _, _, _, _, _, str_back c.tp _ ok.tp hg, ?_, hp _, hl, rfl⟩
    unfold idP
    rw [if_neg hq]
    exact id_back c.id _ (hi1 hq).1 (hi1 hq).2

/-- An answer goes as a body, and comes back. -/
theorem pack_back (c : Pk) (ok : c.ok) (hi0 : 1 ≤ c.id) (hi1 : c.id ≤ 65535) (hm : mayB c.k c.code = true) (hp : c.ps ≠ [] → ∀ tail, takeR (placeN c.k false) (str (propsL c.ps ++ tail)) 0 = (c.ps, str tail, 0)) :
    ∃ s1 x1 s2 x2 s3 x3, PackOf c.k (str (packL c)) c.id c.code c.ps 0 s1 x1 s2 x2 s3 x3 := by
  obtain ⟨k, i, cd, ps⟩ := c
  have c0 := ok.c0
  have c1 := ok.c1
  dsimp only at *
  unfold packL
  dsimp only
  cases hps : ps with
  | nil =>
    rw [List.nil_append, if_pos (show ([] : List Pr).length = 0 from rfl), List.append_nil]
    by_cases hc : cd = 0
    · subst hc
      rw [if_neg (by simp), List.append_nil]
      have hid := id_back i [] hi0 hi1
      rw [List.append_nil] at hid
      exact ⟨_, _, _, _, _, _, hid, rfl, rfl, rfl⟩
    · rw [if_pos (.inl (by simpa using hc))]
      refine ⟨_, _, str [], 0, _, _, id_back i _ hi0 hi1, ?_, rfl, rfl⟩
      have := code_back k cd [] c0 c1 hm
      rw [List.append_nil] at this
      unfold codeP
      rw [if_neg (by rw [str_size]; simp)]
      exact this
  | cons y ys =>
    rw [List.nil_append, if_pos (.inr (by simp)), if_neg (by simp), List.append_assoc]
    have hne : (propsL (y :: ys)).length ≠ 0 := by
      have : (varb 3 (bodyL (y :: ys)).length).length ≠ 0 := by rw [varb]; split <;> simp
      unfold propsL
      rw [List.length_append]
      omega
    refine ⟨_, _, str (propsL (y :: ys)), 0, str [], 0, id_back i _ hi0 hi1, ?_, ?_, rfl⟩
    · unfold codeP
      rw [if_neg (by rw [str_size]; simp)]
      exact code_back k cd _ c0 c1 hm
    · unfold propP
      rw [if_neg (by rw [str_size]; exact hne)]
      have := hp (by rw [hps]; simp) []
      rw [hps, List.append_nil] at this
      exact this

/-- What was read is what is put. -/
theorem pub_inv {body : ByteArray} {Q : Int} {tp : ByteArray} {n : Int} {ps : List Pr} {pl s1 : ByteArray} {x1 : Int} {s2 : ByteArray} {x2 : Int} {s3 : ByteArray} {x3 : Int} {s4 : ByteArray} {x4 : Int}
    (h : PubOf body Q tp n ps pl 0 s1 x1 s2 x2 s3 x3 s4 x4) (D R : Bool) (hl : body.size ≤ 1000) (hq0 : 0 ≤ Q) (hq3 : Q ≤ 3) : body = str (pubL ⟨D, R, Q, n, ps, tp, pl⟩) ∧ (Pb.mk D R Q n ps tp pl).ok := by
  obtain ⟨ht, hi, hp, hr, he⟩ := h
  have hx : x4 = 0 ∧ s4.size = 0 := by
    unfold endT at he
    split at he
    · omega
    · omega
  obtain ⟨rfl, hz⟩ := hx
  obtain ⟨rfl, e3, z3⟩ := raw_invX (n := s3.size) hr
  obtain ⟨rfl, e2, okp, pn⟩ := take_invX hp
  have hten : s4.data.toList = [] := List.eq_nil_of_length_eq_zero (by rw [ba_size]; exact hz)
  rw [hten, List.append_nil] at e3
  have hb : body.data.toList.length ≤ 1000 := by rw [ba_size]; exact hl
  have key : x1 = 0 ∧ s1.data.toList = (if (Q != 0) = true then two n else []) ++ s2.data.toList ∧ 0 ≤ n ∧ n < 65536 := by
    unfold idP at hi
    split at hi
    · rename_i hq
      injection hi with a1 hi
      injection hi with a2 a3
      subst a1 a2 a3
      have hqb : (Q != 0) = false := by simpa using hq
      rw [hqb, if_neg (by simp)]
      exact ⟨rfl, rfl, by omega, by omega⟩
    · rename_i hq
      have hqb : (Q != 0) = true := by simpa using hq
      rw [hqb, if_pos rfl]
      unfold idT at hi
      rcases hr2 : rawT s1 x1 2 with ⟨t, s', x'⟩
      rw [hr2] at hi
      dsimp only at hi
      injection hi with a1 hi
      injection hi with a2 a3
      subst a1 a2
      split at a3
      · exfalso
        unfold failed at a3
        split at a3 <;> omega
      · subst a3
        obtain ⟨rfl, e1, z1⟩ := raw_invX (n := 2) hr2
        obtain ⟨f1, f2⟩ := num2_inv _ z1
        exact ⟨rfl, by rw [f1]; exact e1, by omega, by omega⟩
  obtain ⟨rfl, e1, n0, n1⟩ := key
  obtain ⟨-, e0, z0⟩ := str_invX ht
  have l0 := congrArg List.length e0
  have l1 := congrArg List.length e1
  have l2 := congrArg List.length e2
  have l3 := congrArg List.length e3
  rw [List.length_append] at l0 l1 l2
  refine ⟨?_, ?_⟩
  · rw [ba_str body]
    congr 1
    unfold pubL
    dsimp only
    rw [e0, e1, e2, e3]
    simp only [List.append_assoc, List.nil_append]
  · have hpz : pl.size ≤ 65535 := by rw [← ba_size]; omega
    exact ⟨hq0, by dsimp only; omega, n0, by dsimp only; omega, z0, hpz, okp, by dsimp only; omega⟩

/-- The Publish of awake. -/
def aw7 : Pb := ⟨false, false, 1, 5, [], ⟨#[97]⟩, ⟨#[120]⟩⟩
theorem aw7_ok : aw7.ok := ⟨by decide, by decide, by decide, by decide, by decide, by decide, (fun p hp => by cases hp), by decide⟩
theorem aw7_text : str (pubL aw7) = ⟨#[0, 1, 97, 0, 5, 0, 120]⟩ := by decide +kernel
theorem aw7_flags : pflags 1 false false = 2 := by decide +kernel
def ak7 : Pk := ⟨4, 5, 0, []⟩
theorem ak7_ok : ak7.ok := ⟨by decide, by decide, by decide, by decide, (fun p hp => by cases hp), by decide⟩
theorem ak7_text : str (packL ak7) = ⟨#[0, 5]⟩ := by decide +kernel
theorem f2 : fQua 2 = 1 ∧ fDup 2 = false ∧ fRet 2 = false := by decide +kernel

set_option maxRecDepth 100000 in
set_option maxHeartbeats 4000000 in
theorem awake7_calls (w : World) (hT : Tabs w) : Calls Tryd.prog 28 #[] w fun e w' => e = .returned (.bool true) ∧ Below w.heap.size w w' := by
  obtain ⟨s1, x1, s2, x2, s3, x3, s4, x4, hof⟩ := pub_back aw7 aw7_ok (by decide +kernel) (fun h => absurd h (by decide)) (fun _ => by decide) (fun tail => take_nil _ tail)
  rw [aw7_text] at hof
  have HP := Lib.hid (show ∀ w, Tabs w → Calls Tryd.prog 30 #[.int .i64 2, .string ⟨#[0, 1, 97, 0, 5, 0, 120]⟩] w (PubR w aw7 0) from fun w hT => pub_calls w 2 _ hT (by rw [f2.1]; decide) (by rw [f2.1]; decide) (by rw [f2.1]; exact hof) aw7 (by rw [f2.1, f2.2.1, f2.2.2]; rfl))
  have HX := Lib.hid (show ∀ w, Calls Tryd.prog 40 #[.agg #[.bool false, .bool false, .int .u8 1, .int .u32 5, .slice none 0 0, .string ⟨#[97]⟩, .string ⟨#[120]⟩]] w (fun e w' => e = .returned (.string ⟨#[0, 1, 97, 0, 5, 0, 120]⟩) ∧ Below w.heap.size w w') from fun w => by have := pubtext_calls w aw7 none 0 0 aw7_ok (PropsAt.nil w 0); rw [aw7_text] at this; exact this)
  have HF := Lib.hid (show ∀ w, Calls Tryd.prog 39 #[.agg #[.bool false, .bool false, .int .u8 1, .int .u32 5, .slice none 0 0, .string ⟨#[97]⟩, .string ⟨#[120]⟩]] w (fun e w' => e = .returned (.int .i64 2) ∧ Below w.heap.size w w') from fun w => by have := pflags_calls w aw7 (.slice none 0 0) (by decide) (by decide); exact this.mono (by rintro e w' ⟨rfl, hb⟩; exact ⟨ret_int aw7_flags, hb⟩))
  have HA := Lib.hid (show ∀ w, Calls Tryd.prog 42 #[.agg #[.int .i64 4, .int .u32 5, .int .u8 0, .slice none 0 0]] w (fun e w' => e = .returned (.string ⟨#[0, 5]⟩) ∧ Below w.heap.size w w') from fun w => by have := packtext_calls w ak7 none 0 ak7_ok (PropsAt.nil w 0); rw [ak7_text] at this; exact this)
  have HT := Lib.hid hT
  clear hT hof
  have hbx := Lib.hid (heap_alloc_new w (.cells #[.bool false, .bool false, .int .u8 1, .int .u32 5, .slice none 0 0, .string ⟨#[97]⟩, .string ⟨#[120]⟩] 63))
  have B0 := Lib.hid (below_one w (.cells #[.bool false, .bool false, .int .u8 1, .int .u32 5, .slice none 0 0, .string ⟨#[97]⟩, .string ⟨#[120]⟩] 63))
  go_enter Tryd.func28, Tryd.ntmps28
  go_wp2_with fail
  generalize w.alloc (.cells #[.bool false, .bool false, .int .u8 1, .int .u32 5, .slice none 0 0, .string ⟨#[97]⟩, .string ⟨#[120]⟩] 63) = W0 at *
  obtain ⟨d0, d1, d2, d3, d4, d5, d6, df⟩ := cells7 hbx.out
  go_wp2_with fail
  refine (HX.out _).mono ?_
  rintro e W1 ⟨rfl, b1⟩
  have C1 := Lib.hid ((b1.block _ (lt_of_block hbx.out)).trans hbx.out)
  have B1 := Lib.hid (B0.out.trans (b1.mono B0.out.size))
  clear b1 d0 d1 d2 d3 d4 d5 d6 df hbx B0
  go_wp2_with fail
  refine (HP.out _ (HT.out.below B1.out)).mono ?_
  rintro e W2 ⟨v, rfl, o2, b2⟩
  obtain ⟨va, vc, rfl⟩ := o2.form
  have C2 := Lib.hid ((b2.block _ (lt_of_block C1.out)).trans C1.out)
  have B2 := Lib.hid (B1.out.trans (b2.mono B1.out.size))
  clear b2 o2 C1 B1 HP HT
  unfold pbV pbC aw7
  dsimp only
  have hby := Lib.hid (heap_alloc_new W2 (.cells #[.bool false, .bool false, .int .u8 1, .int .u32 5, .slice va 0 vc, .string ⟨#[97]⟩, .string ⟨#[120]⟩] 63))
  have b3 := below_one W2 (.cells #[.bool false, .bool false, .int .u8 1, .int .u32 5, .slice va 0 vc, .string ⟨#[97]⟩, .string ⟨#[120]⟩] 63)
  have C3 := Lib.hid ((b3.block _ (lt_of_block C2.out)).trans C2.out)
  have B3 := Lib.hid (B2.out.trans (b3.mono B2.out.size))
  obtain ⟨d0, d1, d2, d3, d4, d5, d6, df⟩ := cells7 C2.out
  have dl := lt_of_block C2.out
  clear b3 C2 B2
  go_wp2_with fail
  clear dl
  generalize W2.alloc (.cells #[.bool false, .bool false, .int .u8 1, .int .u32 5, .slice va 0 vc, .string ⟨#[97]⟩, .string ⟨#[120]⟩] 63) = W3 at *
  generalize W2.heap.size = k3 at *
  refine (HX.out _).mono ?_
  rintro e W4 ⟨rfl, b4⟩
  have C4 := Lib.hid ((b4.block _ (lt_of_block C3.out)).trans C3.out)
  have D4 := Lib.hid ((b4.block _ (lt_of_block hby.out)).trans hby.out)
  have B4 := Lib.hid (B3.out.trans (b4.mono B3.out.size))
  clear b4 C3 hby B3 d0 d1 d2 d3 d4 d5 d6 df
  obtain ⟨d0, d1, d2, d3, d4, d5, d6, df⟩ := cells7 C4.out
  go_wp2_with fail
  refine (HF.out _).mono ?_
  rintro e W5 ⟨rfl, b5⟩
  have D5 := Lib.hid ((b5.block _ (lt_of_block D4.out)).trans D4.out)
  have B5 := Lib.hid (B4.out.trans (b5.mono B4.out.size))
  clear b5 C4 D4 B4 d0 d1 d2 d3 d4 d5 d6 df
  obtain ⟨d0, d1, d2, d3, d4, d5, d6, df⟩ := cells7 D5.out
  go_wp2_with fail
  refine (HA.out _).mono ?_
  rintro e W6 ⟨rfl, b6⟩
  have B6 := Lib.hid (B5.out.trans (b6.mono B5.out.size))
  clear b6 D5 B5 d0 d1 d2 d3 d4 d5 d6 df
  go_wp2
  go_ret
  exact ⟨rfl, B6.out⟩

#print axioms awake7_calls
end Go.Proofs.YtacffjimkplieaaDoor
