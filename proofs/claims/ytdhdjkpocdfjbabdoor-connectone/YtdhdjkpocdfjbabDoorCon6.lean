/-
  Parse of a connect, as a function; the byte of flags. (No statement: contracts that the proofs of the statements use.)
-/
import Derived.Test.YtdhdjkpocdfjbabDoorCon5
import Derived.Test.YtdhdjkpocdfjbabDoorCon5b
import Derived.Test.YtdhdjkpocdfjbabDoorCon5c
import Derived.Test.YtdhdjkpocdfjbabDoorCon5d
namespace Go.Proofs.YtdhdjkpocdfjbabDoor
open Go.RowKit

/-- The will, if there is one: its list, topic, payload; what is left, the error. -/
def willT (b : Bool) (s : ByteArray) (x : Int) : List Pr × ByteArray × ByteArray × ByteArray × Int :=
  if b = true then ((takeR (placeN 1 true) s x).1, (strT (takeR (placeN 1 true) s x).2.1 (takeR (placeN 1 true) s x).2.2).1, datT (strT (takeR (placeN 1 true) s x).2.1 (takeR (placeN 1 true) s x).2.2).2.1 (strT (takeR (placeN 1 true) s x).2.1 (takeR (placeN 1 true) s x).2.2).2.2)
  else ([], ⟨#[]⟩, ⟨#[]⟩, s, x)
def userT (b : Bool) (s : ByteArray) (x : Int) : ByteArray × ByteArray × Int := if b = true then strT s x else (⟨#[]⟩, s, x)
def passT (b : Bool) (s : ByteArray) (x : Int) : ByteArray × ByteArray × Int := if b = true then datT s x else (⟨#[]⟩, s, x)

/-- All parts of a body, as they are taken. -/
structure Parts where
  v : ByteArray × Int
  f : ByteArray × ByteArray × Int
  k : ByteArray × ByteArray × Int
  p : List Pr × ByteArray × Int
  i : ByteArray × ByteArray × Int
  w : List Pr × ByteArray × ByteArray × ByteArray × Int
  u : ByteArray × ByteArray × Int
  q : ByteArray × ByteArray × Int
def Parts.fl (m : Parts) : Int := numL m.f.1.data.toList
/-- They are those of a body. -/
structure Parts.Of (m : Parts) (body : ByteArray) : Prop where
  v : verT body 0 = m.v
  f : rawT m.v.1 m.v.2 1 = m.f
  k : rawT m.f.2.1 (flagX m.fl m.f.2.2) 2 = m.k
  p : takeR (placeN 1 false) m.k.2.1 m.k.2.2 = m.p
  i : strT m.p.2.1 m.p.2.2 = m.i
  w : willT (flB m.fl 4) m.i.2.1 m.i.2.2 = m.w
  u : userT (flB m.fl 128) m.w.2.2.2.1 m.w.2.2.2.2 = m.u
  q : passT (flB m.fl 64) m.u.2.1 m.u.2.2 = m.q
def Parts.err (m : Parts) : Int := endT m.q.2.1 m.q.2.2
def Parts.cn (m : Parts) : Cn := ⟨flB m.fl 2, numL m.k.1.data.toList, m.p.1, m.i.1, flB m.fl 4, m.w.1, m.w.2.1, m.w.2.2.1, quaN m.fl, flB m.fl 32, flB m.fl 128, flB m.fl 64, m.u.1, m.q.1⟩

theorem parts_of (body : ByteArray) : ∃ m : Parts, m.Of body := by
  obtain ⟨v, hv⟩ : ∃ v, verT body 0 = v := ⟨_, rfl⟩
  obtain ⟨f, hf⟩ : ∃ f, rawT v.1 v.2 1 = f := ⟨_, rfl⟩
  obtain ⟨k, hk⟩ : ∃ k, rawT f.2.1 (flagX (numL f.1.data.toList) f.2.2) 2 = k := ⟨_, rfl⟩
  obtain ⟨p, hp⟩ : ∃ p, takeR (placeN 1 false) k.2.1 k.2.2 = p := ⟨_, rfl⟩
  obtain ⟨i, hi⟩ : ∃ i, strT p.2.1 p.2.2 = i := ⟨_, rfl⟩
  obtain ⟨w, hw⟩ : ∃ w, willT (flB (numL f.1.data.toList) 4) i.2.1 i.2.2 = w := ⟨_, rfl⟩
  obtain ⟨u, hu⟩ : ∃ u, userT (flB (numL f.1.data.toList) 128) w.2.2.2.1 w.2.2.2.2 = u := ⟨_, rfl⟩
  obtain ⟨q, hq⟩ : ∃ q, passT (flB (numL f.1.data.toList) 64) u.2.1 u.2.2 = q := ⟨_, rfl⟩
  exact ⟨⟨v, f, k, p, i, w, u, q⟩, ⟨hv, hf, hk, hp, hi, hw, hu, hq⟩⟩

set_option maxHeartbeats 1000000 in
theorem parse_calls (w : World) (body : ByteArray) (hT : Tabs w) (m : Parts) (h : m.Of body) (C : Cn) (hC : (if m.err = 0 then m.cn else cnZ) = C) :
    Calls Tryd.prog 9 #[.string body] w (ParseR w C m.err) := by
  obtain ⟨⟨s1, x1⟩, ⟨t, s2, x2⟩, ⟨tk, s3, x3⟩, ⟨ps, s4, x4⟩, ⟨id, s5, x5⟩, ⟨wp, tp, py, s8, x8⟩, ⟨us, s9, x9⟩, ⟨pw, s10, x10⟩⟩ := m
  obtain ⟨hv, hf, hk, hp, hi, hw, hu, hq⟩ := h
  unfold Parts.cn Parts.err at hC
  unfold Parts.err
  unfold Parts.fl at *
  dsimp only at *
  generalize hF : numL t.data.toList = F at *
  cases b4 : flB F 4 <;> cases b128 : flB F 128 <;> cases b64 : flB F 64 <;> rw [b4] at hw <;> rw [b128] at hu <;> rw [b64] at hq <;> rw [b4, b128, b64] at hC
  · unfold willT at hw; rw [if_neg (by simp)] at hw
    unfold userT at hu; rw [if_neg (by simp)] at hu
    unfold passT at hq; rw [if_neg (by simp)] at hq
    injection hw with a1 hw; injection hw with a2 hw; injection hw with a3 hw; injection hw with a4 a5; subst a1 a2 a3 a4 a5
    injection hu with c1 hu; injection hu with c2 c3; subst c1 c2 c3
    injection hq with d1 hq; injection hq with d2 d3; subst d1 d2 d3
    exact parse_000 w body hT s1 x1 hv t s2 x2 hf F hF b4 b128 b64 _ rfl tk s3 x3 hk ps s4 x4 hp id s5 x5 hi _ rfl C (by unfold cnF; rw [b4, b128, b64]; exact hC)
  · unfold willT at hw; rw [if_neg (by simp)] at hw
    unfold userT at hu; rw [if_neg (by simp)] at hu
    unfold passT datT at hq; rw [if_pos rfl] at hq
    injection hw with a1 hw; injection hw with a2 hw; injection hw with a3 hw; injection hw with a4 a5; subst a1 a2 a3 a4 a5
    injection hu with c1 hu; injection hu with c2 c3; subst c1 c2 c3
    exact parse_001 w body hT s1 x1 hv t s2 x2 hf F hF b4 b128 b64 _ rfl tk s3 x3 hk ps s4 x4 hp id s5 x5 hi _ _ _ rfl pw s10 x10 hq _ rfl C (by unfold cnF; rw [b4, b128, b64]; exact hC)
  · unfold willT at hw; rw [if_neg (by simp)] at hw
    unfold userT at hu; rw [if_pos rfl] at hu
    unfold passT at hq; rw [if_neg (by simp)] at hq
    injection hw with a1 hw; injection hw with a2 hw; injection hw with a3 hw; injection hw with a4 a5; subst a1 a2 a3 a4 a5
    injection hq with d1 hq; injection hq with d2 d3; subst d1 d2 d3
    exact parse_010 w body hT s1 x1 hv t s2 x2 hf F hF b4 b128 b64 _ rfl tk s3 x3 hk ps s4 x4 hp id s5 x5 hi us s9 x9 hu _ rfl C (by unfold cnF; rw [b4, b128, b64]; exact hC)
  · unfold willT at hw; rw [if_neg (by simp)] at hw
    unfold userT at hu; rw [if_pos rfl] at hu
    unfold passT datT at hq; rw [if_pos rfl] at hq
    injection hw with a1 hw; injection hw with a2 hw; injection hw with a3 hw; injection hw with a4 a5; subst a1 a2 a3 a4 a5
    exact parse_011 w body hT s1 x1 hv t s2 x2 hf F hF b4 b128 b64 _ rfl tk s3 x3 hk ps s4 x4 hp id s5 x5 hi us s9 x9 hu _ _ _ rfl pw s10 x10 hq _ rfl C (by unfold cnF; rw [b4, b128, b64]; exact hC)
  · unfold willT datT at hw; rw [if_pos rfl] at hw
    unfold userT at hu; rw [if_neg (by simp)] at hu
    unfold passT at hq; rw [if_neg (by simp)] at hq
    injection hw with a1 hw; injection hw with a2 hw; subst a1 a2
    injection hu with c1 hu; injection hu with c2 c3; subst c1 c2 c3
    injection hq with d1 hq; injection hq with d2 d3; subst d1 d2 d3
    exact parse_100 w body hT s1 x1 hv t s2 x2 hf F hF b4 b128 b64 _ rfl tk s3 x3 hk ps s4 x4 hp id s5 x5 hi _ _ _ rfl _ _ _ rfl _ _ _ rfl py _ _ hw _ rfl C (by unfold cnF; rw [b4, b128, b64]; exact hC)
  · unfold willT datT at hw; rw [if_pos rfl] at hw
    unfold userT at hu; rw [if_neg (by simp)] at hu
    unfold passT datT at hq; rw [if_pos rfl] at hq
    injection hw with a1 hw; injection hw with a2 hw; subst a1 a2
    injection hu with c1 hu; injection hu with c2 c3; subst c1 c2 c3
    exact parse_101 w body hT s1 x1 hv t s2 x2 hf F hF b4 b128 b64 _ rfl tk s3 x3 hk ps s4 x4 hp id s5 x5 hi _ _ _ rfl _ _ _ rfl _ _ _ rfl py _ _ hw _ _ _ rfl pw s10 x10 hq _ rfl C (by unfold cnF; rw [b4, b128, b64]; exact hC)
  · unfold willT datT at hw; rw [if_pos rfl] at hw
    unfold userT at hu; rw [if_pos rfl] at hu
    unfold passT at hq; rw [if_neg (by simp)] at hq
    injection hw with a1 hw; injection hw with a2 hw; subst a1 a2
    injection hq with d1 hq; injection hq with d2 d3; subst d1 d2 d3
    exact parse_110 w body hT s1 x1 hv t s2 x2 hf F hF b4 b128 b64 _ rfl tk s3 x3 hk ps s4 x4 hp id s5 x5 hi _ _ _ rfl _ _ _ rfl _ _ _ rfl py _ _ hw us s9 x9 hu _ rfl C (by unfold cnF; rw [b4, b128, b64]; exact hC)
  · unfold willT datT at hw; rw [if_pos rfl] at hw
    unfold userT at hu; rw [if_pos rfl] at hu
    unfold passT datT at hq; rw [if_pos rfl] at hq
    injection hw with a1 hw; injection hw with a2 hw; subst a1 a2
    exact parse_111 w body hT s1 x1 hv t s2 x2 hf F hF b4 b128 b64 _ rfl tk s3 x3 hk ps s4 x4 hp id s5 x5 hi _ _ _ rfl _ _ _ rfl _ _ _ rfl py _ _ hw us s9 x9 hu _ _ _ rfl pw s10 x10 hq _ rfl C (by unfold cnF; rw [b4, b128, b64]; exact hC)

#print axioms parse_calls
end Go.Proofs.YtdhdjkpocdfjbabDoor
