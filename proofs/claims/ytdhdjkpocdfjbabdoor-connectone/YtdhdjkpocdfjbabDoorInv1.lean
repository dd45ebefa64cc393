/-
  What was taken is what is put. (No statement: what the proofs of the statements use.)
-/
import Derived.Test.YtdhdjkpocdfjbabDoorProp14
import Derived.Test.YtdhdjkpocdfjbabDoorProp11
namespace Go.Proofs.YtdhdjkpocdfjbabDoor
open Go.RowKit

theorem raw_inv {l : List UInt8} {n : Nat} {t s' : ByteArray} (h : rawT (str l) 0 n = (t, s', 0)) : ∃ a r, l = a ++ r ∧ a.length = n ∧ t = str a ∧ s' = str r := by
  by_cases hn : n ≤ l.length
  · rw [rawT_list l n hn] at h
    injection h with h1 h
    injection h with h2 _
    exact ⟨l.take n, l.drop n, (List.take_append_drop n l).symm, by rw [List.length_take]; omega, h1.symm, h2.symm⟩
  · rw [rawT_short l n (by omega)] at h
    injection h with _ h
    injection h with _ h
    exact absurd h (by decide)

theorem num1_inv (a : List UInt8) (h : a.length = 1) : [UInt8.ofNat ((numL a : Int) % 256).toNat] = a ∧ numL a < 256 := by
  match a, h with
  | [c], _ =>
    have hc := c.toNat_lt
    have e : numL [c] = c.toNat := numL_one c
    rw [e]
    refine ⟨?_, by omega⟩
    rw [show ((c.toNat : Int) % 256).toNat = c.toNat by omega, byte_ofNat]
theorem num2_inv (a : List UInt8) (h : a.length = 2) : two (numL a) = a ∧ numL a < 65536 := by
  match a, h with
  | [c, d], _ =>
    have hc := c.toNat_lt
    have hd := d.toNat_lt
    have e : numL [c, d] = c.toNat * 256 + d.toNat := by simp [numL]
    rw [e]
    refine ⟨?_, by omega⟩
    unfold two
    rw [show (((c.toNat * 256 + d.toNat : Nat) : Int) / 256 % 256).toNat = c.toNat by omega, show (((c.toNat * 256 + d.toNat : Nat) : Int) % 256).toNat = d.toNat by omega, byte_ofNat, byte_ofNat]
theorem num4_inv (a : List UInt8) (h : a.length = 4) : two ((numL a : Int) / 65536) ++ two (numL a) = a ∧ numL a < 4294967296 := by
  match a, h with
  | [c, d, e, f], _ =>
    have hc := c.toNat_lt
    have hd := d.toNat_lt
    have he := e.toNat_lt
    have hf := f.toNat_lt
    have e1 : numL [c, d, e, f] = ((c.toNat * 256 + d.toNat) * 256 + e.toNat) * 256 + f.toNat := by simp [numL]
    rw [e1]
    refine ⟨?_, by omega⟩
    unfold two
    rw [show (((((c.toNat * 256 + d.toNat) * 256 + e.toNat) * 256 + f.toNat : Nat) : Int) / 65536 / 256 % 256).toNat = c.toNat by omega, show (((((c.toNat * 256 + d.toNat) * 256 + e.toNat) * 256 + f.toNat : Nat) : Int) / 65536 % 256).toNat = d.toNat by omega, show (((((c.toNat * 256 + d.toNat) * 256 + e.toNat) * 256 + f.toNat : Nat) : Int) / 256 % 256).toNat = e.toNat by omega, show (((((c.toNat * 256 + d.toNat) * 256 + e.toNat) * 256 + f.toNat : Nat) : Int) % 256).toNat = f.toNat by omega, byte_ofNat, byte_ofNat, byte_ofNat, byte_ofNat]
    rfl

theorem dat_inv {l : List UInt8} {t s' : ByteArray} (h : datT (str l) 0 = (t, s', 0)) : ∃ r, l = dataL t ++ r ∧ s' = str r ∧ t.size ≤ 65535 := by
  unfold datT at h
  rcases hr : rawT (str l) 0 2 with ⟨t0, s1, x1⟩
  rw [hr] at h
  dsimp only at h
  have hx : x1 = 0 := rawT_keeps s1 x1 (numL t0.data.toList) (by rw [h])
  subst hx
  obtain ⟨a, r1, rfl, ha, rfl, rfl⟩ := raw_inv hr
  rw [str_data] at h
  obtain ⟨e1, e2⟩ := num2_inv a ha
  obtain ⟨b, r, rfl, hb, rfl, rfl⟩ := raw_inv h
  refine ⟨r, ?_, rfl, by rw [str_size]; omega⟩
  unfold dataL
  rw [str_size, str_data, hb, e1, List.append_assoc]
theorem str_inv {l : List UInt8} {t s' : ByteArray} (h : strT (str l) 0 = (t, s', 0)) : ∃ r, l = dataL t ++ r ∧ s' = str r ∧ t.size ≤ 65535 ∧ goodB t = true := by
  unfold strT at h
  split at h
  · rename_i hg
    have hd : datT (str l) 0 = (t, s', 0) := h
    obtain ⟨r, h1, h2, h3⟩ := dat_inv hd
    rw [h] at hg
    exact ⟨r, h1, h2, h3, hg⟩
  · injection h with _ h
    injection h with _ h
    exact absurd h (by decide)

theorem var_inv {l : List UInt8} {n : Nat} {s' : ByteArray} (h : varT 3 0 0 (str l) 0 = (n, s', 0)) : ∃ r, l = varb 3 n ++ r ∧ s' = str r ∧ n ≤ 268435455 := by
  obtain ⟨m, e1, e2, e3, _⟩ := varT_one 3 0 0 l n s' h
  obtain rfl : n = m := by simpa using e1
  exact ⟨s'.data.toList, e3, ba_str s', by omega⟩

theorem datT_keeps (s : ByteArray) (x : Int) (h : (datT s x).2.2 = 0) : x = 0 := by
  unfold datT at h
  exact rawT_keeps _ _ _ (rawT_keeps _ _ _ h)
theorem strT_keeps (s : ByteArray) (x : Int) (h : (strT s x).2.2 = 0) : x = 0 := by
  unfold strT at h
  split at h
  · exact rawT_keeps _ _ _ (rawT_keeps _ _ _ h)
  · exact absurd (show (2 : Int) = 0 from h) (by decide)

/-- One property. -/
theorem one_inv (k i : Int) (hk : k = 1 ∨ k = 2 ∨ k = 3 ∨ k = 4 ∨ k = 5 ∨ k = 6 ∨ k = 7) {l : List UInt8} {y : Pr} {s' : ByteArray} (h : oneT k i (str l) = (y, s', 0)) : ∃ r, l = saysL k y ++ r ∧ s' = str r ∧ y.ok ∧ y.id = i := by
  have hid : y.id = i := by have := one_id k i (str l); rw [h] at this; exact this
  have e0 : (⟨#[]⟩ : ByteArray).size = 0 := rfl
  rcases hk with rfl | rfl | rfl | rfl | rfl | rfl | rfl
  · rcases hr : rawT (str l) 0 1 with ⟨t, s1, x1⟩
    have h' : ((⟨i, numL t.data.toList, ⟨#[]⟩, ⟨#[]⟩⟩ : Pr), s1, x1) = (y, s', 0) := by rw [← h]; show _ = (_, _); rw [hr]
    injection h' with a1 h'; injection h' with a2 a3
    subst a1 a2 a3
    obtain ⟨a, r, rfl, ha, rfl, rfl⟩ := raw_inv hr
    rw [str_data] at *
    obtain ⟨e1, e2⟩ := num1_inv a ha
    refine ⟨r, ?_, rfl, ⟨by dsimp only; omega, by dsimp only; omega, by dsimp only; omega, by dsimp only; omega⟩, hid⟩
    show a ++ r = [_] ++ r
    rw [e1]
  · rcases hr : rawT (str l) 0 2 with ⟨t, s1, x1⟩
    have h' : ((⟨i, numL t.data.toList, ⟨#[]⟩, ⟨#[]⟩⟩ : Pr), s1, x1) = (y, s', 0) := by rw [← h]; show _ = (_, _); rw [hr]
    injection h' with a1 h'; injection h' with a2 a3
    subst a1 a2 a3
    obtain ⟨a, r, rfl, ha, rfl, rfl⟩ := raw_inv hr
    rw [str_data] at *
    obtain ⟨e1, e2⟩ := num2_inv a ha
    refine ⟨r, ?_, rfl, ⟨by dsimp only; omega, by dsimp only; omega, by dsimp only; omega, by dsimp only; omega⟩, hid⟩
    show a ++ r = two _ ++ r
    rw [e1]
  · rcases hr : rawT (str l) 0 4 with ⟨t, s1, x1⟩
    have h' : ((⟨i, numL t.data.toList, ⟨#[]⟩, ⟨#[]⟩⟩ : Pr), s1, x1) = (y, s', 0) := by rw [← h]; show _ = (_, _); rw [hr]
    injection h' with a1 h'; injection h' with a2 a3
    subst a1 a2 a3
    obtain ⟨a, r, rfl, ha, rfl, rfl⟩ := raw_inv hr
    rw [str_data] at *
    obtain ⟨e1, e2⟩ := num4_inv a ha
    refine ⟨r, ?_, rfl, ⟨by dsimp only; omega, by dsimp only; omega, by dsimp only; omega, by dsimp only; omega⟩, hid⟩
    show a ++ r = (two (_ / 65536) ++ two _) ++ r
    rw [e1]
  · rcases hr : varT 3 0 0 (str l) 0 with ⟨n, s1, x1⟩
    have h' : ((⟨i, n, ⟨#[]⟩, ⟨#[]⟩⟩ : Pr), s1, x1) = (y, s', 0) := by rw [← h]; show _ = (_, _); rw [hr]
    injection h' with a1 h'; injection h' with a2 a3
    subst a1 a2 a3
    obtain ⟨r, rfl, rfl, hn⟩ := var_inv hr
    refine ⟨r, ?_, rfl, ⟨by dsimp only; omega, by dsimp only; omega, by dsimp only; omega, by dsimp only; omega⟩, hid⟩
    show varb 3 n ++ r = varb 3 (min (n : Int).toNat 268435455) ++ r
    rw [show min (n : Int).toNat 268435455 = n by omega]
  · rcases hr : strT (str l) 0 with ⟨t, s1, x1⟩
    have h' : ((⟨i, 0, t, ⟨#[]⟩⟩ : Pr), s1, x1) = (y, s', 0) := by rw [← h]; show _ = (_, _); rw [hr]
    injection h' with a1 h'; injection h' with a2 a3
    subst a1 a2 a3
    obtain ⟨r, rfl, rfl, hs, hg⟩ := str_inv hr
    exact ⟨r, rfl, rfl, ⟨by show (0 : Int) ≤ 0; decide, by show (0 : Int) < 4294967296; decide, hs, by dsimp only; omega⟩, hid⟩
  · rcases hr : datT (str l) 0 with ⟨t, s1, x1⟩
    have h' : ((⟨i, 0, t, ⟨#[]⟩⟩ : Pr), s1, x1) = (y, s', 0) := by rw [← h]; show _ = (_, _); rw [hr]
    injection h' with a1 h'; injection h' with a2 a3
    subst a1 a2 a3
    obtain ⟨r, rfl, rfl, hs⟩ := dat_inv hr
    exact ⟨r, rfl, rfl, ⟨by show (0 : Int) ≤ 0; decide, by show (0 : Int) < 4294967296; decide, hs, by dsimp only; omega⟩, hid⟩
  · rcases hr : strT (str l) 0 with ⟨t, s1, x1⟩
    rcases hr2 : strT s1 x1 with ⟨t2, s2, x2⟩
    have h' : ((⟨i, 0, if x2 = 0 then t else ⟨#[]⟩, if x2 = 0 then t2 else ⟨#[]⟩⟩ : Pr), s2, x2) = (y, s', 0) := by rw [← h]; show _ = (_, _); rw [hr]; dsimp only; rw [hr2]
    injection h' with a1 h'; injection h' with a2 a3
    subst a3
    rw [if_pos rfl, if_pos rfl] at a1
    subst a1 a2
    have hx : x1 = 0 := strT_keeps s1 x1 (by rw [hr2])
    subst hx
    obtain ⟨r1, rfl, rfl, hs, hg⟩ := str_inv hr
    obtain ⟨r, rfl, rfl, hs2, hg2⟩ := str_inv hr2
    refine ⟨r, ?_, rfl, ⟨by show (0 : Int) ≤ 0; decide, by show (0 : Int) < 4294967296; decide, hs, hs2⟩, hid⟩
    show dataL t ++ (dataL t2 ++ r) = (dataL t ++ dataL t2) ++ r
    rw [List.append_assoc]

#print axioms one_inv
end Go.Proofs.YtdhdjkpocdfjbabDoor
