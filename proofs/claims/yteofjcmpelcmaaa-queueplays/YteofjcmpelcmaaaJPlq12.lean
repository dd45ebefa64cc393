/-
  Push of both, while QueuePlays runs. (No statement: contracts that the proofs of the statements use.)
-/
import Derived.Test.YteofjcmpelcmaaaJPlq11
namespace Go.Proofs.Yteofjcmpelcmaaa
open Go.RowKit

theorem cutQ_len : ∀ (X : List Ms) (y : Ms) (X' : List Ms), cutQ X = some (y, X') → X'.length + 1 = X.length
  | [], y, X', h => by cases h
  | x :: X, y, X', h => by
    rw [cutQ] at h
    split at h
    · injection h with h
      injection h with h1 h2
      rw [← h2]
      rfl
    · cases hc : cutQ X with
      | none => rw [hc] at h; cases h
      | some r =>
        rw [hc] at h
        injection h with h
        injection h with h1 h2
        have := cutQ_len X r.1 r.2 hc
        rw [← h2, List.length_cons, List.length_cons]
        omega
theorem pushX_len (most : Int) (X : List Ms) (m : Ms) : (pushX most X m).1.length ≤ X.length + 1 := by
  unfold pushX
  split
  · simp
  · split
    · simp
    · split
      · simp
      · rename_i y X' hc
        have := cutQ_len X y X' hc
        simp
        omega
theorem pushX_max (most : Int) (X : List Ms) (m : Ms) : pushX (max most 0) X m = pushX most X m := by
  unfold pushX
  have : ((X.length : Int) < max most 0) = ((X.length : Int) < most) := by
    apply propext
    omega
  simp only [this]

theorem Ply.pushed {w w7 w8 w10 w11 : World} {p b b' bl ol cl b2 o2 c2 k : Nat} {most : Int} {X X' : List Ms} {Y Y' : List (Ms × Value)} {f xm xm' : Ms} {xv tv xv' : Value} {ok ok' : Bool}
    (h : Ply w p most X b bl ol cl Y k w7) (hs : PushQ w7 p b most X f w8 X' b' xm xv ok) (hb : Below w8.heap.size w8 w10) (hto : ∀ g, tv.ownBlock = some g → w8.heap.size ≤ g ∧ g < w10.heap.size) (hm : MsAt w10 f tv) (hn : f.num)
    {mx : Int} (hr : PushR w10 bl ol cl Y f tv mx w11 b2 o2 c2 Y' xm' xv' ok') (hmx : mx = max most 0) : xm = xm' ∧ ok = ok' ∧ Ply w p most X' b' b2 o2 c2 Y' (k + 1) w11 := by
  obtain ⟨t1, t2, t3, t4, t5⟩ := h.turn hs.mv hs.new
  subst hmx
  have hsel := hr.sel
  rw [h.eq, pushX_max, hs.sel] at hsel
  injection hsel with e1 e2
  injection e2 with e2 e3
  subst e1 e2 e3
  have hlen := pushX_len most X f
  rw [hs.sel] at hlen
  have hq := hs.q.lt
  have hz := hb.size
  have hz2 := hr.bel.size
  have hl := h.len
  have hy := t1.below hb
  have hbp := h.bp
  refine ⟨rfl, rfl, (hs.q.below hb).below hr.bel, ⟨?_, ?_, fun e he => ?_⟩, rfl, by dsimp only at hlen; omega, fun x hx => ?_, h.hp, t4, ?_, ?_, fun e he g hg => ?_, Below.next (Below.next t5 hb) hr.bel⟩
  · rcases hr.row with ⟨rfl, rfl, rfl, rfl⟩ | hn
    · exact (hy.below hr.bel).row
    · exact hn.row
  · rcases hr.row with ⟨rfl, rfl, rfl, rfl⟩ | hn
    · exact (hy.below hr.bel).lt
    · exact hn.lt
  · rcases hr.sub e he with he | rfl
    · exact (hy.each e he).below hr.bel
    · exact hm.below hr.bel
  · obtain ⟨e, he, rfl⟩ := List.mem_map.1 hx
    rcases hr.sub e he with he | rfl
    · exact h.num _ (by rw [← h.eq]; exact List.mem_map.2 ⟨e, he, rfl⟩)
    · exact hn
  · rcases hr.row with ⟨rfl, rfl, rfl, rfl⟩ | hn
    · exact hbp
    · have := hn.new; omega
  · rcases hr.row with ⟨rfl, rfl, rfl, rfl⟩ | hn
    · exact t2
    · have := hn.new; omega
  · rcases hr.sub e he with he | rfl
    · obtain ⟨g1, g2, g3⟩ := t3 e he g hg
      exact ⟨by omega, g2, g3⟩
    · obtain ⟨g1, g2⟩ := hto g hg
      omega

#print axioms Ply.pushed
end Go.Proofs.Yteofjcmpelcmaaa
