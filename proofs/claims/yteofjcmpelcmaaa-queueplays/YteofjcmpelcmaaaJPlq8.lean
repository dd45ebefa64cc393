/-
  The document's Push on a queue. (No statement: contracts that the proofs of the statements use.)
-/
import Derived.Test.YteofjcmpelcmaaaJPlq7
namespace Go.Proofs.Yteofjcmpelcmaaa
open Go.RowKit

theorem NewS.put7 {B : Nat} {w : World} {b off cap x o : Nat} {Y : List (Ms × Value)} {a0 a1 a2 a3 a4 a5 a6 : Value} (h : NewS B w b off cap Y) (hx : b ≠ x) : NewS B (put7 w x o a0 a1 a2 a3 a4 a5 a6) b off cap Y :=
  ⟨h.row.keep (fun _ => put7_other hx), by rw [put7_size]; exact h.lt, h.new⟩

set_option maxRecDepth 100000 in
set_option maxHeartbeats 4000000 in
theorem rPush_room (w : World) (b off cap : Nat) (Y : List (Ms × Value)) (n : Nat) (m : Ms) (v : Value) (most : Int) (hs : RowS w b off cap Y) (hY : Y.length = n) (hn : n ≤ 1000) (hm : MsAt w m v) (hr : (n : Int) < most) :
    Calls Try.prog 31 #[.slice (some ⟨b, off, none⟩) n cap, msV m v, .int .i64 most] w (RPush w b off cap Y m v most) := by
  obtain ⟨Am, cm, rfl⟩ := hm.ps.form
  have hb0 := (below_one w (mC m (.slice Am m.ps.length cm))).alloc (by simp) zC
  have hx0 := (Below.heap_alloc (w.alloc (mC m (.slice Am m.ps.length cm))) zC w.heap.size (by simp)).trans (heap_alloc_new w (mC m (.slice Am m.ps.length cm)))
  have hx1 : ((w.alloc (mC m (.slice Am m.ps.length cm))).alloc zC).heap[w.heap.size + 1]? = some zC := by
    have := heap_alloc_new (w.alloc (mC m (.slice Am m.ps.length cm))) zC
    rwa [World.size_alloc] at this
  have HS := Lib.hid hs
  have hs1 := hs.one
  have HMS := Lib.hid hs.each
  have HY := Lib.hid hY
  have HM := Lib.hid hm
  have hbl := hs.lt
  have hs0 := hs.below hb0
  have HB0 := Lib.hid hb0
  have HX0 := Lib.hid hx0
  have HX1 := Lib.hid hx1
  have HS0 := Lib.hid hs0
  have HSZ := Lib.hid (show ((w.alloc (mC m (.slice Am m.ps.length cm))).alloc zC).heap.size = w.heap.size + 2 by simp)
  clear hs hY hm hb0 hx0 hx1 hs0
  generalize hnm : m.ps.length = nm at *
  go_enter Try.func31, Try.ntmps31
  go_wp2_with fail
  generalize (w.alloc (mC m (.slice Am nm cm))).alloc zC = W0 at *
  obtain ⟨d0, d1, d2, d3, d4, d5, d6, df⟩ := cells7 HX0.out
  obtain ⟨z0, z1, z2, z3, z4, z5, z6, zf⟩ := cells7 HX1.out
  go_wp2_with fail
  have HA := Lib.hid ((pusJ_new HB0.out HX0.out HX1.out HS0.out).below (Below.refl _ _).drew)
  have HB := Lib.hid (((pusJ_new HB0.out HX0.out HX1.out HS0.out).alloc (mC m (.slice Am nm cm))).below (Below.refl _ _).drew)
  have HBM := Lib.hid (show ((W0.alloc (.cells #[] 77)).alloc (mC m (.slice Am nm cm))).drew.heap[W0.heap.size + 1]? = some (mC m (.slice Am nm cm)) from by
    have := heap_alloc_new (W0.alloc (.cells #[] 77)) (mC m (.slice Am nm cm))
    rwa [World.size_alloc] at this)
  have hbc := below_one W0 (mC m (.slice Am nm cm))
  have HC := Lib.hid (show PusJ w m (.slice Am nm cm) b off cap Y (W0.heap.size + 1) 0 0 [] ((W0.alloc (mC m (.slice Am nm cm))).alloc (.cells #[] 77)).drew from by
    have := (pusJ_new (V := W0.alloc (mC m (.slice Am nm cm))) (Below.next HB0.out hbc) ((hbc.block _ (lt_of_block HX0.out)).trans HX0.out) ((hbc.block _ (lt_of_block HX1.out)).trans HX1.out) (HS0.out.below hbc)).below (Below.refl _ _).drew
    rwa [World.size_alloc] at this)
  have HCM := Lib.hid (show ((W0.alloc (mC m (.slice Am nm cm))).alloc (.cells #[] 77)).drew.heap[W0.heap.size]? = some (mC m (.slice Am nm cm)) from
    ((below_one (W0.alloc (mC m (.slice Am nm cm))) (.cells #[] 77)).block W0.heap.size (by simp)).trans (heap_alloc_new W0 (mC m (.slice Am nm cm))))
  clear hbc
  have hone := hs1
  have hl0 : w.heap.size < W0.heap.size := by have := HSZ.out; omega
  have hl1 : w.heap.size + 1 < W0.heap.size := by have := HSZ.out; omega
  go_region_law (first
    | ((with_reducible refine step_append_rs (W0.alloc (.cells #[] 77)).drew rfl (.tmp 16) (.tmp 17) rfl W0.heap.size 0 0 [] Y 0 n n rfl HY.out (Nat.zero_add n) (by simp [Act.eval]) HA.out.z.row HA.out.z.lt b off cap (by simp [Act.eval]) HA.out.y.row.holds hone (by omega) ?_); intro b1 o1 c1 w2 happ; have HJ2 := Lib.hid (HA.out.app (Z' := Y) hbl HMS.out happ); have HM2 := Lib.hid (one_at (e := (m, .slice Am nm cm)) (heap_alloc_new w2 (mC m (.slice Am nm cm)))); obtain ⟨d0, d1, d2, d3, d4, d5, d6, df⟩ := cells7 HJ2.out.box; clear happ)
    | ((with_reducible refine step_append_rs ((W0.alloc (.cells #[] 77)).alloc (mC m (.slice Am nm cm))).drew rfl (.tmp 16) (.tmp 17) rfl W0.heap.size 0 0 [] Y 0 n n rfl HY.out (Nat.zero_add n) (by simp [Act.eval]) HB.out.z.row HB.out.z.lt b off cap (by simp [Act.eval]) HB.out.y.row.holds hone (by omega) ?_); intro b1 o1 c1 w2 happ; have HJ2 := Lib.hid (HB.out.app (Z' := Y) hbl HMS.out happ); have HM2 := Lib.hid (one_at (e := (m, .slice Am nm cm)) ((happ.mv.block _ (lt_of_block HBM.out) (by omega)).trans HBM.out)); clear happ)
    | ((with_reducible refine step_append_rs ((W0.alloc (mC m (.slice Am nm cm))).alloc (.cells #[] 77)).drew rfl (.tmp 16) (.tmp 17) rfl (W0.heap.size + 1) 0 0 [] Y 0 n n rfl HY.out (Nat.zero_add n) (by simp [Act.eval]) HC.out.z.row HC.out.z.lt b off cap (by simp [Act.eval]) HC.out.y.row.holds hone (by omega) ?_); intro b1 o1 c1 w2 happ; have HJ2 := Lib.hid (HC.out.app (Z' := Y) hbl HMS.out happ); have HM2 := Lib.hid (one_at (e := (m, .slice Am nm cm)) ((happ.mv.block _ (lt_of_block HCM.out) (by omega)).trans HCM.out)); clear happ)
    | ((with_reducible refine step_append_rs (w2.alloc (mC m (.slice Am nm cm))) rfl (.tmp 18) (.tmp 20) rfl b1 o1 c1 Y [(m, .slice Am nm cm)] n 1 (n + 1) HY.out rfl rfl (by simp [Act.eval]) (HJ2.out.alloc _).z.row (HJ2.out.alloc _).z.lt w2.heap.size 0 1 (by simp [Act.eval]) HM2.out (one_one _ _ _ _) (by omega) ?_); intro b2 o2 c2 w4 happ; have HJ4 := Lib.hid ((HJ2.out.alloc _).app hbl HMS.out happ); obtain ⟨y0, y1, y2, y3, y4, y5, y6, yf⟩ := cells7 HJ4.out.out; clear happ)
    | ((with_reducible refine step_append_rs w2 rfl (.tmp 18) (.tmp 20) rfl b1 o1 c1 Y [(m, .slice Am nm cm)] n 1 (n + 1) HY.out rfl rfl (by simp [Act.eval]) HJ2.out.z.row HJ2.out.z.lt (W0.heap.size + 1) 0 1 (by simp [Act.eval]) HM2.out (one_one _ _ _ _) (by omega) ?_); intro b2 o2 c2 w4 happ; have HJ4 := Lib.hid (HJ2.out.app hbl HMS.out happ); obtain ⟨y0, y1, y2, y3, y4, y5, y6, yf⟩ := cells7 HJ4.out.out; clear happ)
    | ((with_reducible refine step_append_rs w2 rfl (.tmp 18) (.tmp 20) rfl b1 o1 c1 Y [(m, .slice Am nm cm)] n 1 (n + 1) HY.out rfl rfl (by simp [Act.eval]) HJ2.out.z.row HJ2.out.z.lt W0.heap.size 0 1 (by simp [Act.eval]) HM2.out (one_one _ _ _ _) (by omega) ?_); intro b2 o2 c2 w4 happ; have HJ4 := Lib.hid (HJ2.out.app hbl HMS.out happ); obtain ⟨y0, y1, y2, y3, y4, y5, y6, yf⟩ := cells7 HJ4.out.out; clear happ))
  all_goals
    have HF := Lib.hid (show RPush w b off cap Y m (.slice Am nm cm) most (.returned (.tuple #[.slice (some ⟨b2, o2, none⟩) (n + 1) c2, msV ⟨⟨#[]⟩, 0, 0, false, [], ⟨#[]⟩, ⟨#[]⟩⟩ (.slice none 0 0), .bool false])) (put7 w4 (w.heap.size + 1) 0 (.string ⟨#[]⟩) (.int .i64 0) (.int .u8 0) (.bool false) (.slice none 0 0) (.string ⟨#[]⟩) (.string ⟨#[]⟩)) from
      .inl ⟨by rw [HY.out]; exact hr, b2, o2, c2, by rw [HY.out], HJ4.out.z.put7 (by have := HJ4.out.ne; omega), put7_below HJ4.out.bel (by omega)⟩)
    go_wp2
    change bodyPost _ _ _ _ _ (put7 w4 (w.heap.size + 1) 0 _ _ _ _ _ _ _)
    have hfin := put7_block (a0 := .string ⟨#[]⟩) (a1 := .int .i64 0) (a2 := .int .u8 0) (a3 := .bool false) (a4 := .slice none 0 0) (a5 := .string ⟨#[]⟩) (a6 := .string ⟨#[]⟩) HJ4.out.out
    obtain ⟨t0, t1, t2, t3, t4, t5, t6, tf⟩ := cells7 hfin
    refine bodyPost_ret (v := .tuple #[.slice (some ⟨b2, o2, none⟩) (n + 1) c2, msV ⟨⟨#[]⟩, 0, 0, false, [], ⟨#[]⟩, ⟨#[]⟩⟩ (.slice none 0 0), .bool false]) ?_ rfl HF.out
    simp [results, Try.results31, go_sem, t0, t1, t2, t3, t4, t5, t6]

#print axioms rPush_room
end Go.Proofs.Yteofjcmpelcmaaa
