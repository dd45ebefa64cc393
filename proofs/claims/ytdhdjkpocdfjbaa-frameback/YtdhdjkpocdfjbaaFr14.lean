/-
  Packets that come in; packets one behind the other. (No statement: what the proofs of the statements use.)
-/
import Derived.Test.YtdhdjkpocdfjbaaFr13
import Derived.Test.YtdhdjkpocdfjbaaOpen
namespace Go.Proofs.Ytdhdjkpocdfjbaa
open Go.RowKit Go.ChangeShapes Go.WideShapes Go.Deep

/-- A list of packets that came in. -/
def FrsIn (W : World) (v : Value) (T : List (Int × Int × ByteArray)) : Prop :=
  ∃ A cap, v = .slice A T.length cap ∧ T.length ≤ maxLen ∧ ∀ (i : Nat) (x : Int × Int × ByteArray), T[i]? = some x →
    ∃ b off, A = some ⟨b, off, none⟩ ∧ b < W.heap.size ∧ W.cell? ⟨b, off + i * 3, none⟩ = some (.int .i64 x.1) ∧ W.cell? ⟨b, off + i * 3 + 1, none⟩ = some (.int .i64 x.2.1) ∧ W.cell? ⟨b, off + i * 3 + 2, none⟩ = some (.string x.2.2) ∧
      -9223372036854775808 ≤ x.2.1 ∧ x.2.1 ≤ 9223372036854775807 ∧ x.2.2.size ≤ maxLen

theorem wf_i64 {a : Int} (h : (Lit.int .i64 a).wf = true) : -9223372036854775808 ≤ a ∧ a ≤ 9223372036854775807 := by
  have h : IntKind.i64.min ≤ a ∧ a ≤ IntKind.i64.max := by simpa [Lit.wf] using h
  rw [show IntKind.i64.min = -9223372036854775808 by decide, show IntKind.i64.max = 9223372036854775807 by decide] at h
  exact h

theorem open_frsIn {H : Type} {enc : TypeId × Value → H} {W : World} {v : Value} {d : DataW H} {p : List MemPlace} {base : Nat} (hv : Value.okWide Try.prog W .any base 27 v) (h : DataW.Trod enc Try.prog W 0 (fun _ => true) true 27 v d p) :
    ∃ T, FrsIn W v T := by
  obtain ⟨A, len, cap, rfl, hl, hm, hall⟩ := open_cells (e := 37) Try.underlying27 Try.underlying37 (by kernel_rfl) (by kernel_rfl) hv h
  obtain ⟨f, hf⟩ := choose_lt (α := Int × Int × ByteArray) (n := len) (p := fun i x => ∃ b off, A = some ⟨b, off, none⟩ ∧ b < W.heap.size ∧ W.cell? ⟨b, off + i * 3, none⟩ = some (.int .i64 x.1) ∧ W.cell? ⟨b, off + i * 3 + 1, none⟩ = some (.int .i64 x.2.1) ∧ W.cell? ⟨b, off + i * 3 + 2, none⟩ = some (.string x.2.2) ∧
      -9223372036854775808 ≤ x.2.1 ∧ x.2.1 ≤ 9223372036854775807 ∧ x.2.2.size ≤ maxLen) (by
    intro i hi
    obtain ⟨ad, rfl, hc⟩ := hall i hi
    obtain ⟨u0, n0, y0, c0, t0⟩ := hc 0 _ rfl
    obtain ⟨u1, n1, y1, c1, t1⟩ := hc 1 _ rfl
    obtain ⟨u2, n2, y2, c2, t2⟩ := hc 2 _ rfl
    obtain ⟨k, e0, _, _⟩ := DataW.trod_int Try.underlying3 t0
    obtain ⟨n, e1, _, wn⟩ := DataW.trod_int Try.underlying3 t1
    obtain ⟨s, e2, _, hs⟩ := DataW.trod_string Try.underlying9 t2
    simp only [List.cons.injEq, and_true] at e0 e1 e2
    subst e0 e1 e2
    obtain ⟨b, off, spot⟩ := ad
    have hsp : spot = none := by
      obtain ⟨ad', ea, hc'⟩ := hall 0 (by omega)
      injection ea with ea
      subst ea
      obtain ⟨u', _, _, c', _⟩ := hc' 0 _ rfl
      simpa [Addr.add] using World.cell?_spot c'
    subst hsp
    have hb := wf_i64 wn
    simp only [Addr.add_lit] at c0 c1 c2
    exact ⟨(k, n, s), b, off, rfl, World.block_lt_of_cell? W _ c0, c0, c1, c2, hb.1, hb.2, hs⟩)
  refine ⟨(List.range len).map f, A, cap, by simp, by simp; omega, fun i x hx => ?_⟩
  simp only [List.getElem?_map, Option.map_eq_some_iff] at hx
  obtain ⟨i', hi', rfl⟩ := hx
  obtain ⟨hlt, he⟩ := List.getElem?_eq_some_iff.1 hi'
  simp at hlt he
  subst he
  exact hf i hlt

/-- A row of packets that lies below. -/
theorem OwnF.keepC {B C : Nat} {e : TypeId} {w w' : World} {v : Value} {P : List Fm} (h : OwnF B e w v P) (hb : Below C w w') (hl : ∀ g, v.ownBlock = some g → g < C) : OwnF B e w' v P := by
  refine ⟨h.1, ?_⟩
  rcases h.2 with h | ⟨g, cap, cur, hv, hB, hg, rest⟩
  · exact .inl h
  · exact .inr ⟨g, cap, cur, hv, hB, (hb.block g (hl g (by rw [hv]; rfl))).trans hg, rest⟩

/-- A packet's bytes. -/
def frB (F : Fm) : List UInt8 := frameL F.1 F.2.1 F.2.2
/-- One that may be, of at most 150 bytes. -/
def frOk (F : Fm) : Prop := F.1 ≤ 15 ∧ F.2.1 ≤ 15 ∧ chkB F.1 F.2.1 = true ∧ F.2.2.length ≤ 150

theorem frB_len (F : Fm) (h : frOk F) : (frB F).length ≤ 155 := by
  have := varb_len 3 F.2.2.length
  have := h.2.2.2
  rw [frB, frame_len]
  omega
theorem cat_len (L : List Fm) (h : ∀ F ∈ L, frOk F) : (L.flatMap frB).length ≤ 155 * L.length := by
  induction L with
  | nil => simp
  | cons F L ih =>
    have := frB_len F (h F (by simp))
    have := ih (fun G hG => h G (by simp [hG]))
    rw [List.flatMap_cons, List.length_append, List.length_cons]
    omega
/-- They come back. -/
theorem cat_run (L : List Fm) (h : ∀ F ∈ L, frOk F) : ∀ n, L.length < n → runF 1000 n (L.flatMap frB) = (L, 1, []) := by
  induction L with
  | nil =>
    intro n hn
    obtain ⟨m, rfl⟩ : ∃ m, n = m + 1 := ⟨n - 1, by simp at hn; omega⟩
    exact runF_end 1000 m [] (0, 0, []) 1 rfl (by decide)
  | cons F L ih =>
    intro n hn
    obtain ⟨m, rfl⟩ : ∃ m, n = m + 1 := ⟨n - 1, by simp at hn; omega⟩
    have hF := h F (by simp)
    have hl := frB_len F hF
    obtain ⟨h1, h2, h3, h4⟩ := hF
    obtain ⟨k, f, b⟩ := F
    dsimp only at h1 h2 h3 h4
    obtain ⟨e1, e2⟩ := frame_next k f h1 h2 h3 b (L.flatMap frB) (by omega) 1000 (by show ((frB (k, f, b)).length : Int) ≤ 1000; omega)
    rw [List.flatMap_cons]
    have he : frB (k, f, b) ++ L.flatMap frB = frameL k f b ++ L.flatMap frB := rfl
    rw [he, runF_go 1000 m _ _ e1, e2, ih (fun G hG => h G (by simp [hG])) m (by simp at hn; omega)]

/-- Packets, one behind the other. -/
def catL (L : List Fm) : List UInt8 := L.flatMap frB
theorem catL_snoc (L : List Fm) (F : Fm) : catL (L ++ [F]) = catL L ++ frB F := by simp [catL]

#print axioms cat_run
end Go.Proofs.Ytdhdjkpocdfjbaa
