/-
  The calls of inbound.Set. (No statement: contracts that the proofs of the statements use.)
-/
import Derived.Test.YticlenpgokajdaaJIds4
namespace Go.Proofs.Yticlenpgokajdaa
open Go.RowKit Go.Maps

/-- f, but v at n. -/
def upd (f : Nat → Int) (n : Nat) (v : Int) (j : Nat) : Int := if j = n then v else f j
theorem upd_self (f : Nat → Int) (n : Nat) (v : Int) : upd f n v n = v := if_pos rfl
theorem upd_other (f : Nat → Int) (n : Nat) (v : Int) {j : Nat} (h : j ≠ n) : upd f n v j = f j := if_neg h

/-- Block b is a map of the numbers U; f says what stands at each, at most T. -/
def WaitAt (w : World) (b T : Nat) (U : List Nat) (f : Nat → Int) : Prop :=
  ∃ D : DataW Unit, w.ownsMap Try.prog 22 (plainElem Try.prog 3) b U.length D ∧ Rise U ∧ (∀ i ∈ U, i < 4294967296) ∧ (∀ i : Nat, Maps.has D (.int .u32 (i : Int)) = decide (i ∈ U)) ∧ Maps.size D = U.length ∧
    (∀ i : Nat, D.atKey (.int .u32 (i : Int)) (.lit (.int .i64 0)) = .lit (.int .i64 (f i))) ∧ (∀ i, 0 < f i ↔ i ∈ U) ∧ ∀ i, 0 ≤ f i ∧ f i ≤ (T : Int)

theorem WaitAt.keep {w w' : World} {b T : Nat} {U : List Nat} {f : Nat → Int} (h : WaitAt w b T U f) (hb : w'.heap[b]? = w.heap[b]?) : WaitAt w' b T U f := by
  obtain ⟨D, ⟨es, clock, h1, F, hs, hD⟩, r⟩ := h
  exact ⟨D, ⟨es, clock, hb.trans h1, F, hs, hD⟩, r⟩
theorem WaitAt.lt {w : World} {b T : Nat} {U : List Nat} {f : Nat → Int} (h : WaitAt w b T U f) : b < w.heap.size := by
  obtain ⟨D, h1, _⟩ := h
  exact h1.lt
theorem WaitAt.made (w : World) : WaitAt (w.alloc (.map #[] 0)) w.heap.size 0 [] (fun _ => 0) :=
  ⟨_, World.ownsMap_made _ _ _ _, List.Pairwise.nil, by simp, fun _ => by simp [Maps.has], rfl, fun _ => rfl, by simp, by simp⟩
theorem WaitAt.len {w : World} {b T : Nat} {U : List Nat} {f : Nat → Int} (h : WaitAt w b T U f) : U.length < maxLen := by
  obtain ⟨D, _, hr, hlt, _⟩ := h
  exact Nat.lt_of_le_of_lt (rise_len _ U hr hlt) (by decide)
theorem WaitAt.bound {w : World} {b T : Nat} {U : List Nat} {f : Nat → Int} (h : WaitAt w b T U f) (i : Nat) : 0 ≤ f i ∧ f i ≤ (T : Int) := by
  obtain ⟨D, _, _, _, _, _, _, _, hT⟩ := h
  exact hT i
theorem WaitAt.pos {w : World} {b T : Nat} {U : List Nat} {f : Nat → Int} (h : WaitAt w b T U f) (i : Nat) : 0 < f i ↔ i ∈ U := by
  obtain ⟨D, _, _, _, _, _, _, hp, _⟩ := h
  exact hp i
theorem WaitAt.look {w : World} {b T : Nat} {U : List Nat} {f : Nat → Int} (h : WaitAt w b T U f) {i : Nat} (hi : i < 4294967296) {v : Int} (hv : f i = v) :
    (Instr.lookup 41 (.map (some b)) (.int .u32 (i : Int)) false).run Try.prog w = .ok (.int .i64 v) w := by
  obtain ⟨D, hown, _, _, _, _, hat, _⟩ := h
  exact TimesAt.look ⟨D, hown, hat⟩ hi hv

/-- It came again. -/
theorem wait_again {w w' : World} {b T n : Nat} {U : List Nat} {f : Nat → Int} {D : DataW Unit} {v : Int} (hU : n ∈ U) (hv : v = f n + 1) (hown : w.ownsMap Try.prog 22 (plainElem Try.prog 3) b U.length D) (hr : Rise U) (hlt : ∀ i ∈ U, i < 4294967296)
    (hhas : ∀ i : Nat, Maps.has D (.int .u32 (i : Int)) = decide (i ∈ U)) (hsz : Maps.size D = U.length) (hat : ∀ i : Nat, D.atKey (.int .u32 (i : Int)) (.lit (.int .i64 0)) = .lit (.int .i64 (f i))) (hp : ∀ i, 0 < f i ↔ i ∈ U) (hT : ∀ i, 0 ≤ f i ∧ f i ≤ (T : Int))
    (h' : w'.ownsMap Try.prog 22 (plainElem Try.prog 3) b (U.length + 1) (D.put (.int .u32 (n : Int)) (.lit (.int .i64 v)))) : WaitAt w' b (T + 1) U (upd f n v) := by
  have hsz' : Maps.size (D.put (.int .u32 (n : Int)) (.lit (.int .i64 v))) = U.length := by
    rw [size_put (hown.tidy law_u32), hhas n, hsz]
    simp [hU]
  refine ⟨_, own_tight h' hsz', hr, hlt, fun i => ?_, hsz', fun i => ?_, fun i => ?_, fun i => ?_⟩
  · by_cases e : i = n
    · subst e
      rw [has_put_same hown.isMap (by simp [WideAt.IsKeyLit])]
      simp [hU]
    · rw [has_put_other (key_ne e), hhas i]
  · by_cases e : i = n
    · subst e
      rw [atKey_put_same hown.isMap (by simp [WideAt.IsKeyLit]), upd_self]
    · rw [atKey_put_other (key_ne e), hat i, upd_other _ _ _ e]
  · by_cases e : i = n
    · subst e
      rw [upd_self]
      have := hT i
      exact ⟨fun _ => hU, fun _ => by omega⟩
    · rw [upd_other _ _ _ e]
      exact hp i
  · have h1 := hT i
    have h2 := hT n
    unfold upd
    split <;> omega

/-- It came for the first time. -/
theorem wait_new {w w' : World} {b T n : Nat} {U : List Nat} {f : Nat → Int} {D : DataW Unit} (hn : n < 4294967296) (hU : n ∉ U) (hown : w.ownsMap Try.prog 22 (plainElem Try.prog 3) b U.length D) (hr : Rise U) (hlt : ∀ i ∈ U, i < 4294967296)
    (hhas : ∀ i : Nat, Maps.has D (.int .u32 (i : Int)) = decide (i ∈ U)) (hsz : Maps.size D = U.length) (hat : ∀ i : Nat, D.atKey (.int .u32 (i : Int)) (.lit (.int .i64 0)) = .lit (.int .i64 (f i))) (hp : ∀ i, 0 < f i ↔ i ∈ U) (hT : ∀ i, 0 ≤ f i ∧ f i ≤ (T : Int))
    (h' : w'.ownsMap Try.prog 22 (plainElem Try.prog 3) b (U.length + 1) (D.put (.int .u32 (n : Int)) (.lit (.int .i64 1)))) : WaitAt w' b (T + 1) (ins n U) (upd f n 1) := by
  have hsz' : Maps.size (D.put (.int .u32 (n : Int)) (.lit (.int .i64 1))) = (ins n U).length := by
    rw [size_put (hown.tidy law_u32), hhas n, length_ins, hsz]
    simp [hU]
  refine ⟨_, own_tight h' hsz', rise_ins n U hr hU, fun i hi => ?_, fun i => ?_, hsz', fun i => ?_, fun i => ?_, fun i => ?_⟩
  · rcases (mem_ins n i U).1 hi with rfl | h
    · exact hn
    · exact hlt i h
  · by_cases e : i = n
    · subst e
      rw [has_put_same hown.isMap (by simp [WideAt.IsKeyLit])]
      simp [mem_ins]
    · rw [has_put_other (key_ne e), hhas i]
      simp [mem_ins, e]
  · by_cases e : i = n
    · subst e
      rw [atKey_put_same hown.isMap (by simp [WideAt.IsKeyLit]), upd_self]
    · rw [atKey_put_other (key_ne e), hat i, upd_other _ _ _ e]
  · by_cases e : i = n
    · subst e
      rw [upd_self, mem_ins]
      simp
    · rw [upd_other _ _ _ e, mem_ins, hp i]
      simp [e]
  · have h1 := hT i
    unfold upd
    split <;> omega

/-- It waits no more. -/
theorem wait_del {w w' : World} {b T n : Nat} {U : List Nat} {f : Nat → Int} {D : DataW Unit} (hown : w.ownsMap Try.prog 22 (plainElem Try.prog 3) b U.length D) (hr : Rise U) (hlt : ∀ i ∈ U, i < 4294967296)
    (hhas : ∀ i : Nat, Maps.has D (.int .u32 (i : Int)) = decide (i ∈ U)) (hsz : Maps.size D = U.length) (hat : ∀ i : Nat, D.atKey (.int .u32 (i : Int)) (.lit (.int .i64 0)) = .lit (.int .i64 (f i))) (hp : ∀ i, 0 < f i ↔ i ∈ U) (hT : ∀ i, 0 ≤ f i ∧ f i ≤ (T : Int))
    (h' : w'.ownsMap Try.prog 22 (plainElem Try.prog 3) b U.length (D.del (.int .u32 (n : Int)))) : WaitAt w' b T (cut1 n U) (upd f n 0) := by
  have hsz' : Maps.size (D.del (.int .u32 (n : Int))) = (cut1 n U).length := by
    have h1 := size_del (k := .int .u32 (n : Int)) (hown.tidy law_u32)
    rw [hhas n, hsz] at h1
    by_cases e : n ∈ U
    · have := length_cut1 n U hr e
      simp [e] at h1
      omega
    · rw [cut1_none n U e]
      simpa [e] using h1
  refine ⟨_, own_tight h' hsz', rise_cut1 n U hr, fun i hi => hlt i ((mem_cut1 n i U).1 hi).1, fun i => ?_, hsz', fun i => ?_, fun i => ?_, fun i => ?_⟩
  · by_cases e : i = n
    · subst e
      rw [has_del_same]
      simp [mem_cut1]
    · rw [has_del_other (key_ne e), hhas i]
      simp [mem_cut1, e]
  · by_cases e : i = n
    · subst e
      rw [atKey_del_same, upd_self]
    · rw [atKey_del_other (key_ne e), hat i, upd_other _ _ _ e]
  · by_cases e : i = n
    · subst e
      rw [upd_self, mem_cut1]
      simp
    · rw [upd_other _ _ _ e, mem_cut1, hp i]
      simp [e]
  · have h1 := hT i
    unfold upd
    split <;> omega

/-- Block p is a set: how many may wait; those that wait (a map in block b). -/
structure InbAt (w : World) (p b most T : Nat) (U : List Nat) (f : Nat → Int) : Prop where
  cells : w.heap[p]? = some (.cells #[.int .i64 most, .map (some b)] 76 (0, 0))
  wait : WaitAt w b T U f

theorem InbAt.keep {w w' : World} {p b most T : Nat} {U : List Nat} {f : Nat → Int} (h : InbAt w p b most T U f) (h1 : w'.heap[p]? = w.heap[p]?) (h2 : w'.heap[b]? = w.heap[b]?) : InbAt w' p b most T U f :=
  ⟨h1.trans h.cells, h.wait.keep h2⟩
theorem InbAt.below {w w' : World} {p b most T : Nat} {U : List Nat} {f : Nat → Int} (h : InbAt w p b most T U f) (hb : Below w.heap.size w w') : InbAt w' p b most T U f :=
  h.keep (hb.block p (m_size h.cells)) (hb.block b h.wait.lt)
theorem InbAt.ne {w : World} {p b most T : Nat} {U : List Nat} {f : Nat → Int} (h : InbAt w p b most T U f) : p ≠ b := by
  intro e
  subst e
  obtain ⟨D, ⟨es, clock, h1, _⟩, _⟩ := h.wait
  rw [h.cells] at h1
  cases h1

theorem two_m {w : World} {b : Nat} {u v : Value} {t : TypeId} (h : w.heap[b]? = some (.cells #[u, v] t (0, 0))) : (w.cell? ⟨b, 0, none⟩ = some u ∧ w.cell? ⟨b, 1, none⟩ = some v) ∧ w.frozen? ⟨b, 0, none⟩ = false ∧ w.frozen? ⟨b, 1, none⟩ = false := by
  simp [World.cell?, World.frozen?, h]

/-- What New answers, and leaves. -/
def InbNew (w : World) (k : Nat) (e : Ending) (w' : World) : Prop :=
  ∃ p b, e = .returned (.pointer (some ⟨p, 0, none⟩)) ∧ InbAt w' p b k 0 [] (fun _ => 0) ∧ Below w.heap.size w w' ∧ w.heap.size ≤ p ∧ w.heap.size ≤ b

theorem inb_made (w : World) (k : Nat) : InbNew w k (.returned (.pointer (some ⟨w.heap.size + 1, 0, none⟩)))
    ((w.alloc (Obj.map #[] 0)).alloc (Obj.cells #[Value.int IntKind.i64 k, Value.map (some w.heap.size)] 76)) := by
  have hs := WaitAt.made w
  have hb : Below (w.alloc (Obj.map #[] 0)).heap.size (w.alloc (Obj.map #[] 0)) ((w.alloc (Obj.map #[] 0)).alloc (Obj.cells #[Value.int IntKind.i64 k, Value.map (some w.heap.size)] 76)) := (Below.refl _ _).alloc (Nat.le_refl _) _
  have hn := heap_alloc_new (w.alloc (Obj.map #[] 0)) (Obj.cells #[Value.int IntKind.i64 k, Value.map (some w.heap.size)] 76)
  rw [World.size_alloc] at hn
  refine ⟨w.heap.size + 1, w.heap.size, rfl, ⟨hn, hs.keep (hb.block _ hs.lt)⟩, ?_, Nat.le_succ _, Nat.le_refl _⟩
  exact ((Below.refl _ w).alloc (Nat.le_refl _) _).alloc (by simp) _

theorem inbNew_calls (w : World) (m : Int) (k : Nat) (hk : max m 0 = (k : Int)) :
    Calls Try.prog 23 #[.int .i64 m] w (InbNew w k) := by
  have hmm := @run_makeMap Try.prog
  have HP := Lib.hid (inb_made w k)
  have HK := Lib.hid hk
  clear hk
  go_enter Try.func23, Try.ntmps23
  go_wp2
  · obtain rfl : k = 0 := by have := HK.out; omega
    go_ret
    exact HP.out
  · obtain rfl : m = (k : Int) := by have := HK.out; omega
    go_ret
    exact HP.out

theorem inbLen_calls (w : World) (p b most T : Nat) (U : List Nat) (f : Nat → Int) (h : InbAt w p b most T U f) :
    Calls Try.prog 31 #[.pointer (some ⟨p, 0, none⟩)] w fun e w' => e = .returned (.int .i64 U.length) ∧ w = w' := by
  obtain ⟨⟨c0, c1⟩, _, _⟩ := two_m h.cells
  obtain ⟨D, hown, _, _, _, hsz, _⟩ := h.wait
  have HS := Lib.hid hsz
  clear h hsz
  go_enter Try.func31, Try.ntmps31
  go_wp2_with (first | (at_len; refine wpList_len_own _ rfl _ 41 rfl 22 3 Try.underlying41 _ b U.length D rfl hown ?_) | go_in)
  go_ret
  rw [HS.out]
  exact ⟨rfl, rfl⟩

theorem inbLen_quiet (w : World) (p b most T : Nat) (U : List Nat) (f : Nat → Int) (h : InbAt w p b most T U f) (n : Nat) :
    Calls Try.prog 31 #[.pointer (some ⟨p, 0, none⟩)] (w.drewN n) fun e w' => e = .returned (.int .i64 U.length) ∧ w' = w.drewN n :=
  (inbLen_calls (w.drewN n) p b most T U f (h.keep rfl rfl)).mono fun _ _ ⟨h1, h2⟩ => ⟨h1, h2.symm⟩

theorem inbTimes_calls (w : World) (p b most T : Nat) (U : List Nat) (f : Nat → Int) (n : Nat) (v : Int) (hv : f n = v) (hn : n < 4294967296) (h : InbAt w p b most T U f) :
    Calls Try.prog 32 #[.pointer (some ⟨p, 0, none⟩), .int .u32 n] w fun e w' => e = .returned (.int .i64 v) ∧ w = w' := by
  obtain ⟨⟨c0, c1⟩, _, _⟩ := two_m h.cells
  have hl := h.wait.look hn hv
  clear h hn hv
  go_enter Try.func32, Try.ntmps32
  go_wp2
  go_ret
  exact ⟨rfl, rfl⟩

def InbR (w : World) (p b most T : Nat) (U : List Nat) (f : Nat → Int) (v : Value) (e : Ending) (w' : World) : Prop :=
  e = .returned v ∧ InbAt w' p b most T U f ∧ Moved w w' p b

set_option maxRecDepth 100000 in
theorem inbEnd_calls (w : World) (p b most T : Nat) (U : List Nat) (f : Nat → Int) (n : Nat) (hn : n < 4294967296) (h : InbAt w p b most T U f) :
    Calls Try.prog 27 #[.pointer (some ⟨p, 0, none⟩), .int .u32 n] w (InbR w p b most T (cut1 n U) (upd f n 0) (.bool (decide (n ∈ U)))) := by
  obtain ⟨v, hv⟩ : ∃ v, f n = v := ⟨_, rfl⟩
  have hpos := h.wait.pos n
  rw [hv] at hpos
  have hbd : decide (n ∈ U) = decide (0 < v) := by
    by_cases e : n ∈ U
    · simp [e, hpos.2 e]
    · have : ¬ 0 < v := fun h => e (hpos.1 h)
      simp [e, this]
  rw [hbd]
  have HV := Lib.hid hv
  have HN := Lib.hid hn
  have HP := Lib.hid h
  have hkey := key_u32 hn
  have hne := h.ne
  have hpl := m_size h.cells
  obtain ⟨⟨c0, c1⟩, _, _⟩ := two_m h.cells
  obtain ⟨D, hown, hr, hlt, hhas, hsz, hat, hp, hT⟩ := h.wait
  have H1 := Lib.hid hr
  have H2 := Lib.hid hlt
  have H3 := Lib.hid hhas
  have H4 := Lib.hid hsz
  have H5 := Lib.hid hat
  have H6 := Lib.hid hp
  have H7 := Lib.hid hT
  clear hbd hpos hv hn h hr hlt hhas hsz hat hp hT
  go_enter Try.func27, Try.ntmps27
  go_wp2_with fail
  refine (inbTimes_calls _ p b most T U f n v HV.out HN.out HP.out).mono ?_
  rintro e w1 ⟨rfl, rfl⟩
  go_wp2_with (first
    | (at_delete; refine wpList_delete_own _ rfl _ _ 41 22 rfl 3 law_u32 Try.underlying41 _ b U.length D rfl hown _ _ rfl hkey ?_; intro w2 hown2 hturn2)
    | go_in)
  go_ret
  have hmv : Moved w w2 p b := Moved.turned hturn2
  exact ⟨rfl, ⟨((Moved.turned (p := b) hturn2).block p hpl hne hne).trans HP.out.cells, wait_del hown H1.out H2.out H3.out H4.out H5.out H6.out H7.out hown2⟩, hmv⟩

end Go.Proofs.Yticlenpgokajdaa
