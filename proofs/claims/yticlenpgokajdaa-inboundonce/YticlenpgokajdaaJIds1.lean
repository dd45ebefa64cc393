/-
  The calls of ids.Pool. (No statement: contracts that the proofs of the statements use.)
-/
import Derived.Test.YticlenpgokajdaaJSet0
import Derived.BigQuiet
import Derived.Deep.QuietTactic
namespace Go.Proofs.Yticlenpgokajdaa
open Go.RowKit Go.Maps

theorem law_u32 : Keyed Try.prog 22 := int_keyed Try.underlying22
theorem zero_unit (w : World) : (zeroValue 71).run Try.prog w = .ok (.agg #[]) w := by kernel_rfl
theorem key_u32 {n : Nat} (h : n < 4294967296) : keyOf Try.prog 22 (.int .u32 (n : Int)) = some (.int .u32 n) := keyOf_int_mk Try.underlying22 (lit_u32 h)

/-- Block b is a set of the numbers U. -/
def SetAt (w : World) (b : Nat) (U : List Nat) : Prop :=
  ∃ D : DataW Unit, w.ownsMap Try.prog 22 unitElem b U.length D ∧ Rise U ∧ (∀ i ∈ U, i < 4294967296) ∧ (∀ i : Nat, Maps.has D (.int .u32 (i : Int)) = decide (i ∈ U)) ∧ Maps.size D = U.length

theorem own_tight {k : TypeId} {R : Value → Option (DataW Unit × List MemPlace)} {w : World} {b n : Nat} {D : DataW Unit} (h : w.ownsMap Try.prog k R b n D) {m : Nat} (hm : Maps.size D = m) : w.ownsMap Try.prog k R b m D := by
  obtain ⟨es, clock, hb, F, hs, rfl⟩ := h
  refine ⟨es, clock, hb, F, ?_, rfl⟩
  have e1 : Maps.size (DataW.map ((es.toList.map (WideElems.rg Try.prog k R)).foldr DataW.insert [])) = es.size := by simp [Maps.size, length_sorted]
  omega

theorem SetAt.keep {w w' : World} {b : Nat} {U : List Nat} (h : SetAt w b U) (hb : w'.heap[b]? = w.heap[b]?) : SetAt w' b U := by
  obtain ⟨D, ⟨es, clock, h1, F, hs, hD⟩, r⟩ := h
  exact ⟨D, ⟨es, clock, hb.trans h1, F, hs, hD⟩, r⟩

theorem SetAt.lt {w : World} {b : Nat} {U : List Nat} (h : SetAt w b U) : b < w.heap.size := by
  obtain ⟨D, h1, _⟩ := h
  exact h1.lt

theorem rise_len (B : Nat) (U : List Nat) (h : Rise U) (hB : ∀ i ∈ U, i < B) : U.length ≤ B := by
  have := sub_length U (List.range B) (List.Pairwise.imp (fun h => Nat.ne_of_lt h) h) (fun x hx => List.mem_range.2 (hB x hx))
  rwa [List.length_range] at this

theorem SetAt.len {w : World} {b : Nat} {U : List Nat} (h : SetAt w b U) : U.length < maxLen := by
  obtain ⟨D, _, hr, hlt, _⟩ := h
  exact Nat.lt_of_le_of_lt (rise_len _ U hr hlt) (by decide)

theorem SetAt.made (w : World) : SetAt (w.alloc (.map #[] 0)) w.heap.size [] :=
  ⟨_, World.ownsMap_made _ _ _ _, List.Pairwise.nil, by simp, fun i => by simp [Maps.has], rfl⟩

theorem key_ne {i j : Nat} (h : i ≠ j) : Lit.int .u32 (i : Int) ≠ .int .u32 (j : Int) := fun e => h (by injection e with _ e; omega)

/-- What is put is a set of the numbers and of it. -/
theorem set_put {w w' : World} {b : Nat} {U : List Nat} {D : DataW Unit} {n : Nat} (hn : n < 4294967296) (hU : n ∉ U) (hown : w.ownsMap Try.prog 22 unitElem b U.length D) (hr : Rise U) (hlt : ∀ i ∈ U, i < 4294967296)
    (hhas : ∀ i : Nat, Maps.has D (.int .u32 (i : Int)) = decide (i ∈ U)) (hsz : Maps.size D = U.length) (h' : w'.ownsMap Try.prog 22 unitElem b (U.length + 1) (D.put (.int .u32 (n : Int)) (.agg []))) : SetAt w' b (ins n U) := by
  have hsz' : Maps.size (D.put (.int .u32 (n : Int)) (.agg [])) = (ins n U).length := by
    rw [size_put (hown.tidy law_u32), hhas n, length_ins, hsz]
    simp [hU]
  refine ⟨_, own_tight h' hsz', rise_ins n U hr hU, fun i hi => ?_, fun i => ?_, hsz'⟩
  · rcases (mem_ins n i U).1 hi with rfl | h
    · exact hn
    · exact hlt i h
  · by_cases e : i = n
    · subst e
      rw [has_put_same hown.isMap (by simp [WideAt.IsKeyLit])]
      simp [mem_ins]
    · rw [has_put_other (key_ne e), hhas i]
      simp [mem_ins, e]

theorem set_del {w w' : World} {b : Nat} {U : List Nat} {D : DataW Unit} {n : Nat} (hown : w.ownsMap Try.prog 22 unitElem b U.length D) (hr : Rise U) (hlt : ∀ i ∈ U, i < 4294967296)
    (hhas : ∀ i : Nat, Maps.has D (.int .u32 (i : Int)) = decide (i ∈ U)) (hsz : Maps.size D = U.length) (h' : w'.ownsMap Try.prog 22 unitElem b U.length (D.del (.int .u32 (n : Int)))) : SetAt w' b (cut1 n U) := by
  have hsz' : Maps.size (D.del (.int .u32 (n : Int))) = (cut1 n U).length := by
    have h1 := size_del (k := .int .u32 (n : Int)) (hown.tidy law_u32)
    rw [hhas n, hsz] at h1
    by_cases e : n ∈ U
    · have := length_cut1 n U hr e
      simp [e] at h1
      omega
    · rw [cut1_none n U e]
      simpa [e] using h1
  refine ⟨_, own_tight h' hsz', rise_cut1 n U hr, fun i hi => hlt i ((mem_cut1 n i U).1 hi).1, fun i => ?_, hsz'⟩
  by_cases e : i = n
  · subst e
    rw [has_del_same]
    simp [mem_cut1]
  · rw [has_del_other (key_ne e), hhas i]
    simp [mem_cut1, e]

/-- Block p is a pool: the greatest, the last one, those in use (a set in block b). -/
structure PoolAt (w : World) (p b most last : Nat) (U : List Nat) : Prop where
  cells : w.heap[p]? = some (.cells #[.int .u32 most, .int .u32 last, .map (some b)] 70 (0, 0))
  set : SetAt w b U
  m1 : 1 ≤ most
  m2 : most ≤ 65535
  l2 : last ≤ 65535

theorem PoolAt.keep {w w' : World} {p b most last : Nat} {U : List Nat} (h : PoolAt w p b most last U) (h1 : w'.heap[p]? = w.heap[p]?) (h2 : w'.heap[b]? = w.heap[b]?) : PoolAt w' p b most last U :=
  ⟨h1.trans h.cells, h.set.keep h2, h.m1, h.m2, h.l2⟩
theorem PoolAt.below {w w' : World} {p b most last : Nat} {U : List Nat} (h : PoolAt w p b most last U) (hb : Below w.heap.size w w') : PoolAt w' p b most last U :=
  h.keep (hb.block p (m_size h.cells)) (hb.block b h.set.lt)
theorem PoolAt.ne {w : World} {p b most last : Nat} {U : List Nat} (h : PoolAt w p b most last U) : p ≠ b := by
  intro e
  subst e
  obtain ⟨D, ⟨es, clock, h1, _⟩, _⟩ := h.set
  rw [h.cells] at h1
  cases h1

theorem three_m {w : World} {b : Nat} {u v x : Value} {t : TypeId} (h : w.heap[b]? = some (.cells #[u, v, x] t (0, 0))) : (w.cell? ⟨b, 0, none⟩ = some u ∧ w.cell? ⟨b, 1, none⟩ = some v ∧ w.cell? ⟨b, 2, none⟩ = some x) ∧ w.frozen? ⟨b, 0, none⟩ = false ∧ w.frozen? ⟨b, 1, none⟩ = false ∧ w.frozen? ⟨b, 2, none⟩ = false := by
  simp [World.cell?, World.frozen?, h]

theorem PoolAt.last {w : World} {p b most l0 l1 : Nat} {U : List Nat} (h : PoolAt w p b most l0 U) (hl : l1 ≤ 65535) : PoolAt (w.setCell ⟨p, 1, none⟩ (.int .u32 l1)) p b most l1 U := by
  refine ⟨?_, h.set.keep (Below.heap_setCell _ _ _ _ (Ne.symm h.ne)), h.m1, h.m2, hl⟩
  simp [World.setCell, Array.getElem?_modify, h.cells]

theorem idsLen_calls (w : World) (p b most last : Nat) (U : List Nat) (h : PoolAt w p b most last U) :
    Calls Try.prog 21 #[.pointer (some ⟨p, 0, none⟩)] w fun e w' => e = .returned (.int .i64 U.length) ∧ w = w' := by
  obtain ⟨⟨c0, c1, c2⟩, f0, f1, f2⟩ := three_m h.cells
  obtain ⟨D, hown, _, _, _, hsz⟩ := h.set
  have HS := Lib.hid hsz
  clear h f0 f1 f2 hsz
  go_enter Try.func21, Try.ntmps21
  go_wp2_with (first | (at_len; refine wpList_len_own _ rfl _ 68 rfl 22 71 Try.underlying68 _ b U.length D rfl hown ?_) | go_in)
  go_ret
  rw [HS.out]
  exact ⟨rfl, rfl⟩

theorem idsHas_calls (w : World) (p b most last : Nat) (U : List Nat) (n : Nat) (hn : n < 4294967296) (h : PoolAt w p b most last U) :
    Calls Try.prog 22 #[.pointer (some ⟨p, 0, none⟩), .int .u32 n] w fun e w' => e = .returned (.bool (decide (n ∈ U))) ∧ Below w.heap.size w w' := by
  obtain ⟨⟨c0, c1, c2⟩, f0, f1, f2⟩ := three_m h.cells
  obtain ⟨D, hown, _, _, hhas, _⟩ := h.set
  have hh := hhas n
  have HS := Lib.hid hh
  have hkey := key_u32 hn
  clear h f0 f1 f2 hhas hh
  go_enter Try.func22, Try.ntmps22
  go_wp2_with (first | (at_lookup; refine wpList_lookup_own_unit _ rfl _ _ 68 rfl 22 71 law_u32 Try.underlying68 (zero_unit _) b U.length D rfl hown _ _ rfl hkey ?_) | go_in)
  go_ret
  rw [HS.out]
  exact ⟨rfl, (Below.refl _ _).alloc (Nat.le_refl _) _⟩

/-- What New answers, and leaves. -/
def PoolNew (w : World) (k : Nat) (e : Ending) (w' : World) : Prop :=
  ∃ p b, e = .returned (.pointer (some ⟨p, 0, none⟩)) ∧ PoolAt w' p b k 0 [] ∧ Below w.heap.size w w' ∧ w.heap.size ≤ p ∧ w.heap.size ≤ b

theorem pool_made (w : World) (k : Nat) (h1 : 1 ≤ k) (h2 : k ≤ 65535) : PoolNew w k (.returned (.pointer (some ⟨w.heap.size + 1, 0, none⟩)))
    ((w.alloc (Obj.map #[] 0)).alloc (Obj.cells #[Value.int IntKind.u32 k, Value.int IntKind.u32 0, Value.map (some w.heap.size)] 70)) := by
  have hs := SetAt.made w
  have hb : Below (w.alloc (Obj.map #[] 0)).heap.size (w.alloc (Obj.map #[] 0)) ((w.alloc (Obj.map #[] 0)).alloc (Obj.cells #[Value.int IntKind.u32 k, Value.int IntKind.u32 0, Value.map (some w.heap.size)] 70)) := (Below.refl _ _).alloc (Nat.le_refl _) _
  have hn := heap_alloc_new (w.alloc (Obj.map #[] 0)) (Obj.cells #[Value.int IntKind.u32 k, Value.int IntKind.u32 0, Value.map (some w.heap.size)] 70)
  rw [World.size_alloc] at hn
  refine ⟨w.heap.size + 1, w.heap.size, rfl, ⟨hn, hs.keep (hb.block _ hs.lt), h1, h2, Nat.zero_le _⟩, ?_, Nat.le_succ _, Nat.le_refl _⟩
  exact ((Below.refl _ w).alloc (Nat.le_refl _) _).alloc (by simp) _

theorem idsNew_calls (w : World) (m k : Nat) (hm : m < 4294967296) (hk : min (max m 1) 65535 = k) :
    Calls Try.prog 12 #[.int .u32 m] w (PoolNew w k) := by
  have hmm := @run_makeMap Try.prog
  have hP := pool_made w k (by omega) (by omega)
  have HP := Lib.hid hP
  have HK := Lib.hid hk
  clear hk hP
  go_enter Try.func12, Try.ntmps12
  go_wp2
  · obtain rfl : k = 1 := by have := HK.out; omega
    go_ret
    exact HP.out
  · obtain rfl : k = 65535 := by have := HK.out; omega
    go_ret
    exact HP.out
  · obtain rfl : k = m := by have := HK.out; omega
    go_ret
    exact HP.out

/-- What Take answers; those in use behind it. -/
def takeE (most : Nat) (U : List Nat) (n : Nat) : Int := if n < 1 ∨ most < n then 5 else if n ∈ U then 8 else 0
def takeU (most : Nat) (U : List Nat) (n : Nat) : List Nat := if (n < 1 ∨ most < n) ∨ n ∈ U then U else ins n U

def PoolR (w : World) (p b most last : Nat) (U : List Nat) (v : Value) (e : Ending) (w' : World) : Prop :=
  e = .returned v ∧ PoolAt w' p b most last U ∧ Moved w w' p b

theorem PoolAt.put {w w' : World} {p b most last n : Nat} {U : List Nat} {D : DataW Unit} (h : PoolAt w p b most last U) (hn : n < 4294967296) (hU : n ∉ U) (hown : w.ownsMap Try.prog 22 unitElem b U.length D)
    (hhas : ∀ i : Nat, Maps.has D (.int .u32 (i : Int)) = decide (i ∈ U)) (hsz : Maps.size D = U.length) (h' : w'.ownsMap Try.prog 22 unitElem b (U.length + 1) (D.put (.int .u32 (n : Int)) (.agg []))) (ht : w.mapTurned w' b) : PoolAt w' p b most last (ins n U) := by
  have hne := h.ne
  obtain ⟨_, _, hr, hlt, _⟩ := h.set
  exact ⟨((Moved.turned (p := b) ht).block p (m_size h.cells) hne hne).trans h.cells, set_put hn hU hown hr hlt hhas hsz h', h.m1, h.m2, h.l2⟩

theorem PoolAt.del {w w' : World} {p b most last n : Nat} {U : List Nat} {D : DataW Unit} (h : PoolAt w p b most last U) (hown : w.ownsMap Try.prog 22 unitElem b U.length D)
    (hhas : ∀ i : Nat, Maps.has D (.int .u32 (i : Int)) = decide (i ∈ U)) (hsz : Maps.size D = U.length) (h' : w'.ownsMap Try.prog 22 unitElem b U.length (D.del (.int .u32 (n : Int)))) (ht : w.mapTurned w' b) : PoolAt w' p b most last (cut1 n U) := by
  have hne := h.ne
  obtain ⟨_, _, hr, hlt, _⟩ := h.set
  exact ⟨((Moved.turned (p := b) ht).block p (m_size h.cells) hne hne).trans h.cells, set_del hown hr hlt hhas hsz h', h.m1, h.m2, h.l2⟩

set_option maxRecDepth 100000 in
set_option maxHeartbeats 1000000 in
theorem idsTake_calls (w : World) (p b most last : Nat) (U : List Nat) (n : Nat) (hn : n < 4294967296) (h : PoolAt w p b most last U) :
    Calls Try.prog 16 #[.pointer (some ⟨p, 0, none⟩), .int .u32 n] w (PoolR w p b most last (takeU most U n) (.int .i64 (takeE most U n))) := by
  obtain ⟨⟨c0, c1, c2⟩, f0, f1, f2⟩ := three_m h.cells
  have HP := Lib.hid h
  have hkey := key_u32 hn
  have HN := Lib.hid hn
  clear c1 f0 f1 f2 h hn
  by_cases h1 : n < 1
  · have hU : takeU most U n = U := by unfold takeU; rw [if_pos (.inl (.inl h1))]
    have hE : takeE most U n = 5 := by unfold takeE; rw [if_pos (.inl h1)]
    rw [hU, hE]
    clear hU hE
    go_enter Try.func16, Try.ntmps16
    go_wp2
    go_ret
    exact ⟨rfl, HP.out, Moved.refl _ _ _⟩
  by_cases h2 : most < n
  · have hU : takeU most U n = U := by unfold takeU; rw [if_pos (.inl (.inr h2))]
    have hE : takeE most U n = 5 := by unfold takeE; rw [if_pos (.inr h2)]
    rw [hU, hE]
    clear hU hE
    go_enter Try.func16, Try.ntmps16
    go_wp2
    go_ret
    exact ⟨rfl, HP.out, Moved.refl _ _ _⟩
  by_cases h3 : n ∈ U
  · have hU : takeU most U n = U := by unfold takeU; rw [if_pos (.inr h3)]
    have hE : takeE most U n = 8 := by unfold takeE; rw [if_neg (by omega), if_pos h3]
    rw [hU, hE]
    have hd : decide (n ∈ U) = true := by simpa using h3
    have HD := Lib.hid hd
    clear hU hE hd h3
    go_enter Try.func16, Try.ntmps16
    go_wp2_with fail
    refine (idsHas_calls _ p b most last U n HN.out HP.out).mono ?_
    rw [HD.out]
    rintro e w1 ⟨rfl, b1⟩
    have HB := Lib.hid b1
    clear b1 c0 c2
    go_wp2
    go_ret
    exact ⟨rfl, HP.out.below HB.out, Moved.of_below HB.out⟩
  · have hU : takeU most U n = ins n U := by unfold takeU; rw [if_neg (fun e => e.elim (fun e => by omega) h3)]
    have hE : takeE most U n = 0 := by unfold takeE; rw [if_neg (by omega), if_neg h3]
    rw [hU, hE]
    have hd : decide (n ∈ U) = false := by simpa using h3
    have HD := Lib.hid hd
    have H3 := Lib.hid h3
    clear hU hE hd h3
    go_enter Try.func16, Try.ntmps16
    go_wp2_with fail
    refine (idsHas_calls _ p b most last U n HN.out HP.out).mono ?_
    rw [HD.out]
    rintro e w1 ⟨rfl, b1⟩
    have HB := Lib.hid b1
    have hp1 := HP.out.below b1
    have hlen := hp1.set.len
    obtain ⟨⟨d0, d1, d2⟩, _, _, _⟩ := three_m hp1.cells
    obtain ⟨D, hown, _, _, hhas, hsz⟩ := hp1.set
    have H1 := Lib.hid hp1
    have HH := Lib.hid hhas
    have HS := Lib.hid hsz
    clear b1 c0 c2 d0 d1 hp1 hhas hsz HP
    go_wp2_with (first
      | (at_mapUpdate; refine wpList_mapUpdate_in _ rfl _ _ _ 68 rfl 22 71 law_u32 Try.underlying68 _ b U.length D rfl hown hlen _ _ _ rfl rfl hkey _ [] unitElem_mk ?_; intro w2 hown2 hturn2)
      | go_in)
    go_ret
    exact ⟨rfl, H1.out.put HN.out H3.out hown HH.out HS.out hown2 hturn2, (Moved.of_below HB.out).trans (Moved.turned hturn2)⟩

/-- What Free answers. -/
def freeE (U : List Nat) (n : Nat) : Int := if n ∈ U then 0 else 7

set_option maxRecDepth 100000 in
set_option maxHeartbeats 1000000 in
theorem idsFree_calls (w : World) (p b most last : Nat) (U : List Nat) (n : Nat) (hn : n < 4294967296) (h : PoolAt w p b most last U) :
    Calls Try.prog 18 #[.pointer (some ⟨p, 0, none⟩), .int .u32 n] w (PoolR w p b most last (cut1 n U) (.int .i64 (freeE U n))) := by
  have HP := Lib.hid h
  have hkey := key_u32 hn
  have HN := Lib.hid hn
  clear h hn
  by_cases h3 : n ∈ U
  · have hE : freeE U n = 0 := by unfold freeE; rw [if_pos h3]
    rw [hE]
    have hd : decide (n ∈ U) = true := by simpa using h3
    have HD := Lib.hid hd
    clear hE hd h3
    go_enter Try.func18, Try.ntmps18
    go_wp2_with fail
    refine (idsHas_calls _ p b most last U n HN.out HP.out).mono ?_
    rw [HD.out]
    rintro e w1 ⟨rfl, b1⟩
    have HB := Lib.hid b1
    have hp1 := HP.out.below b1
    obtain ⟨⟨d0, d1, d2⟩, _, _, _⟩ := three_m hp1.cells
    obtain ⟨D, hown, _, _, hhas, hsz⟩ := hp1.set
    have H1 := Lib.hid hp1
    have HH := Lib.hid hhas
    have HS := Lib.hid hsz
    clear b1 d0 d1 hp1 hhas hsz HP
    go_wp2_with (first
      | (at_delete; refine wpList_delete_own _ rfl _ _ 68 22 rfl 71 law_u32 Try.underlying68 _ b U.length D rfl hown _ _ rfl hkey ?_; intro w2 hown2 hturn2)
      | go_in)
    go_ret
    exact ⟨rfl, H1.out.del hown HH.out HS.out hown2 hturn2, (Moved.of_below HB.out).trans (Moved.turned hturn2)⟩
  · have hE : freeE U n = 7 := by unfold freeE; rw [if_neg h3]
    rw [hE, cut1_none n U h3]
    have hd : decide (n ∈ U) = false := by simpa using h3
    have HD := Lib.hid hd
    clear hE hd h3
    go_enter Try.func18, Try.ntmps18
    go_wp2_with fail
    refine (idsHas_calls _ p b most last U n HN.out HP.out).mono ?_
    rw [HD.out]
    rintro e w1 ⟨rfl, b1⟩
    have HB := Lib.hid b1
    clear b1
    go_wp2
    go_ret
    exact ⟨rfl, HP.out.below HB.out, Moved.of_below HB.out⟩

theorem idsLen_quiet (w : World) (p b most last : Nat) (U : List Nat) (h : PoolAt w p b most last U) (n : Nat) :
    Calls Try.prog 21 #[.pointer (some ⟨p, 0, none⟩)] (w.drewN n) fun e w' => e = .returned (.int .i64 U.length) ∧ w' = w.drewN n :=
  (idsLen_calls (w.drewN n) p b most last U (h.keep rfl rfl)).mono fun _ _ ⟨h1, h2⟩ => ⟨h1, h2.symm⟩

set_option maxRecDepth 100000 in
theorem idsNext_full (w : World) (p b most last : Nat) (U : List Nat) (h : PoolAt w p b most last U) (hf : most ≤ U.length) :
    Calls Try.prog 14 #[.pointer (some ⟨p, 0, none⟩)] w fun e w' => e = .returned (.tuple #[.int .u32 0, .int .i64 6]) ∧ ∃ n, w' = w.drewN n := by
  obtain ⟨⟨c0, c1, c2⟩, f0, f1, f2⟩ := three_m h.cells
  have m2 := h.m2
  have HP := Lib.hid h
  clear h f0 f1 f2
  go_enter Try.func14, Try.ntmps14
  go_wp2_with fail
  refine scope_head2 0 (fun _ _ => False) (fun _ _ => 0) rfl ?_ (fun a w h => h.elim)
  go_wp2_with fail
  go_quiet ((go_at_call 21; exact Calls.quiet_of_same (idsLen_quiet w p b most last U HP.out _)))
  go_wp2
  simp only [Exit.jump]
  go_ret2
  exact ⟨rfl, _, rfl⟩

/-- The identifier that stands in the search behind i that were looked at. -/
def lookAt (most last i : Nat) : Nat := if i = 0 then last else look1 most last i
theorem lookAt_step (most last i : Nat) : lookAt most last i % most + 1 = look1 most last (i + 1) := by
  unfold lookAt
  split
  · subst_vars; rw [look1_one]
  · rw [look1_step most last i (by omega)]

def NextJ (w : World) (p most last k n : Nat) (a' : Act) (w' : World) : Prop :=
  ∃ (i x : Nat) (u1 u5 u6 u7 u8 u9 u10 u11 u12 u13 u14 u15 u16 u17 u18 u19 u20 u21 u22 u23 u24 u25 u26 u27 u28 u29 u30 u31 u32 u33 u34 u35 u36 u37 : Value),
    a' = { tmps := #[.pointer (some ⟨p, 0, none⟩), u1, .int .u32 0, .int .i64 0, .int .u32 x, u5, u6, u7, u8, u9, u10, u11, u12, u13, u14, u15, u16, u17, u18, u19, u20, u21, u22, u23, u24, u25, u26, u27, u28, u29, u30, u31, u32, u33, u34, u35, u36, u37], defers := [] } ∧
    n + i = k ∧ 1 ≤ n ∧ x = lookAt most last i ∧ Below w.heap.size w w'

theorem drew_below {B : Nat} {a w : World} (h : Below B a w) (n : Nat) : Below B a (w.drewN n) := ⟨h.os, h.tape, h.output, h.size, h.block⟩

set_option maxRecDepth 100000 in
set_option maxHeartbeats 2000000 in
theorem idsNext_calls (w : World) (p b most last : Nat) (U : List Nat) (k d : Nat) (h : PoolAt w p b most last U) (hf : U.length < most) (hk1 : 1 ≤ k) (hd : look1 most last k = d) (hk : look1 most last k ∉ U) (hall : ∀ i, 1 ≤ i → i < k → look1 most last i ∈ U) :
    Calls Try.prog 14 #[.pointer (some ⟨p, 0, none⟩)] w (PoolR w p b most d (ins d U) (.tuple #[.int .u32 d, .int .i64 0])) := by
  obtain ⟨⟨c0, c1, c2⟩, f0, f1, f2⟩ := three_m h.cells
  have m1 := h.m1
  have m2 := h.m2
  have l2 := h.l2
  have HP := Lib.hid h
  have HA := Lib.hid hall
  have HK := Lib.hid hk
  have HD := Lib.hid hd
  clear h f0 f1 f2 hall hk hd
  go_enter Try.func14, Try.ntmps14
  go_wp2_with fail
  refine scope_head2n 0 (NextJ w p most last k) rfl ?_ ?_
  · go_wp2_with fail
    go_quiet ((go_at_call 21; exact Calls.quiet_of_same (idsLen_quiet w p b most last U HP.out _)))
    rename_i nq
    have e0 : (w.drewN nq).cell? ⟨p, 0, none⟩ = some (.int .u32 most) := c0
    have e1 : (w.drewN nq).cell? ⟨p, 1, none⟩ = some (.int .u32 last) := c1
    go_wp2
    exact ⟨k, 0, last, _, _, _, _, _, _, _, _, _, _, _, _, _, _, _, _, _, _, _, _, _, _, _, _, _, _, _, _, _, _, _, _, _, _, rfl, by omega, by omega, by simp [lookAt], drew_below (Below.refl _ _) _⟩
  · rintro n a' w' ⟨i, x, u1, u5, u6, u7, u8, u9, u10, u11, u12, u13, u14, u15, u16, u17, u18, u19, u20, u21, u22, u23, u24, u25, u26, u27, u28, u29, u30, u31, u32, u33, u34, u35, u36, u37, rfl, hn, hn1, hx, hb⟩
    have hx2 : x ≤ 65535 := by
      rw [hx]
      unfold lookAt
      split
      · exact l2
      · have := look1_le most last i m1; omega
    have hp' := HP.out.below hb
    obtain ⟨⟨d0, d1, d2⟩, f0, f1, f2⟩ := three_m hp'.cells
    have HP' := Lib.hid hp'
    have HB := Lib.hid hb
    have hst := lookAt_step most last i
    rw [← hx] at hst
    have hlt := Nat.mod_lt x (show 0 < most by omega)
    have hrem : (x : Int) % (most : Int) = ((x % most : Nat) : Int) := by omega
    obtain ⟨y, hy⟩ : ∃ y, look1 most last (i + 1) = y := ⟨_, rfl⟩
    have hr0 : 0 ≤ (x : Int) % (most : Int) := by omega
    have hr1 : (x : Int) % (most : Int) ≤ 65534 := by omega
    have hcy : (x : Int) % (most : Int) + 1 = (y : Int) := by rw [hrem, ← hy, ← hst]; omega
    have hy2 : y < 4294967296 := by have := look1_le most last (i + 1) m1; omega
    have HC := Lib.hid hcy
    have HY := Lib.hid hy
    have HY2 := Lib.hid hy2
    have hkey := key_u32 hy2
    have hy3 : y ≤ 65535 := by have := look1_le most last (i + 1) m1; omega
    clear hp' hb hx hst c0 c1 c2 hrem hcy hy hy2 hlt
    by_cases hik : i + 1 < k
    · have hin : decide (y ∈ U) = true := by
        have := HA.out (i + 1) (by omega) hik
        rw [HY.out] at this
        simpa using this
      have HI := Lib.hid hin
      clear hin hkey
      go_wp2_with fail
      rw [HC.out]
      go_wp2_with fail
      refine (idsHas_calls _ p b most last U y HY2.out HP'.out).mono ?_
      rw [HI.out]
      rintro e w2 ⟨rfl, b2⟩
      have HB2 := Lib.hid (HB.out.trans (b2.mono HB.out.size))
      clear b2 d0 d1 d2
      go_wp2
      go_step3
      refine ⟨rfl, n - 1, by omega, i + 1, y, _, _, _, _, _, _, _, _, _, _, _, _, _, _, _, _, _, _, _, _, _, _, _, _, _, _, _, _, _, _, _, _, _, _, rfl, by omega, by omega, ?_, HB2.out⟩
      unfold lookAt
      rw [if_neg (by omega), HY.out]
    · obtain rfl : k = i + 1 := by omega
      obtain rfl : y = d := by rw [← HY.out, HD.out]
      have hnot : decide (y ∈ U) = false := by
        have := HK.out
        rw [HY.out] at this
        simpa using this
      have HI := Lib.hid hnot
      clear hnot
      go_wp2_with fail
      rw [HC.out]
      go_wp2_with fail
      refine (idsHas_calls _ p b most last U y HY2.out HP'.out).mono ?_
      rw [HI.out]
      rintro e w2 ⟨rfl, b2⟩
      have hp2 := HP'.out.below b2
      have HB2 := Lib.hid (HB.out.trans (b2.mono HB.out.size))
      have hlen := hp2.set.len
      obtain ⟨⟨d0, d1, d2⟩, _, f1, _⟩ := three_m hp2.cells
      obtain ⟨D, hown, _, _, hhas, hsz⟩ := hp2.set
      have H2 := Lib.hid hp2
      have HH := Lib.hid hhas
      have HZ := Lib.hid hsz
      have HM2 := Lib.hid ((Moved.of_below HB2.out : Moved w w2 p b))
      clear b2 hp2 hhas hsz HP' f0 f2
      go_wp2_with (first
        | (at_mapUpdate; refine wpList_mapUpdate_in _ rfl _ _ _ 68 rfl 22 71 law_u32 Try.underlying68 _ b U.length D rfl hown hlen _ _ _ rfl rfl hkey _ [] unitElem_mk ?_; intro w3 hown3 hturn3; (have hp3 := H2.out.put HY2.out (by have := HK.out; rwa [HY.out] at this) hown HH.out HZ.out hown3 hturn3); (have HT3 := Lib.hid (HM2.out.trans (Moved.turned hturn3))); clear hown hown3 hturn3 d0 d1 d2 f1; (obtain ⟨⟨d0, d1, d2⟩, _, f1, _⟩ := three_m hp3.cells); (have H3 := Lib.hid hp3); clear hp3)
        | go_in)
      try simp only [Exit.jump]
      go_ret2
      exact ⟨rfl, H3.out.last hy3, HT3.out.trans (Moved.setCell _)⟩

end Go.Proofs.Yticlenpgokajdaa
