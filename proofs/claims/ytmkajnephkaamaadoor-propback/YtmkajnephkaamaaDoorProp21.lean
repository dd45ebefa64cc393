/-
  right of layer 3's statements. (No statement: contracts that the proofs of the statements use.)
-/
import Derived.Test.YtmkajnephkaamaaDoorProp20
namespace Go.Proofs.YtmkajnephkaamaaDoor
open Go.RowKit

/-- A property, made right. -/
def fixP (p : Pr) : Pr :=
  if (ruleL p.id).kind = 1 then ⟨p.id, p.n % 2, ⟨#[]⟩, ⟨#[]⟩⟩ else if (ruleL p.id).kind = 2 then ⟨p.id, 1 + p.n % 65535, ⟨#[]⟩, ⟨#[]⟩⟩
  else if (ruleL p.id).kind = 3 ∨ (ruleL p.id).kind = 4 then ⟨p.id, 1 + p.n % 100000000, ⟨#[]⟩, ⟨#[]⟩⟩ else if (ruleL p.id).kind = 6 then ⟨p.id, 0, p.s, ⟨#[]⟩⟩
  else if (ruleL p.id).kind = 7 then ⟨p.id, 0, str (lets p.s.data.toList), str (lets p.t.data.toList)⟩ else ⟨p.id, 0, str (lets p.s.data.toList), ⟨#[]⟩⟩
/-- A step of right. -/
def rStep (k : Int) (isW : Bool) (acc : List Pr) (p : Pr) : List Pr :=
  if mayP p.id k isW = false then acc else if hasP acc p.id = true ∧ p.id ≠ 38 then acc else acc ++ [fixP p]
/-- What right answers. -/
def rightL (k : Int) (isW : Bool) (P : List Pr) : List Pr := (fewL P).foldl (rStep k isW) []

theorem r_snoc (k : Int) (isW : Bool) (X : List Pr) (j : Nat) (x : Pr) (h : X[j]? = some x) : (X.take (j + 1)).foldl (rStep k isW) [] = rStep k isW ((X.take j).foldl (rStep k isW) []) x := by
  rw [take_snocP X j x h, List.foldl_append]
  rfl
theorem r_len (k : Int) (isW : Bool) (X : List Pr) : (X.foldl (rStep k isW) []).length ≤ X.length := by
  suffices H : ∀ (l acc : List Pr), (l.foldl (rStep k isW) acc).length ≤ acc.length + l.length by simpa using H X []
  intro l
  induction l with
  | nil => intro acc; simp
  | cons p l ih =>
    intro acc
    rw [List.foldl_cons]
    refine Nat.le_trans (ih _) ?_
    unfold rStep
    split
    · simp
    · split
      · simp
      · simp; omega

theorem get_shape (acc : List Pr) (i : Int) : ∃ f : Pr, getV acc i = .tuple #[prV f, .bool (hasP acc i)] := by
  unfold getV
  cases h : firstP acc i with
  | some p =>
    refine ⟨p, ?_⟩
    have : hasP acc i = true := by
      unfold hasP
      rw [List.any_eq_true]
      exact ⟨p, List.mem_of_find?_eq_some h, by simpa using List.find?_some h⟩
    rw [this]
  | none =>
    refine ⟨zp, ?_⟩
    have : hasP acc i = false := by
      unfold hasP
      rw [List.any_eq_false]
      intro x hx
      have := List.find?_eq_none.1 h x hx
      simpa using this
    rw [this]
    rfl

theorem four_new2 (w : World) (o1 o2 : Obj) (a b c d : Value) (t : TypeId) : ∀ j u, [a, b, c, d][j]? = some u → (((w.alloc o1).alloc o2).alloc (.cells #[a, b, c, d] t)).cell? ((⟨w.heap.size + 2, 0, none⟩ : Addr).add j) = some u := by
  have h := four_new ((w.alloc o1).alloc o2) a b c d t
  rwa [show ((w.alloc o1).alloc o2).heap.size = w.heap.size + 2 by simp] at h
theorem below_three (w : World) (o1 o2 o3 : Obj) : Below w.heap.size w (((w.alloc o1).alloc o2).alloc o3) := (below_two w o1 o2).alloc (by simp; omega) o3

theorem and_one32 (b : Int) (h0 : 0 ≤ b) (h1 : b < 4294967296) : bits .and .u32 b 1 = b % 2 := by
  obtain ⟨n, rfl⟩ := Int.eq_ofNat_of_zero_le h0
  have h := u32_and_nat n 1 (by omega) (by omega)
  rw [Nat.and_one_is_mod] at h
  exact h.trans (by omega)

/-- What holds in right's loop. -/
structure RightJ (w : World) (H : Nat) (v0 : Value) (X : List Pr) (v : Value) (acc : List Pr) (wr : World) : Prop where
  src : PropsAt wr v0 X
  own : OwnP w.heap.size 47 wr v acc
  bel : Below w.heap.size w wr
  siz : H ≤ wr.heap.size
  sep : v.ownBlock = some w.heap.size ∨ ∃ g, v.ownBlock = some g ∧ H ≤ g

theorem RightJ.below {w : World} {H : Nat} {v0 v : Value} {X acc : List Pr} {wr wy : World} (h : RightJ w H v0 X v acc wr) (hb : Below wr.heap.size wr wy) : RightJ w H v0 X v acc wy := ⟨h.src.below hb, h.own.below hb, Below.next h.bel hb, Nat.le_trans h.siz hb.size, h.sep⟩

set_option maxRecDepth 100000 in
set_option maxHeartbeats 8000000 in
theorem right_calls (w : World) (v0 : Value) (P : List Pr) (k : Int) (isW : Bool) (hv : PropsIn w v0 P) :
    Calls Tryd.prog 27 #[v0, .int .i64 k, .bool isW] w (Made 47 w (rightL k isW P)) := by
  have hsl : ∃ a l c, v0 = .slice a l c := by obtain ⟨A, cap, e, _⟩ := hv.at_; exact ⟨_, _, _, e⟩
  obtain ⟨sa, sl, sc, rfl⟩ := hsl
  have hv1 : PropsIn (w.alloc (.cells #[] 47)) (.slice sa sl sc) P := ⟨hv.at_.below (below_one w _), hv.len, hv.num⟩
  generalize hR : rightL k isW P = R
  unfold rightL at hR
  have HR := Lib.hid hR
  clear hR hv
  go_enter Tryd.func27, Tryd.ntmps27
  go_wp2_with fail
  refine (few_calls _ _ P hv1).mono ?_
  rintro e x1 ⟨v, rfl, hown, b1⟩
  have hXok := few_ok P hv1.num
  have hXl := few_len P
  generalize fewL P = X at *
  obtain ⟨va, vc, rfl⟩ := hown.form
  have hJ0 : RightJ w x1.heap.size (.slice va X.length vc) X (.slice (some ⟨w.heap.size, 0, none⟩) 0 0) [] x1 := ⟨hown.props, (OwnP.empty w 47).below b1, (below_one w _).trans (b1.mono (by simp)), Nat.le_refl _, .inl rfl⟩
  have HVA : Hid (∀ g, (Value.slice va X.length vc).ownBlock = some g → w.heap.size < g ∧ g < x1.heap.size) := fun g hg => by have := World.ownsRow.lt hown g hg; simp at this; omega
  have HJ0 := Lib.hid hJ0
  have HXOK := Lib.hid hXok
  clear hJ0 hown b1 hv1 hXok
  go_wp2
  go_loopw [7, 17] (fun s j wr => ∃ (n : Nat) (a : Option Addr) (c : Nat), n ≤ X.length ∧ j = .int .i64 n ∧ s = .slice a ((X.take n).foldl (rStep k isW) []).length c ∧ RightJ w x1.heap.size (.slice va X.length vc) X (.slice a ((X.take n).foldl (rStep k isW) []).length c) ((X.take n).foldl (rStep k isW) []) wr) (fun _ j _ => X.length - (intOf j).toNat)
  case atStart => exact ⟨0, _, 0, by omega, rfl, rfl, HJ0.out⟩
  case round =>
    clear HJ0
    obtain ⟨n, a, c, hn, rfl, rfl, hJ⟩ := hrel
    have HJ := Lib.hid hJ
    clear hJ
    by_cases hlt : n < X.length
    · obtain ⟨x, hx⟩ : ∃ x, X[n]? = some x := ⟨_, List.getElem?_eq_getElem hlt⟩
      have hsn := r_snoc k isW X n x hx
      have hal : ((X.take n).foldl (rStep k isW) []).length ≤ 8 := by have := r_len k isW (X.take n); rw [List.length_take] at this; omega
      generalize (X.take n).foldl (rStep k isW) [] = acc at *
      generalize hnx : (X.take (n + 1)).foldl (rStep k isW) [] = nacc at *
      have HNX := Lib.hid hnx
      obtain ⟨A, cap, hv, hc⟩ := HJ.out.src
      obtain ⟨b, off, hA, hbl, c0, c1, c2, c3⟩ := hc n x hx
      injection hv with hv1 hv2 hv3
      subst hv1
      subst hA
      obtain ⟨hxok, hs20, ht20⟩ := HXOK.out x (List.mem_of_getElem? hx)
      clear hc hv2 hv3 hx hnx
      obtain ⟨xi, xn, xs, xt⟩ := x
      obtain ⟨n0, n1, _, _⟩ := hxok
      dsimp only at c0 c1 c2 c3 n0 n1 hs20 ht20
      have HSN := Lib.hid hsn
      clear hsn
      have hbx := heap_alloc_new wr (.cells #[.int .i64 xi, .int .u32 xn, .string xs, .string xt] 47)
      have hJ1 := HJ.out.below (below_one wr (.cells #[.int .i64 xi, .int .u32 xn, .string xs, .string xt] 47))
      have HBX := Lib.hid hbx
      have HJ1 := Lib.hid hJ1
      clear hbx hJ1 HJ
      cases hmay : mayP xi k isW with
      | false =>
        have hacc : nacc = acc := by rw [HSN.out]; unfold rStep; rw [if_pos hmay]
        have HACC := Lib.hid hacc
        have HMAY := Lib.hid hmay
        clear hacc hmay HSN
        go_wp2_with fail
        refine (r3may_calls _ xi k isW).mono ?_
        rw [HMAY.out]
        rintro e y1 ⟨rfl, hy1⟩
        rw [hy1] at HJ1
        clear hy1 HMAY HBX c0 c1 c2 c3
        go_wp2
        go_roundw
        case rel => exact ⟨n + 1, a, c, by omega, by go_num, by rw [HNX.out, HACC.out], by rw [HNX.out, HACC.out]; exact HJ1.out⟩
        case measure => simp [intOf]; omega
      | true =>
        have HMAY := Lib.hid hmay
        clear hmay
        obtain ⟨f, hget⟩ := get_shape acc xi
        obtain ⟨fi, fn, fs, ft⟩ := f
        have HGET := Lib.hid hget
        clear hget
        go_wp2_with fail
        refine (r3may_calls _ xi k isW).mono ?_
        rw [HMAY.out]
        rintro e y1 ⟨rfl, hy1⟩
        rw [hy1] at HJ1 HBX
        clear hy1 c0 c1 c2 c3
        obtain ⟨⟨d0, d1, d2, d3⟩, g0, g1, g2, g3⟩ := four_cells HBX.out
        have hlb := lt_of_block HBX.out
        go_wp2_with fail
        refine (get_calls _ _ acc xi HJ1.out.own.props (by omega)).mono ?_
        rw [HGET.out]
        rintro e y2 ⟨rfl, b2⟩
        have hbx2 := (b2.block _ hlb).trans HBX.out
        have hJ2 := HJ1.out.below b2
        have hb3 := below_one y2 (.cells #[.int .i64 fi, .int .u32 fn, .string fs, .string ft] 47)
        have hJ3 := hJ2.below hb3
        have HJ3 := Lib.hid hJ3
        have HJ2 := Lib.hid hJ2
        clear d0 d1 d2 d3 g0 g1 g2 g3 hlb
        obtain ⟨⟨d0, d1, d2, d3⟩, g0, g1, g2, g3⟩ := four_cells hbx2
        have hlb := lt_of_block hbx2
        clear b2 hbx2 hJ2 hb3 hJ3 HJ1 HBX HGET
        by_cases hskip : hasP acc xi = true ∧ xi ≠ 38
        · have hacc : nacc = acc := by rw [HSN.out]; unfold rStep; rw [if_neg (by rw [HMAY.out]; simp), if_pos hskip]
          have HACC := Lib.hid hacc
          obtain ⟨hh, h38⟩ := hskip
          rw [hh]
          have h38b : (xi == 38) = false := by simpa using h38
          clear hacc HSN HMAY hh h38
          go_wp2
          go_roundw
          case rel => exact ⟨n + 1, a, c, by omega, by go_num, by rw [HNX.out, HACC.out], by rw [HNX.out, HACC.out]; exact HJ3.out⟩
          case measure => simp [intOf]; omega
        · have hacc : nacc = acc ++ [fixP ⟨xi, xn, xs, xt⟩] := by rw [HSN.out]; unfold rStep; rw [if_neg (by rw [HMAY.out]; simp), if_neg hskip]
          have HACC := Lib.hid hacc
          clear hacc HSN
          have hthere : hasP acc xi = false ∨ (hasP acc xi = true ∧ xi = 38) := by
            cases hh : hasP acc xi with
            | false => exact .inl rfl
            | true => exact .inr ⟨rfl, by by_cases e : xi = 38; (· exact e); exact absurd ⟨hh, e⟩ hskip⟩
          clear hskip
          obtain ⟨ls, rfl⟩ : ∃ l, xs = str l := ⟨_, ba_str xs⟩
          obtain ⟨lt, rfl⟩ : ∃ l, xt = str l := ⟨_, ba_str xt⟩
          rw [str_size] at hs20 ht20
          have hkr := (rule_in xi _ (by have := HMAY.out; unfold mayP at this; simpa using this)).2
          clear HMAY
          have HNB : Hid ((Value.slice a acc.length c).ownBlock ≠ some b) := by
            intro e
            have h1 := HVA.out b rfl
            rcases HJ2.out.sep with h2 | ⟨g, h2, h3⟩
            · rw [h2] at e; injection e with e; omega
            · rw [h2] at e; injection e with e; omega
          have han := and_one32 xn n0 n1
          rcases hthere with hh | ⟨hh, h38⟩
          · rw [hh]
            clear hh
            go_wp2_with fail
            refine (r3kind_calls _ xi).mono ?_
            rintro e y4 ⟨rfl, rfl⟩
            rcases hkr with hk | hk | hk | hk | hk | hk | hk
            · have HFIX : Hid (fixP ⟨xi, xn, str ls, str lt⟩ = ⟨xi, (xn % 2), ⟨#[]⟩, ⟨#[]⟩⟩) := Lib.hid (by simp [fixP, hk])
              have HK := Lib.hid hk
              clear hk
              rw [HK.out]
              go_wp2_with fail
              refine (r3kind_calls _ xi).mono ?_
              rw [HK.out]
              rintro e y4 ⟨rfl, rfl⟩
              clear HK
              obtain ⟨i0, hi, hz0, hz1, hz2⟩ := info_parts Tryd.infoProp
              have HSZ := Lib.hid (HJ2.out.bel.size)
              go_wp2_with ((at_builtin; refine wpList_append_own_at _ rfl _ _ 27 rfl w.heap.size 47 i0 (.agg #[.int .i64 0, .int .u32 0, .string ⟨#[]⟩, .string ⟨#[]⟩]) 4 48 Tryd.underlying27 hi hz0 hz1 hz2 rfl (by decide) _ _ _ rfl (World.ownsRow.alloc (World.ownsRow.alloc (World.ownsRow.alloc HJ2.out.own _) _) _) ⟨y2.heap.size + 2, 0, none⟩ 1 1 [.int .i64 xi, .int .u32 (xn % 2), .string ⟨#[]⟩, .string ⟨#[]⟩] rfl rfl (four_new2 _ _ _ _ _ _ _ _) (by simp [Value.oneCell']) (by unfold maxLen; omega) (by omega) (by have := HSZ.out; simp; omega) ?_))
              intro v' w7 hown8 hgrow _ hat
              have hsep8 : v'.ownBlock = some w.heap.size ∨ ∃ g, v'.ownBlock = some g ∧ x1.heap.size ≤ g := by
                rcases hat with e | e
                · rw [e]; exact HJ2.out.sep
                · exact .inr ⟨_, e, by have := HJ2.out.siz; simp; omega⟩
              have hsiz8 : x1.heap.size ≤ w7.heap.size := Nat.le_trans HJ2.out.siz (Nat.le_trans (by simp; omega) hgrow.size)
              have hbl8 : Below w.heap.size w w7 := (Below.next HJ2.out.bel (below_three y2 _ _ _)).grown hgrow (by have := HSZ.out; simp; omega) (fun k hk => (World.ownsRow.lt HJ2.out.own k hk).1)
              have hsrc8 : PropsAt w7 (.slice (some ⟨b, off, none⟩) X.length vc) X := by
                obtain ⟨A, cap, hv, hc⟩ := HJ2.out.src
                refine ⟨A, cap, hv, fun i x hx => ?_⟩
                obtain ⟨b', off', hA, hbl', c0, c1, c2, c3⟩ := hc i x hx
                injection hv with hv1
                rw [hA] at hv1
                injection hv1 with hv1
                injection hv1 with hb1 ho1
                subst hb1 ho1
                have hkeep : w7.heap[b]? = y2.heap[b]? := by
                  rw [hgrow.block b (by simp; omega) (fun e => HNB.out e.symm)]
                  exact (below_three y2 _ _ _).block b hbl'
                exact ⟨b, off, hA, Nat.lt_of_lt_of_le hbl' (Nat.le_trans (by simp; omega) hgrow.size), (World.cell?_of_block (w := y2) hkeep).trans c0, (World.cell?_of_block (w := y2) hkeep).trans c1, (World.cell?_of_block (w := y2) hkeep).trans c2, (World.cell?_of_block (w := y2) hkeep).trans c3⟩
              have hown9 : OwnP w.heap.size 47 w7 v' nacc := by
                rw [HACC.out, HFIX.out]
                exact own_snoc hown8
              obtain ⟨a', c', hv'⟩ := hown9.form
              have hnl : nacc.length = acc.length + 1 := by rw [HACC.out]; simp
              have HJ9 : Hid (RightJ w x1.heap.size (.slice (some ⟨b, off, none⟩) X.length vc) X (.slice a' nacc.length c') nacc w7) := ⟨hsrc8, hv' ▸ hown9, hbl8, hsiz8, hv' ▸ hsep8⟩
              subst hv'
              have HNL := Lib.hid hnl
              clear hown9 hsrc8 hbl8 hown8 hgrow hnl HJ2 HSZ HACC HFIX hsep8 hsiz8 hat
              go_wp2
              go_roundw
              case rel => exact ⟨n + 1, a', c', by omega, by go_num, by rw [HNX.out], by rw [HNX.out]; exact HJ9.out⟩
              case measure => simp [intOf]; omega
            · have HFIX : Hid (fixP ⟨xi, xn, str ls, str lt⟩ = ⟨xi, (1 + xn % 65535), ⟨#[]⟩, ⟨#[]⟩⟩) := Lib.hid (by simp [fixP, hk])
              have HK := Lib.hid hk
              clear hk
              rw [HK.out]
              go_wp2_with fail
              refine (r3kind_calls _ xi).mono ?_
              rw [HK.out]
              rintro e y4 ⟨rfl, rfl⟩
              clear HK
              obtain ⟨i0, hi, hz0, hz1, hz2⟩ := info_parts Tryd.infoProp
              have HSZ := Lib.hid (HJ2.out.bel.size)
              go_wp2_with ((at_builtin; refine wpList_append_own_at _ rfl _ _ 27 rfl w.heap.size 47 i0 (.agg #[.int .i64 0, .int .u32 0, .string ⟨#[]⟩, .string ⟨#[]⟩]) 4 48 Tryd.underlying27 hi hz0 hz1 hz2 rfl (by decide) _ _ _ rfl (World.ownsRow.alloc (World.ownsRow.alloc (World.ownsRow.alloc HJ2.out.own _) _) _) ⟨y2.heap.size + 2, 0, none⟩ 1 1 [.int .i64 xi, .int .u32 (1 + xn % 65535), .string ⟨#[]⟩, .string ⟨#[]⟩] rfl rfl (four_new2 _ _ _ _ _ _ _ _) (by simp [Value.oneCell']) (by unfold maxLen; omega) (by omega) (by have := HSZ.out; simp; omega) ?_))
              intro v' w7 hown8 hgrow _ hat
              have hsep8 : v'.ownBlock = some w.heap.size ∨ ∃ g, v'.ownBlock = some g ∧ x1.heap.size ≤ g := by
                rcases hat with e | e
                · rw [e]; exact HJ2.out.sep
                · exact .inr ⟨_, e, by have := HJ2.out.siz; simp; omega⟩
              have hsiz8 : x1.heap.size ≤ w7.heap.size := Nat.le_trans HJ2.out.siz (Nat.le_trans (by simp; omega) hgrow.size)
              have hbl8 : Below w.heap.size w w7 := (Below.next HJ2.out.bel (below_three y2 _ _ _)).grown hgrow (by have := HSZ.out; simp; omega) (fun k hk => (World.ownsRow.lt HJ2.out.own k hk).1)
              have hsrc8 : PropsAt w7 (.slice (some ⟨b, off, none⟩) X.length vc) X := by
                obtain ⟨A, cap, hv, hc⟩ := HJ2.out.src
                refine ⟨A, cap, hv, fun i x hx => ?_⟩
                obtain ⟨b', off', hA, hbl', c0, c1, c2, c3⟩ := hc i x hx
                injection hv with hv1
                rw [hA] at hv1
                injection hv1 with hv1
                injection hv1 with hb1 ho1
                subst hb1 ho1
                have hkeep : w7.heap[b]? = y2.heap[b]? := by
                  rw [hgrow.block b (by simp; omega) (fun e => HNB.out e.symm)]
                  exact (below_three y2 _ _ _).block b hbl'
                exact ⟨b, off, hA, Nat.lt_of_lt_of_le hbl' (Nat.le_trans (by simp; omega) hgrow.size), (World.cell?_of_block (w := y2) hkeep).trans c0, (World.cell?_of_block (w := y2) hkeep).trans c1, (World.cell?_of_block (w := y2) hkeep).trans c2, (World.cell?_of_block (w := y2) hkeep).trans c3⟩
              have hown9 : OwnP w.heap.size 47 w7 v' nacc := by
                rw [HACC.out, HFIX.out]
                exact own_snoc hown8
              obtain ⟨a', c', hv'⟩ := hown9.form
              have hnl : nacc.length = acc.length + 1 := by rw [HACC.out]; simp
              have HJ9 : Hid (RightJ w x1.heap.size (.slice (some ⟨b, off, none⟩) X.length vc) X (.slice a' nacc.length c') nacc w7) := ⟨hsrc8, hv' ▸ hown9, hbl8, hsiz8, hv' ▸ hsep8⟩
              subst hv'
              have HNL := Lib.hid hnl
              clear hown9 hsrc8 hbl8 hown8 hgrow hnl HJ2 HSZ HACC HFIX hsep8 hsiz8 hat
              go_wp2
              go_roundw
              case rel => exact ⟨n + 1, a', c', by omega, by go_num, by rw [HNX.out], by rw [HNX.out]; exact HJ9.out⟩
              case measure => simp [intOf]; omega
            · have HFIX : Hid (fixP ⟨xi, xn, str ls, str lt⟩ = ⟨xi, (1 + xn % 100000000), ⟨#[]⟩, ⟨#[]⟩⟩) := Lib.hid (by simp [fixP, hk])
              have HK := Lib.hid hk
              clear hk
              rw [HK.out]
              go_wp2_with fail
              refine (r3kind_calls _ xi).mono ?_
              rw [HK.out]
              rintro e y4 ⟨rfl, rfl⟩
              clear HK
              obtain ⟨i0, hi, hz0, hz1, hz2⟩ := info_parts Tryd.infoProp
              have HSZ := Lib.hid (HJ2.out.bel.size)
              go_wp2_with ((at_builtin; refine wpList_append_own_at _ rfl _ _ 27 rfl w.heap.size 47 i0 (.agg #[.int .i64 0, .int .u32 0, .string ⟨#[]⟩, .string ⟨#[]⟩]) 4 48 Tryd.underlying27 hi hz0 hz1 hz2 rfl (by decide) _ _ _ rfl (World.ownsRow.alloc (World.ownsRow.alloc (World.ownsRow.alloc HJ2.out.own _) _) _) ⟨y2.heap.size + 2, 0, none⟩ 1 1 [.int .i64 xi, .int .u32 (1 + xn % 100000000), .string ⟨#[]⟩, .string ⟨#[]⟩] rfl rfl (four_new2 _ _ _ _ _ _ _ _) (by simp [Value.oneCell']) (by unfold maxLen; omega) (by omega) (by have := HSZ.out; simp; omega) ?_))
              intro v' w7 hown8 hgrow _ hat
              have hsep8 : v'.ownBlock = some w.heap.size ∨ ∃ g, v'.ownBlock = some g ∧ x1.heap.size ≤ g := by
                rcases hat with e | e
                · rw [e]; exact HJ2.out.sep
                · exact .inr ⟨_, e, by have := HJ2.out.siz; simp; omega⟩
              have hsiz8 : x1.heap.size ≤ w7.heap.size := Nat.le_trans HJ2.out.siz (Nat.le_trans (by simp; omega) hgrow.size)
              have hbl8 : Below w.heap.size w w7 := (Below.next HJ2.out.bel (below_three y2 _ _ _)).grown hgrow (by have := HSZ.out; simp; omega) (fun k hk => (World.ownsRow.lt HJ2.out.own k hk).1)
              have hsrc8 : PropsAt w7 (.slice (some ⟨b, off, none⟩) X.length vc) X := by
                obtain ⟨A, cap, hv, hc⟩ := HJ2.out.src
                refine ⟨A, cap, hv, fun i x hx => ?_⟩
                obtain ⟨b', off', hA, hbl', c0, c1, c2, c3⟩ := hc i x hx
                injection hv with hv1
                rw [hA] at hv1
                injection hv1 with hv1
                injection hv1 with hb1 ho1
                subst hb1 ho1
                have hkeep : w7.heap[b]? = y2.heap[b]? := by
                  rw [hgrow.block b (by simp; omega) (fun e => HNB.out e.symm)]
                  exact (below_three y2 _ _ _).block b hbl'
                exact ⟨b, off, hA, Nat.lt_of_lt_of_le hbl' (Nat.le_trans (by simp; omega) hgrow.size), (World.cell?_of_block (w := y2) hkeep).trans c0, (World.cell?_of_block (w := y2) hkeep).trans c1, (World.cell?_of_block (w := y2) hkeep).trans c2, (World.cell?_of_block (w := y2) hkeep).trans c3⟩
              have hown9 : OwnP w.heap.size 47 w7 v' nacc := by
                rw [HACC.out, HFIX.out]
                exact own_snoc hown8
              obtain ⟨a', c', hv'⟩ := hown9.form
              have hnl : nacc.length = acc.length + 1 := by rw [HACC.out]; simp
              have HJ9 : Hid (RightJ w x1.heap.size (.slice (some ⟨b, off, none⟩) X.length vc) X (.slice a' nacc.length c') nacc w7) := ⟨hsrc8, hv' ▸ hown9, hbl8, hsiz8, hv' ▸ hsep8⟩
              subst hv'
              have HNL := Lib.hid hnl
              clear hown9 hsrc8 hbl8 hown8 hgrow hnl HJ2 HSZ HACC HFIX hsep8 hsiz8 hat
              go_wp2
              go_roundw
              case rel => exact ⟨n + 1, a', c', by omega, by go_num, by rw [HNX.out], by rw [HNX.out]; exact HJ9.out⟩
              case measure => simp [intOf]; omega
            · have HFIX : Hid (fixP ⟨xi, xn, str ls, str lt⟩ = ⟨xi, (1 + xn % 100000000), ⟨#[]⟩, ⟨#[]⟩⟩) := Lib.hid (by simp [fixP, hk])
              have HK := Lib.hid hk
              clear hk
              rw [HK.out]
              go_wp2_with fail
              refine (r3kind_calls _ xi).mono ?_
              rw [HK.out]
              rintro e y4 ⟨rfl, rfl⟩
              clear HK
              obtain ⟨i0, hi, hz0, hz1, hz2⟩ := info_parts Tryd.infoProp
              have HSZ := Lib.hid (HJ2.out.bel.size)
              go_wp2_with ((at_builtin; refine wpList_append_own_at _ rfl _ _ 27 rfl w.heap.size 47 i0 (.agg #[.int .i64 0, .int .u32 0, .string ⟨#[]⟩, .string ⟨#[]⟩]) 4 48 Tryd.underlying27 hi hz0 hz1 hz2 rfl (by decide) _ _ _ rfl (World.ownsRow.alloc (World.ownsRow.alloc (World.ownsRow.alloc HJ2.out.own _) _) _) ⟨y2.heap.size + 2, 0, none⟩ 1 1 [.int .i64 xi, .int .u32 (1 + xn % 100000000), .string ⟨#[]⟩, .string ⟨#[]⟩] rfl rfl (four_new2 _ _ _ _ _ _ _ _) (by simp [Value.oneCell']) (by unfold maxLen; omega) (by omega) (by have := HSZ.out; simp; omega) ?_))
              intro v' w7 hown8 hgrow _ hat
              have hsep8 : v'.ownBlock = some w.heap.size ∨ ∃ g, v'.ownBlock = some g ∧ x1.heap.size ≤ g := by
                rcases hat with e | e
                · rw [e]; exact HJ2.out.sep
                · exact .inr ⟨_, e, by have := HJ2.out.siz; simp; omega⟩
              have hsiz8 : x1.heap.size ≤ w7.heap.size := Nat.le_trans HJ2.out.siz (Nat.le_trans (by simp; omega) hgrow.size)
              have hbl8 : Below w.heap.size w w7 := (Below.next HJ2.out.bel (below_three y2 _ _ _)).grown hgrow (by have := HSZ.out; simp; omega) (fun k hk => (World.ownsRow.lt HJ2.out.own k hk).1)
              have hsrc8 : PropsAt w7 (.slice (some ⟨b, off, none⟩) X.length vc) X := by
                obtain ⟨A, cap, hv, hc⟩ := HJ2.out.src
                refine ⟨A, cap, hv, fun i x hx => ?_⟩
                obtain ⟨b', off', hA, hbl', c0, c1, c2, c3⟩ := hc i x hx
                injection hv with hv1
                rw [hA] at hv1
                injection hv1 with hv1
                injection hv1 with hb1 ho1
                subst hb1 ho1
                have hkeep : w7.heap[b]? = y2.heap[b]? := by
                  rw [hgrow.block b (by simp; omega) (fun e => HNB.out e.symm)]
                  exact (below_three y2 _ _ _).block b hbl'
                exact ⟨b, off, hA, Nat.lt_of_lt_of_le hbl' (Nat.le_trans (by simp; omega) hgrow.size), (World.cell?_of_block (w := y2) hkeep).trans c0, (World.cell?_of_block (w := y2) hkeep).trans c1, (World.cell?_of_block (w := y2) hkeep).trans c2, (World.cell?_of_block (w := y2) hkeep).trans c3⟩
              have hown9 : OwnP w.heap.size 47 w7 v' nacc := by
                rw [HACC.out, HFIX.out]
                exact own_snoc hown8
              obtain ⟨a', c', hv'⟩ := hown9.form
              have hnl : nacc.length = acc.length + 1 := by rw [HACC.out]; simp
              have HJ9 : Hid (RightJ w x1.heap.size (.slice (some ⟨b, off, none⟩) X.length vc) X (.slice a' nacc.length c') nacc w7) := ⟨hsrc8, hv' ▸ hown9, hbl8, hsiz8, hv' ▸ hsep8⟩
              subst hv'
              have HNL := Lib.hid hnl
              clear hown9 hsrc8 hbl8 hown8 hgrow hnl HJ2 HSZ HACC HFIX hsep8 hsiz8 hat
              go_wp2
              go_roundw
              case rel => exact ⟨n + 1, a', c', by omega, by go_num, by rw [HNX.out], by rw [HNX.out]; exact HJ9.out⟩
              case measure => simp [intOf]; omega
            · have HFIX : Hid (fixP ⟨xi, xn, str ls, str lt⟩ = ⟨xi, 0, (str (lets ls)), ⟨#[]⟩⟩) := Lib.hid (by simp [fixP, hk, str_data])
              have HK := Lib.hid hk
              clear hk
              rw [HK.out]
              go_wp2_with fail
              refine (letters_calls _ ls (by omega)).mono ?_
              rintro e y4 ⟨rfl, rfl⟩
              generalize hys : str (lets ls) = ys at *
              go_wp2_with fail
              refine (r3kind_calls _ xi).mono ?_
              rw [HK.out]
              rintro e y4 ⟨rfl, rfl⟩
              clear HK
              obtain ⟨i0, hi, hz0, hz1, hz2⟩ := info_parts Tryd.infoProp
              have HSZ := Lib.hid (HJ2.out.bel.size)
              go_wp2_with ((at_builtin; refine wpList_append_own_at _ rfl _ _ 27 rfl w.heap.size 47 i0 (.agg #[.int .i64 0, .int .u32 0, .string ⟨#[]⟩, .string ⟨#[]⟩]) 4 48 Tryd.underlying27 hi hz0 hz1 hz2 rfl (by decide) _ _ _ rfl (World.ownsRow.alloc (World.ownsRow.alloc (World.ownsRow.alloc HJ2.out.own _) _) _) ⟨y2.heap.size + 2, 0, none⟩ 1 1 [.int .i64 xi, .int .u32 0, .string ys, .string ⟨#[]⟩] rfl rfl (four_new2 _ _ _ _ _ _ _ _) (by simp [Value.oneCell']) (by unfold maxLen; omega) (by omega) (by have := HSZ.out; simp; omega) ?_))
              intro v' w7 hown8 hgrow _ hat
              have hsep8 : v'.ownBlock = some w.heap.size ∨ ∃ g, v'.ownBlock = some g ∧ x1.heap.size ≤ g := by
                rcases hat with e | e
                · rw [e]; exact HJ2.out.sep
                · exact .inr ⟨_, e, by have := HJ2.out.siz; simp; omega⟩
              have hsiz8 : x1.heap.size ≤ w7.heap.size := Nat.le_trans HJ2.out.siz (Nat.le_trans (by simp; omega) hgrow.size)
              have hbl8 : Below w.heap.size w w7 := (Below.next HJ2.out.bel (below_three y2 _ _ _)).grown hgrow (by have := HSZ.out; simp; omega) (fun k hk => (World.ownsRow.lt HJ2.out.own k hk).1)
              have hsrc8 : PropsAt w7 (.slice (some ⟨b, off, none⟩) X.length vc) X := by
                obtain ⟨A, cap, hv, hc⟩ := HJ2.out.src
                refine ⟨A, cap, hv, fun i x hx => ?_⟩
                obtain ⟨b', off', hA, hbl', c0, c1, c2, c3⟩ := hc i x hx
                injection hv with hv1
                rw [hA] at hv1
                injection hv1 with hv1
                injection hv1 with hb1 ho1
                subst hb1 ho1
                have hkeep : w7.heap[b]? = y2.heap[b]? := by
                  rw [hgrow.block b (by simp; omega) (fun e => HNB.out e.symm)]
                  exact (below_three y2 _ _ _).block b hbl'
                exact ⟨b, off, hA, Nat.lt_of_lt_of_le hbl' (Nat.le_trans (by simp; omega) hgrow.size), (World.cell?_of_block (w := y2) hkeep).trans c0, (World.cell?_of_block (w := y2) hkeep).trans c1, (World.cell?_of_block (w := y2) hkeep).trans c2, (World.cell?_of_block (w := y2) hkeep).trans c3⟩
              have hown9 : OwnP w.heap.size 47 w7 v' nacc := by
                rw [HACC.out, HFIX.out]
                exact own_snoc hown8
              obtain ⟨a', c', hv'⟩ := hown9.form
              have hnl : nacc.length = acc.length + 1 := by rw [HACC.out]; simp
              have HJ9 : Hid (RightJ w x1.heap.size (.slice (some ⟨b, off, none⟩) X.length vc) X (.slice a' nacc.length c') nacc w7) := ⟨hsrc8, hv' ▸ hown9, hbl8, hsiz8, hv' ▸ hsep8⟩
              subst hv'
              have HNL := Lib.hid hnl
              clear hown9 hsrc8 hbl8 hown8 hgrow hnl HJ2 HSZ HACC HFIX hsep8 hsiz8 hat
              go_wp2
              go_roundw
              case rel => exact ⟨n + 1, a', c', by omega, by go_num, by rw [HNX.out], by rw [HNX.out]; exact HJ9.out⟩
              case measure => simp [intOf]; omega
            · have HFIX : Hid (fixP ⟨xi, xn, str ls, str lt⟩ = ⟨xi, 0, (str ls), ⟨#[]⟩⟩) := Lib.hid (by simp [fixP, hk])
              have HK := Lib.hid hk
              clear hk
              rw [HK.out]
              go_wp2_with fail
              refine (r3kind_calls _ xi).mono ?_
              rw [HK.out]
              rintro e y4 ⟨rfl, rfl⟩
              clear HK
              obtain ⟨i0, hi, hz0, hz1, hz2⟩ := info_parts Tryd.infoProp
              have HSZ := Lib.hid (HJ2.out.bel.size)
              go_wp2_with ((at_builtin; refine wpList_append_own_at _ rfl _ _ 27 rfl w.heap.size 47 i0 (.agg #[.int .i64 0, .int .u32 0, .string ⟨#[]⟩, .string ⟨#[]⟩]) 4 48 Tryd.underlying27 hi hz0 hz1 hz2 rfl (by decide) _ _ _ rfl (World.ownsRow.alloc (World.ownsRow.alloc (World.ownsRow.alloc HJ2.out.own _) _) _) ⟨y2.heap.size + 2, 0, none⟩ 1 1 [.int .i64 xi, .int .u32 0, .string (str ls), .string ⟨#[]⟩] rfl rfl (four_new2 _ _ _ _ _ _ _ _) (by simp [Value.oneCell']) (by unfold maxLen; omega) (by omega) (by have := HSZ.out; simp; omega) ?_))
              intro v' w7 hown8 hgrow _ hat
              have hsep8 : v'.ownBlock = some w.heap.size ∨ ∃ g, v'.ownBlock = some g ∧ x1.heap.size ≤ g := by
                rcases hat with e | e
                · rw [e]; exact HJ2.out.sep
                · exact .inr ⟨_, e, by have := HJ2.out.siz; simp; omega⟩
              have hsiz8 : x1.heap.size ≤ w7.heap.size := Nat.le_trans HJ2.out.siz (Nat.le_trans (by simp; omega) hgrow.size)
              have hbl8 : Below w.heap.size w w7 := (Below.next HJ2.out.bel (below_three y2 _ _ _)).grown hgrow (by have := HSZ.out; simp; omega) (fun k hk => (World.ownsRow.lt HJ2.out.own k hk).1)
              have hsrc8 : PropsAt w7 (.slice (some ⟨b, off, none⟩) X.length vc) X := by
                obtain ⟨A, cap, hv, hc⟩ := HJ2.out.src
                refine ⟨A, cap, hv, fun i x hx => ?_⟩
                obtain ⟨b', off', hA, hbl', c0, c1, c2, c3⟩ := hc i x hx
                injection hv with hv1
                rw [hA] at hv1
                injection hv1 with hv1
                injection hv1 with hb1 ho1
                subst hb1 ho1
                have hkeep : w7.heap[b]? = y2.heap[b]? := by
                  rw [hgrow.block b (by simp; omega) (fun e => HNB.out e.symm)]
                  exact (below_three y2 _ _ _).block b hbl'
                exact ⟨b, off, hA, Nat.lt_of_lt_of_le hbl' (Nat.le_trans (by simp; omega) hgrow.size), (World.cell?_of_block (w := y2) hkeep).trans c0, (World.cell?_of_block (w := y2) hkeep).trans c1, (World.cell?_of_block (w := y2) hkeep).trans c2, (World.cell?_of_block (w := y2) hkeep).trans c3⟩
              have hown9 : OwnP w.heap.size 47 w7 v' nacc := by
                rw [HACC.out, HFIX.out]
                exact own_snoc hown8
              obtain ⟨a', c', hv'⟩ := hown9.form
              have hnl : nacc.length = acc.length + 1 := by rw [HACC.out]; simp
              have HJ9 : Hid (RightJ w x1.heap.size (.slice (some ⟨b, off, none⟩) X.length vc) X (.slice a' nacc.length c') nacc w7) := ⟨hsrc8, hv' ▸ hown9, hbl8, hsiz8, hv' ▸ hsep8⟩
              subst hv'
              have HNL := Lib.hid hnl
              clear hown9 hsrc8 hbl8 hown8 hgrow hnl HJ2 HSZ HACC HFIX hsep8 hsiz8 hat
              go_wp2
              go_roundw
              case rel => exact ⟨n + 1, a', c', by omega, by go_num, by rw [HNX.out], by rw [HNX.out]; exact HJ9.out⟩
              case measure => simp [intOf]; omega
            · have HFIX : Hid (fixP ⟨xi, xn, str ls, str lt⟩ = ⟨xi, 0, (str (lets ls)), (str (lets lt))⟩) := Lib.hid (by simp [fixP, hk, str_data])
              have HK := Lib.hid hk
              clear hk
              rw [HK.out]
              go_wp2_with fail
              refine (letters_calls _ ls (by omega)).mono ?_
              rintro e y4 ⟨rfl, rfl⟩
              generalize hys : str (lets ls) = ys at *
              go_wp2_with fail
              refine (r3kind_calls _ xi).mono ?_
              rw [HK.out]
              rintro e y4 ⟨rfl, rfl⟩
              clear HK
              go_wp2_with fail
              refine (letters_calls _ lt (by omega)).mono ?_
              rintro e y4 ⟨rfl, rfl⟩
              generalize hyt : str (lets lt) = yt at *
              obtain ⟨i0, hi, hz0, hz1, hz2⟩ := info_parts Tryd.infoProp
              have HSZ := Lib.hid (HJ2.out.bel.size)
              go_wp2_with ((at_builtin; refine wpList_append_own_at _ rfl _ _ 27 rfl w.heap.size 47 i0 (.agg #[.int .i64 0, .int .u32 0, .string ⟨#[]⟩, .string ⟨#[]⟩]) 4 48 Tryd.underlying27 hi hz0 hz1 hz2 rfl (by decide) _ _ _ rfl (World.ownsRow.alloc (World.ownsRow.alloc (World.ownsRow.alloc HJ2.out.own _) _) _) ⟨y2.heap.size + 2, 0, none⟩ 1 1 [.int .i64 xi, .int .u32 0, .string ys, .string yt] rfl rfl (four_new2 _ _ _ _ _ _ _ _) (by simp [Value.oneCell']) (by unfold maxLen; omega) (by omega) (by have := HSZ.out; simp; omega) ?_))
              intro v' w7 hown8 hgrow _ hat
              have hsep8 : v'.ownBlock = some w.heap.size ∨ ∃ g, v'.ownBlock = some g ∧ x1.heap.size ≤ g := by
                rcases hat with e | e
                · rw [e]; exact HJ2.out.sep
                · exact .inr ⟨_, e, by have := HJ2.out.siz; simp; omega⟩
              have hsiz8 : x1.heap.size ≤ w7.heap.size := Nat.le_trans HJ2.out.siz (Nat.le_trans (by simp; omega) hgrow.size)
              have hbl8 : Below w.heap.size w w7 := (Below.next HJ2.out.bel (below_three y2 _ _ _)).grown hgrow (by have := HSZ.out; simp; omega) (fun k hk => (World.ownsRow.lt HJ2.out.own k hk).1)
              have hsrc8 : PropsAt w7 (.slice (some ⟨b, off, none⟩) X.length vc) X := by
                obtain ⟨A, cap, hv, hc⟩ := HJ2.out.src
                refine ⟨A, cap, hv, fun i x hx => ?_⟩
                obtain ⟨b', off', hA, hbl', c0, c1, c2, c3⟩ := hc i x hx
                injection hv with hv1
                rw [hA] at hv1
                injection hv1 with hv1
                injection hv1 with hb1 ho1
                subst hb1 ho1
                have hkeep : w7.heap[b]? = y2.heap[b]? := by
                  rw [hgrow.block b (by simp; omega) (fun e => HNB.out e.symm)]
                  exact (below_three y2 _ _ _).block b hbl'
                exact ⟨b, off, hA, Nat.lt_of_lt_of_le hbl' (Nat.le_trans (by simp; omega) hgrow.size), (World.cell?_of_block (w := y2) hkeep).trans c0, (World.cell?_of_block (w := y2) hkeep).trans c1, (World.cell?_of_block (w := y2) hkeep).trans c2, (World.cell?_of_block (w := y2) hkeep).trans c3⟩
              have hown9 : OwnP w.heap.size 47 w7 v' nacc := by
                rw [HACC.out, HFIX.out]
                exact own_snoc hown8
              obtain ⟨a', c', hv'⟩ := hown9.form
              have hnl : nacc.length = acc.length + 1 := by rw [HACC.out]; simp
              have HJ9 : Hid (RightJ w x1.heap.size (.slice (some ⟨b, off, none⟩) X.length vc) X (.slice a' nacc.length c') nacc w7) := ⟨hsrc8, hv' ▸ hown9, hbl8, hsiz8, hv' ▸ hsep8⟩
              subst hv'
              have HNL := Lib.hid hnl
              clear hown9 hsrc8 hbl8 hown8 hgrow hnl HJ2 HSZ HACC HFIX hsep8 hsiz8 hat
              go_wp2
              go_roundw
              case rel => exact ⟨n + 1, a', c', by omega, by go_num, by rw [HNX.out], by rw [HNX.out]; exact HJ9.out⟩
              case measure => simp [intOf]; omega
          · subst h38
            rw [hh]
            have hk : (ruleL 38).kind = 7 := rfl
            clear hh hkr
            go_wp2_with fail
            refine (r3kind_calls _ 38).mono ?_
            rintro e y4 ⟨rfl, rfl⟩
            have HFIX : Hid (fixP ⟨38, xn, str ls, str lt⟩ = ⟨38, 0, (str (lets ls)), (str (lets lt))⟩) := Lib.hid (by simp [fixP, hk, str_data])
            have HK := Lib.hid hk
            clear hk
            rw [HK.out]
            go_wp2_with fail
            refine (letters_calls _ ls (by omega)).mono ?_
            rintro e y4 ⟨rfl, rfl⟩
            generalize hys : str (lets ls) = ys at *
            go_wp2_with fail
            refine (r3kind_calls _ 38).mono ?_
            rw [HK.out]
            rintro e y4 ⟨rfl, rfl⟩
            clear HK
            go_wp2_with fail
            refine (letters_calls _ lt (by omega)).mono ?_
            rintro e y4 ⟨rfl, rfl⟩
            generalize hyt : str (lets lt) = yt at *
            obtain ⟨i0, hi, hz0, hz1, hz2⟩ := info_parts Tryd.infoProp
            have HSZ := Lib.hid (HJ2.out.bel.size)
            go_wp2_with ((at_builtin; refine wpList_append_own_at _ rfl _ _ 27 rfl w.heap.size 47 i0 (.agg #[.int .i64 0, .int .u32 0, .string ⟨#[]⟩, .string ⟨#[]⟩]) 4 48 Tryd.underlying27 hi hz0 hz1 hz2 rfl (by decide) _ _ _ rfl (World.ownsRow.alloc (World.ownsRow.alloc (World.ownsRow.alloc HJ2.out.own _) _) _) ⟨y2.heap.size + 2, 0, none⟩ 1 1 [.int .i64 38, .int .u32 0, .string ys, .string yt] rfl rfl (four_new2 _ _ _ _ _ _ _ _) (by simp [Value.oneCell']) (by unfold maxLen; omega) (by omega) (by have := HSZ.out; simp; omega) ?_))
            intro v' w7 hown8 hgrow _ hat
            have hsep8 : v'.ownBlock = some w.heap.size ∨ ∃ g, v'.ownBlock = some g ∧ x1.heap.size ≤ g := by
              rcases hat with e | e
              · rw [e]; exact HJ2.out.sep
              · exact .inr ⟨_, e, by have := HJ2.out.siz; simp; omega⟩
            have hsiz8 : x1.heap.size ≤ w7.heap.size := Nat.le_trans HJ2.out.siz (Nat.le_trans (by simp; omega) hgrow.size)
            have hbl8 : Below w.heap.size w w7 := (Below.next HJ2.out.bel (below_three y2 _ _ _)).grown hgrow (by have := HSZ.out; simp; omega) (fun k hk => (World.ownsRow.lt HJ2.out.own k hk).1)
            have hsrc8 : PropsAt w7 (.slice (some ⟨b, off, none⟩) X.length vc) X := by
              obtain ⟨A, cap, hv, hc⟩ := HJ2.out.src
              refine ⟨A, cap, hv, fun i x hx => ?_⟩
              obtain ⟨b', off', hA, hbl', c0, c1, c2, c3⟩ := hc i x hx
              injection hv with hv1
              rw [hA] at hv1
              injection hv1 with hv1
              injection hv1 with hb1 ho1
              subst hb1 ho1
              have hkeep : w7.heap[b]? = y2.heap[b]? := by
                rw [hgrow.block b (by simp; omega) (fun e => HNB.out e.symm)]
                exact (below_three y2 _ _ _).block b hbl'
              exact ⟨b, off, hA, Nat.lt_of_lt_of_le hbl' (Nat.le_trans (by simp; omega) hgrow.size), (World.cell?_of_block (w := y2) hkeep).trans c0, (World.cell?_of_block (w := y2) hkeep).trans c1, (World.cell?_of_block (w := y2) hkeep).trans c2, (World.cell?_of_block (w := y2) hkeep).trans c3⟩
            have hown9 : OwnP w.heap.size 47 w7 v' nacc := by
              rw [HACC.out, HFIX.out]
              exact own_snoc hown8
            obtain ⟨a', c', hv'⟩ := hown9.form
            have hnl : nacc.length = acc.length + 1 := by rw [HACC.out]; simp
            have HJ9 : Hid (RightJ w x1.heap.size (.slice (some ⟨b, off, none⟩) X.length vc) X (.slice a' nacc.length c') nacc w7) := ⟨hsrc8, hv' ▸ hown9, hbl8, hsiz8, hv' ▸ hsep8⟩
            subst hv'
            have HNL := Lib.hid hnl
            clear hown9 hsrc8 hbl8 hown8 hgrow hnl HJ2 HSZ HACC HFIX hsep8 hsiz8 hat
            go_wp2
            go_roundw
            case rel => exact ⟨n + 1, a', c', by omega, by go_num, by rw [HNX.out], by rw [HNX.out]; exact HJ9.out⟩
            case measure => simp [intOf]; omega
    · obtain rfl : n = X.length := by omega
      have hJ := HJ.out
      have hfin := HR.out
      rw [List.take_length] at hJ ⊢
      rw [hfin] at hJ ⊢
      have HJ2 := Lib.hid hJ
      clear hJ HJ hfin HR HXOK
      go_wp2
      go_ret
      exact ⟨_, rfl, HJ2.out.own, HJ2.out.bel⟩

#print axioms right_calls
end Go.Proofs.YtmkajnephkaamaaDoor
