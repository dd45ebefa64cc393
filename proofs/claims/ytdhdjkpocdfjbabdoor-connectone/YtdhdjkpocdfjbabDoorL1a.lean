/-
  Size, Cut and awake of layer 1's statements. (No statement: contracts that the proofs of the statements use.)
-/
import Derived.Test.YtdhdjkpocdfjbabDoorIn2
namespace Go.Proofs.YtdhdjkpocdfjbabDoor
open Go.RowKit

theorem cut_calls (w : World) (s : ByteArray) (n : Nat) (_hs : s.size ≤ maxLen) :
    Calls Tryd.prog 8 #[.string s, .int .i64 n] w fun e w' => e = .returned (.string (s.extract 0 n)) ∧ w = w' := by
  by_cases h : n < s.size
  · go_enter Tryd.func8, Tryd.ntmps8
    go_wp2
    go_ret
    exact ⟨rfl, rfl⟩
  · have e : s.extract 0 n = s := by
      apply ByteArray.ext
      rw [ByteArray.data_extract]
      apply Array.ext'
      simp
      exact List.take_of_length_le (by simp; omega)
    rw [e]
    go_enter Tryd.func8, Tryd.ntmps8
    go_wp2
    go_ret
    exact ⟨rfl, rfl⟩

theorem two_ab : str ([] ++ varb 3 (321 : Int).toNat ++ (two ((⟨#[97, 98]⟩ : ByteArray).size : Nat) ++ (⟨#[97, 98]⟩ : ByteArray).data.toList)) = ⟨#[193, 2, 0, 2, 97, 98]⟩ := by decide +kernel
theorem var_80 : varT 3 0 0 ⟨#[128, 0]⟩ 0 = (0, ⟨#[]⟩, 2) := by decide +kernel

theorem OutAt.alloc {w : World} {o : Nat} {r : Option Nat} {bs : List UInt8} (h : OutAt w o r bs) (ob : Obj) : OutAt (w.alloc ob) o r bs :=
  h.keep (Below.heap_alloc w ob o h.lt) (fun g hg => Below.heap_alloc w ob g (h.row_lt g hg))

theorem Step.row_ge {w w' : World} {o B : Nat} {r r' : Option Nat} (h : Step w w' o r r') (hB : B ≤ w.heap.size) (hr : ∀ g, r = some g → B ≤ g) : ∀ g, r' = some g → B ≤ g := by
  intro g hg
  rcases h.row with e | ⟨g', e, hg'⟩
  · exact hr g (by rw [← e]; exact hg)
  · rw [e] at hg; injection hg with hg; omega

end Go.Proofs.YtdhdjkpocdfjbabDoor
