/-
  Parts of a list of encoded blocks.
-/
import Derived.Test.YtokajeomojlinaaPeelTrue
namespace Go.Proofs.Ytokajeomojlinaa.ls
open Go.Proofs.Ytokajeomojlinaa.wd Go.Proofs.Ytokajeomojlinaa.cp Go.Proofs.Ytokajeomojlinaa.mp Go.Proofs.Ytokajeomojlinaa.pp Go.Proofs.Ytokajeomojlinaa.ow

theorem own_cap {t : TypeId} {sz : Nat} {w0 w : World} {A : Option Addr} {n m c : Nat} {xs : List Value} (h : OwnZ t sz w0 w (.slice A m c) n xs) : m = n ∧ n ≤ c ∧ c ≤ 9223372036854775807 := by
  rcases h.1.2 with ⟨e, hn⟩ | ⟨g, cap, cur, e, _, _, h1, h2, _⟩
  · injection e with e1 e2 e3
    subst e2; subst e3; subst hn
    exact ⟨rfl, by omega, by omega⟩
  · injection e with e1 e2 e3
    subst e2; subst e3
    exact ⟨rfl, h1, h2⟩
theorem sees_take {w : World} {A : Option Addr} {c : Nat} {L : List Mx} (h : SeesM w (.slice A L.length c) L) {k : Nat} (hk : k ≤ L.length) : SeesM w (.slice A k c) (L.take k) := by
  obtain ⟨A', c', e, hc⟩ := h
  injection e with e1 e2 e3
  subst e1; subst e3
  have hl : (L.take k).length = k := by rw [List.length_take]; omega
  refine ⟨A, c, by rw [hl], fun hn => ?_⟩
  rw [hl] at hn
  obtain ⟨g, rfl, hg, hcell⟩ := hc (by omega)
  refine ⟨g, rfl, hg, fun i m hm => hcell i m ?_⟩
  have hi := (List.getElem?_eq_some_iff.mp hm).1
  rw [hl] at hi
  rw [List.getElem?_take] at hm
  simpa [hi] using hm
end Go.Proofs.Ytokajeomojlinaa.ls
