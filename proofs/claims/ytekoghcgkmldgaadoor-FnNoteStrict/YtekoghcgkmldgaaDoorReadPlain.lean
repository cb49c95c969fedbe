/-
  Plain mathematics of reading a message. Nothing here speaks of a program.
-/
import Derived.Test.YtekoghcgkmldgaaDoorDecPlain
namespace Go.Proofs.YtekoghcgkmldgaaDoor.dc
open Go.Proofs.YtekoghcgkmldgaaDoor.nb Go.Proofs.YtekoghcgkmldgaaDoor.ok

/-- what is left of a message's text behind k numbers -/
def sfx (f n t u : Int) (r : List UInt8) : Nat → List UInt8
  | 0 => wl f n t u r
  | 1 => dl n ++ 32 :: (dl t ++ 32 :: (dl u ++ 32 :: r))
  | 2 => dl t ++ 32 :: (dl u ++ 32 :: r)
  | 3 => dl u ++ 32 :: r
  | _ => r
/-- what has been read of a text: if the text is a message's, its first numbers, and the rest -/
def Inv (l : List UInt8) (k : Nat) (vs : List Int) (rest : List UInt8) : Prop :=
  ∀ f n t u (s : ByteArray), okN f n t u s = true → l = wl f n t u s.data.toList → vs = [f, n, t, u].take k ∧ rest = sfx f n t u s.data.toList k
theorem inv_start (l : List UInt8) : Inv l 0 [] l := fun _ _ _ _ _ _ e => ⟨rfl, e⟩
theorem inv_step {l : List UInt8} {k : Nat} {vs : List Int} {rest : List UInt8} {v : Int} (hk : k < 4) (h : Inv l k vs rest)
    (hv : ∀ m : Int, 0 ≤ m → m ≤ 999 → (word rest).1 = dl m → v = m) : Inv l (k + 1) (vs ++ [v]) (word rest).2 := by
  intro f n t u s ho e
  obtain ⟨⟨f0, f1⟩, ⟨n0, n1⟩, ⟨t0, t1⟩, ⟨u0, u1⟩, _, _⟩ := okN_parts ho
  obtain ⟨h1, h2⟩ := h f n t u s ho e
  match k, hk with
  | 0, _ =>
    have e2 : word rest = (dl f, sfx f n t u s.data.toList 1) := by rw [h2]; exact word_dl f _
    have hv' := hv f (by omega) (by omega) (by rw [e2])
    rw [hv', h1, e2]
    exact ⟨rfl, rfl⟩
  | 1, _ =>
    have e2 : word rest = (dl n, sfx f n t u s.data.toList 2) := by rw [h2]; exact word_dl n _
    have hv' := hv n (by omega) (by omega) (by rw [e2])
    rw [hv', h1, e2]
    exact ⟨rfl, rfl⟩
  | 2, _ =>
    have e2 : word rest = (dl t, sfx f n t u s.data.toList 3) := by rw [h2]; exact word_dl t _
    have hv' := hv t (by omega) (by omega) (by rw [e2])
    rw [hv', h1, e2]
    exact ⟨rfl, rfl⟩
  | 3, _ =>
    have e2 : word rest = (dl u, sfx f n t u s.data.toList 4) := by rw [h2]; exact word_dl u _
    have hv' := hv u (by omega) (by omega) (by rw [e2])
    rw [hv', h1, e2]
    exact ⟨rfl, rfl⟩

/-- the text is no message's -/
def NoNote (x : ByteArray) : Prop := ∀ f n t u (s : ByteArray), okN f n t u s = true → x ≠ wr f n t u s
/-- what NoteRead is to answer -/
def RD (x : ByteArray) (b : Bool) (f n t u : Int) (s : ByteArray) : Prop :=
  (b = true ∧ okN f n t u s = true ∧ x = wr f n t u s) ∨ (b = false ∧ f = 0 ∧ n = 0 ∧ t = 0 ∧ u = 0 ∧ s = ⟨#[]⟩ ∧ NoNote x)

theorem wr_data {x : ByteArray} {f n t u : Int} {s : ByteArray} (h : x = wr f n t u s) : x.data.toList = wl f n t u s.data.toList := by rw [h]; exact data_str _
theorem wl_ne (f n t u : Int) (r : List UInt8) : wl f n t u r ≠ [] := by unfold wl; simp
theorem wr_ne (f n t u : Int) (s : ByteArray) : wr f n t u s ≠ str [] := fun h => wl_ne _ _ _ _ _ (str_inj h)

/-- four numbers and a rest, read: a message's, if the text is one's -/
theorem fin_note {x : ByteArray} {a b c d : Int} {r : List UInt8} (h : Inv x.data.toList 4 [a, b, c, d] r) {f n t u : Int} {s : ByteArray} (ho : okN f n t u s = true) (e : x = wr f n t u s) :
    a = f ∧ b = n ∧ c = t ∧ d = u ∧ str r = s := by
  obtain ⟨h1, h2⟩ := h f n t u s ho (wr_data e)
  simp at h1
  obtain ⟨rfl, rfl, rfl, rfl⟩ := h1
  exact ⟨rfl, rfl, rfl, rfl, by rw [h2]; exact str_data s⟩
theorem fin_bad {x : ByteArray} {a b c d : Int} {r : List UInt8} (h : Inv x.data.toList 4 [a, b, c, d] r) (ho : okN a b c d (str r) = false) : NoNote x := by
  intro f n t u s hok e
  obtain ⟨rfl, rfl, rfl, rfl, rfl⟩ := fin_note h hok e
  rw [ho] at hok
  cases hok
theorem fin_other {x : ByteArray} {a b c d : Int} {r : List UInt8} (h : Inv x.data.toList 4 [a, b, c, d] r) (hne : wr a b c d (str r) ≠ x) : NoNote x := by
  intro f n t u s hok e
  obtain ⟨rfl, rfl, rfl, rfl, rfl⟩ := fin_note h hok e
  exact hne e.symm
theorem no_empty : NoNote (str []) := fun f n t u s _ e => wr_ne f n t u s e.symm

theorem dl_inj {a b : Int} (ha : 0 ≤ a) (hb : 0 ≤ b) (h : dl a = dl b) : a = b := by
  have := congrArg (val 0) h
  unfold dl at this
  rw [dd_val, dd_val] at this
  omega
theorem wr_inj {f n t u f' n' t' u' : Int} {s s' : ByteArray} (h : okN f n t u s = true) (h' : okN f' n' t' u' s' = true) (e : wr f n t u s = wr f' n' t' u' s') :
    f = f' ∧ n = n' ∧ t = t' ∧ u = u' ∧ s = s' := by
  obtain ⟨⟨f0, f1⟩, ⟨n0, n1⟩, ⟨t0, t1⟩, ⟨u0, u1⟩, _, _⟩ := okN_parts h
  obtain ⟨⟨f0', f1'⟩, ⟨n0', n1'⟩, ⟨t0', t1'⟩, ⟨u0', u1'⟩, _, _⟩ := okN_parts h'
  have e0 := str_inj e
  have w0 := congrArg word e0
  unfold wl at w0
  rw [word_dl, word_dl] at w0
  obtain ⟨g0, e1⟩ := Prod.mk.inj w0
  have w1 := congrArg word e1
  rw [word_dl, word_dl] at w1
  obtain ⟨g1, e2⟩ := Prod.mk.inj w1
  have w2 := congrArg word e2
  rw [word_dl, word_dl] at w2
  obtain ⟨g2, e3⟩ := Prod.mk.inj w2
  have w3 := congrArg word e3
  rw [word_dl, word_dl] at w3
  obtain ⟨g3, e4⟩ := Prod.mk.inj w3
  exact ⟨dl_inj f0 f0' g0, dl_inj (by omega) (by omega) g1, dl_inj t0 t0' g2, dl_inj (by omega) (by omega) g3, by rw [← str_data s, e4, str_data]⟩
theorem rd_one {x : ByteArray} {b b' : Bool} {f n t u f' n' t' u' : Int} {s s' : ByteArray} (h : RD x b f n t u s) (h' : RD x b' f' n' t' u' s') :
    b = b' ∧ f = f' ∧ n = n' ∧ t = t' ∧ u = u' ∧ s = s' := by
  rcases h with ⟨rfl, ho, e⟩ | ⟨rfl, rfl, rfl, rfl, rfl, rfl, hn⟩
  · rcases h' with ⟨rfl, ho', e'⟩ | ⟨rfl, _, _, _, _, _, hn'⟩
    · exact ⟨rfl, wr_inj ho ho' (e.symm.trans e')⟩
    · exact absurd e (hn' _ _ _ _ _ ho)
  · rcases h' with ⟨rfl, ho', e'⟩ | ⟨rfl, rfl, rfl, rfl, rfl, rfl, _⟩
    · exact absurd e' (hn _ _ _ _ _ ho')
    · exact ⟨rfl, rfl, rfl, rfl, rfl, rfl⟩
end Go.Proofs.YtekoghcgkmldgaaDoor.dc
