/-
  Plain: the promises of chapter 11, of the plain functions.
-/
import Derived.Test.YtapkfajgphkajaaGreatDoorPackPlain
namespace Go.Proofs.YtapkfajgphkajaaGreatDoor.sh
open Go.Proofs.YtapkfajgphkajaaGreatDoor.nb Go.Proofs.YtapkfajgphkajaaGreatDoor.dc

theorem app_data (a b : ByteArray) : (a ++ b).data.toList = a.data.toList ++ b.data.toList := by simp
theorem ext_all (s : ByteArray) : s.extract 0 s.size = s := by
  have : (s.extract 0 s.size).data.toList = s.data.toList := by rw [ext_take, Lib.size_eq, List.take_length]
  rw [← str_data (s.extract 0 s.size), this, str_data]
theorem ext_of {s : ByteArray} {n : Nat} (h : n ≤ s.size) : (s.extract 0 n).size = n := by rw [ByteArray.size_extract]; omega
theorem ok_nat {s : ByteArray} {f : Int} (h : okSh s f = true) : ∃ m : Nat, f = (m : Int) ∧ m ≤ s.size ∧ s.size ≤ 2400 ∧ en s.data.toList = s.size ∧ en (s.data.toList.take m) = m := by
  obtain ⟨h1, h2, h3, h4, h5⟩ := okSh_iff.1 h
  obtain ⟨m, rfl⟩ := Int.eq_ofNat_of_zero_le h2
  rw [← Lib.size_eq] at h1 h3 h4
  simp only [Int.toNat_natCast] at h5
  exact ⟨m, rfl, by omega, h1, h4, h5⟩
theorem ok_of {s : ByteArray} {m : Nat} (h1 : s.size ≤ 2400) (h2 : m ≤ s.size) (h3 : en s.data.toList = s.size) (h4 : en (s.data.toList.take m) = m) : okSh s (m : Int) = true := by
  rw [okSh_nat h1 h2, h3, h4]
  simp

/-- a shelf all of which is forced falls to itself -/
theorem fall_same {s : ByteArray} (h : okSh s (s.size : Nat) = true) (k : Int) : fallS s (s.size : Nat) k = s ∧ fallF s (s.size : Nat) k = (s.size : Nat) := by
  have hl : left s (s.size : Nat) k = s.size := by unfold left; omega
  have hn : fallN s (s.size : Nat) k = s.size := by
    unfold fallN
    rw [hl]
    obtain ⟨m, hm, _, _, h4, _⟩ := ok_nat h
    rw [Lib.size_eq, List.take_length, h4, Lib.size_eq]
  unfold fallS fallF
  rw [if_pos h, if_pos h, hn, ext_all]
  exact ⟨rfl, rfl⟩
theorem ok_whole {s : ByteArray} {f : Int} (h : okSh s f = true) : okSh s (s.size : Nat) = true := by
  obtain ⟨m, rfl, _, h2, h3, _⟩ := ok_nat h
  exact ok_of h2 (Nat.le_refl _) h3 (by rw [Lib.size_eq, List.take_length, h3, Lib.size_eq])

theorem force_law {s : ByteArray} {f : Int} (h : okSh s f = true) : forceS s f = s ∧ forceF s f = (s.size : Nat) ∧ fallS (forceS s f) (forceF s f) 0 = forceS s f ∧ fallF (forceS s f) (forceF s f) 0 = forceF s f := by
  have e1 : forceS s f = s := by unfold forceS; rw [if_pos h]
  have e2 : forceF s f = (s.size : Nat) := by unfold forceF; rw [if_pos h]
  rw [e1, e2]
  obtain ⟨a, b⟩ := fall_same (ok_whole h) 0
  exact ⟨rfl, rfl, a, b⟩

theorem fall_law {s : ByteArray} {f : Int} (h : okSh s f = true) (k : Int) :
    fallF s f k = ((fallS s f k).size : Nat) ∧ f ≤ ((fallS s f k).size : Nat) ∧ (fallS s f k).size ≤ s.size ∧ fallS s f k = s.extract 0 (fallS s f k).size ∧ okSh (fallS s f k) (fallF s f k) = true ∧
      fallS (fallS s f k) (fallF s f k) k = fallS s f k ∧ fallF (fallS s f k) (fallF s f k) k = fallF s f k := by
  obtain ⟨m, rfl, h1, h2, h3, h4⟩ := ok_nat h
  have hl : left s (m : Int) k ≤ s.size := by unfold left; omega
  have hl2 : m ≤ left s (m : Int) k := by unfold left; omega
  obtain ⟨n, hn⟩ : ∃ n, n = fallN s (m : Int) k := ⟨_, rfl⟩
  have hn' : n = en (s.data.toList.take (left s (m : Int) k)) := hn
  have hnl : n ≤ left s (m : Int) k := by
    have := en_le (s.data.toList.take (left s (m : Int) k))
    rw [List.length_take] at this
    omega
  have hmn : m ≤ n := by rw [hn']; exact en_mono m h4 _ hl2
  have e1 : fallS s (m : Int) k = s.extract 0 n := by unfold fallS; rw [if_pos h, ← hn]
  have e2 : fallF s (m : Int) k = (n : Nat) := by unfold fallF; rw [if_pos h, ← hn]
  have hsz : (s.extract 0 n).size = n := ext_of (by omega)
  have hen : en (s.data.toList.take n) = n := by
    have := (rd_back (s.data.toList.take (left s (m : Int) k))).2
    rw [← hn', List.take_take, Nat.min_eq_left hnl] at this
    exact this
  have hok : okSh (s.extract 0 n) (n : Int) = true := by
    refine ok_of (by omega) (by omega) ?_ ?_
    · rw [ext_take, hsz]; exact hen
    · rw [ext_take, List.take_take, Nat.min_self]; exact hen
  have hok' : okSh (s.extract 0 n) ((s.extract 0 n).size : Nat) = true := by rw [hsz]; exact hok
  obtain ⟨a, b⟩ := fall_same hok' k
  rw [hsz] at a b
  rw [e1, e2, hsz]
  exact ⟨rfl, by omega, by omega, rfl, hok, a, b⟩

theorem rd_st {x : List UInt8} (h : rok x) : rd (st x) = [x] ∧ en (st x) = (st x).length := by
  have e : st x = lg [x] := by simp [lg]
  have hr : Rks [x] := fun y hy => by simp at hy; subst hy; exact h
  have h1 : rd (st x) = [x] := by rw [e, rd_lg hr]
  exact ⟨h1, by unfold en; rw [h1, ← e]⟩
theorem rok_of {x : ByteArray} (h1 : 1 ≤ x.size) (h2 : x.size ≤ 60) : rok x.data.toList := ⟨by rw [← Lib.size_eq]; exact h1, by rw [← Lib.size_eq]; exact h2⟩

theorem add_law {s x : ByteArray} {f : Int} (h : okSh s f = true) (hf : fits s x = true) :
    rd (s ++ stS x).data.toList = rd s.data.toList ++ [x.data.toList] ∧ en (s ++ stS x).data.toList = (s ++ stS x).size ∧ okSh (s ++ stS x) f = true := by
  obtain ⟨m, rfl, h1, h2, h3, h4⟩ := ok_nat h
  obtain ⟨g1, g2, g3⟩ := fits_iff.1 hf
  have hx := rok_of g1 g2
  obtain ⟨r1, r2⟩ := rd_st hx
  have hd : (s ++ stS x).data.toList = s.data.toList ++ st x.data.toList := by rw [app_data]; unfold stS; rw [data_str]
  obtain ⟨a1, a2⟩ := rd_app (a := s.data.toList) (b := st x.data.toList) (by rw [h3, Lib.size_eq])
  have hen : en (s ++ stS x).data.toList = (s ++ stS x).size := by
    rw [hd, a2, h3, r2, size_app]
    unfold stS
    rw [str_size]
  refine ⟨by rw [hd, a1, r1], hen, ok_of (by rw [size_app]; exact g3) (by rw [size_app]; omega) hen ?_⟩
  rw [hd, List.take_append_of_le_length (by rw [← Lib.size_eq]; exact h1)]
  exact h4

theorem cut_law {l : List UInt8} (n : Nat) : en (l.take n) ≤ n ∧ (rd (l.take n)).length ≤ (rd l).length ∧ rd (l.take n) = (rd l).take (rd (l.take n)).length := by
  have h1 := en_le (l.take n)
  rw [List.length_take] at h1
  obtain ⟨c, hc⟩ := rd_take (l := l) n
  refine ⟨by omega, by rw [hc, List.length_append]; omega, ?_⟩
  rw [hc, List.take_left]
theorem pack_law {xs : List ByteArray} (h : packOk xs = true) : rd (cat xs).data.toList = xs.map (fun x => x.data.toList) ∧ okSh (cat xs) ((cat xs).size : Nat) = true := by
  unfold packOk at h
  rw [Bool.and_eq_true] at h
  have hr := cat_rks h.1
  have hsz := of_decide_eq_true h.2
  have h1 : rd (cat xs).data.toList = xs.map (fun x => x.data.toList) := by rw [cat_data, rd_lg hr]
  have h2 : en (cat xs).data.toList = (cat xs).size := by rw [Lib.size_eq, cat_data, en_lg hr]
  exact ⟨h1, ok_of hsz (Nat.le_refl _) h2 (by rw [Lib.size_eq, List.take_length, h2, Lib.size_eq])⟩
end Go.Proofs.YtapkfajgphkajaaGreatDoor.sh
