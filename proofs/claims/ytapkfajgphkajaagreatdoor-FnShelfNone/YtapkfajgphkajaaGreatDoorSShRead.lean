/-
  Contract of spec.ShelfRead: all records at the front of a log, and how many bytes they have.
-/
import Derived.Test.YtapkfajgphkajaaGreatDoorSOne
import Derived.Test.YtapkfajgphkajaaGreatDoorOwn
import Derived.Test.YtapkfajgphkajaaGreatDoorSRec
namespace Go.Proofs.YtapkfajgphkajaaGreatDoor.sh
open Go.ChangeShapes Go.WideShapes Go.ChangeAt Go.RowKit
open Go.Proofs.YtapkfajgphkajaaGreatDoor.nb Go.Proofs.YtapkfajgphkajaaGreatDoor.ok Go.Proofs.YtapkfajgphkajaaGreatDoor.wd Go.Proofs.YtapkfajgphkajaaGreatDoor.dc
open Go.Proofs.YtapkfajgphkajaaGreatDoor.ow (Own infoStr)

/-- a list of records as values -/
def recV (xs : List (List UInt8)) : List Value := xs.map fun x => Value.string (str x)
theorem recV_snoc (xs : List (List UInt8)) (x : List UInt8) : recV (xs ++ [x]) = recV xs ++ [.string (str x)] := by simp [recV]
theorem recV_len (xs : List (List UInt8)) : (recV xs).length = xs.length := by simp [recV]
def ReadPost (w : World) (l : List UInt8) (e : Ending) (w' : World) : Prop := ∃ v, e = .returned (.tuple #[v, .int .i64 (en l : Nat)]) ∧ Own 9 w w' v (recV (rd l))
theorem ext_drop (s : ByteArray) (i : Nat) : (s.extract i s.size).data.toList = s.data.toList.drop i := by
  rw [Lib.extract_eq]
  dsimp only
  rw [List.take_of_length_le (by rw [List.length_drop, ← Lib.size_eq]; exact Nat.le_refl _)]

/-- so far: whole records at the front -/
structure Part (l : List UInt8) (xs : List (List UInt8)) : Prop where
  rks : Rks xs
  rest : ∃ t, l = lg xs ++ t
theorem Part.le {l : List UInt8} {xs : List (List UInt8)} (h : Part l xs) : (lg xs).length ≤ l.length := by
  obtain ⟨t, e⟩ := h.rest
  rw [e, List.length_append]; omega
theorem Part.drop {l : List UInt8} {xs : List (List UInt8)} (h : Part l xs) : l = lg xs ++ l.drop (lg xs).length := by
  obtain ⟨t, e⟩ := h.rest
  conv => rhs; rw [e]
  rw [List.drop_left, ← e]
theorem Part.done {l : List UInt8} {xs : List (List UInt8)} (h : Part l xs) (h0 : one (l.drop (lg xs).length) = none) : rd l = xs ∧ en l = (lg xs).length := by
  have e := h.drop
  have h1 : rd l = xs := by rw [e]; exact rd_of h.rks h0
  exact ⟨h1, by unfold en; rw [h1]⟩
theorem Part.end_ {l : List UInt8} {xs : List (List UInt8)} (h : Part l xs) (h0 : l.length ≤ (lg xs).length) : rd l = xs ∧ en l = (lg xs).length :=
  h.done (by rw [List.drop_of_length_le h0]; exact one_nil)
theorem Part.on {l : List UInt8} {xs : List (List UInt8)} {x : List UInt8} {k : Nat} (h : Part l xs) (h1 : one (l.drop (lg xs).length) = some (x, k)) :
    Part l (xs ++ [x]) ∧ (lg (xs ++ [x])).length = (lg xs).length + k ∧ 4 ≤ k ∧ k ≤ 64 := by
  obtain ⟨hx, hk, t, ht⟩ := one_some h1
  have hs := st_len hx
  have e := h.drop
  rw [ht] at e
  have h1 := hx.1
  have h2 := hx.2
  refine ⟨⟨h.rks.snoc hx, t, by rw [lg_snoc, List.append_assoc]; exact e⟩, by rw [lg_snoc, List.length_append, hk], by omega, by omega⟩
theorem Part.nil (l : List UInt8) : Part l [] := ⟨Rks.nil, l, rfl⟩

set_option maxRecDepth 100000 in
set_option maxHeartbeats 1000000 in
theorem sread_any (s : ByteArray) (hs : s.size ≤ 8388608) (w : World) :
    Calls Tryz.prog 27 #[.string s] w (ReadPost w s.data.toList) := by
  obtain ⟨s0, si, sz0, sz1, sz2⟩ := info_parts infoStr
  go_enter Tryz.func27, Tryz.ntmps27
  go_wp2
  go_loopw [4, 5] (fun v i wr => ∃ (xs : List (List UInt8)) (k : Nat), i = .int .i64 k ∧ Own 9 w wr v (recV xs) ∧ Hid (Part s.data.toList xs ∧ k = (lg xs).length) ∧ k ≤ s.size ∧ xs.length ≤ 4194304) (fun _ i _ => s.size - (intOf i).toNat)
  case atStart => exact ⟨[], 0, rfl, Own.empty w, ⟨Part.nil _, rfl⟩, by omega, by simp⟩
  case round =>
    obtain ⟨xs, k, rfl, hO, HP, hk, hl⟩ := hrel
    by_cases hlt : k < s.size
    · have HS := Lib.hid (fun W => sone_any (s.extract k s.size) (by rw [ByteArray.size_extract]; omega) W)
      rw [ext_drop] at HS
      have b0 : (0 : Int) ≤ (k : Int) := by omega
      have b1 : (k : Int) ≤ (s.size : Int) := by omega
      cases e1 : one (s.data.toList.drop k) with
      | none =>
        have HE := Lib.hid (show rd s.data.toList = xs ∧ en s.data.toList = k by
          obtain ⟨h1, h2⟩ := HP.out
          rw [h2] at e1
          obtain ⟨h3, h4⟩ := h1.done e1
          exact ⟨h3, by rw [h4, h2]⟩)
        unfold OnePost at HS
        rw [oneS_none e1, oneN_none e1] at HS
        clear e1 HP
        go_wp2_with fail
        refine (HS.out _).mono ?_
        rintro e w2 ⟨rfl, hB⟩
        have hO2 := Lib.hid (hO.later hB)
        clear hO
        go_wp2
        go_ret2
        exact ⟨_, by rw [HE.out.2]; rfl, by rw [HE.out.1]; exact hO2.out⟩
      | some p =>
        obtain ⟨x, m⟩ := p
        have HE := Lib.hid (show Part s.data.toList (xs ++ [x]) ∧ k + m = (lg (xs ++ [x])).length by
          obtain ⟨h1, h2⟩ := HP.out
          rw [h2] at e1 ⊢
          obtain ⟨h3, h4, _⟩ := h1.on e1
          exact ⟨h3, by rw [h4]⟩)
        have hm : 4 ≤ m ∧ m ≤ 64 ∧ k + m ≤ s.size ∧ (xs ++ [x]).length ≤ 4194304 := by
          obtain ⟨h1, h2⟩ := HP.out
          have e1' := e1
          rw [h2] at e1'
          obtain ⟨h3, h4, h5, h6⟩ := h1.on e1'
          have h7 := h3.le
          have h8 := lg_count h3.rks
          rw [← Lib.size_eq] at h7
          refine ⟨h5, h6, by omega, by omega⟩
        obtain ⟨hm1, hm2, hm3, hm4⟩ := hm
        unfold OnePost at HS
        rw [oneS_some e1, oneN_some e1] at HS
        have HV := Lib.hid (recV_snoc xs x)
        have hlen : (recV xs).length ≤ 4194304 := by rw [recV_len]; exact hl
        clear e1 HP
        generalize str x = y at HS HV
        generalize recV xs = os at hO HV hlen
        go_wp2_with fail
        refine (HS.out _).mono ?_
        rintro e w2 ⟨rfl, hB⟩
        have hO2 := hO.later hB
        clear hO hB
        have km : ((m : Int) == 0) = false := by rw [beq_eq_false_iff_ne]; omega
        go_wp2_with (at_builtin; refine wpList_append_own _ rfl _ _ 30 rfl w.heap.size 9 s0 (.string ⟨#[]⟩) 1 16 Tryz.underlying30 si sz0 sz1 sz2 rfl (by decide) _ _ _ rfl (hO2.1.alloc _) ⟨w2.heap.size, 0, none⟩ 1 1 [.string y] rfl rfl ?e1 ?e2 ?e3 ?e4 ?e5 ?_)
        case e1 => exact cell_one_new _ _ _
        case e2 => intro x hx; simp at hx; subst hx; rfl
        case e3 => unfold maxLen; omega
        case e4 => omega
        case e5 => have := hO2.2.size; simp; omega
        intro v1 w1 hown1 hgrow1 _
        have R := Lib.hid (hO2.more hown1 hgrow1)
        clear hown1 hgrow1 hO2
        go_wp2
        go_roundw
        case rel => exact ⟨xs ++ [x], k + m, by go_num, by rw [HV.out]; exact R.out, HE.out, hm3, hm4⟩
        case measure => simp [intOf]; omega
    · have HE := Lib.hid (show rd s.data.toList = xs ∧ en s.data.toList = k by
        obtain ⟨h1, h2⟩ := HP.out
        obtain ⟨h3, h4⟩ := h1.end_ (by rw [← h2, ← Lib.size_eq]; omega)
        exact ⟨h3, by rw [h4, h2]⟩)
      clear HP
      go_wp2
      go_ret2
      exact ⟨_, by rw [HE.out.2]; rfl, by rw [HE.out.1]; exact hO⟩
end Go.Proofs.YtapkfajgphkajaaGreatDoor.sh
