/-
  Contracts of spec.l12Notes, l12Marks.
-/
import Derived.Test.YtgihbilpimempabSKeep1
import Derived.Test.YtgihbilpimempabRegSkip
import Derived.Deep.RegionHeld3
import Derived.Deep.RegionWith
import Derived.Deep.QuietTactic
import Derived.BigQuiet
namespace Go.Proofs.Ytgihbilpimempab.kp
open Go.ChangeShapes Go.WideShapes Go.ChangeAt Go.RowKit
open Go.Proofs.Ytgihbilpimempab.wd Go.Proofs.Ytgihbilpimempab.ow Go.Proofs.Ytgihbilpimempab.rl Go.Proofs.Ytgihbilpimempab.ok Go.Proofs.Ytgihbilpimempab.nb

theorem okNts_long {l : List Nt} {most : Nat} (h : most < l.length) : okNts l most = false := by unfold okNts; rw [decide_eq_false (by omega)]; rfl
theorem okNts_bad {l : List Nt} {most k : Nat} (hk : k < l.length) (h : ordN l k = false) : okNts l most = false := by unfold okNts; rw [allI_bad hk h, Bool.and_false]
theorem okNts_all {l : List Nt} {most : Nat} (hl : l.length ≤ most) (h : allI l.length (ordN l) = true) : okNts l most = true := by unfold okNts; rw [h, decide_eq_true hl]; rfl
theorem okMks_long {l : List Mk} (h : 12 < l.length) : okMks l = false := by unfold okMks; rw [decide_eq_false (by omega)]; rfl
theorem okMks_bad {l : List Mk} {k : Nat} (hk : k < l.length) (h : ordM l k = false) : okMks l = false := by unfold okMks; rw [allI_bad hk h, Bool.and_false]
theorem okMks_all {l : List Mk} (hl : l.length ≤ 12) (h : allI l.length (ordM l) = true) : okMks l = true := by unfold okMks; rw [h, decide_eq_true hl]; rfl

set_option maxRecDepth 100000 in
set_option maxHeartbeats 4000000 in
theorem notes_any (w : World) (v : Value) (l : List Nt) (most : Nat) (hm : most ≤ 100) (h : SeesN w v l) (hl : l.length ≤ 1048576) (hz : ∀ x ∈ l, x.s.size ≤ maxLen) :
    Calls Try.prog 32 #[v, .int .i64 most] w (BoolK w (okNts l most)) := by
  have HS := Lib.hid h
  have HZ := Lib.hid hz
  obtain ⟨A, c, rfl, _⟩ := h
  clear hz
  by_cases hlong : most < l.length
  · rw [okNts_long hlong]
    go_enter Try.func32, Try.ntmps32
    go_wp2
    go_ret
    exact ⟨rfl, Below.refl _ _⟩
  go_enter Try.func32, Try.ntmps32
  go_wp2
  go_loopw [5] (fun i wr => ∃ k : Nat, k ≤ l.length ∧ i = .int .i64 k ∧ Hid (allI k (ordN l) = true) ∧ Below w.heap.size w wr) (fun i _ => (l.length + 1 : Nat) - (intOf i).toNat)
  case atStart => exact ⟨0, by omega, rfl, rfl, Below.refl _ _⟩
  case round =>
    obtain ⟨k, hk, rfl, HA, hB⟩ := hrel
    by_cases hkl : k < l.length
    · have hx : l[k]? = some l[k] := List.getElem?_eq_getElem hkl
      have hzm := HZ.out l[k] (List.getElem_mem hkl)
      have hc := note_at (HS.out.later hB) hx
      generalize l[k] = x at hx hc hzm
      obtain ⟨g, c', e, hg, _, t0, t1, t2, t3, t4⟩ := hc
      injection e with e1 e2 e3
      subst e1; subst e3
      have hk0 : (0 : Int) ≤ (k : Int) := by omega
      have hk1 : (k : Int) < (l.length : Int) := by omega
      have HK := Lib.hid (fun V => ok.sok_any x.f x.n x.t x.u x.s V hzm)
      unfold ok.BoolPost note at HK
      have hz := hB.size
      cases hb : okNt x with
      | false =>
        have HR := Lib.hid (okNts_bad (most := most) hkl (show ordN l k = false by
          cases k with
          | zero => rw [ordN_zero hx, hb]
          | succ j => rw [ordN_succ hx (List.getElem?_eq_getElem (by omega)), hb, Bool.false_and]))
        unfold okNt at hb
        rw [hb] at HK
        clear hb hx
        go_wp2_with fail
        refine wp_region_held_drew (S := (fun w' : World => w'.cell? ⟨g, k * 5, none⟩ = some (.int .i64 x.f) ∧ w'.cell? ⟨g, k * 5 + 1, none⟩ = some (.int .i64 x.n) ∧ w'.cell? ⟨g, k * 5 + 2, none⟩ = some (.int .i64 x.t) ∧ w'.cell? ⟨g, k * 5 + 3, none⟩ = some (.int .i64 x.u) ∧ w'.cell? ⟨g, k * 5 + 4, none⟩ = some (.string x.s))) (by kernel_rfl) ⟨t0, t1, t2, t3, t4⟩ (fun hHeld => ?_)
        refine rs.want_take (i := 0) 16 (v := ?_) rfl rfl (by kernel_rfl) (by kernel_rfl) (by kernel_rfl) (fun _ _ _ _ h => h) rfl ?_ (by assumption) ?_
        rotate_left 1
        · (intro w hSw; (try dsimp only at hSw); go_simp; try with_reducible rfl)
        simp only [List.setIfInBounds_toArray, List.set_cons_zero, List.set_cons_succ]
        refine rs.want_take (i := 1) 17 (v := ?_) rfl rfl (by kernel_rfl) (by kernel_rfl) (by kernel_rfl) (fun _ _ _ _ h => h) rfl ?_ (by assumption) ?_
        rotate_left 1
        · (intro w hSw; (try dsimp only at hSw); go_simp; try with_reducible rfl)
        simp only [List.setIfInBounds_toArray, List.set_cons_zero, List.set_cons_succ]
        refine rs.want_take (i := 2) 18 (v := ?_) rfl rfl (by kernel_rfl) (by kernel_rfl) (by kernel_rfl) (fun _ _ _ _ h => h) rfl ?_ (by assumption) ?_
        rotate_left 1
        · (intro w hSw; (try dsimp only at hSw); go_simp; try with_reducible rfl)
        simp only [List.setIfInBounds_toArray, List.set_cons_zero, List.set_cons_succ]
        refine rs.want_take (i := 3) 19 (v := ?_) rfl rfl (by kernel_rfl) (by kernel_rfl) (by kernel_rfl) (fun _ _ _ _ h => h) rfl ?_ (by assumption) ?_
        rotate_left 1
        · (intro w hSw; (try dsimp only at hSw); go_simp; try with_reducible rfl)
        simp only [List.setIfInBounds_toArray, List.set_cons_zero, List.set_cons_succ]
        refine wpAnyH_ready (rs := [4]) (by kernel_rfl) (by simp) ?_
        refine AllReadyH.cons rfl (fun K hK => ?_) AllReadyH.nil
        go_simp
        refine (HK.out _).mono ?_
        rintro e w2 ⟨rfl, hB2⟩
        have s0 := (hB2.cell (p := ⟨g, k * 5, none⟩) hg).trans t0
        have s1 := (hB2.cell (p := ⟨g, k * 5 + 1, none⟩) hg).trans t1
        have s2 := (hB2.cell (p := ⟨g, k * 5 + 2, none⟩) hg).trans t2
        have s3 := (hB2.cell (p := ⟨g, k * 5 + 3, none⟩) hg).trans t3
        have s4 := (hB2.cell (p := ⟨g, k * 5 + 4, none⟩) hg).trans t4
        refine hK.out _ _ ?_ (fun hHeld => ?_)
        · exact ⟨s0, s1, s2, s3, s4⟩
        clear hK K
        refine rs.want_take (i := 5) 21 (v := ?_) rfl rfl (by kernel_rfl) (by kernel_rfl) (by kernel_rfl) (fun _ _ _ _ h => h) rfl ?_ (by assumption) ?_
        rotate_left 1
        · (intro w hSw; (try dsimp only at hSw); go_simp; try with_reducible rfl)
        simp only [List.setIfInBounds_toArray, List.set_cons_zero, List.set_cons_succ]
        refine rs.want_take (i := 6) 22 (v := ?_) rfl rfl (by kernel_rfl) (by kernel_rfl) (by kernel_rfl) (fun _ _ _ _ h => h) rfl ?_ (by assumption) ?_
        rotate_left 1
        · (intro w hSw; (try dsimp only at hSw); go_simp; try with_reducible rfl)
        simp only [List.setIfInBounds_toArray, List.set_cons_zero, List.set_cons_succ]
        refine rs.skip_take (i := 7) 23 rfl (by kernel_rfl) (by kernel_rfl) (by kernel_rfl) (fun _ _ _ _ h => h) rfl (by assumption) ?_
        simp only [List.setIfInBounds_toArray, List.set_cons_zero, List.set_cons_succ]
        refine rs.skip_take (i := 8) 24 rfl (by kernel_rfl) (by kernel_rfl) (by kernel_rfl) (fun _ _ _ _ h => h) rfl (by assumption) ?_
        simp only [List.setIfInBounds_toArray, List.set_cons_zero, List.set_cons_succ]
        refine rs.skip_take (i := 9) 25 rfl (by kernel_rfl) (by kernel_rfl) (by kernel_rfl) (fun _ _ _ _ h => h) rfl (by assumption) ?_
        simp only [List.setIfInBounds_toArray, List.set_cons_zero, List.set_cons_succ]
        refine rs.skip_take (i := 10) 26 rfl (by kernel_rfl) (by kernel_rfl) (by kernel_rfl) (fun _ _ _ _ h => h) rfl (by assumption) ?_
        simp only [List.setIfInBounds_toArray, List.set_cons_zero, List.set_cons_succ]
        refine rs.skip_take (i := 11) 27 rfl (by kernel_rfl) (by kernel_rfl) (by kernel_rfl) (fun _ _ _ _ h => h) rfl (by assumption) ?_
        simp only [List.setIfInBounds_toArray, List.set_cons_zero, List.set_cons_succ]
        refine rs.skip_take (i := 12) 28 rfl (by kernel_rfl) (by kernel_rfl) (by kernel_rfl) (fun _ _ _ _ h => h) rfl (by assumption) ?_
        simp only [List.setIfInBounds_toArray, List.set_cons_zero, List.set_cons_succ]
        refine rs.skip_take (i := 13) 29 rfl (by kernel_rfl) (by kernel_rfl) (by kernel_rfl) (fun _ _ _ _ h => h) rfl (by assumption) ?_
        simp only [List.setIfInBounds_toArray, List.set_cons_zero, List.set_cons_succ]
        refine rs.skip_take (i := 14) 30 rfl (by kernel_rfl) (by kernel_rfl) (by kernel_rfl) (fun _ _ _ _ h => h) rfl (by assumption) ?_
        simp only [List.setIfInBounds_toArray, List.set_cons_zero, List.set_cons_succ]
        refine rs.skip_take (i := 15) 31 rfl (by kernel_rfl) (by kernel_rfl) (by kernel_rfl) (fun _ _ _ _ h => h) rfl (by assumption) ?_
        simp only [List.setIfInBounds_toArray, List.set_cons_zero, List.set_cons_succ]
        refine rs.skip_take (i := 16) 32 rfl (by kernel_rfl) (by kernel_rfl) (by kernel_rfl) (fun _ _ _ _ h => h) rfl (by assumption) ?_
        simp only [List.setIfInBounds_toArray, List.set_cons_zero, List.set_cons_succ]
        refine rs.skip_take (i := 17) 33 rfl (by kernel_rfl) (by kernel_rfl) (by kernel_rfl) (fun _ _ _ _ h => h) rfl (by assumption) ?_
        simp only [List.setIfInBounds_toArray, List.set_cons_zero, List.set_cons_succ]
        refine rs.skip_take (i := 18) 34 rfl (by kernel_rfl) (by kernel_rfl) (by kernel_rfl) (fun _ _ _ _ h => h) rfl (by assumption) ?_
        simp only [List.setIfInBounds_toArray, List.set_cons_zero, List.set_cons_succ]
        refine rs.skip_take (i := 19) 35 rfl (by kernel_rfl) (by kernel_rfl) (by kernel_rfl) (fun _ _ _ _ h => h) rfl (by assumption) ?_
        simp only [List.setIfInBounds_toArray, List.set_cons_zero, List.set_cons_succ]
        refine rs.skip_take (i := 20) 36 rfl (by kernel_rfl) (by kernel_rfl) (by kernel_rfl) (fun _ _ _ _ h => h) rfl (by assumption) ?_
        simp only [List.setIfInBounds_toArray, List.set_cons_zero, List.set_cons_succ]
        refine rs.skip_take (i := 21) 37 rfl (by kernel_rfl) (by kernel_rfl) (by kernel_rfl) (fun _ _ _ _ h => h) rfl (by assumption) ?_
        simp only [List.setIfInBounds_toArray, List.set_cons_zero, List.set_cons_succ]
        refine rs.skip_take (i := 22) 38 rfl (by kernel_rfl) (by kernel_rfl) (by kernel_rfl) (fun _ _ _ _ h => h) rfl (by assumption) ?_
        simp only [List.setIfInBounds_toArray, List.set_cons_zero, List.set_cons_succ]
        refine rs.skip_take (i := 23) 39 rfl (by kernel_rfl) (by kernel_rfl) (by kernel_rfl) (fun _ _ _ _ h => h) rfl (by assumption) ?_
        simp only [List.setIfInBounds_toArray, List.set_cons_zero, List.set_cons_succ]
        refine rs.skip_take (i := 24) 40 rfl (by kernel_rfl) (by kernel_rfl) (by kernel_rfl) (fun _ _ _ _ h => h) rfl (by assumption) ?_
        simp only [List.setIfInBounds_toArray, List.set_cons_zero, List.set_cons_succ]
        refine rs.skip_take (i := 25) 41 rfl (by kernel_rfl) (by kernel_rfl) (by kernel_rfl) (fun _ _ _ _ h => h) rfl (by assumption) ?_
        simp only [List.setIfInBounds_toArray, List.set_cons_zero, List.set_cons_succ]
        refine rs.skip_take (i := 26) 42 rfl (by kernel_rfl) (by kernel_rfl) (by kernel_rfl) (fun _ _ _ _ h => h) rfl (by assumption) ?_
        simp only [List.setIfInBounds_toArray, List.set_cons_zero, List.set_cons_succ]
        refine rs.skip_take (i := 27) 43 rfl (by kernel_rfl) (by kernel_rfl) (by kernel_rfl) (fun _ _ _ _ h => h) rfl (by assumption) ?_
        simp only [List.setIfInBounds_toArray, List.set_cons_zero, List.set_cons_succ]
        refine rs.skip_take (i := 28) 44 rfl (by kernel_rfl) (by kernel_rfl) (by kernel_rfl) (fun _ _ _ _ h => h) rfl (by assumption) ?_
        simp only [List.setIfInBounds_toArray, List.set_cons_zero, List.set_cons_succ]
        refine rs.skip_take (i := 29) 45 rfl (by kernel_rfl) (by kernel_rfl) (by kernel_rfl) (fun _ _ _ _ h => h) rfl (by assumption) ?_
        simp only [List.setIfInBounds_toArray, List.set_cons_zero, List.set_cons_succ]
        refine rs.skip_take (i := 30) 46 rfl (by kernel_rfl) (by kernel_rfl) (by kernel_rfl) (fun _ _ _ _ h => h) rfl (by assumption) ?_
        simp only [List.setIfInBounds_toArray, List.set_cons_zero, List.set_cons_succ]
        refine rs.skip_take (i := 31) 47 rfl (by kernel_rfl) (by kernel_rfl) (by kernel_rfl) (fun _ _ _ _ h => h) rfl (by assumption) ?_
        simp only [List.setIfInBounds_toArray, List.set_cons_zero, List.set_cons_succ]
        refine rs.skip_take (i := 32) 48 rfl (by kernel_rfl) (by kernel_rfl) (by kernel_rfl) (fun _ _ _ _ h => h) rfl (by assumption) ?_
        simp only [List.setIfInBounds_toArray, List.set_cons_zero, List.set_cons_succ]
        refine rs.skip_take (i := 33) 49 rfl (by kernel_rfl) (by kernel_rfl) (by kernel_rfl) (fun _ _ _ _ h => h) rfl (by assumption) ?_
        simp only [List.setIfInBounds_toArray, List.set_cons_zero, List.set_cons_succ]
        refine rs.skip_take (i := 34) 50 rfl (by kernel_rfl) (by kernel_rfl) (by kernel_rfl) (fun _ _ _ _ h => h) rfl (by assumption) ?_
        simp only [List.setIfInBounds_toArray, List.set_cons_zero, List.set_cons_succ]
        refine rs.want_take (i := 35) 51 (v := ?_) rfl rfl (by kernel_rfl) (by kernel_rfl) (by kernel_rfl) (fun _ _ _ _ h => h) rfl ?_ (by assumption) ?_
        rotate_left 1
        · (intro w hSw; (try dsimp only at hSw); go_simp; try with_reducible rfl)
        simp only [List.setIfInBounds_toArray, List.set_cons_zero, List.set_cons_succ]
        refine wpAnyH_done (by kernel_rfl) ?_ _
        have R := Lib.hid (hB.drew.trans (hB2.mono hz))
        clear hB hB2 t0 t1 t2 t3 t4
        go_wp2
        go_ret
        exact ⟨nb.ret_bool HR.out.symm, R.out⟩
      | true =>
        rcases Nat.eq_zero_or_pos k with hk00 | hpos
        · subst hk00
          have HR := Lib.hid (allI_on HA.out (show ordN l 0 = true by rw [ordN_zero hx, hb]))
          unfold okNt at hb
          rw [hb] at HK
          clear hb hx
          go_wp2_with fail
          refine wp_region_held_drew (S := (fun w' : World => w'.cell? ⟨g, 0 * 5, none⟩ = some (.int .i64 x.f) ∧ w'.cell? ⟨g, 0 * 5 + 1, none⟩ = some (.int .i64 x.n) ∧ w'.cell? ⟨g, 0 * 5 + 2, none⟩ = some (.int .i64 x.t) ∧ w'.cell? ⟨g, 0 * 5 + 3, none⟩ = some (.int .i64 x.u) ∧ w'.cell? ⟨g, 0 * 5 + 4, none⟩ = some (.string x.s))) (by kernel_rfl) ⟨t0, t1, t2, t3, t4⟩ (fun hHeld => ?_)
          refine rs.want_take (i := 0) 16 (v := ?_) rfl rfl (by kernel_rfl) (by kernel_rfl) (by kernel_rfl) (fun _ _ _ _ h => h) rfl ?_ (by assumption) ?_
          rotate_left 1
          · (intro w hSw; (try dsimp only at hSw); go_simp; try with_reducible rfl)
          simp only [List.setIfInBounds_toArray, List.set_cons_zero, List.set_cons_succ]
          refine rs.want_take (i := 1) 17 (v := ?_) rfl rfl (by kernel_rfl) (by kernel_rfl) (by kernel_rfl) (fun _ _ _ _ h => h) rfl ?_ (by assumption) ?_
          rotate_left 1
          · (intro w hSw; (try dsimp only at hSw); go_simp; try with_reducible rfl)
          simp only [List.setIfInBounds_toArray, List.set_cons_zero, List.set_cons_succ]
          refine rs.want_take (i := 2) 18 (v := ?_) rfl rfl (by kernel_rfl) (by kernel_rfl) (by kernel_rfl) (fun _ _ _ _ h => h) rfl ?_ (by assumption) ?_
          rotate_left 1
          · (intro w hSw; (try dsimp only at hSw); go_simp; try with_reducible rfl)
          simp only [List.setIfInBounds_toArray, List.set_cons_zero, List.set_cons_succ]
          refine rs.want_take (i := 3) 19 (v := ?_) rfl rfl (by kernel_rfl) (by kernel_rfl) (by kernel_rfl) (fun _ _ _ _ h => h) rfl ?_ (by assumption) ?_
          rotate_left 1
          · (intro w hSw; (try dsimp only at hSw); go_simp; try with_reducible rfl)
          simp only [List.setIfInBounds_toArray, List.set_cons_zero, List.set_cons_succ]
          refine wpAnyH_ready (rs := [4]) (by kernel_rfl) (by simp) ?_
          refine AllReadyH.cons rfl (fun K hK => ?_) AllReadyH.nil
          go_simp
          refine (HK.out _).mono ?_
          rintro e w2 ⟨rfl, hB2⟩
          have s0 := (hB2.cell (p := ⟨g, 0 * 5, none⟩) hg).trans t0
          have s1 := (hB2.cell (p := ⟨g, 0 * 5 + 1, none⟩) hg).trans t1
          have s2 := (hB2.cell (p := ⟨g, 0 * 5 + 2, none⟩) hg).trans t2
          have s3 := (hB2.cell (p := ⟨g, 0 * 5 + 3, none⟩) hg).trans t3
          have s4 := (hB2.cell (p := ⟨g, 0 * 5 + 4, none⟩) hg).trans t4
          refine hK.out _ _ ?_ (fun hHeld => ?_)
          · exact ⟨s0, s1, s2, s3, s4⟩
          clear hK K
          refine rs.want_take (i := 5) 21 (v := ?_) rfl rfl (by kernel_rfl) (by kernel_rfl) (by kernel_rfl) (fun _ _ _ _ h => h) rfl ?_ (by assumption) ?_
          rotate_left 1
          · (intro w hSw; (try dsimp only at hSw); go_simp; try with_reducible rfl)
          simp only [List.setIfInBounds_toArray, List.set_cons_zero, List.set_cons_succ]
          refine rs.want_take (i := 6) 22 (v := ?_) rfl rfl (by kernel_rfl) (by kernel_rfl) (by kernel_rfl) (fun _ _ _ _ h => h) rfl ?_ (by assumption) ?_
          rotate_left 1
          · (intro w hSw; (try dsimp only at hSw); go_simp; try with_reducible rfl)
          simp only [List.setIfInBounds_toArray, List.set_cons_zero, List.set_cons_succ]
          refine rs.want_take (i := 7) 23 (v := ?_) rfl rfl (by kernel_rfl) (by kernel_rfl) (by kernel_rfl) (fun _ _ _ _ h => h) rfl ?_ (by assumption) ?_
          rotate_left 1
          · (intro w hSw; (try dsimp only at hSw); go_simp; try with_reducible rfl)
          simp only [List.setIfInBounds_toArray, List.set_cons_zero, List.set_cons_succ]
          refine rs.want_take (i := 8) 24 (v := ?_) rfl rfl (by kernel_rfl) (by kernel_rfl) (by kernel_rfl) (fun _ _ _ _ h => h) rfl ?_ (by assumption) ?_
          rotate_left 1
          · (intro w hSw; (try dsimp only at hSw); go_simp; try with_reducible rfl)
          simp only [List.setIfInBounds_toArray, List.set_cons_zero, List.set_cons_succ]
          refine rs.want_take (i := 9) 25 (v := ?_) rfl rfl (by kernel_rfl) (by kernel_rfl) (by kernel_rfl) (fun _ _ _ _ h => h) rfl ?_ (by assumption) ?_
          rotate_left 1
          · (intro w hSw; (try dsimp only at hSw); go_simp; try with_reducible rfl)
          simp only [List.setIfInBounds_toArray, List.set_cons_zero, List.set_cons_succ]
          refine rs.skip_take (i := 10) 26 rfl (by kernel_rfl) (by kernel_rfl) (by kernel_rfl) (fun _ _ _ _ h => h) rfl (by assumption) ?_
          simp only [List.setIfInBounds_toArray, List.set_cons_zero, List.set_cons_succ]
          refine rs.skip_take (i := 11) 27 rfl (by kernel_rfl) (by kernel_rfl) (by kernel_rfl) (fun _ _ _ _ h => h) rfl (by assumption) ?_
          simp only [List.setIfInBounds_toArray, List.set_cons_zero, List.set_cons_succ]
          refine rs.skip_take (i := 12) 28 rfl (by kernel_rfl) (by kernel_rfl) (by kernel_rfl) (fun _ _ _ _ h => h) rfl (by assumption) ?_
          simp only [List.setIfInBounds_toArray, List.set_cons_zero, List.set_cons_succ]
          refine rs.skip_take (i := 13) 29 rfl (by kernel_rfl) (by kernel_rfl) (by kernel_rfl) (fun _ _ _ _ h => h) rfl (by assumption) ?_
          simp only [List.setIfInBounds_toArray, List.set_cons_zero, List.set_cons_succ]
          refine rs.skip_take (i := 14) 30 rfl (by kernel_rfl) (by kernel_rfl) (by kernel_rfl) (fun _ _ _ _ h => h) rfl (by assumption) ?_
          simp only [List.setIfInBounds_toArray, List.set_cons_zero, List.set_cons_succ]
          refine rs.skip_take (i := 15) 31 rfl (by kernel_rfl) (by kernel_rfl) (by kernel_rfl) (fun _ _ _ _ h => h) rfl (by assumption) ?_
          simp only [List.setIfInBounds_toArray, List.set_cons_zero, List.set_cons_succ]
          refine rs.skip_take (i := 16) 32 rfl (by kernel_rfl) (by kernel_rfl) (by kernel_rfl) (fun _ _ _ _ h => h) rfl (by assumption) ?_
          simp only [List.setIfInBounds_toArray, List.set_cons_zero, List.set_cons_succ]
          refine rs.skip_take (i := 17) 33 rfl (by kernel_rfl) (by kernel_rfl) (by kernel_rfl) (fun _ _ _ _ h => h) rfl (by assumption) ?_
          simp only [List.setIfInBounds_toArray, List.set_cons_zero, List.set_cons_succ]
          refine rs.skip_take (i := 18) 34 rfl (by kernel_rfl) (by kernel_rfl) (by kernel_rfl) (fun _ _ _ _ h => h) rfl (by assumption) ?_
          simp only [List.setIfInBounds_toArray, List.set_cons_zero, List.set_cons_succ]
          refine rs.skip_take (i := 19) 35 rfl (by kernel_rfl) (by kernel_rfl) (by kernel_rfl) (fun _ _ _ _ h => h) rfl (by assumption) ?_
          simp only [List.setIfInBounds_toArray, List.set_cons_zero, List.set_cons_succ]
          refine rs.skip_take (i := 20) 36 rfl (by kernel_rfl) (by kernel_rfl) (by kernel_rfl) (fun _ _ _ _ h => h) rfl (by assumption) ?_
          simp only [List.setIfInBounds_toArray, List.set_cons_zero, List.set_cons_succ]
          refine rs.skip_take (i := 21) 37 rfl (by kernel_rfl) (by kernel_rfl) (by kernel_rfl) (fun _ _ _ _ h => h) rfl (by assumption) ?_
          simp only [List.setIfInBounds_toArray, List.set_cons_zero, List.set_cons_succ]
          refine rs.skip_take (i := 22) 38 rfl (by kernel_rfl) (by kernel_rfl) (by kernel_rfl) (fun _ _ _ _ h => h) rfl (by assumption) ?_
          simp only [List.setIfInBounds_toArray, List.set_cons_zero, List.set_cons_succ]
          refine rs.skip_take (i := 23) 39 rfl (by kernel_rfl) (by kernel_rfl) (by kernel_rfl) (fun _ _ _ _ h => h) rfl (by assumption) ?_
          simp only [List.setIfInBounds_toArray, List.set_cons_zero, List.set_cons_succ]
          refine rs.skip_take (i := 24) 40 rfl (by kernel_rfl) (by kernel_rfl) (by kernel_rfl) (fun _ _ _ _ h => h) rfl (by assumption) ?_
          simp only [List.setIfInBounds_toArray, List.set_cons_zero, List.set_cons_succ]
          refine rs.skip_take (i := 25) 41 rfl (by kernel_rfl) (by kernel_rfl) (by kernel_rfl) (fun _ _ _ _ h => h) rfl (by assumption) ?_
          simp only [List.setIfInBounds_toArray, List.set_cons_zero, List.set_cons_succ]
          refine rs.skip_take (i := 26) 42 rfl (by kernel_rfl) (by kernel_rfl) (by kernel_rfl) (fun _ _ _ _ h => h) rfl (by assumption) ?_
          simp only [List.setIfInBounds_toArray, List.set_cons_zero, List.set_cons_succ]
          refine rs.skip_take (i := 27) 43 rfl (by kernel_rfl) (by kernel_rfl) (by kernel_rfl) (fun _ _ _ _ h => h) rfl (by assumption) ?_
          simp only [List.setIfInBounds_toArray, List.set_cons_zero, List.set_cons_succ]
          refine rs.skip_take (i := 28) 44 rfl (by kernel_rfl) (by kernel_rfl) (by kernel_rfl) (fun _ _ _ _ h => h) rfl (by assumption) ?_
          simp only [List.setIfInBounds_toArray, List.set_cons_zero, List.set_cons_succ]
          refine rs.skip_take (i := 29) 45 rfl (by kernel_rfl) (by kernel_rfl) (by kernel_rfl) (fun _ _ _ _ h => h) rfl (by assumption) ?_
          simp only [List.setIfInBounds_toArray, List.set_cons_zero, List.set_cons_succ]
          refine rs.skip_take (i := 30) 46 rfl (by kernel_rfl) (by kernel_rfl) (by kernel_rfl) (fun _ _ _ _ h => h) rfl (by assumption) ?_
          simp only [List.setIfInBounds_toArray, List.set_cons_zero, List.set_cons_succ]
          refine rs.skip_take (i := 31) 47 rfl (by kernel_rfl) (by kernel_rfl) (by kernel_rfl) (fun _ _ _ _ h => h) rfl (by assumption) ?_
          simp only [List.setIfInBounds_toArray, List.set_cons_zero, List.set_cons_succ]
          refine rs.skip_take (i := 32) 48 rfl (by kernel_rfl) (by kernel_rfl) (by kernel_rfl) (fun _ _ _ _ h => h) rfl (by assumption) ?_
          simp only [List.setIfInBounds_toArray, List.set_cons_zero, List.set_cons_succ]
          refine rs.skip_take (i := 33) 49 rfl (by kernel_rfl) (by kernel_rfl) (by kernel_rfl) (fun _ _ _ _ h => h) rfl (by assumption) ?_
          simp only [List.setIfInBounds_toArray, List.set_cons_zero, List.set_cons_succ]
          refine rs.want_take (i := 34) 50 (v := ?_) rfl rfl (by kernel_rfl) (by kernel_rfl) (by kernel_rfl) (fun _ _ _ _ h => h) rfl ?_ (by assumption) ?_
          rotate_left 1
          · (intro w hSw; (try dsimp only at hSw); go_simp; try with_reducible rfl)
          simp only [List.setIfInBounds_toArray, List.set_cons_zero, List.set_cons_succ]
          refine rs.want_take (i := 35) 51 (v := ?_) rfl rfl (by kernel_rfl) (by kernel_rfl) (by kernel_rfl) (fun _ _ _ _ h => h) rfl ?_ (by assumption) ?_
          rotate_left 1
          · (intro w hSw; (try dsimp only at hSw); go_simp; try with_reducible rfl)
          simp only [List.setIfInBounds_toArray, List.set_cons_zero, List.set_cons_succ]
          refine wpAnyH_done (by kernel_rfl) ?_ _
          have R := Lib.hid (hB.drew.trans (hB2.mono hz))
          clear hB hB2 s0 s1 s2 s3 s4 t0 t1 t2 t3 t4
          go_wp2
          go_roundw
          case rel => exact ⟨1, by omega, by go_num, HR.out, R.out⟩
          case measure => simp [intOf]
        · obtain ⟨j, hkj⟩ : ∃ j, k = j + 1 := ⟨k - 1, by omega⟩
          have hy : l[j]? = some l[j] := List.getElem?_eq_getElem (by omega)
          have hcy := note_at (HS.out.later hB) hy
          generalize l[j] = y at hy hcy
          obtain ⟨g', c'', e', _, _, b0, b1, _, _, _⟩ := hcy
          injection e' with e1 e2 e3
          injection e1 with e1
          injection e1 with e1
          subst e1
          clear e2 e3
          have HL := Lib.hid (fun V => less_any y.f y.n x.f x.n V)
          unfold IsB at HL
          have i0 : IntKind.i64.wrap ((k : Int) - 1) = (j : Int) := by rw [IntKind.wrap_i64]; omega
          have i1 : (0 : Int) ≤ (j : Int) := by omega
          have i3 : (0 : Int) < (k : Int) := by omega
          have HKJ := Lib.hid hkj
          have hx2 : l[j + 1]? = some x := by rw [← hkj]; exact hx
          clear hkj
          have i2 : (j : Int) < (l.length : Int) := by omega
          cases hls : less y.f y.n x.f x.n with
          | false =>
            have HR := Lib.hid (okNts_bad (most := most) hkl (show ordN l k = false by rw [HKJ.out, ordN_succ hx2 hy, hls, Bool.and_false]))
            rw [hls] at HL
            unfold okNt at hb
            rw [hb] at HK
            clear hb hx hy hls hx2
            go_wp2_with fail
            go_region_held3 (fun w' => w'.cell? ⟨g, k * 5, none⟩ = some (.int .i64 x.f) ∧ w'.cell? ⟨g, k * 5 + 1, none⟩ = some (.int .i64 x.n) ∧ w'.cell? ⟨g, k * 5 + 2, none⟩ = some (.int .i64 x.t) ∧ w'.cell? ⟨g, k * 5 + 3, none⟩ = some (.int .i64 x.u) ∧ w'.cell? ⟨g, k * 5 + 4, none⟩ = some (.string x.s) ∧ w'.cell? ⟨g, j * 5, none⟩ = some (.int .i64 y.f) ∧ w'.cell? ⟨g, j * 5 + 1, none⟩ = some (.int .i64 y.n)) (first | exact ⟨t0, t1, t2, t3, t4, b0, b1⟩ | exact ⟨s0, s1, s2, s3, s4, s5, s6⟩ | go_keep) ((first | (go_at_call 51; refine (HK.out _).mono ?_; rintro e w2 ⟨rfl, hB2⟩; have s0 := (hB2.cell (p := ⟨g, k * 5, none⟩) hg).trans t0; have s1 := (hB2.cell (p := ⟨g, k * 5 + 1, none⟩) hg).trans t1; have s2 := (hB2.cell (p := ⟨g, k * 5 + 2, none⟩) hg).trans t2; have s3 := (hB2.cell (p := ⟨g, k * 5 + 3, none⟩) hg).trans t3; have s4 := (hB2.cell (p := ⟨g, k * 5 + 4, none⟩) hg).trans t4; have s5 := (hB2.cell (p := ⟨g, j * 5, none⟩) hg).trans b0; have s6 := (hB2.cell (p := ⟨g, j * 5 + 1, none⟩) hg).trans b1) | (go_at_call 52; refine (HL.out _).mono ?_; rintro e w3 ⟨rfl, rfl⟩)))
            have R := Lib.hid (hB.drew.trans (hB2.mono hz))
            clear hB hB2 s0 s1 s2 s3 s4 s5 s6 t0 t1 t2 t3 t4 b0 b1
            go_wp2
            go_ret
            exact ⟨nb.ret_bool HR.out.symm, R.out⟩
          | true =>
            have HR := Lib.hid (allI_on HA.out (show ordN l k = true by rw [HKJ.out, ordN_succ hx2 hy, hls, hb]; rfl))
            rw [hls] at HL
            unfold okNt at hb
            rw [hb] at HK
            clear hb hx hy hls hx2
            go_wp2_with fail
            go_region_held3 (fun w' => w'.cell? ⟨g, k * 5, none⟩ = some (.int .i64 x.f) ∧ w'.cell? ⟨g, k * 5 + 1, none⟩ = some (.int .i64 x.n) ∧ w'.cell? ⟨g, k * 5 + 2, none⟩ = some (.int .i64 x.t) ∧ w'.cell? ⟨g, k * 5 + 3, none⟩ = some (.int .i64 x.u) ∧ w'.cell? ⟨g, k * 5 + 4, none⟩ = some (.string x.s) ∧ w'.cell? ⟨g, j * 5, none⟩ = some (.int .i64 y.f) ∧ w'.cell? ⟨g, j * 5 + 1, none⟩ = some (.int .i64 y.n)) (first | exact ⟨t0, t1, t2, t3, t4, b0, b1⟩ | exact ⟨s0, s1, s2, s3, s4, s5, s6⟩ | go_keep) ((first | (go_at_call 51; refine (HK.out _).mono ?_; rintro e w2 ⟨rfl, hB2⟩; have s0 := (hB2.cell (p := ⟨g, k * 5, none⟩) hg).trans t0; have s1 := (hB2.cell (p := ⟨g, k * 5 + 1, none⟩) hg).trans t1; have s2 := (hB2.cell (p := ⟨g, k * 5 + 2, none⟩) hg).trans t2; have s3 := (hB2.cell (p := ⟨g, k * 5 + 3, none⟩) hg).trans t3; have s4 := (hB2.cell (p := ⟨g, k * 5 + 4, none⟩) hg).trans t4; have s5 := (hB2.cell (p := ⟨g, j * 5, none⟩) hg).trans b0; have s6 := (hB2.cell (p := ⟨g, j * 5 + 1, none⟩) hg).trans b1) | (go_at_call 52; refine (HL.out _).mono ?_; rintro e w3 ⟨rfl, rfl⟩)))
            have R := Lib.hid (hB.drew.trans (hB2.mono hz))
            clear hB hB2 s0 s1 s2 s3 s4 s5 s6 t0 t1 t2 t3 t4 b0 b1
            go_wp2
            go_roundw
            case rel => exact ⟨k + 1, by omega, by go_num, HR.out, R.out⟩
            case measure => simp [intOf]; omega
    · obtain rfl : k = l.length := by omega
      have HR := Lib.hid (okNts_all (most := most) (by omega) HA.out)
      go_wp2
      go_ret
      exact ⟨nb.ret_bool HR.out.symm, hB⟩
end Go.Proofs.Ytgihbilpimempab.kp
