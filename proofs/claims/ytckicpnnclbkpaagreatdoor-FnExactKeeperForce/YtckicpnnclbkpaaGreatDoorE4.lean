/-
  Merged texts: SOne, CutPlain, Own, SShRead, INext.
-/
import Derived.Test.YtckicpnnclbkpaaGreatDoorE3
import Derived.Laws.BitsAllLaws
import Derived.Deep.MidRow
import Derived.OwnWalk
import Derived.WalkSpells
namespace Go.Proofs.YtckicpnnclbkpaaGreatDoor.sh
open Go.ChangeShapes Go.WideShapes Go.ChangeAt Go.RowKit
open nb ok wd dc
def OnePost (w : World) (l : List UInt8) (e : Ending) (w' : World) : Prop := e = .returned (.tuple #[.string (oneS l), .int .i64 (oneN l : Nat)]) ∧ Below w.heap.size w w'
theorem get_at (s : ByteArray) (k : Nat) (h : k < s.size) : s.data.toList[k]? = some s[k] := by rw [List.getElem?_eq_getElem (by rw [← Lib.size_eq]; exact h)]; rfl
theorem byte_ne {c d : UInt8} (h : c ≠ d) : ((c.toNat : Int) == (d.toNat : Int)) = false := by
 rw [beq_eq_false_iff_ne]
 intro e
 apply h
 apply UInt8.toNat_inj.1
 omega
theorem byte_eq {c d : UInt8} (h : c = d) : ((c.toNat : Int) == (d.toNat : Int)) = true := by rw [h]; exact beq_self_eq_true _
theorem none_post {w w' : World} {l : List UInt8} (h : one l = none) (hB : Below w.heap.size w w') : OnePost w l (.returned (.tuple #[.string ⟨#[]⟩, .int .i64 0])) w' :=
 ⟨by rw [oneS_none h, oneN_none h]; rfl, hB⟩
set_option maxRecDepth 100000 in
set_option maxHeartbeats 1000000 in
theorem sone_any (s : ByteArray) (hs : s.size ≤ 8388608) (w : World) :
  Calls Tryz.prog 57 #[.string s] w (OnePost w s.data.toList) := by
 go_enter Tryz.func57, Tryz.ntmps57
 go_wp2
 go_loop [4] (fun i => ∃ k : Nat, k ≤ s.size ∧ k ≤ 3 ∧ i = .int .i64 k ∧ Hid (∀ j, j < k → s.data.toList[j]? ≠ some 58)) (fun i => 3 - (intOf i).toNat)
 case atStart => exact ⟨0, by omega, by omega, rfl, fun j hj => absurd hj (by omega)⟩
 case round =>
  obtain ⟨k, hk, hk3, rfl, HA⟩ := hrel
  by_cases hlt : k < s.size
  ·by_cases hl3 : k < 3
   ·have hat := get_at s k hlt
    by_cases hc : s[k] = 58
    ·have HO := Lib.hid (one_at (hat.trans (by rw [hc])) HA.out)
     have hcv : ((s[k].toNat : Int) == 58) = true := byte_eq (d := 58) hc
     have HD := Lib.hid (fun W => dec3x_any (s.extract 0 k) (by rw [ByteArray.size_extract]; omega) W)
     rw [ext_take] at HD
     generalize s.data.toList.take k = d at HD HO
     clear hat hc HA
     go_wp2_with fail
     refine (HD.out _).mono ?_
     rintro e w2 ⟨v, rfl, hv, hB⟩
     by_cases hr : 1 ≤ v ∧ v ≤ 60
     ·obtain ⟨n, rfl⟩ := Int.eq_ofNat_of_zero_le (show (0 : Int) ≤ v by omega)
      have hn1 : 1 ≤ n := by omega
      have hn2 : n ≤ 60 := by omega
      have hdn : d = dl (n : Int) := by
       rcases hv with ⟨h, _⟩ | ⟨_, _, h⟩
       ·omega
       ·exact h
      have HS := Lib.hid HO.out
      rw [hdn, sz_dl hn1 hn2] at HS
      clear HD HO hv hdn hr
      by_cases hfit : s.size < k + 2 + n
      ·have HN := Lib.hid (show one s.data.toList = none by
        rw [HS.out, if_neg]
        rintro ⟨_, h⟩
        have := (List.getElem?_eq_some_iff.1 h).1
        rw [← Lib.size_eq] at this
        omega)
       clear HS
       go_wp2
       go_ret2
       exact none_post HN.out hB
      ·have hlt2 : k + 1 + n < s.size := by omega
       have hat2 := get_at s (k + 1 + n) hlt2
       by_cases hc2 : s[k + 1 + n] = 59
       ·have HN := Lib.hid (show one s.data.toList = some ((s.data.toList.drop (k + 1)).take n, k + n + 2) by
         rw [HS.out, if_pos ⟨by omega, hat2.trans (by rw [hc2])⟩])
        have HX := Lib.hid (show s.extract (k + 1) (k + 1 + n) = str ((s.data.toList.drop (k + 1)).take n) by
         rw [Lib.extract_eq, show k + 1 + n - (k + 1) = n by omega]; rfl)
        have hcv2 : ((s[k + 1 + n].toNat : Int) == 59) = true := byte_eq (d := 59) hc2
        clear HS hat2 hc2
        have b0 : (0 : Int) ≤ (k : Int) + 1 := by omega
        have b1 : (k : Int) + 1 ≤ (k : Int) + 1 + n := by omega
        have b2 : (k : Int) + 1 + n ≤ s.size := by omega
        have b3 : ((k : Int) + 1).toNat = k + 1 := by omega
        have b4 : ((k : Int) + 1 + n).toNat = k + 1 + n := by omega
        go_wp2
        ·exfalso
         rename_i h
         revert h
         rw [bne, hcv2]
         simp
         omega
        ·go_ret2
         exact ⟨by rw [oneS_some HN.out, oneN_some HN.out, ← HX.out]; simp; omega, hB⟩
       ·have HN := Lib.hid (show one s.data.toList = none by
         rw [HS.out, if_neg]
         rintro ⟨_, h⟩
         rw [hat2] at h
         exact hc2 (Option.some.inj h))
        have hcv2 : ((s[k + 1 + n].toNat : Int) == 59) = false := byte_ne (d := 59) hc2
        clear HS hat2 hc2
        go_wp2
        ·go_ret2
         exact none_post HN.out hB
        ·exfalso
         have h := (show ((1 ≤ (n : Int) ∧ (n : Int) ≤ 60) ∧ (k : Int) + 2 + n ≤ s.size) ∧ ((s[k + 1 + n].toNat : Int) != 59) = false by assumption).2
         rw [bne, hcv2] at h
         cases h
     ·have HN := Lib.hid (show one s.data.toList = none by
       rw [HO.out, if_neg]
       rintro ⟨h, _⟩
       obtain ⟨h1, h2, h3⟩ := sz_pos h
       rcases hv with ⟨_, h'⟩ | ⟨h0', h9', h'⟩
       ·exact h' _ (by omega) (by omega) h3
       ·rw [h3] at h'
        obtain ⟨m, rfl⟩ := Int.eq_ofNat_of_zero_le h0'
        have := dl_inj h'
        omega)
      clear HD HO hv
      by_cases hv1 : v < 1
      ·go_wp2
       go_ret2
       exact none_post HN.out hB
      ·have hv60 : 60 < v := by omega
       go_wp2
       go_ret2
       exact none_post HN.out hB
    ·have R : Hid (∀ j, j < k + 1 → s.data.toList[j]? ≠ some 58) := fun j hj => by
      by_cases e : j = k
      ·subst e; rw [hat]; intro h; exact hc (Option.some.inj h)
      ·exact HA.out j (by omega)
     have hcv : ((s[k].toNat : Int) == 58) = false := byte_ne (d := 58) hc
     clear hat hc HA
     go_wp2
     go_round
     case rel => exact ⟨k + 1, by omega, by omega, by go_num, R⟩
     case measure => simp [intOf]; omega
   ·have HN := Lib.hid (one_no3 (l := s.data.toList) (fun j hj => HA.out j (by omega)))
    clear HA
    go_wp2
    go_ret2
    exact none_post HN.out (Below.refl _ _)
  ·have HN := Lib.hid (one_no3 (l := s.data.toList) (fun j hj e => by
    by_cases h : j < k
    ·exact HA.out j h e
    ·have := (List.getElem?_eq_some_iff.1 e).1
     rw [← Lib.size_eq] at this
     omega))
   clear HA
   go_wp2
   go_ret2
   exact none_post HN.out (Below.refl _ _)
end Go.Proofs.YtckicpnnclbkpaaGreatDoor.sh

namespace Go.Proofs.YtckicpnnclbkpaaGreatDoor.cp
def by_ (t : ByteArray) (k : Nat) : UInt8 := if h : k < t.size then t[k] else 0
def bv (b : UInt8) : Value := .int .u8 b.toNat
structure Q where
 a : UInt8
 b : UInt8
 c : UInt8
 d : UInt8
theorem Q.ext' {p q : Q} (h1 : p.a = q.a) (h2 : p.b = q.b) (h3 : p.c = q.c) (h4 : p.d = q.d) : p = q := by
 cases p; cases q; simp_all
def Q.list (q : Q) : List UInt8 := [q.a, q.b, q.c, q.d]
def Q.str (q : Q) : ByteArray := ⟨q.list.toArray⟩
def Q.cells (q : Q) : Array Value := #[bv q.a, bv q.b, bv q.c, bv q.d]
def Q.xor (p q : Q) : Q := ⟨p.a ^^^ q.a, p.b ^^^ q.b, p.c ^^^ q.c, p.d ^^^ q.d⟩
def Q.zero : Q := ⟨0, 0, 0, 0⟩
theorem Q.str_size (q : Q) : q.str.size = 4 := rfl
theorem Q.str_inj {p q : Q} (h : p.str = q.str) : p = q := by
 have h1 : p.list.toArray = q.list.toArray := congrArg ByteArray.data h
 have h2 : p.list = q.list := by simpa using congrArg Array.toList h1
 unfold Q.list at h2
 injection h2 with e1 h2
 injection h2 with e2 h2
 injection h2 with e3 h2
 injection h2 with e4 h2
 exact Q.ext' e1 e2 e3 e4
def bys (t : ByteArray) (k n : Nat) : List UInt8 := (List.range n).map fun j => by_ t (k + j)
def qb (t : ByteArray) (i : Nat) : Q := ⟨by_ t (4 * i), by_ t (4 * i + 1), by_ t (4 * i + 2), by_ t (4 * i + 3)⟩
def cutN (t : ByteArray) : Nat := if 1 ≤ t.size ∧ t.size ≤ 24 then (t.size + 3) / 4 else 0
def cutTo (t : ByteArray) (n : Nat) : List ByteArray := (List.range n).map fun i => (qb t i).str
def cut (t : ByteArray) : List ByteArray := cutTo t (cutN t)
def fit (t : ByteArray) : ByteArray := if t.size ≤ 24 then t else ⟨#[]⟩
def xors (p q : ByteArray) (n : Nat) : List UInt8 := (List.range n).map fun j => by_ p j ^^^ by_ q j
end Go.Proofs.YtckicpnnclbkpaaGreatDoor.cp

namespace Go.Proofs.YtckicpnnclbkpaaGreatDoor.ow
open Go.ChangeShapes Go.WideShapes Go.ChangeAt Go.RowKit
open wd cp
theorem infoStr : (Tryz.prog.info? 9).map (fun i => (i.zero, i.size, i.bytes)) = some (some (.string ⟨#[]⟩), 1, 16) := by kernel_rfl
def Own (t : TypeId) (w0 w : World) (v : Value) (xs : List Value) : Prop := w.ownsRow w0.heap.size t 1 v xs.length xs ∧ Below w0.heap.size w0 w
section
variable {t : TypeId} {w0 w w1 : World} {v v1 x : Value} {xs : List Value} {o : Obj}
theorem Own.nil (w : World) : Own t w w (.slice none 0 0) [] := ⟨World.ownsRow_nil _ _ _ _, Below.refl _ _⟩
theorem Own.empty (w : World) : Own t w (w.alloc (.cells #[] t)) (.slice (some ⟨w.heap.size, 0, none⟩) 0 0) [] :=
 ⟨World.ownsRow_lit w #[] 0 (Nat.le_refl _) (by unfold maxLen; omega) rfl, (Below.refl _ _).alloc (Nat.le_refl _) _⟩
theorem Own.more {n : Nat} (h : Own t w0 w v xs) (h1 : w1.ownsRow w0.heap.size t 1 v1 n (xs ++ [x])) (hg : (w.alloc o).grownBy w1 v.ownBlock) : Own t w0 w1 v1 (xs ++ [x]) := by
 obtain rfl : n = (xs ++ [x]).length := by have := h1.1; omega
 refine ⟨h1, ?_⟩
 have hs : (w.alloc o).heap.size = w.heap.size + 1 := by simp
 exact (h.2.alloc h.2.size o).grown hg (by have := h.2.size; omega) (fun k hk => (h.1.lt k hk).1)
theorem Own.later (h : Own t w0 w v xs) (hb : Below w.heap.size w w1) : Own t w0 w1 v xs := by
 refine ⟨h.1.kept (row := none) ⟨hb.os, hb.tape, hb.output, hb.size, fun i hi _ => hb.block i hi⟩ ?_, h.2.trans (hb.mono h.2.size)⟩
 cases hv : v.ownBlock with
 | none => exact .inl rfl
 | some k => exact .inr (by simp)
theorem Own.from_ (h : Own t w w1 v xs) (hb : Below w0.heap.size w0 w) : Own t w0 w1 v xs := by
 refine ⟨⟨h.1.1, ?_⟩, hb.trans (h.2.mono hb.size)⟩
 have := hb.size
 rcases h.1.2 with h' | ⟨g, cap, cur, h1, h2, h3⟩
 ·exact .inl h'
 ·exact .inr ⟨g, cap, cur, h1, by omega, h3⟩
theorem Own.lt (h : Own t w0 w v xs) {k : Nat} (hk : v.ownBlock = some k) : w0.heap.size ≤ k ∧ k < w.heap.size := h.1.lt k hk
theorem Own.drew (h : Own t w0 w v xs) : Own t w0 w.drew v xs := ⟨h.1, h.2.drew⟩
theorem Own.form (h : Own t w0 w v xs) : ∃ A c, v = .slice A xs.length c ∧ (0 < xs.length → ∃ g, A = some ⟨g, 0, none⟩ ∧ w0.heap.size ≤ g ∧ g < w.heap.size ∧ ∀ i x, xs[i]? = some x → w.cell? ⟨g, i, none⟩ = some x) := by
 rcases h.1.2 with ⟨rfl, hn⟩ | ⟨g, cap, cur, rfl, hb, hh, hn, hm, hs, ht⟩
 ·refine ⟨none, 0, by rw [hn], fun h => absurd h (by omega)⟩
 ·refine ⟨_, cap, rfl, fun _ => ⟨g, rfl, hb, (h.1.lt g rfl).2, fun i x hx => ?_⟩⟩
  have hi : i < xs.length := (List.getElem?_eq_some_iff.1 hx).1
  rw [World.ownsRow.cellAt (g := g) (cap := cap) h.1 i (by omega), hx]
end
theorem below_drewN' {B : Nat} {a w : World} (h : Below B a w) (n : Nat) : Below B a (w.drewN n) := ⟨h.os, h.tape, h.output, h.size, h.block⟩
theorem ret_int {k : IntKind} {a b : Int} (h : a = b) : Ending.returned (.int k a) = .returned (.int k b) := by rw [h]
def StrPost (w : World) (s : ByteArray) (e : Ending) (w' : World) : Prop := e = .returned (.string s) ∧ Below w.heap.size w w'
def OwnPost (t : TypeId) (w : World) (xs : List Value) (e : Ending) (w' : World) : Prop := ∃ v, e = .returned v ∧ Own t w w' v xs
end Go.Proofs.YtckicpnnclbkpaaGreatDoor.ow

namespace Go.Proofs.YtckicpnnclbkpaaGreatDoor.sh
open Go.ChangeShapes Go.WideShapes Go.ChangeAt Go.RowKit
open nb ok wd dc
open Go.Proofs.YtckicpnnclbkpaaGreatDoor.ow (Own infoStr)
def recV (xs : List (List UInt8)) : List Value := xs.map fun x => Value.string (str x)
theorem recV_snoc (xs : List (List UInt8)) (x : List UInt8) : recV (xs ++ [x]) = recV xs ++ [.string (str x)] := by simp [recV]
theorem recV_len (xs : List (List UInt8)) : (recV xs).length = xs.length := by simp [recV]
def ReadPost (w : World) (l : List UInt8) (e : Ending) (w' : World) : Prop := ∃ v, e = .returned (.tuple #[v, .int .i64 (en l : Nat)]) ∧ ow.Own 9 w w' v (recV (rd l))
theorem ext_drop (s : ByteArray) (i : Nat) : (s.extract i s.size).data.toList = s.data.toList.drop i := by
 rw [Lib.extract_eq]
 dsimp only
 rw [List.take_of_length_le (by rw [List.length_drop, ← Lib.size_eq]; exact Nat.le_refl _)]
structure Part (l : List UInt8) (xs : List (List UInt8)) : Prop where
 rks : Rks xs
 rest : ∃ t, l = lg xs ++ t
theorem Part.le {l : List UInt8} {xs : List (List UInt8)} (h : Part l xs) : (lg xs).length ≤ l.length := by
 obtain ⟨t, e⟩ := h.rest
 rw [e, List.length_append]; omega
theorem Part.drop {l : List UInt8} {xs : List (List UInt8)} (h : Part l xs) : l = lg xs ++ l.drop (lg xs).length := by
 obtain ⟨t, e⟩ := h.rest
 conv => rhs; rw [e]
 rw [List.drop_left, ← e]
theorem Part.done {l : List UInt8} {xs : List (List UInt8)} (h : Part l xs) (h0 : one (l.drop (lg xs).length) = none) : rd l = xs ∧ en l = (lg xs).length := by
 have e := h.drop
 have h1 : rd l = xs := by rw [e]; exact rd_of h.rks h0
 exact ⟨h1, by unfold en; rw [h1]⟩
theorem Part.end_ {l : List UInt8} {xs : List (List UInt8)} (h : Part l xs) (h0 : l.length ≤ (lg xs).length) : rd l = xs ∧ en l = (lg xs).length :=
 h.done (by rw [List.drop_of_length_le h0]; exact one_nil)
theorem Part.on {l : List UInt8} {xs : List (List UInt8)} {x : List UInt8} {k : Nat} (h : Part l xs) (h1 : one (l.drop (lg xs).length) = some (x, k)) :
  Part l (xs ++ [x]) ∧ (lg (xs ++ [x])).length = (lg xs).length + k ∧ 4 ≤ k ∧ k ≤ 64 := by
 obtain ⟨hx, hk, t, ht⟩ := one_some h1
 have hs := st_len hx
 have e := h.drop
 rw [ht] at e
 have h1 := hx.1
 have h2 := hx.2
 refine ⟨⟨h.rks.snoc hx, t, by rw [lg_snoc, List.append_assoc]; exact e⟩, by rw [lg_snoc, List.length_append, hk], by omega, by omega⟩
theorem Part.nil (l : List UInt8) : Part l [] := ⟨Rks.nil, l, rfl⟩
set_option maxRecDepth 100000 in
set_option maxHeartbeats 1000000 in
theorem sread_any (s : ByteArray) (hs : s.size ≤ 8388608) (w : World) :
  Calls Tryz.prog 30 #[.string s] w (ReadPost w s.data.toList) := by
 obtain ⟨s0, si, sz0, sz1, sz2⟩ := info_parts infoStr
 go_enter Tryz.func30, Tryz.ntmps30
 go_wp2
 go_loopw [4, 5] (fun v i wr => ∃ (xs : List (List UInt8)) (k : Nat), i = .int .i64 k ∧ ow.Own 9 w wr v (recV xs) ∧ Hid (Part s.data.toList xs ∧ k = (lg xs).length) ∧ k ≤ s.size ∧ xs.length ≤ 4194304) (fun _ i _ => s.size - (intOf i).toNat)
 case atStart => exact ⟨[], 0, rfl, ow.Own.empty w, ⟨Part.nil _, rfl⟩, by omega, by simp⟩
 case round =>
  obtain ⟨xs, k, rfl, hO, HP, hk, hl⟩ := hrel
  by_cases hlt : k < s.size
  ·have HS := Lib.hid (fun W => sone_any (s.extract k s.size) (by rw [ByteArray.size_extract]; omega) W)
   rw [ext_drop] at HS
   have b0 : (0 : Int) ≤ (k : Int) := by omega
   have b1 : (k : Int) ≤ (s.size : Int) := by omega
   cases e1 : one (s.data.toList.drop k) with
   | none =>
    have HE := Lib.hid (show rd s.data.toList = xs ∧ en s.data.toList = k by
     obtain ⟨h1, h2⟩ := HP.out
     rw [h2] at e1
     obtain ⟨h3, h4⟩ := h1.done e1
     exact ⟨h3, by rw [h4, h2]⟩)
    unfold OnePost at HS
    rw [oneS_none e1, oneN_none e1] at HS
    clear e1 HP
    go_wp2_with fail
    refine (HS.out _).mono ?_
    rintro e w2 ⟨rfl, hB⟩
    have hO2 := Lib.hid (hO.later hB)
    clear hO
    go_wp2
    go_ret2
    exact ⟨_, by rw [HE.out.2]; rfl, by rw [HE.out.1]; exact hO2.out⟩
   | some p =>
    obtain ⟨x, m⟩ := p
    have HE := Lib.hid (show Part s.data.toList (xs ++ [x]) ∧ k + m = (lg (xs ++ [x])).length by
     obtain ⟨h1, h2⟩ := HP.out
     rw [h2] at e1 ⊢
     obtain ⟨h3, h4, _⟩ := h1.on e1
     exact ⟨h3, by rw [h4]⟩)
    have hm : 4 ≤ m ∧ m ≤ 64 ∧ k + m ≤ s.size ∧ (xs ++ [x]).length ≤ 4194304 := by
     obtain ⟨h1, h2⟩ := HP.out
     have e1' := e1
     rw [h2] at e1'
     obtain ⟨h3, h4, h5, h6⟩ := h1.on e1'
     have h7 := h3.le
     have h8 := lg_count h3.rks
     rw [← Lib.size_eq] at h7
     refine ⟨h5, h6, by omega, by omega⟩
    obtain ⟨hm1, hm2, hm3, hm4⟩ := hm
    unfold OnePost at HS
    rw [oneS_some e1, oneN_some e1] at HS
    have HV := Lib.hid (recV_snoc xs x)
    have hlen : (recV xs).length ≤ 4194304 := by rw [recV_len]; exact hl
    clear e1 HP
    generalize str x = y at HS HV
    generalize recV xs = os at hO HV hlen
    go_wp2_with fail
    refine (HS.out _).mono ?_
    rintro e w2 ⟨rfl, hB⟩
    have hO2 := hO.later hB
    clear hO hB
    have km : ((m : Int) == 0) = false := by rw [beq_eq_false_iff_ne]; omega
    go_wp2_with (at_builtin; refine wpList_append_own _ rfl _ _ 53 rfl w.heap.size 9 s0 (.string ⟨#[]⟩) 1 16 Tryz.underlying53 si sz0 sz1 sz2 rfl (by decide) _ _ _ rfl (hO2.1.alloc _) ⟨w2.heap.size, 0, none⟩ 1 1 [.string y] rfl rfl ?e1 ?e2 ?e3 ?e4 ?e5 ?_)
    case e1 => exact cell_one_new _ _ _
    case e2 => intro x hx; simp at hx; subst hx; rfl
    case e3 => unfold maxLen; omega
    case e4 => omega
    case e5 => have := hO2.2.size; simp; omega
    intro v1 w1 hown1 hgrow1 _
    have R := Lib.hid (hO2.more hown1 hgrow1)
    clear hown1 hgrow1 hO2
    go_wp2
    go_roundw
    case rel => exact ⟨xs ++ [x], k + m, by go_num, by rw [HV.out]; exact R.out, HE.out, hm3, hm4⟩
    case measure => simp [intOf]; omega
  ·have HE := Lib.hid (show rd s.data.toList = xs ∧ en s.data.toList = k by
    obtain ⟨h1, h2⟩ := HP.out
    obtain ⟨h3, h4⟩ := h1.end_ (by rw [← h2, ← Lib.size_eq]; omega)
    exact ⟨h3, by rw [h4, h2]⟩)
   clear HP
   go_wp2
   go_ret2
   exact ⟨_, by rw [HE.out.2]; rfl, by rw [HE.out.1]; exact hO⟩
end Go.Proofs.YtckicpnnclbkpaaGreatDoor.sh

namespace Go.Proofs.YtckicpnnclbkpaaGreatDoor.sh
open Go.ChangeShapes Go.WideShapes Go.ChangeAt Go.RowKit
open nb ok wd dc
def errV (k : Nat) : Value := .iface 123 (.agg #[.int .i64 k])
def NextPost (w : World) (C : Nat) (l : List UInt8) (k : Nat) (e : Ending) (w' : World) : Prop :=
 (one (l.drop k) = none ∧ e = .returned (.tuple #[.string ⟨#[]⟩, errV k]) ∧ Below w.heap.size w w') ∨
 ∃ x m, one (l.drop k) = some (x, m) ∧ e = .returned (.tuple #[.string (str x), .nilIface]) ∧ ∃ W, Below w.heap.size w W ∧ w' = W.setCell ⟨C, 1, none⟩ (.int .i64 ((k + m : Nat) : Int))
theorem hd_size (l : List UInt8) : (hd l).1.length ≤ l.length ∧ (hd l).2.length ≤ l.length := by
 unfold hd
 refine ⟨(List.takeWhile_sublist _).length_le, ?_⟩
 exact Nat.le_trans (List.length_drop_le _ _) (List.dropWhile_sublist _).length_le
where List.length_drop_le (n : Nat) (l : List UInt8) : (l.drop n).length ≤ l.length := by rw [List.length_drop]; omega
set_option maxRecDepth 100000 in
set_option maxHeartbeats 4000000 in
theorem inext_any (C : Nat) (s : ByteArray) (k : Nat) (w : World) (hC : Blk w C 178 #[.string s, .int .i64 k]) (hk : k ≤ s.size) (hs : s.size ≤ 8388608) (hT : Tab w) (hE : Errs w) :
  Calls Tryz.prog 129 #[.pointer (some ⟨C, 0, none⟩)] w (NextPost w C s.data.toList k) := by
 have c0 := hC.cell 0
 have c1 := hC.cell 1
 simp only [List.getElem?_toArray, List.getElem?_cons_zero, List.getElem?_cons_succ] at c0 c1
 have HCut := Lib.hid (fun W => cut58_any (s.extract k s.size) (by rw [ByteArray.size_extract]; omega) W)
 unfold Cut58Post at HCut
 rw [ext_drop] at HCut
 have hlen : (s.data.toList.drop k).length ≤ 8388608 := by rw [List.length_drop, ← Lib.size_eq]; omega
 generalize htl : s.data.toList.drop k = t at HCut hlen
 have hsz := hd_size t
 have HO := Lib.hid (show one t = if sz (hd t).1 ≠ 0 ∧ (hd t).2[sz (hd t).1]? = some 59 then some ((hd t).2.take (sz (hd t).1), (hd t).1.length + sz (hd t).1 + 2) else none from rfl)
 have b0 : (0 : Int) ≤ (k : Int) := by omega
 have b1 : (k : Int) ≤ (s.size : Int) := by omega
 have HTl := Lib.hid htl
 clear htl
 generalize (hd t).1 = d at HCut HO hsz
 generalize (hd t).2 = r at HCut HO hsz
 have hd1 : (str d).size ≤ 8388608 := by rw [str_size]; omega
 have hr1 : (str r).size ≤ 8388608 := by rw [str_size]; omega
 go_enter Tryz.func129, Tryz.ntmps129
 go_wp2_with fail
 go_region_held3 (fun V => V.cell? ⟨C, 0, none⟩ = some (.string s) ∧ V.cell? ⟨C, 1, none⟩ = some (.int .i64 k)) (first | exact ⟨c0, c1⟩ | exact ⟨k0, k1⟩) ((go_at_call 158; refine (HCut.out _).mono ?_; rintro e w1 ⟨b, rfl, hB1⟩; have k0 := (hB1.cell (p := ⟨C, 0, none⟩) hC.lt).trans c0; have k1 := (hB1.cell (p := ⟨C, 1, none⟩) hC.lt).trans c1))
 have HB1 : Hid (Below w.heap.size w w1) := ⟨hB1.os, hB1.tape, hB1.output, hB1.size, hB1.block⟩
 clear hB1 HCut c0 c1 b0 b1
 go_wp2_with fail
 refine (atoi_any (str d) hd1 _ (hE.later HB1.out)).mono ?_
 rw [data_str]
 rintro e w2 ⟨x, rfl, hB2⟩
 have HB2 := Lib.hid (HB1.out.trans (hB2.mono HB1.out.size))
 clear hB2 HB1
 obtain ⟨z0, z1⟩ := atoiV_range d
 by_cases hq : Lib.itoa (atoiV d) = d
 ·have HI := Lib.hid (itoa_all (atoiV d) z0 z1 w2 (hT.later HB2.out))
  rw [hq] at HI
  have HQ := Lib.hid hq
  clear hq
  generalize hz : atoiV d = z at z0 z1 HI
  have HZ := Lib.hid hz
  clear hz
  go_wp2_with fail
  refine HI.out.mono ?_
  rintro e w3 ⟨rfl, hB3⟩
  have HB3 := Lib.hid (HB2.out.trans (hB3.mono HB2.out.size))
  clear hB3 HB2 HI
  go_wp2_with fail
  refine (limRec_any _ _).mono ?_
  rintro e w4 ⟨rfl, hB4⟩
  have HB4 := Lib.hid (HB3.out.trans (hB4.mono HB3.out.size))
  clear hB4 HB3
  have HT := Lib.hid hT
  clear hT hE
  by_cases hin : inB z 1 60 = true
  ·have HOut := Lib.hid (fun W => outside_any z 1 60 W)
   rw [hin] at HOut
   go_wp2_with fail
   refine (HOut.out _).mono ?_
   rintro e w5 ⟨rfl, hB5⟩
   have HB5 := Lib.hid (HB4.out.trans (hB5.mono HB4.out.size))
   clear hB5 HB4 HOut
   have hC5 := hC.below HB5.out hC.lt
   have c0 := hC5.cell 0
   have c1 := hC5.cell 1
   simp only [List.getElem?_toArray, List.getElem?_cons_zero, List.getElem?_cons_succ] at c0 c1
   have f1 := hC5.frozen 1
   have hlt := hC5.lt
   clear hC5 hC
   obtain ⟨hn1, hn2⟩ := inB_iff.1 hin
   obtain ⟨n, rfl⟩ := Int.eq_ofNat_of_zero_le (show (0 : Int) ≤ z by omega)
   have HS := Lib.hid (sz_of_atoi HQ.out HZ.out (by omega) (by omega))
   rw [HS.out] at HO
   clear hin HS HQ HZ z0 z1 HT
   generalize hy : str r = y at hr1
   have HY := Lib.hid (show y.data.toList = r by rw [← hy, data_str])
   have hyl : y.size = r.length := by rw [← hy, str_size]
   clear hy
   by_cases hfit : y.size ≤ n
   ·have HN := Lib.hid (show one t = none by
     rw [HO.out, if_neg]
     rintro ⟨_, h⟩
     have := (List.getElem?_eq_some_iff.1 h).1
     omega)
    clear HO
    have hfit' : (y.size : Int) ≤ n := by omega
    go_wp2
    go_quiet (fail)
    go_wp2
    go_ret2
    exact .inl ⟨by rw [HTl.out]; exact HN.out, rfl, bdrewN HB5.out _⟩
   ·have hnf : n < y.size := by omega
    have hnf' : (n : Int) < y.size := by omega
    have hat := get_at y n hnf
    rw [HY.out] at hat
    by_cases hc : y[n] = 59
    ·have HN := Lib.hid (show one t = some (r.take n, d.length + n + 2) by
      rw [HO.out, if_pos ⟨by omega, hat.trans (by rw [hc])⟩])
     have HX := Lib.hid (show y.extract 0 n = str (r.take n) by rw [Lib.extract_eq, HY.out]; simp [str])
     have hcv : ((y[n].toNat : Int) == 59) = true := byte_eq (d := 59) hc
     have hsd := str_size d
     clear HO hat hc
     have b0 : (0 : Int) ≤ (n : Int) := by omega
     have b1 : (n : Int) ≤ (y.size : Int) := by omega
     go_wp2
     ·exfalso
      have h := (show r.length ≤ n ∨ ((y[n].toNat : Int) != 59) = true by assumption)
      rcases h with h | h
      ·omega
      ·rw [bne, hcv] at h
       cases h
     ·go_ret2
      refine .inr ⟨r.take n, d.length + n + 2, by rw [HTl.out]; exact HN.out, by rw [← HX.out]; rfl, w5, HB5.out, ?_⟩
      congr 2
      omega
    ·have HN := Lib.hid (show one t = none by
      rw [HO.out, if_neg]
      rintro ⟨_, h⟩
      rw [hat] at h
      exact hc (Option.some.inj h))
     have hcv : ((y[n].toNat : Int) == 59) = false := byte_ne (d := 59) hc
     clear HO hat hc
     go_wp2
     ·go_quiet (fail)
      go_wp2
      go_ret2
      exact .inl ⟨by rw [HTl.out]; exact HN.out, rfl, bdrewN HB5.out _⟩
     ·exfalso
      have h := (show ¬r.length ≤ n ∧ ((y[n].toNat : Int) != 59) = false by assumption).2
      rw [bne, hcv] at h
      cases h
  ·have hinf : inB z 1 60 = false := by simpa using hin
   have HOut := Lib.hid (fun W => outside_any z 1 60 W)
   rw [hinf] at HOut
   have HN := Lib.hid (show one t = none by
    rw [HO.out, if_neg]
    rintro ⟨h, _⟩
    obtain ⟨_, _, h1, h2⟩ := sz_atoi h
    rw [HZ.out] at h1 h2
    exact hin (inB_t h1 h2))
   clear HO hin hinf HQ HZ
   go_wp2_with fail
   refine (HOut.out _).mono ?_
   rintro e w5 ⟨rfl, hB5⟩
   have HB5 := Lib.hid (HB4.out.trans (hB5.mono HB4.out.size))
   clear hB5 HB4 HOut
   have hC5 := hC.below HB5.out hC.lt
   have c1 := hC5.cell 1
   simp only [List.getElem?_toArray, List.getElem?_cons_zero, List.getElem?_cons_succ] at c1
   clear hC5 hC
   go_wp2
   go_quiet (fail)
   go_wp2
   go_ret2
   exact .inl ⟨by rw [HTl.out]; exact HN.out, rfl, bdrewN HB5.out _⟩
 ·have HN := Lib.hid (show one t = none by
   rw [HO.out, if_neg]
   rintro ⟨h, _⟩
   exact hq (sz_atoi h).2.1)
  have HI := Lib.hid (itoa_all (atoiV d) z0 z1 w2 (hT.later HB2.out))
  have hne : (((str d).toList == (str (Lib.itoa (atoiV d))).toList)) = false := toList_ne (fun e => hq (str_inj e).symm)
  generalize atoiV d = z at HI hne
  generalize str (Lib.itoa z) = q at HI hne
  clear HO hq z0 z1
  go_wp2_with fail
  refine HI.out.mono ?_
  rintro e w3 ⟨rfl, hB3⟩
  have HB3 := Lib.hid (HB2.out.trans (hB3.mono HB2.out.size))
  clear hB3 HB2 HI
  have hC5 := hC.below HB3.out hC.lt
  have c1 := hC5.cell 1
  simp only [List.getElem?_toArray, List.getElem?_cons_zero, List.getElem?_cons_succ] at c1
  clear hC5 hC
  go_wp2
  go_quiet (fail)
  go_wp2
  go_ret2
  exact .inl ⟨by rw [HTl.out]; exact HN.out, rfl, bdrewN HB3.out _⟩
end Go.Proofs.YtckicpnnclbkpaaGreatDoor.sh

