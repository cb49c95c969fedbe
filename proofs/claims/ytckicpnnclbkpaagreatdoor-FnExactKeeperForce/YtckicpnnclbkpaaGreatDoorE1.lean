/-
  Merged texts: In0, OkPlain, DecPlain, Words, Dec.
-/
import Derived.Test.YtckicpnnclbkpaaGreatDoorRows
import Derived.WalkKit
import Derived.ProofKit
import Derived.Lib.Hide
import Derived.Lib.ItoaMem
import Derived.Lib.AtoiAll
import Derived.Lib.Strings
import Derived.Lib.IndexLaws
import Derived.Laws.Concat
import Derived.Below
import Derived.Laws.OwnMore
import Derived.Deep.Draws
import Derived.Laws.Rows
import Derived.RowKit3
import Derived.Deep.RegionWith
import Derived.Laws.IdiomStrings
import Derived.Deep.Cut
namespace Go.Proofs.YtckicpnnclbkpaaGreatDoor.nb
open Go.ChangeShapes Go.WideShapes Go.ChangeAt Go.RowKit
theorem ret_int {k : IntKind} {a b : Int} (h : a = b) : Ending.returned (.int k a) = .returned (.int k b) := by rw [h]
theorem ret_bool {a b : Bool} (h : a = b) : Ending.returned (.bool a) = .returned (.bool b) := by rw [h]
def inB (n a b : Int) : Bool := decide (a ≤ n ∧ n ≤ b)
theorem inB_t {n a b : Int} (h1 : a ≤ n) (h2 : n ≤ b) : inB n a b = true := by simp [inB, h1, h2]
theorem inB_f {n a b : Int} (h : n < a ∨ b < n) : inB n a b = false := by simp [inB]; omega
theorem inB_iff {n a b : Int} : inB n a b = true ↔ a ≤ n ∧ n ≤ b := by simp [inB]
theorem in_any (n a b : Int) (w : World) :
  Calls Tryz.prog 56 #[.int .i64 n, .int .i64 a, .int .i64 b] w fun e w' => e = .returned (.bool (inB n a b)) ∧ w = w' := by
 by_cases h1 : a ≤ n
 ·by_cases h2 : n ≤ b
  ·rw [inB_t h1 h2]
   go_enter Tryz.func56, Tryz.ntmps56
   go_wp2
   go_ret
   exact ⟨rfl, rfl⟩
  ·rw [inB_f (.inr (by omega))]
   go_enter Tryz.func56, Tryz.ntmps56
   go_wp2
   go_ret
   exact ⟨rfl, rfl⟩
 ·rw [inB_f (.inl (by omega))]
  go_enter Tryz.func56, Tryz.ntmps56
  go_wp2
  go_ret
  exact ⟨rfl, rfl⟩
theorem keeper_any (n : Int) (w : World) :
  Calls Tryz.prog 28 #[.int .i64 n] w fun e w' => e = .returned (.bool (inB n 0 3)) ∧ w = w' := by
 go_enter Tryz.func28, Tryz.ntmps28
 go_wp2_with ((go_at_call 56; refine (in_any _ _ _ _).mono ?_; rintro e w' ⟨rfl, rfl⟩))
 go_ret
 exact ⟨rfl, rfl⟩
end Go.Proofs.YtckicpnnclbkpaaGreatDoor.nb

namespace Go.Proofs.YtckicpnnclbkpaaGreatDoor.ok
open Go.ChangeShapes Go.WideShapes Go.ChangeAt Go.RowKit
open nb
def pr (c : UInt8) : Bool := decide (32 ≤ (c.toNat : Int) ∧ (c.toNat : Int) ≤ 126)
def allPr (s : ByteArray) : Bool := s.data.toList.all pr
def okS (s : ByteArray) : Bool := decide (1 ≤ s.size ∧ s.size ≤ 24)
def okN (f n t u : Int) (s : ByteArray) : Bool := inB f 0 3 && inB t 0 3 && inB n 1 99 && inB u 1 999 && okS s && allPr s
theorem pr_t {c : UInt8} (h0 : 32 ≤ (c.toNat : Int)) (h1 : (c.toNat : Int) ≤ 126) : pr c = true := decide_eq_true ⟨h0, h1⟩
theorem pr_f {c : UInt8} (h : (c.toNat : Int) < 32 ∨ 126 < (c.toNat : Int)) : pr c = false := decide_eq_false (by omega)
theorem okS_t {s : ByteArray} (h0 : 1 ≤ s.size) (h1 : s.size ≤ 24) : okS s = true := decide_eq_true ⟨h0, h1⟩
theorem okN_t {f n t u : Int} {s : ByteArray} (h1 : inB f 0 3 = true) (h2 : inB t 0 3 = true) (h3 : inB n 1 99 = true) (h4 : inB u 1 999 = true) (h5 : okS s = true) : okN f n t u s = allPr s := by simp [okN, h1, h2, h3, h4, h5]
theorem okN_f {f n t u : Int} {s : ByteArray} (h : inB f 0 3 = false ∨ inB t 0 3 = false ∨ inB n 1 99 = false ∨ inB u 1 999 = false ∨ okS s = false) : okN f n t u s = false := by
 rcases h with h | h | h | h | h <;> simp [okN, h]
theorem okN_parts {f n t u : Int} {s : ByteArray} (h : okN f n t u s = true) : (0 ≤ f ∧ f ≤ 3) ∧ (1 ≤ n ∧ n ≤ 99) ∧ (0 ≤ t ∧ t ≤ 3) ∧ (1 ≤ u ∧ u ≤ 999) ∧ (1 ≤ s.size ∧ s.size ≤ 24) ∧ allPr s = true := by
 simp [okN, inB_iff, okS] at h
 obtain ⟨⟨⟨⟨⟨a, b⟩, c⟩, d⟩, e⟩, g⟩ := h
 exact ⟨a, c, b, d, e, g⟩
theorem take_snoc (s : ByteArray) (k : Nat) (h : k < s.size) : s.data.toList.take (k + 1) = s.data.toList.take k ++ [s[k]] := by
 rw [List.take_succ_eq_append_getElem (by simpa using h)]; rfl
theorem all_more {s : ByteArray} {k : Nat} (h : k < s.size) (ha : (s.data.toList.take k).all pr = true) (hp : pr s[k] = true) : (s.data.toList.take (k + 1)).all pr = true := by
 rw [take_snoc s k h, List.all_append, ha]; simp [hp]
theorem all_whole {s : ByteArray} {k : Nat} (h : s.size ≤ k) (ha : (s.data.toList.take k).all pr = true) : allPr s = true := by
 rw [List.take_of_length_le (by simpa using h)] at ha; exact ha
theorem all_not {s : ByteArray} {k : Nat} (h : k < s.size) (hp : pr s[k] = false) : allPr s = false := by
 unfold allPr
 rw [List.all_eq_false]
 refine ⟨s[k], ?_, by simp [hp]⟩
 show s.data[k] ∈ s.data.toList
 simp
def note (f n t u : Int) (s : ByteArray) : Value := .agg #[.int .i64 f, .int .i64 n, .int .i64 t, .int .i64 u, .string s]
end Go.Proofs.YtckicpnnclbkpaaGreatDoor.ok

namespace Go.Proofs.YtckicpnnclbkpaaGreatDoor.dc
open nb ok
def dl (n : Int) : List UInt8 := Lib.decDigits n.toNat
theorem itoa_dl {n : Int} (h : 0 ≤ n) : Lib.itoa n = dl n := by unfold Lib.itoa dl; rw [if_neg (by omega)]
theorem dd_step {u : Nat} (h : 10 ≤ u) : Lib.decDigits u = Lib.decDigits (u / 10) ++ [UInt8.ofNat (48 + u % 10)] := by
 rw [Lib.decDigits, dif_neg (by omega)]
theorem dl_one {n : Int} (h0 : 0 ≤ n) (h : n < 10) : dl n = [UInt8.ofNat (48 + n.toNat)] := Lib.decDigits_one (by omega)
theorem dl_step {n : Int} (h : 10 ≤ n) : dl n = dl (n / 10) ++ [UInt8.ofNat (48 + (n % 10).toNat)] := by
 unfold dl
 rw [dd_step (by omega)]
 congr 2
 ·congr 1; omega
 ·congr 3; omega
def dg (c : UInt8) : Bool := decide (48 ≤ c.toNat ∧ c.toNat ≤ 57)
theorem ofNat_toNat {k : Nat} (h : k < 256) : (UInt8.ofNat k).toNat = k := by simp [Nat.mod_eq_of_lt h]
theorem dg_ofNat {k : Nat} (h : k < 10) : dg (UInt8.ofNat (48 + k)) = true := by
 unfold dg; rw [ofNat_toNat (by omega)]; exact decide_eq_true (by omega)
theorem dd_all (u : Nat) : (Lib.decDigits u).all dg = true := by
 induction u using Nat.strongRecOn with
 | _ u ih =>
  by_cases h : u < 10
  ·rw [Lib.decDigits_one h, List.all_cons, dg_ofNat h]; rfl
  ·rw [dd_step (by omega), List.all_append, ih (u / 10) (by omega)]
   rw [List.all_cons, dg_ofNat (Nat.mod_lt u (by decide : 10 > 0))]; rfl
theorem dl_all (n : Int) : (dl n).all dg = true := dd_all _
theorem dd_len {u : Nat} (h : u < 1000) : 1 ≤ (Lib.decDigits u).length ∧ (Lib.decDigits u).length ≤ 3 := by
 by_cases h1 : u < 10
 ·rw [Lib.decDigits_one h1]; simp
 ·by_cases h2 : u < 100
  ·rw [Lib.decDigits_two h1 h2]; simp
  ·rw [dd_step (by omega), Lib.decDigits_two (by omega) (by omega)]; simp
theorem dl_len {n : Int} (h : n ≤ 999) : 1 ≤ (dl n).length ∧ (dl n).length ≤ 3 := dd_len (by omega)
def val (a : Nat) (l : List UInt8) : Nat := l.foldl (fun a c => a * 10 + (c.toNat - 48)) a
theorem val_snoc (a : Nat) (l : List UInt8) (c : UInt8) : val a (l ++ [c]) = val a l * 10 + (c.toNat - 48) := by simp [val]
theorem val_ge (a : Nat) (l : List UInt8) : a ≤ val a l := by
 induction l generalizing a with
 | nil => exact Nat.le_refl _
 | cons c l ih => exact Nat.le_trans (by omega) (ih (a * 10 + (c.toNat - 48)))
theorem dd_val (u : Nat) : val 0 (Lib.decDigits u) = u := by
 induction u using Nat.strongRecOn with
 | _ u ih =>
  by_cases h : u < 10
  ·rw [Lib.decDigits_one h]
   show 0 * 10 + ((UInt8.ofNat (48 + u)).toNat - 48) = u
   rw [ofNat_toNat (by omega)]; omega
  ·rw [dd_step (by omega), val_snoc, ih (u / 10) (by omega), ofNat_toNat (by omega)]; omega
theorem val_lt (l : List UInt8) (h : l.all dg = true) : val 0 l < 10 ^ l.length := by
 have go : ∀ (l : List UInt8) (a : Nat), l.all dg = true → val a l < (a + 1) * 10 ^ l.length := by
  intro l
  induction l with
  | nil => intro a _; simp [val]
  | cons c l ih =>
   intro a h
   simp only [List.all_cons, Bool.and_eq_true] at h
   have hc := of_decide_eq_true h.1
   have := ih (a * 10 + (c.toNat - 48)) h.2
   show val (a * 10 + (c.toNat - 48)) l < _
   refine Nat.lt_of_lt_of_le this ?_
   rw [List.length_cons, Nat.pow_succ, Nat.mul_comm (10 ^ l.length) 10, ← Nat.mul_assoc]
   exact Nat.mul_le_mul_right _ (by omega)
 simpa using go l 0 h
theorem parse_digits (l : List UInt8) : ∀ a : Nat, l.all dg = true → val a l < 1000000000000000000 → Lib.parseUint10 a l = .ok (val a l) := by
 induction l with
 | nil => intro a _ _; rfl
 | cons c l ih =>
  intro a h hv
  simp only [List.all_cons, Bool.and_eq_true] at h
  have hc := of_decide_eq_true h.1
  have hv' : val (a * 10 + (c.toNat - 48)) l < 1000000000000000000 := hv
  have hg := val_ge (a * 10 + (c.toNat - 48)) l
  rw [Lib.parseUint10, if_pos hc, if_neg (by omega), if_neg (by omega)]
  exact ih _ h.2 hv'
theorem atoi_dl {n : Int} (h0 : 0 ≤ n) (h1 : n ≤ 999) : Lib.atoiAll (dl n) = .ok n := by
 have hl := dl_len h1
 have ha := dl_all n
 have hv : val 0 (dl n) = n.toNat := dd_val _
 generalize hd : dl n = d at hl ha hv
 match d, hl with
 | c :: r, _ =>
  have hc : dg c = true := by simp only [List.all_cons, Bool.and_eq_true] at ha; exact ha.1
  have hc' := of_decide_eq_true hc
  have e : (if c.toNat = 43 ∨ c.toNat = 45 then r else c :: r) = c :: r := if_neg (by omega)
  have hp : Lib.parseMag (c :: r) = .ok n.toNat := by
   unfold Lib.parseMag
   rw [if_neg (by simp), parse_digits _ _ ha (by omega), hv]
  unfold Lib.atoiAll
  simp only
  rw [e, hp]
  simp only
  rw [if_neg (by omega), if_neg (by omega), if_neg (by omega)]
  congr 1
  omega
def word (l : List UInt8) : List UInt8 × List UInt8 := (l.takeWhile (· != 32), (l.dropWhile (· != 32)).drop 1)
theorem word_cons {c : UInt8} {l : List UInt8} (h : c ≠ 32) : word (c :: l) = (c :: (word l).1, (word l).2) := by
 have : (c != 32) = true := by simpa using h
 simp [word, this]
theorem word_blank (l : List UInt8) : word (32 :: l) = ([], l) := by simp [word]
theorem word_none : ∀ {l : List UInt8}, (∀ k : Nat, l[k]? ≠ some 32) → word l = (l, [])
 | [], _ => rfl
 | c :: l, h => by
  rw [word_cons (fun e => h 0 (by simp [e])), word_none (fun k => by have := h (k + 1); simpa using this)]
theorem word_append {a r : List UInt8} (h : ∀ c ∈ a, c ≠ 32) : word (a ++ 32 :: r) = (a, r) := by
 induction a with
 | nil => exact word_blank r
 | cons c a ih => rw [List.cons_append, word_cons (h c (by simp)), ih (fun x hx => h x (by simp [hx]))]
theorem word_at {l : List UInt8} {i : Nat} (hi : l[i]? = some 32) (hb : ∀ k, k < i → l[k]? ≠ some 32) : word l = (l.take i, l.drop (i + 1)) := by
 have hl : i < l.length := (List.getElem?_eq_some_iff.1 hi).1
 have e : l = l.take i ++ 32 :: l.drop (i + 1) := by
  have := (List.getElem?_eq_some_iff.1 hi).2
  rw [← this, ← List.drop_eq_getElem_cons hl, List.take_append_drop]
 have hw := word_append (a := l.take i) (r := l.drop (i + 1)) (fun c hc => by
  obtain ⟨k, hk, e'⟩ := List.mem_iff_getElem.mp hc
  intro e2
  have hk' : k < i := by rw [List.length_take] at hk; omega
  apply hb k hk'
  rw [List.getElem?_eq_getElem (by omega)]
  rw [List.getElem_take] at e'
  rw [e', e2])
 rw [← e] at hw
 exact hw
theorem word_len (l : List UInt8) : (word l).1.length ≤ l.length ∧ (word l).2.length ≤ l.length := by
 induction l with
 | nil => exact ⟨Nat.le_refl _, Nat.le_refl _⟩
 | cons c l ih =>
  by_cases h : c = 32
  ·subst h; rw [word_blank]; simp
  ·rw [word_cons h]; simp; omega
theorem dg_ne {c : UInt8} (h : dg c = true) : c ≠ 32 := fun e => by subst e; revert h; decide
theorem word_dl (n : Int) (r : List UInt8) : word (dl n ++ 32 :: r) = (dl n, r) :=
 word_append fun c hc => dg_ne (List.all_eq_true.1 (dl_all n) c hc)
def str (l : List UInt8) : ByteArray := ⟨l.toArray⟩
theorem str_data (s : ByteArray) : str s.data.toList = s := by unfold str; simp
theorem data_str (l : List UInt8) : (str l).data.toList = l := by unfold str; simp
theorem str_app (a b : List UInt8) : str a ++ str b = str (a ++ b) := ByteArray.mk_append_mk a b
theorem str_size (l : List UInt8) : (str l).size = l.length := by unfold str; simp [ByteArray.size]
theorem str_inj {a b : List UInt8} (h : str a = str b) : a = b := by rw [← data_str a, h, data_str]
def wl (f n t u : Int) (r : List UInt8) : List UInt8 := dl f ++ 32 :: (dl n ++ 32 :: (dl t ++ 32 :: (dl u ++ 32 :: r)))
def wr (f n t u : Int) (s : ByteArray) : ByteArray := str (wl f n t u s.data.toList)
def nw (f n t u : Int) (s : ByteArray) : ByteArray := if okN f n t u s = true then wr f n t u s else str []
theorem nw_t {f n t u : Int} {s : ByteArray} (h : okN f n t u s = true) : nw f n t u s = wr f n t u s := if_pos h
theorem nw_f {f n t u : Int} {s : ByteArray} (h : okN f n t u s = false) : nw f n t u s = str [] := by unfold nw; rw [h]; rfl
theorem toList_ne {x y : ByteArray} (h : x ≠ y) : (x.toList == y.toList) = false := by
 rw [beq_eq_false_iff_ne]
 intro e
 rw [ByteArray.toList_eq, ByteArray.toList_eq] at e
 apply h
 cases x; cases y
 simp at e
 rw [e]
end Go.Proofs.YtckicpnnclbkpaaGreatDoor.dc

namespace Go.Proofs.YtckicpnnclbkpaaGreatDoor.wd
open Go.RowKit
def Blk (w : World) (g : Nat) (t : TypeId) (cs : Array Value) : Prop := w.heap[g]? = some (.cells cs t (0, 0))
section
variable {w w' : World} {g : Nat} {t : TypeId} {cs : Array Value}
theorem Blk.lt (h : Blk w g t cs) : g < w.heap.size := by
 rcases Nat.lt_or_ge g w.heap.size with hlt | hge
 ·exact hlt
 ·unfold Blk at h; rw [Array.getElem?_eq_none hge] at h; cases h
theorem Blk.cell (h : Blk w g t cs) (i : Nat) : w.cell? ⟨g, i, none⟩ = cs[i]? := cell_of_row w g i cs t (0, 0) h
theorem Blk.frozen (h : Blk w g t cs) (i : Nat) : w.frozen? ⟨g, i, none⟩ = false := by
 unfold Blk at h
 simp [World.frozen?, h]
theorem Blk.new (w : World) (t : TypeId) (cs : Array Value) : Blk (w.alloc (.cells cs t)) w.heap.size t cs := heap_alloc_new w _
theorem Blk.drewN (h : Blk w g t cs) (n : Nat) : Blk (w.drewN n) g t cs := h
theorem Blk.alloc (h : Blk w g t cs) (o : Obj) : Blk (w.alloc o) g t cs := (Below.heap_alloc w o g h.lt).trans h
theorem Blk.put (h : Blk w g t cs) (i : Nat) (u : Value) : Blk (w.setCell ⟨g, i, none⟩ u) g t (cs.setIfInBounds i u) := by
 unfold Blk at h ⊢
 simp [World.setCell, Array.getElem?_modify, h]
theorem Blk.far (h : Blk w g t cs) {p : Addr} (hp : g ≠ p.block) (u : Value) : Blk (w.setCell p u) g t cs := (Below.heap_setCell w p u g hp).trans h
theorem Blk.below {B : Nat} (h : Blk w g t cs) (hb : Below B w w') (hg : g < B) : Blk w' g t cs := (hb.block g hg).trans h
end
def Bytes (w : World) (B : Nat) (A : Option Addr) (n : Nat) : Prop :=
 0 < n → ∃ g o, A = some ⟨g, o, none⟩ ∧ g < B ∧ ∀ j, j < n → ∃ v : Int, w.cell? ⟨g, o + j, none⟩ = some (.int .u8 v) ∧ 0 ≤ v ∧ v ≤ 255
section
variable {w w' : World} {B B' : Nat} {A : Option Addr} {n : Nat}
theorem Bytes.keep (h : Bytes w B A n) (hk : ∀ g o, g < B → w'.cell? ⟨g, o, none⟩ = w.cell? ⟨g, o, none⟩) : Bytes w' B A n := fun hn => by
 obtain ⟨g, o, e, hb, hc⟩ := h hn
 refine ⟨g, o, e, hb, fun j hj => ?_⟩
 obtain ⟨v, hv, h0, h1⟩ := hc j hj
 exact ⟨v, (hk g _ hb).trans hv, h0, h1⟩
theorem Bytes.below (h : Bytes w B A n) (hb : Below B w w') : Bytes w' B A n := h.keep fun _ _ hp => hb.cell (p := ⟨_, _, none⟩) hp
theorem Bytes.take (h : Bytes w B A n) {m : Nat} (hm : m ≤ n) : Bytes w B A m := fun hn => by
 obtain ⟨g, o, e, hb, hc⟩ := h (by omega)
 exact ⟨g, o, e, hb, fun j hj => hc j (by omega)⟩
end
end Go.Proofs.YtckicpnnclbkpaaGreatDoor.wd

namespace Go.Proofs.YtckicpnnclbkpaaGreatDoor.dc
open Go.ChangeShapes Go.WideShapes Go.ChangeAt Go.RowKit
open nb ok wd
def StrPost (w : World) (s : ByteArray) (e : Ending) (w' : World) : Prop := e = .returned (.string s) ∧ Below w.heap.size w w'
theorem conv_at (W : World) (g : Nat) (m : Int) (h0 : 0 ≤ m) (h : m < 256) (hc : W.cell? ⟨g, 0, none⟩ = some (.int .u8 m)) :
  (convert 144 9 (.slice (some ⟨g, 0, none⟩) 1 1)).run Tryz.prog W = .ok (.string ⟨#[UInt8.ofNat m.toNat]⟩) W := by
 obtain ⟨n, rfl⟩ := Int.eq_ofNat_of_zero_le h0
 refine run_convert_bytes_back (P := Tryz.prog) _ 144 9 5 ⟨g, 0, none⟩ 1 [UInt8.ofNat n] Tryz.underlying144 Tryz.underlying5 Tryz.underlying9 (fun j hj => ?_)
 have : j = 0 := by simpa using hj
 subst this
 have e : (⟨g, 0, none⟩ : Addr).add 0 = ⟨g, 0, none⟩ := by unfold Addr.add; split <;> simp_all
 rw [e, hc]
 simp
 omega
theorem conv_one (w : World) (m : Int) (h0 : 0 ≤ m) (h : m < 256) :
  (convert 144 9 (.slice (some ⟨w.heap.size, 0, none⟩) 1 1)).run Tryz.prog (w.alloc (.cells #[.int .u8 m] 5)) = .ok (.string ⟨#[UInt8.ofNat m.toNat]⟩) (w.alloc (.cells #[.int .u8 m] 5)) :=
 conv_at _ _ m h0 h ((Blk.new w 5 #[.int .u8 m]).cell 0)
theorem dec_small (n : Int) (h0 : 0 ≤ n) (h1 : n < 10) (w : World) :
  Calls Tryz.prog 104 #[.int .i64 n] w (StrPost w (str (dl n))) := by
 go_enter Tryz.func104, Tryz.ntmps104
 go_upto_region 6 with (fail)
 generalize decide (n < -9223372036854775807) = d4
 rename_i x1 x2 J hJ K hK
 clear x1 x2
 have hcv := conv_one w (48 + n) (by omega) (by omega)
 generalize hch : UInt8.ofNat (48 + n).toNat = ch at hcv
 have HCH := Lib.hid hch
 clear hch
 go_wp2
 go_ret
 have e : (48 + n).toNat = 48 + n.toNat := by omega
 have hR := HCH.out
 rw [e] at hR
 exact ⟨by rw [dl_one h0 h1, hR]; rfl, (Below.refl _ _).alloc (Nat.le_refl _) _⟩
theorem dec_big (n : Int) (h0 : 10 ≤ n) (h1 : n ≤ 9999) (IH : ∀ w, Calls Tryz.prog 104 #[.int .i64 (n / 10)] w (StrPost w (str (dl (n / 10))))) (w : World) :
  Calls Tryz.prog 104 #[.int .i64 n] w (StrPost w (str (dl n))) := by
 have hR := Lib.hid (show str (dl n) = str (dl (n / 10)) ++ str [UInt8.ofNat (48 + (n % 10).toNat)] by rw [dl_step h0, str_app])
 have H := Lib.hid IH
 clear IH
 have m0 : 0 ≤ n % 10 := by omega
 have m1 : n % 10 < 10 := by omega
 have hlen : (str (dl (n / 10))).size ≤ 10 := by rw [str_size]; have := dl_len (n := n / 10) (by omega); omega
 have HC := Lib.hid (fun (W : World) (g : Nat) (hc : W.cell? ⟨g, 0, none⟩ = some (.int .u8 (48 + n % 10))) => show (convert 144 9 (.slice (some ⟨g, 0, none⟩) 1 1)).run Tryz.prog W = .ok (.string (str [UInt8.ofNat (48 + (n % 10).toNat)])) W by
  have e : (48 + n % 10).toNat = 48 + (n % 10).toNat := by omega
  have := conv_at W g (48 + n % 10) (by omega) (by omega) hc
  rw [e] at this
  exact this)
 have hl2 : (str [UInt8.ofNat (48 + (n % 10).toNat)]).size = 1 := rfl
 have HL2 : (str [UInt8.ofNat (48 + (n % 10).toNat)]).size ≤ 1 := by rw [hl2]; exact Nat.le_refl _
 clear hl2
 generalize str [UInt8.ofNat (48 + (n % 10).toNat)] = ch at HC hR HL2
 generalize str (dl (n / 10)) = pre at H hR hlen
 go_enter Tryz.func104, Tryz.ntmps104
 go_upto_region 7 with (fail)
 generalize decide (n < -9223372036854775807) = d4
 rename_i x1 x2 x3 K hK
 clear x1 x2 x3
 have e1 : IntKind.i64.wrap (n.tdiv 10) = n / 10 := by rw [Int.tdiv_eq_ediv_of_nonneg (by omega), IntKind.wrap_i64]; omega
 have e2 : n.tmod 10 = n % 10 := Int.tmod_eq_emod_of_nonneg (by omega)
 have e3 : IntKind.i64.wrap (48 + n % 10) = 48 + n % 10 := by rw [IntKind.wrap_i64]; omega
 have e4 : IntKind.u8.wrap (48 + n % 10) = 48 + n % 10 := by simp [IntKind.wrap, IntKind.bits, IntKind.signed]; omega
 have hcv := HC.out
 have hadd : ∀ W : World, (Op.stringOp .add pre ch).run Tryz.prog W = .ok (.string (pre ++ ch)) W := fun W => run_string_add_sum W pre ch (by omega)
 clear HC
 go_region_with ((go_at_call 104; refine (H.out _).mono ?_; rintro e w2 ⟨rfl, hB2⟩; first | (have s0 := (hB2.cell (p := ⟨w.heap.size, 0, none⟩) (Blk.new w 5 #[.int .u8 (48 + n % 10)]).lt).trans ((Blk.new w 5 #[.int .u8 (48 + n % 10)]).cell 0); simp only [List.getElem?_toArray, List.getElem?_cons_zero] at s0) | skip))
 ·go_wp2
  go_ret
  exact ⟨by rw [hR.out]; rfl, (show Below w.heap.size w w2 from ⟨hB2.os, hB2.tape, hB2.output, hB2.size, hB2.block⟩).alloc hB2.size _⟩
 all_goals
  go_wp2
  go_ret
  exact ⟨by rw [hR.out]; rfl, ((Below.refl w.heap.size w).alloc (Nat.le_refl _) _).trans ((show Below (w.alloc (.cells #[.int .u8 (48 + n % 10)] 5)).heap.size (w.alloc (.cells #[.int .u8 (48 + n % 10)] 5)) w2 from ⟨hB2.os, hB2.tape, hB2.output, hB2.size, hB2.block⟩).mono (by simp))⟩
theorem dec_any (n : Int) (h0 : 0 ≤ n) (h1 : n ≤ 9999) (w : World) :
  Calls Tryz.prog 104 #[.int .i64 n] w (StrPost w (str (dl n))) := by
 have two : ∀ m : Int, 0 ≤ m → m ≤ 99 → ∀ W, Calls Tryz.prog 104 #[.int .i64 m] W (StrPost W (str (dl m))) := fun m a b W => by
  by_cases h : m < 10
  ·exact dec_small m a h W
  ·exact dec_big m (by omega) (by omega) (fun V => dec_small (m / 10) (by omega) (by omega) V) W
 have three : ∀ m : Int, 0 ≤ m → m ≤ 999 → ∀ W, Calls Tryz.prog 104 #[.int .i64 m] W (StrPost W (str (dl m))) := fun m a b W => by
  by_cases h : m < 10
  ·exact dec_small m a h W
  ·exact dec_big m (by omega) (by omega) (fun V => two (m / 10) (by omega) (by omega) V) W
 by_cases h : n < 10
 ·exact dec_small n h0 h w
 ·exact dec_big n (by omega) (by omega) (fun V => three (n / 10) (by omega) (by omega) V) w
end Go.Proofs.YtckicpnnclbkpaaGreatDoor.dc

