/-
  Contracts of the laws' own loops over lists of texts: lbTexts, eqStringS (where both lists are one), markText, markStringS, heldStringS.
-/
import Derived.Test.YtckicpnnclbkpaaOwn
import Derived.Deep.QuietTactic
import Derived.BigQuiet
import Derived.Deep.RegionHeld3
namespace Go.Proofs.Ytckicpnnclbkpaa.sl
open Go.ChangeShapes Go.WideShapes Go.ChangeAt Go.RowKit
open Go.Proofs.Ytckicpnnclbkpaa.wd Go.Proofs.Ytckicpnnclbkpaa.cp Go.Proofs.Ytckicpnnclbkpaa.ow

/-- a slice that reads as a list of texts -/
def SeesS (w : World) (v : Value) (l : List ByteArray) : Prop :=
  ∃ A c, v = .slice A l.length c ∧ (0 < l.length → ∃ g, A = some ⟨g, 0, none⟩ ∧ g < w.heap.size ∧ ∀ i x, l[i]? = some x → w.cell? ⟨g, i, none⟩ = some (.string x))

theorem sees_of_own {w0 w : World} {v : Value} {l : List ByteArray} (h : Own 9 w0 w v (l.map Value.string)) : SeesS w v l := by
  obtain ⟨A, c, rfl, hc⟩ := h.form
  rw [List.length_map] at hc ⊢
  refine ⟨A, c, rfl, fun hn => ?_⟩
  obtain ⟨g, rfl, _, hg, hcell⟩ := hc hn
  exact ⟨g, rfl, hg, fun i x hx => hcell i _ (by simp [hx])⟩
theorem SeesS.later {w w' : World} {v : Value} {l : List ByteArray} (h : SeesS w v l) (hB : Below w.heap.size w w') : SeesS w' v l := by
  obtain ⟨A, c, rfl, hc⟩ := h
  refine ⟨A, c, rfl, fun hn => ?_⟩
  obtain ⟨g, rfl, hg, hcell⟩ := hc hn
  exact ⟨g, rfl, Nat.lt_of_lt_of_le hg hB.size, fun i x hx => (hB.cell (p := ⟨g, i, none⟩) hg).trans (hcell i x hx)⟩
theorem SeesS.drewN {w : World} {v : Value} {l : List ByteArray} (h : SeesS w v l) (q : Nat) : SeesS (w.drewN q) v l := h

def TruePost (w : World) (e : Ending) (w' : World) : Prop := e = .returned (.bool true) ∧ ∃ q, w' = w.drewN q


/-- the digits of a number ahead of a text -/
def dg : Nat → Nat → ByteArray → ByteArray
  | 0, _, out => out
  | f + 1, k, out => if k = 0 then out else dg f (k / 10) ((⟨#[UInt8.ofNat (48 + k % 10)]⟩ : ByteArray) ++ out)
theorem dg_zero (f : Nat) (out : ByteArray) : dg f 0 out = out := by cases f <;> simp [dg]
theorem dg_on {f k : Nat} {out : ByteArray} (h : 0 < k) : dg (f + 1) k out = dg f (k / 10) ((⟨#[UInt8.ofNat (48 + k % 10)]⟩ : ByteArray) ++ out) := by
  simp only [dg]; rw [if_neg (by omega)]
/-- what a mark is written as -/
def mt (k : Nat) : ByteArray := (⟨#[109]⟩ : ByteArray) ++ dg 8 k ⟨#[]⟩

theorem conv_one (w : World) (n : Nat) (h : n < 256) :
    (convert 72 9 (.slice (some ⟨w.heap.size, 0, none⟩) 1 1)).run Try.prog (w.alloc (.cells #[.int .u8 (n : Int)] 5)) = .ok (.string ⟨#[UInt8.ofNat n]⟩) (w.alloc (.cells #[.int .u8 (n : Int)] 5)) := by
  refine run_convert_bytes_back (P := Try.prog) _ 72 9 5 ⟨w.heap.size, 0, none⟩ 1 [UInt8.ofNat n] Try.underlying72 Try.underlying5 Try.underlying9 (fun j hj => ?_)
  have : j = 0 := by simpa using hj
  subst this
  have e : (⟨w.heap.size, 0, none⟩ : Addr).add 0 = ⟨w.heap.size, 0, none⟩ := by unfold Addr.add; split <;> simp_all
  rw [e, (Blk.new w 5 #[.int .u8 (n : Int)]).cell 0]
  simp
  omega

theorem size_cat (a b : ByteArray) : (a ++ b).size = a.size + b.size := by simp

set_option maxRecDepth 100000 in
set_option maxHeartbeats 400000 in
theorem mark_text (k : Nat) (h0 : 1 ≤ k) (h1 : k < 100000000) (w : World) : Calls Try.prog 31 #[.int .i64 k] w (StrPost w (mt k)) := by
  have H := Lib.hid (show mt k = (⟨#[109]⟩ : ByteArray) ++ dg 8 k ⟨#[]⟩ from rfl)
  go_enter Try.func31, Try.ntmps31
  go_wp2
  go_loopw [0, 3] (fun i s wr => ∃ (m f : Nat) (out : ByteArray), i = .int .i64 m ∧ s = .string out ∧ Hid (m < 10 ^ f) ∧ out.size + f ≤ 8 ∧ m < 100000000 ∧ Hid (dg 8 k ⟨#[]⟩ = dg f m out) ∧ Below w.heap.size w wr) (fun i _ _ => (intOf i).toNat)
  case atStart => exact ⟨k, 8, ⟨#[]⟩, rfl, rfl, h1, by decide, h1, rfl, Below.refl _ _⟩
  case round =>
    obtain ⟨m, f, out, rfl, rfl, HF, hs, hm, HD, hB⟩ := hrel
    have hz := hB.size
    by_cases hm0 : 0 < m
    · obtain ⟨f, rfl⟩ : ∃ f', f = f' + 1 := ⟨f - 1, by
        rcases Nat.eq_zero_or_pos f with rfl | h
        · have := HF.out; omega
        · omega⟩
      have HN : Hid (m / 10 < 10 ^ f) := Nat.div_lt_of_lt_mul (by have := HF.out; rw [Nat.pow_succ] at this; omega)
      have HD' := Lib.hid (HD.out.trans (dg_on hm0))
      have HZ := Lib.hid (size_cat ⟨#[UInt8.ofNat (48 + m % 10)]⟩ out)
      have hcv := conv_one wr (48 + m % 10) (by omega)
      rw [show ((48 + m % 10 : Nat) : Int) = 48 + (m : Int) % 10 by omega] at hcv
      generalize UInt8.ofNat (48 + m % 10) = ch at hcv HD' HZ
      have hso : (out.size : Int) ≤ 8388608 := by omega
      clear HF HD
      go_wp2
      go_roundw
      case rel => exact ⟨m / 10, f, _, by go_num, rfl, HN.out, by rw [HZ.out]; show 1 + out.size + f ≤ 8; omega, by omega, HD'.out, hB.alloc hz _⟩
      case measure => simp [intOf]; omega
    · obtain rfl : m = 0 := by omega
      have HE := Lib.hid (HD.out.trans (dg_zero f out))
      have hso : (out.size : Int) ≤ 8388608 := by omega
      go_wp2
      go_ret
      exact ⟨by rw [H.out, HE.out]; rfl, hB⟩

/-- the marks from k on, n of them -/
def mts (k n : Nat) : List ByteArray := (List.range n).map fun i => mt (k + i)
theorem mts_len (k n : Nat) : (mts k n).length = n := by simp [mts]
theorem mts_at {k n i : Nat} (h : i < n) : (mts k n)[i]? = some (mt (k + i)) := by simp [mts, h]

/-- nothing old has changed but the slice's own block -/
def Touched (v : Value) (w w' : World) : Prop :=
  w'.os = w.os ∧ w'.tape = w.tape ∧ w'.output = w.output ∧ w.heap.size ≤ w'.heap.size ∧ ∀ b, b < w.heap.size → some b ≠ v.ownBlock → w'.heap[b]? = w.heap[b]?
theorem Touched.refl (v : Value) (w : World) : Touched v w w := ⟨rfl, rfl, rfl, Nat.le_refl _, fun _ _ _ => rfl⟩
theorem Touched.below {v : Value} {w w' : World} (h : Touched v w w') {B : Nat} (hB : ∀ g, v.ownBlock = some g → B ≤ g) (hw : B ≤ w.heap.size) : Below B w w' :=
  ⟨h.1, h.2.1, h.2.2.1, h.2.2.2.1, fun k hk => h.2.2.2.2 k (by omega) (fun e => by have := hB k e.symm; omega)⟩
theorem Touched.on {v : Value} {w w1 w2 : World} (h : Touched v w w1) (hb : Below w1.heap.size w1 w2) : Touched v w w2 :=
  ⟨hb.os.trans h.1, hb.tape.trans h.2.1, hb.output.trans h.2.2.1, Nat.le_trans h.2.2.2.1 hb.size, fun b hlt hne => (hb.block b (Nat.lt_of_lt_of_le hlt h.2.2.2.1)).trans (h.2.2.2.2 b hlt hne)⟩
theorem Touched.set {g n cap : Nat} {w w1 : World} (h : Touched (.slice (some ⟨g, 0, none⟩) n cap) w w1) (i : Nat) (x : Value) : Touched (.slice (some ⟨g, 0, none⟩) n cap) w (w1.setCell ⟨g, i, none⟩ x) :=
  ⟨h.1, h.2.1, h.2.2.1, by simpa using h.2.2.2.1, fun b hlt hne => (Below.heap_setCell w1 ⟨g, i, none⟩ x b (fun e => hne (by subst e; rfl))).trans (h.2.2.2.2 b hlt hne)⟩

def MarkPost (w : World) (v : Value) (k n : Nat) (e : Ending) (w' : World) : Prop :=
  e = .returned (.int .i64 ((k + n : Nat) : Int)) ∧ SeesS w' v (mts k n) ∧ Touched v w w'

def MRel (w : World) (g n cap k i : Nat) (wr : World) : Prop :=
  (∃ cur, Blk wr g 9 cur ∧ cur.size = cap ∧ ∀ j, j < i → cur[j]? = some (.string (mt (k + j)))) ∧ Touched (.slice (some ⟨g, 0, none⟩) n cap) w wr
theorem mrel_on {w : World} {g n cap k i : Nat} {wr w2 : World} (h : MRel w g n cap k i wr) (hi : i < cap) (hb : Below wr.heap.size wr w2) : MRel w g n cap k (i + 1) (w2.setCell ⟨g, i, none⟩ (.string (mt (k + i)))) := by
  obtain ⟨⟨cur, hB, hs, hc⟩, t⟩ := h
  refine ⟨⟨_, (hB.below hb hB.lt).put i _, by simpa using hs, fun j hj => ?_⟩, (t.on hb).set i _⟩
  by_cases e : j = i
  · subst e; rw [Array.getElem?_setIfInBounds]; simp; omega
  · rw [Array.getElem?_setIfInBounds]; rw [if_neg (fun h => e h.symm)]; exact hc j (by omega)

end Go.Proofs.Ytckicpnnclbkpaa.sl
