/-
  Contracts of the drawing of texts: l6Many, of, l72Text, DrawMixCut, DrawMixMake, lbText: whatever the code, a text of at most 25 bytes; nothing old is turned but the reader.
-/
import Derived.Test.YtgihbilpimempaaDoorDraw0
import Derived.Test.YtgihbilpimempaaDoorOwn
import Derived.Laws.Concat
namespace Go.Proofs.YtgihbilpimempaaDoor.dr
open Go.ChangeShapes Go.WideShapes Go.ChangeAt Go.RowKit
open Go.Proofs.YtgihbilpimempaaDoor.wd Go.Proofs.YtgihbilpimempaaDoor.pk Go.Proofs.YtgihbilpimempaaDoor.cp Go.Proofs.YtgihbilpimempaaDoor.ow

theorem size_cat (a b : ByteArray) : (a ++ b).size = a.size + b.size := by simp
theorem half_odd {o x h n : Nat} (e : o + (2 * h + 1) * x = n) : o + x + h * (x + x) = n := by
  rw [Nat.mul_add]; rw [Nat.add_mul, Nat.one_mul, Nat.mul_assoc] at e; omega
theorem half_even {o x h n : Nat} (e : o + 2 * h * x = n) : o + h * (x + x) = n := by
  rw [Nat.mul_add]; rw [Nat.mul_assoc] at e; omega

def ManyPost (w : World) (n : Nat) (e : Ending) (w' : World) : Prop := ∃ s : ByteArray, e = .returned (.string s) ∧ s.size = n ∧ w = w'

set_option maxHeartbeats 400000 in
theorem many_any (s : ByteArray) (hs : s.size = 1) (n : Nat) (hn : n ≤ 100) (w : World) : Calls Tryd.prog 64 #[.string s, .int .i64 n] w (ManyPost w n) := by
  have h0 : s.size ≤ 1 := by omega
  have HS := Lib.hid hs
  clear hs
  go_enter Tryd.func64, Tryd.ntmps64
  go_wp2
  go_loop [0, 1, 5] (fun a i o => ∃ (x out : ByteArray) (m : Nat), a = .string x ∧ i = .int .i64 m ∧ o = .string out ∧ m ≤ 100 ∧ x.size ≤ 200 ∧ out.size ≤ 100 ∧ Hid (out.size + m * x.size = n)) (fun _ i _ => (intOf i).toNat)
  case atStart => exact ⟨s, ⟨#[]⟩, n, rfl, rfl, rfl, hn, by omega, by decide, by show 0 + n * s.size = n; rw [HS.out]; omega⟩
  case round =>
    obtain ⟨x, out, m, rfl, rfl, rfl, hm, hx, ho, HE⟩ := hrel
    have hxi : (x.size : Int) ≤ 8388608 := by omega
    have hoi : (out.size : Int) ≤ 8388608 := by omega
    by_cases hm0 : 0 < m
    · have hxn : x.size ≤ n := by
        have := HE.out
        have h2 : 1 * x.size ≤ m * x.size := Nat.mul_le_mul_right _ hm0
        omega
      have HX := Lib.hid (size_cat x x)
      by_cases hp : m % 2 = 1
      · have HN : Hid ((out ++ x).size + m / 2 * (x ++ x).size = n) := by
          rw [HX.out, size_cat]
          refine half_odd ?_
          rw [show 2 * (m / 2) + 1 = m by omega]
          exact HE.out
        have hon : (out ++ x).size ≤ 100 := by have := HN.out; omega
        have hd : ((m : Int) % 2 == 1) = true := by rw [beq_iff_eq]; omega
        clear HE hp
        go_wp2
        go_round
        case rel => exact ⟨_, _, m / 2, rfl, by go_num, rfl, by omega, by rw [HX.out]; omega, hon, HN.out⟩
        case measure => simp [intOf]; omega
      · have HN : Hid (out.size + m / 2 * (x ++ x).size = n) := by
          rw [HX.out]
          refine half_even ?_
          rw [show 2 * (m / 2) = m by omega]
          exact HE.out
        have hd : ((m : Int) % 2 == 1) = false := by rw [beq_eq_false_iff_ne]; omega
        clear HE hp
        go_wp2
        go_round
        case rel => exact ⟨_, _, m / 2, rfl, by go_num, rfl, by omega, by rw [HX.out]; omega, ho, HN.out⟩
        case measure => simp [intOf]; omega
    · obtain rfl : m = 0 := by omega
      go_wp2
      go_ret
      exact ⟨out, rfl, by have := HE.out; omega, rfl⟩

/-- only block b, and what is new, has turned -/
theorem only_grown {b : Nat} {w w' : World} (h : Only b w w') : w.grownBy w' (some b) :=
  ⟨h.1.os, h.1.tape, h.1.output, by rw [h.2.2]; exact Nat.le_refl _, fun k _ hk => h.2.1 k (fun e => hk (by rw [e]))⟩
theorem below_grown {w w' : World} (h : Below w.heap.size w w') (row : Option Nat) : w.grownBy w' row := ⟨h.os, h.tape, h.output, h.size, fun i hi _ => h.block i hi⟩
theorem grown_below {b B : Nat} {w w' : World} (h : w.grownBy w' (some b)) (hb : B ≤ b) (hw : B ≤ w.heap.size) : Below B w w' :=
  ⟨h.os, h.tape, h.output, h.size, fun k hk => h.block k (by omega) (fun e => by injection e; omega)⟩
theorem grown_trans {b : Nat} {w w1 w2 : World} (h : w.grownBy w1 (some b)) (k : w1.grownBy w2 (some b)) : w.grownBy w2 (some b) :=
  ⟨k.os.trans h.os, k.tape.trans h.tape, k.output.trans h.output, Nat.le_trans h.size k.size, fun i hi hn => (k.block i (Nat.lt_of_lt_of_le hi h.size) hn).trans (h.block i hi hn)⟩
theorem rd_later {w w' : World} {b : Nat} {A : Option Addr} {len cap : Nat} {p : Int} (h : Rd w b A len cap p) (hB : Below (b + 1) w w') : Rd w' b A len cap p :=
  ⟨h.1.below hB (by omega), h.2.1.below (hB.mono (by omega)), h.2.2.1, h.2.2.2⟩

def OfPost (w : World) (b : Nat) (A : Option Addr) (len cap : Nat) (p : Int) (e : Ending) (w' : World) : Prop :=
  ∃ s : ByteArray, e = .returned (.string s) ∧ s.size ≤ 25 ∧ Rd w' b A len cap (p + 1) ∧ Only b w w'

theorem of_any (w : World) (b : Nat) (A : Option Addr) (len cap : Nat) (p : Int) (h : Rd w b A len cap p) (hp : p ≤ 1000000) (g n : Nat) (cs : Array Value) (hg : Blk w g 9 cs) (hgb : g ≠ b) (hn : 1 ≤ n) (hn' : n ≤ 100)
    (hc : ∀ i, i < n → ∃ s : ByteArray, cs[i]? = some (.string s) ∧ s.size ≤ 25) :
    Calls Tryd.prog 38 #[.pointer (some ⟨b, 0, none⟩), .slice (some ⟨g, 0, none⟩) n n] w (OfPost w b A len cap p) := by
  have HC := Lib.hid hc
  clear hc
  go_enter Tryd.func38, Tryd.ntmps38
  go_wp2_with fail
  refine (picked _ _ _ _ _ _ _ h hp (by omega) (by omega)).mono ?_
  rintro e w1 ⟨v, rfl, v0, v1, hR, hO⟩
  obtain ⟨i, rfl⟩ := Int.eq_ofNat_of_zero_le v0
  obtain ⟨s, hs, hz⟩ := HC.out i (by omega)
  have hg1 : Blk w1 g 9 cs := (hO.2.1 g hgb).trans hg
  have c := (hg1.cell i).trans hs
  have hi : i < n := by omega
  have HR := Lib.hid hR
  have HO := Lib.hid hO
  clear hR hO hs hg1 hg h
  go_wp2
  go_ret
  exact ⟨s, rfl, hz, HR.out, HO.out⟩

def TextPost (w : World) (b : Nat) (A : Option Addr) (len cap : Nat) (p : Int) (e : Ending) (w' : World) : Prop :=
  ∃ (s : ByteArray) (p' : Int), e = .returned (.string s) ∧ s.size ≤ 25 ∧ p ≤ p' ∧ p' ≤ p + 30 ∧ Rd w' b A len cap p' ∧ w.grownBy w' (some b)

/-- at the head of the loop that draws bytes -/
def BRel (w ws : World) (b : Nat) (A : Option Addr) (len cap : Nat) (p : Int) (v : Value) (r : Nat) (wr : World) : Prop :=
  ∃ (l : List UInt8) (p' : Int), wr.ownsRow ws.heap.size 5 1 v (l.map bv).length (l.map bv) ∧ l.length + r ≤ 20 ∧ 1 ≤ l.length + r ∧ p ≤ p' ∧ p' + r ≤ p + 30 ∧ Rd wr b A len cap p' ∧ w.grownBy wr (some b) ∧ ws.heap.size ≤ wr.heap.size
theorem own_text' {w : World} {base : Nat} {v : Value} {l : List UInt8} (h : w.ownsRow base 5 1 v (l.map bv).length (l.map bv)) (hl : 0 < l.length) :
    ∃ g cap, v = .slice (some ⟨g, 0, none⟩) l.length cap ∧ (convert 22 9 (.slice (some ⟨g, 0, none⟩) l.length cap)).run Tryd.prog w = .ok (.string ⟨l.toArray⟩) w := by
  rcases h.2 with ⟨rfl, hn⟩ | ⟨g, cap, cur, rfl, hb, hh, hn, hm, hs, ht⟩
  · simp at hn; subst hn; simp at hl
  · refine ⟨g, cap, by simp, run_convert_bytes_back (P := Tryd.prog) w 22 9 5 ⟨g, 0, none⟩ cap l Tryd.underlying22 Tryd.underlying5 Tryd.underlying9 (fun j hj => ?_)⟩
    have e : (⟨g, 0, none⟩ : Addr).add j = ⟨g, j, none⟩ := by unfold Addr.add; split <;> simp_all
    rw [e, World.ownsRow.cellAt (g := g) (cap := cap) h j (by simp; omega)]
    simp [hj, bv]
theorem own_pick {w w' : World} {base b : Nat} {t : TypeId} {v : Value} {n : Nat} {xs : List Value} (h : w.ownsRow base t 1 v n xs) (hO : Only b w w') (hb : b < base) : w'.ownsRow base t 1 v n xs :=
  h.kept (only_grown hO) (by
    cases hv : v.ownBlock with
    | none => exact .inl rfl
    | some k => exact .inr (fun e => by have := (h.lt k hv).1; injection e; omega))
theorem rd_append {w w' : World} {b base : Nat} {A : Option Addr} {len cap : Nat} {p : Int} {o : Obj} {v : Value} (h : Rd w b A len cap p) (hg : (w.alloc o).grownBy w' v.ownBlock) (hv : ∀ k, v.ownBlock = some k → base ≤ k) (hb : b < base) : Rd w' b A len cap p := by
  have hbw := h.1.lt
  refine rd_later h (((Below.refl (b + 1) w).alloc (by omega) o).trans ⟨hg.os, hg.tape, hg.output, hg.size, fun k hk => hg.block k (by simp; omega) (fun e => by have := hv k e.symm; omega)⟩)
theorem grown_append {w w1 w' : World} {b : Nat} {o : Obj} {v : Value} (h : w.grownBy w1 (some b)) (hg : (w1.alloc o).grownBy w' v.ownBlock) (hv : ∀ k, v.ownBlock = some k → w.heap.size ≤ k) : w.grownBy w' (some b) := by
  have hz : (w1.alloc o).heap.size = w1.heap.size + 1 := by simp
  refine ⟨hg.os.trans h.os, hg.tape.trans h.tape, hg.output.trans h.output, Nat.le_trans h.size (Nat.le_trans (by omega) hg.size), fun k hk hn => ?_⟩
  have h1 := h.size
  exact (hg.block k (by omega) (fun e => by have := hv k e.symm; omega)).trans ((Below.heap_alloc w1 o k (by omega)).trans (h.block k hk hn))
end Go.Proofs.YtgihbilpimempaaDoor.dr
